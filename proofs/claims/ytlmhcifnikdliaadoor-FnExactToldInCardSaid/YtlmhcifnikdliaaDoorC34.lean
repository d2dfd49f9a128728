/- A tree that came in, opened. -/
import Derived.Test.YtlmhcifnikdliaaDoorC09
import Derived.Test.YtlmhcifnikdliaaDoorC33
import Derived.Test.YtlmhcifnikdliaaDoorRows
import Derived.ChangeSame
import Derived.ChangeVars
import Derived.LaidLaws
import Derived.LaidHandle
import Derived.Stop.LaidErr
import Derived.Stop.LaidTwo
namespace Go.Proofs.YtlmhcifnikdliaaDoor
open Go.ChangeShapes Go.WideShapes Go.ChangeAt Go.RowKit Go.Deep

set_option maxRecDepth 100000 in
theorem cap_of_cells {H : Type} {enc : TypeId × Value → H} {W : World} {t el : TypeId} {fuel : Nat} {A : Option Addr} {n c : Nat} {x : DataW H × List MemPlace} (ht : Tryd.prog.underlying t = some (.slice el))
    (hf : DataW.trod enc Tryd.prog W 0 (fun _ => true) true fuel t [.slice A n c] = some x) : n ≤ c ∧ c ≤ 9223372036854775807 := by
  rcases open_slice ht hf with ⟨hcs, _⟩ | ⟨a, len0, cap0, m, k, D, Pl, hcs, _, hl, hm, _⟩
  · simp at hcs
    omega
  · simp at hcs
    unfold maxLen at hm
    omega

set_option maxRecDepth 100000 in
theorem Nd_of_cells2 {H : Type} {enc : TypeId × Value → H} {W : World} {fuel : Nat} {cs : List Value} {x : DataW H × List MemPlace}
    (hf : DataW.trod enc Tryd.prog W 0 (fun _ => true) true fuel 62 cs = some x) :
    ∃ (y : Nd) (A : Option Addr) (n c : Nat), cs = [.int .i64 y.lv, .slice A n c, .int .i64 y.hi, .int .i64 y.ri, .int .i64 y.ow] ∧ RP W W.heap.size A n y.ps ∧ n ≤ c ∧ c ≤ 9223372036854775807 := by
  obtain ⟨y, A, n, c, rfl, hR, _⟩ := Nd_of_cells hf
  obtain ⟨xs, m, _, _, hlen, hxl, hg⟩ := DataW.trod_struct Tryd.underlying62 hf
  match xs, hxl with
  | [y0, y1, y2, y3, y4], _ =>
    have h1 := hg 1 _ rfl
    simp [slice_cells] at h1
    have := cap_of_cells Tryd.underlying60 h1
    exact ⟨y, A, n, c, rfl, hR, this.1, this.2⟩
instance : Inhabited Nd := ⟨⟨0, [], 0, 0, 0⟩⟩

set_option maxRecDepth 100000 in
theorem Addr.add_none (b o k : Nat) : (⟨b, o, none⟩ : Addr).add k = ⟨b, o + k, none⟩ := by unfold Addr.add; split <;> simp_all

set_option maxRecDepth 100000 in
theorem RSN_of_cells {H : Type} {enc : TypeId × Value → H} {W : World} {fuel : Nat} {cs : List Value} {x : DataW H × List MemPlace}
    (hf : DataW.trod enc Tryd.prog W 0 (fun _ => true) true fuel 22 cs = some x) :
    ∃ A n c, ∃ xs : List Nd, cs = [.slice A n c] ∧ RS W W.heap.size A n xs ∧ n ≤ c ∧ c ≤ 9223372036854775807 ∧ ∀ i, i < n → (ndAt xs i).ps.length ≤ 9223372036854775807 := by
  rcases open_slice Tryd.underlying22 hf with ⟨hcs, _⟩ | ⟨a, len0, cap0, m, k, D, Pl, hcs, _, hl, hm, hmm, _, hx⟩
  · exact ⟨_, _, _, [], hcs, RS.nil _ _ _, by omega, by omega, fun i hi => absurd hi (by omega)⟩
  · have hm2 : m = cap0 := by simpa using hmm
    have each : ∀ i, i < len0 → ∃ y : Nd, ∃ cs', encNd.Is W W.heap.size cs' y ∧ (∀ j u, cs'[j]? = some u → W.cell? ((a.add (i * 5)).add j) = some u) := by
      intro i hi
      obtain ⟨cs', h1, h2⟩ := hx i (by omega)
      rw [node_cells] at h1
      obtain ⟨y, A, n, c, rfl, hR, hc⟩ := Nd_of_cells2 h2
      obtain ⟨_, hlen, hcell⟩ := World.cells?_some h1
      refine ⟨y, _, ⟨A, n, c, rfl, hR, hc⟩, fun j u hu => ?_⟩
      have hj : j < 5 := by have := (List.getElem?_eq_some_iff.1 hu).1; simpa using this
      rw [hcell j hj]
      exact hu
    obtain ⟨f, hf'⟩ := choose_lt (α := Nd) (p := fun i y => ∃ cs', encNd.Is W W.heap.size cs' y ∧ (∀ j u, cs'[j]? = some u → W.cell? ((a.add (i * 5)).add j) = some u)) each
    have hget : ∀ i, i < len0 → ((List.range len0).map f).getD i encNd.dflt = f i := fun i hi => by simp [hi]
    have hpl : ∀ i, i < len0 → (f i).ps.length ≤ 9223372036854775807 := fun i hi => by
      obtain ⟨cs', ⟨A, n, c, _, hR, hc⟩, _⟩ := hf' i hi
      have := hR.1
      omega
    refine ⟨_, _, _, (List.range len0).map f, hcs, ⟨by simp, fun hn => ?_⟩, hl, by unfold maxLen at hm; omega, fun i hi => ?_⟩
    · obtain ⟨b, off, spot⟩ := a
      obtain ⟨cs0, ⟨A, n, c, h0, _⟩, h1⟩ := hf' 0 hn
      subst h0
      have h2 := h1 0 _ rfl
      have hspot : spot = none := by
        have := World.cell?_spot h2
        simpa [Addr.add] using this
      subst hspot
      refine ⟨b, off, rfl, ?_, fun i hi => ?_⟩
      · have := World.block_lt_of_cell? _ _ h2
        simpa [Addr.add] using this
      · obtain ⟨cs', h3, h4⟩ := hf' i hi
        refine ⟨cs', by rw [hget i hi]; exact h3, fun j u hu => ?_⟩
        have := h4 j u hu
        rw [Addr.add_none, Addr.add_none] at this
        exact this
    · show (((List.range len0).map f).getD i encNd.dflt).ps.length ≤ _
      rw [hget i hi]
      exact hpl i hi

set_option maxRecDepth 100000 in
theorem tree_cells : Tryd.prog.cellsOf 24 = 2 := by kernel_rfl
set_option maxRecDepth 100000 in
theorem nodes_cells : Tryd.prog.cellsOf 22 = 1 := by kernel_rfl

set_option maxRecDepth 100000 in
theorem Tr_of_cells {H : Type} {enc : TypeId × Value → H} {W : World} {fuel : Nat} {cs : List Value} {x : DataW H × List MemPlace}
    (hf : DataW.trod enc Tryd.prog W 0 (fun _ => true) true fuel 24 cs = some x) :
    ∃ (r : Int) (xs : List Nd) (A : Option Addr) (n c : Nat), cs = [.int .i64 r, .slice A n c] ∧ RS W W.heap.size A n xs ∧ n ≤ c ∧ c ≤ 9223372036854775807 ∧ ∀ i, i < n → (ndAt xs i).ps.length ≤ 9223372036854775807 := by
  obtain ⟨xs, m, _, _, hlen, hxl, hg⟩ := DataW.trod_struct Tryd.underlying24 hf
  rw [tree_cells] at hlen
  match cs, hlen with
  | [v0, v1], _ =>
    match xs, hxl with
    | [y0, y1], _ =>
      have h0 := hg 0 _ rfl
      have h1 := hg 1 _ rfl
      simp [int_cells, nodes_cells] at h0 h1
      obtain ⟨a0, e0, _, _⟩ := DataW.trod_int Tryd.underlying2 h0
      obtain ⟨A, n, c, zs, e1, hR⟩ := RSN_of_cells h1
      simp at e0 e1
      subst e0 e1
      exact ⟨a0, zs, A, n, c, rfl, hR⟩
set_option maxRecDepth 100000 in
theorem Tr_of_trod {H : Type} {enc : TypeId × Value → H} {W : World} {r : Reach} {base : Nat} {v : Value} {d : DataW H} {p : List MemPlace}
    (hv : Value.okWide Tryd.prog W r base 24 v) (h : DataW.Trod enc Tryd.prog W 0 (fun _ => true) true 24 v d p) :
    ∃ (r : Int) (xs : List Nd) (A : Option Addr) (n c : Nat), v = .agg #[.int .i64 r, .slice A n c] ∧ RS W W.heap.size A n xs ∧ n ≤ c ∧ c ≤ 9223372036854775807 ∧ ∀ i, i < n → (ndAt xs i).ps.length ≤ 9223372036854775807 := by
  obtain ⟨cs, rfl, _⟩ := okWide_struct Tryd.underlying24 hv
  obtain ⟨fuel, hf⟩ := h
  obtain ⟨r0, xs, A, n, c, hcs, hR⟩ := Tr_of_cells hf
  obtain ⟨l⟩ := cs
  simp [Value.cells] at hcs
  subst hcs
  exact ⟨r0, xs, A, n, c, rfl, hR⟩
end Go.Proofs.YtlmhcifnikdliaaDoor
namespace Go.Proofs.YtlmhcifnikdliaaDoor
open Go.ChangeShapes Go.WideShapes Go.ChangeAt Go.RowKit

abbrev nU : String := "loop.example/g00796/impl.errUnsound"
abbrev nT : String := "loop.example/g00796/impl.errUntold"
abbrev nE : String := "errors.errorType"
theorem gU : Tryd.prog.globalNamed nU = some 0 := by kernel_rfl
theorem gT : Tryd.prog.globalNamed nT = some 1 := by kernel_rfl
theorem gE : Tryd.prog.globalNamed nE = some 2 := by kernel_rfl
theorem gUType : (Tryd.prog.globals[0]?).map (·.type) = some 48 := by kernel_rfl
theorem gTType : (Tryd.prog.globals[1]?).map (·.type) = some 48 := by kernel_rfl
theorem cellsES : Tryd.prog.cellsOf 150 = 1 := by kernel_rfl
theorem cellsS : Tryd.prog.cellsOf 9 = 1 := by kernel_rfl
theorem starES : "*" ++ "errors.errorString" = "*errors.errorString" := by decide
theorem rowES (u : TypeId) (h : Tryd.prog.typeName? 3 u = some "*errors.errorString") : u = 128 :=
  typeName_ptr_named (nm := "errors.errorString") (by rw [starES]; kernel_rfl) (by kernel_rfl) (by decide) u (by rw [starES]; exact h)

theorem var_on {w w' : World} {n : String} {cs : Array Value} (h : w.var? Tryd.prog n = some cs) (hb : Below w.heap.size w w') : w'.var? Tryd.prog n = some cs := by
  unfold World.var? at h ⊢
  cases hg : Tryd.prog.globalNamed n with
  | none => rw [hg] at h; cases h
  | some g =>
    rw [hg] at h
    simp only [Option.bind_some] at h ⊢
    cases ho : w.heap[g]? with
    | none => rw [ho] at h; cases h
    | some o =>
      rw [ho] at h
      cases o with
      | cells c t f => rw [box_on hb ho]; exact h
      | _ => cases h
theorem Gl.of_laid {W : World} (h : laidMet Tryd.prog [(nU, Rows.laid_loop_example_g00796_impl_errUnsound), (nT, Rows.laid_loop_example_g00796_impl_errUntold)] W) :
    ∃ a0 a1, Gl a0 a1 W ∧ W.var? Tryd.prog nU = some #[.iface 128 (.pointer (some a0))] ∧ W.var? Tryd.prog nT = some #[.iface 128 (.pointer (some a1))] := by
  obtain ⟨a0, a1, s0, s1, c0, c1, t0, t1, hv0, hv1, hc0, hs0, hz0, hc1, hs1, hz1, hne, hb0, hb1⟩ := laid_sentinels2 h gU gUType gT gTType Tryd.underlying48 rowES Tryd.underlying128 Tryd.underlying150 rfl rfl Tryd.underlying9 cellsES cellsS
  have c1' : W.cell? ⟨1, 0, none⟩ = some (.iface 128 (.pointer (some a1))) := by simpa using World.var?_cell gT hv1 0
  have h2 : 1 < W.heap.size := by
    rcases Nat.lt_or_ge 1 W.heap.size with h | h
    · exact h
    · simp [World.cell?, Array.getElem?_eq_none h] at c1'
  exact ⟨a0, a1, ⟨by simpa using World.var?_cell gU hv0 0, c1', h2, hne, ⟨_, _, hb0⟩, ⟨_, _, hb1⟩⟩, hv0, hv1⟩
theorem varsTU {H : Type} (enc : TypeId × Value → H) {W : World} {a0 a1 : Addr} (h0 : W.var? Tryd.prog nU = some #[.iface 128 (.pointer (some a0))]) (h1 : W.var? Tryd.prog nT = some #[.iface 128 (.pointer (some a1))]) (sp : Nat → Bool) :
    DataW.TrodVars enc Tryd.prog W sp [nT, nU] [tok enc (.iface 128 (.pointer (some a1))), tok enc (.iface 128 (.pointer (some a0)))] [.cell 1 0, .cell 0 0] :=
  vars_read2 enc gT gTType Tryd.underlying48 h1 trivial gU gUType Tryd.underlying48 h0 trivial sp

theorem rtE : (Tryd.prog.cutTypes.find? (·.1 == "internal/reflectlite.rtype")).map (·.2) = some 101 := by kernel_rfl
theorem oneRowE : ((List.range Tryd.prog.types.size).filter fun t => Tryd.prog.rowNamed t [101, 114, 114, 111, 114]) = [48] := by kernel_rfl
theorem Ge.of_laid {W : World} (h : handlesMet Tryd.prog [(nE, Rows.laid_errors_errorType)] W) : Ge W := by
  obtain ⟨name, u, ty, e1, e2, e3, e4, e5⟩ := h _ (List.mem_singleton.2 rfl)
  have en : name = [101, 114, 114, 111, 114] := (Option.some.inj e1).symm
  subst en
  obtain rfl := Option.some.inj (rtE.symm.trans e2)
  have hm : ty ∈ (List.range Tryd.prog.types.size).filter fun t => Tryd.prog.rowNamed t [101, 114, 114, 111, 114] := List.mem_filter.2 ⟨List.mem_range.2 e3, e4⟩
  rw [oneRowE] at hm
  obtain rfl := List.mem_singleton.1 hm
  have hh : typeHandle Tryd.prog 48 = .pointer (some ⟨3, 48, none⟩) := by kernel_rfl
  rw [hh] at e5
  have c2 : W.cell? ⟨2, 0, none⟩ = some (.iface 101 (.agg #[.pointer (some ⟨3, 48, none⟩)])) := by simpa using World.var?_cell gE e5 0
  refine ⟨c2, ?_⟩
  rcases Nat.lt_or_ge 2 W.heap.size with h | h
  · exact h
  · simp [World.cell?, Array.getElem?_eq_none h] at c2

abbrev unsS : ByteArray := { data := #[110, 111, 116, 32, 115, 111, 117, 110, 100] }
abbrev untS : ByteArray := { data := #[110, 111, 116, 32, 116, 111, 108, 100] }
noncomputable def low7 : Nat := (World.holding Tryd.prog default ⟨#[], #[], []⟩).heap.size
noncomputable def laidWorld7 (os : Os) : World :=
  let w0 := World.holding Tryd.prog os ⟨#[.cells #[.string unsS] 150, .cells #[.string untS] 150], #[], []⟩
  { w0 with heap := ((w0.heap.modify 0 fun
      | .cells _ t frozen => .cells #[.iface 128 (.pointer (some ⟨low7, 0, none⟩))] t frozen
      | o => o).modify 1 fun
      | .cells _ t frozen => .cells #[.iface 128 (.pointer (some ⟨low7 + 1, 0, none⟩))] t frozen
      | o => o).modify 2 fun
      | .cells _ t frozen => .cells #[.iface 101 (.agg #[.pointer (some ⟨3, 48, none⟩)])] t frozen
      | o => o }
theorem laid7_met (os : Os) (args : Array Value) : laidMet Tryd.prog [(nU, Rows.laid_loop_example_g00796_impl_errUnsound), (nT, Rows.laid_loop_example_g00796_impl_errUntold)] ((laidWorld7 os).forCall (fun _ _ => 0) ⟨#[], args, []⟩).memory :=
  laidMet_of_run (ps := [.cell 0 0, .cell low7 0, .cell 1 0, .cell (low7 + 1) 0]) 8 (by kernel_rfl) (by kernel_rfl) (by kernel_rfl)
theorem laid7_metE (os : Os) (args : Array Value) : laidMetH Tryd.prog [(nE, Rows.laid_errors_errorType), (nU, Rows.laid_loop_example_g00796_impl_errUnsound), (nT, Rows.laid_loop_example_g00796_impl_errUntold)] ((laidWorld7 os).forCall (fun _ _ => 0) ⟨#[], args, []⟩).memory :=
  laidMetH_of_parts (laid7_met os args) (by kernel_rfl)
end Go.Proofs.YtlmhcifnikdliaaDoor

/- What a row that lists the flaws' variables gives: their cells; a world that lays them. -/
import Derived.Test.YtlmhcifnikdliaaDoorB32
import Derived.Test.YtlmhcifnikdliaaDoorB33
import Derived.Test.YtlmhcifnikdliaaDoorRows
import Derived.ChangeSame
import Derived.ChangeVars
import Derived.LaidLaws
import Derived.LaidHandle
import Derived.Stop.LaidErr
import Derived.Stop.LaidTwo
import Derived.Test.YtlmhcifnikdliaaDoorB11
namespace Go.Proofs.YtlmhcifnikdliaaDoor
open Go.ChangeShapes Go.WideShapes Go.ChangeAt Go.RowKit

abbrev nU : String := "loop.example/g00796/impl.errUnsound"
abbrev nT : String := "loop.example/g00796/impl.errUntold"
abbrev nE : String := "errors.errorType"
theorem gU : Tryd.prog.globalNamed nU = some 0 := by kernel_rfl
theorem gT : Tryd.prog.globalNamed nT = some 1 := by kernel_rfl
theorem gE : Tryd.prog.globalNamed nE = some 2 := by kernel_rfl
theorem gUType : (Tryd.prog.globals[0]?).map (·.type) = some 48 := by kernel_rfl
theorem gTType : (Tryd.prog.globals[1]?).map (·.type) = some 48 := by kernel_rfl
theorem cellsES : Tryd.prog.cellsOf 150 = 1 := by kernel_rfl
theorem cellsS : Tryd.prog.cellsOf 9 = 1 := by kernel_rfl
theorem starES : "*" ++ "errors.errorString" = "*errors.errorString" := by decide
theorem rowES (u : TypeId) (h : Tryd.prog.typeName? 3 u = some "*errors.errorString") : u = 128 :=
  typeName_ptr_named (nm := "errors.errorString") (by rw [starES]; kernel_rfl) (by kernel_rfl) (by decide) u (by rw [starES]; exact h)

theorem var_on {w w' : World} {n : String} {cs : Array Value} (h : w.var? Tryd.prog n = some cs) (hb : Below w.heap.size w w') : w'.var? Tryd.prog n = some cs := by
  unfold World.var? at h ⊢
  cases hg : Tryd.prog.globalNamed n with
  | none => rw [hg] at h; cases h
  | some g =>
    rw [hg] at h
    simp only [Option.bind_some] at h ⊢
    cases ho : w.heap[g]? with
    | none => rw [ho] at h; cases h
    | some o =>
      rw [ho] at h
      cases o with
      | cells c t f => rw [box_on hb ho]; exact h
      | _ => cases h
theorem Gl.of_laid {W : World} (h : laidMet Tryd.prog [(nU, Rows.laid_loop_example_g00796_impl_errUnsound), (nT, Rows.laid_loop_example_g00796_impl_errUntold)] W) :
    ∃ a0 a1, Gl a0 a1 W ∧ W.var? Tryd.prog nU = some #[.iface 128 (.pointer (some a0))] ∧ W.var? Tryd.prog nT = some #[.iface 128 (.pointer (some a1))] := by
  obtain ⟨a0, a1, s0, s1, c0, c1, t0, t1, hv0, hv1, hc0, hs0, hz0, hc1, hs1, hz1, hne, hb0, hb1⟩ := laid_sentinels2 h gU gUType gT gTType Tryd.underlying48 rowES Tryd.underlying128 Tryd.underlying150 rfl rfl Tryd.underlying9 cellsES cellsS
  have c1' : W.cell? ⟨1, 0, none⟩ = some (.iface 128 (.pointer (some a1))) := by simpa using World.var?_cell gT hv1 0
  have h2 : 1 < W.heap.size := by
    rcases Nat.lt_or_ge 1 W.heap.size with h | h
    · exact h
    · simp [World.cell?, Array.getElem?_eq_none h] at c1'
  exact ⟨a0, a1, ⟨by simpa using World.var?_cell gU hv0 0, c1', h2, hne, ⟨_, _, hb0⟩, ⟨_, _, hb1⟩⟩, hv0, hv1⟩
theorem varsUT {H : Type} (enc : TypeId × Value → H) {W : World} {a0 a1 : Addr} (h0 : W.var? Tryd.prog nU = some #[.iface 128 (.pointer (some a0))]) (h1 : W.var? Tryd.prog nT = some #[.iface 128 (.pointer (some a1))]) (sp : Nat → Bool) :
    DataW.TrodVars enc Tryd.prog W sp [nU, nT] [tok enc (.iface 128 (.pointer (some a0))), tok enc (.iface 128 (.pointer (some a1)))] [.cell 0 0, .cell 1 0] :=
  vars_read2 enc gU gUType Tryd.underlying48 h0 trivial gT gTType Tryd.underlying48 h1 trivial sp
theorem rtE : (Tryd.prog.cutTypes.find? (·.1 == "internal/reflectlite.rtype")).map (·.2) = some 101 := by kernel_rfl
theorem oneRowE : ((List.range Tryd.prog.types.size).filter fun t => Tryd.prog.rowNamed t [101, 114, 114, 111, 114]) = [48] := by kernel_rfl
theorem Ge.of_laid {W : World} (h : handlesMet Tryd.prog [(nE, Rows.laid_errors_errorType)] W) : Ge W := by
  obtain ⟨name, u, ty, e1, e2, e3, e4, e5⟩ := h _ (List.mem_singleton.2 rfl)
  have en : name = [101, 114, 114, 111, 114] := (Option.some.inj e1).symm
  subst en
  obtain rfl := Option.some.inj (rtE.symm.trans e2)
  have hm : ty ∈ (List.range Tryd.prog.types.size).filter fun t => Tryd.prog.rowNamed t [101, 114, 114, 111, 114] := List.mem_filter.2 ⟨List.mem_range.2 e3, e4⟩
  rw [oneRowE] at hm
  obtain rfl := List.mem_singleton.1 hm
  have hh : typeHandle Tryd.prog 48 = .pointer (some ⟨3, 48, none⟩) := by kernel_rfl
  rw [hh] at e5
  have c2 : W.cell? ⟨2, 0, none⟩ = some (.iface 101 (.agg #[.pointer (some ⟨3, 48, none⟩)])) := by simpa using World.var?_cell gE e5 0
  refine ⟨c2, ?_⟩
  rcases Nat.lt_or_ge 2 W.heap.size with h | h
  · exact h
  · simp [World.cell?, Array.getElem?_eq_none h] at c2

abbrev unsS : ByteArray := { data := #[110, 111, 116, 32, 115, 111, 117, 110, 100] }
abbrev untS : ByteArray := { data := #[110, 111, 116, 32, 116, 111, 108, 100] }
noncomputable def low7 : Nat := (World.holding Tryd.prog default ⟨#[], #[], []⟩).heap.size
noncomputable def laidWorld7 (os : Os) : World :=
  let w0 := World.holding Tryd.prog os ⟨#[.cells #[.string unsS] 150, .cells #[.string untS] 150], #[], []⟩
  { w0 with heap := ((w0.heap.modify 0 fun
      | .cells _ t frozen => .cells #[.iface 128 (.pointer (some ⟨low7, 0, none⟩))] t frozen
      | o => o).modify 1 fun
      | .cells _ t frozen => .cells #[.iface 128 (.pointer (some ⟨low7 + 1, 0, none⟩))] t frozen
      | o => o).modify 2 fun
      | .cells _ t frozen => .cells #[.iface 101 (.agg #[.pointer (some ⟨3, 48, none⟩)])] t frozen
      | o => o }
theorem laid7_met (os : Os) (args : Array Value) : laidMet Tryd.prog [(nU, Rows.laid_loop_example_g00796_impl_errUnsound), (nT, Rows.laid_loop_example_g00796_impl_errUntold)] ((laidWorld7 os).forCall (fun _ _ => 0) ⟨#[], args, []⟩).memory :=
  laidMet_of_run (ps := [.cell 0 0, .cell low7 0, .cell 1 0, .cell (low7 + 1) 0]) 8 (by kernel_rfl) (by kernel_rfl) (by kernel_rfl)
end Go.Proofs.YtlmhcifnikdliaaDoor
namespace Go.Proofs.YtlmhcifnikdliaaDoor
open Go.RowKit

theorem eqP1 (xs : List Pr) (A B : Option Addr) (n c d : Nat) (w : World) (h : RS w w.heap.size A n xs) (h' : RS w w.heap.size B n xs) (hs : Small.sm xs) :
    Calls Tryd.prog 13 #[.slice A n c, .slice B n d] w fun e w' => e = .returned (.bool true) ∧ Below w.heap.size w w' :=
  eqS_yes A B n c d xs w h.pairs h'.pairs (by rw [← h.1]; exact hs)
theorem mkP1 (xs : List Pr) (A : Option Addr) (n c k : Nat) (F : FP) (w : World) (h : OwnS w (.slice A n c) xs F) (hl : xs.length = n) (hs : Small.sm xs) (hk : k ≤ 562949953421312) :
    Calls Tryd.prog 15 #[.slice A n c, .int .i64 k] w fun e w' => e = .returned (.int .i64 ((k + cntS xs : Nat) : Int)) ∧ OwnS w' (.slice A n c) (mkS k xs) F ∧ Only F w w' := by
  rw [cntS_pairs, hl, mkS_pairs]
  obtain ⟨hp, hF⟩ := h.pairs
  have hn : n ≤ 1048576 := by rw [← hl]; exact hs
  refine (mark_any 0 A n c k xs w (by rw [hl] at hp; exact hp) hn (by omega)).mono ?_
  rintro e w' ⟨rfl, o, g⟩
  refine ⟨rfl, ?_, Only.of_grown g (fun q hq => hF q hq)⟩
  rw [hl]
  exact OwnS.of_pairs o hF
theorem hdP1 (xs : List Pr) (A : Option Addr) (n c k : Nat) (w : World) (h : RS w w.heap.size A n (mkS k xs)) (hs : Small.sm xs) (hk : k ≤ 562949953421312) :
    Calls Tryd.prog 16 #[.slice A n c, .int .i64 k] w fun e w' => e = .returned (.int .i64 ((k + cntS xs : Nat) : Int)) ∧ Below w.heap.size w w' := by
  have hl := h.1
  rw [mkS_length] at hl
  rw [cntS_pairs, hl]
  have hR := h.pairs
  rw [mkS_pairs, hl] at hR
  refine (held_any A n c k xs w hR (by rw [← hl]; exact hs) (by omega)).mono ?_
  rintro e w' ⟨rfl, rfl⟩
  exact ⟨rfl, Below.refl _ _⟩
end Go.Proofs.YtlmhcifnikdliaaDoor

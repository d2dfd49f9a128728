/- A tree that came in, opened. -/
import Derived.Test.YtbipdfeikmchcaaG4
import Derived.Test.YtbipdfeikmchcaaOpenN
namespace Go.Proofs.Ytbipdfeikmchcaa
open Go.ChangeShapes Go.WideShapes Go.ChangeAt Go.RowKit Go.Deep

set_option maxRecDepth 100000 in
/-- A slice that came in has no more in it than it has room for. -/
theorem cap_of_cells {H : Type} {enc : TypeId × Value → H} {W : World} {t el : TypeId} {fuel : Nat} {A : Option Addr} {n c : Nat} {x : DataW H × List MemPlace} (ht : Try.prog.underlying t = some (.slice el))
    (hf : DataW.trod enc Try.prog W 0 (fun _ => true) true fuel t [.slice A n c] = some x) : n ≤ c ∧ c ≤ 9223372036854775807 := by
  rcases open_slice ht hf with ⟨hcs, _⟩ | ⟨a, len0, cap0, m, k, D, Pl, hcs, _, hl, hm, _⟩
  · simp at hcs
    omega
  · simp at hcs
    unfold maxLen at hm
    omega

set_option maxRecDepth 100000 in
theorem Nd_of_cells2 {H : Type} {enc : TypeId × Value → H} {W : World} {fuel : Nat} {cs : List Value} {x : DataW H × List MemPlace}
    (hf : DataW.trod enc Try.prog W 0 (fun _ => true) true fuel 70 cs = some x) :
    ∃ (y : Nd) (A : Option Addr) (n c : Nat), cs = [.int .i64 y.lv, .slice A n c, .int .i64 y.hi, .int .i64 y.ri, .int .i64 y.ow] ∧ RP W W.heap.size A n y.ps ∧ n ≤ c ∧ c ≤ 9223372036854775807 := by
  obtain ⟨y, A, n, c, rfl, hR, _⟩ := Nd_of_cells hf
  obtain ⟨xs, m, _, _, hlen, hxl, hg⟩ := DataW.trod_struct Try.underlying70 hf
  match xs, hxl with
  | [y0, y1, y2, y3, y4], _ =>
    have h1 := hg 1 _ rfl
    simp [slice_cells] at h1
    have := cap_of_cells Try.underlying68 h1
    exact ⟨y, A, n, c, rfl, hR, this.1, this.2⟩
instance : Inhabited Nd := ⟨⟨0, [], 0, 0, 0⟩⟩

set_option maxRecDepth 100000 in
theorem Nd_of_trod2 {H : Type} {enc : TypeId × Value → H} {W : World} {r : Reach} {base : Nat} {v : Value} {d : DataW H} {p : List MemPlace}
    (hv : Value.okWide Try.prog W r base 70 v) (h : DataW.Trod enc Try.prog W 0 (fun _ => true) true 70 v d p) :
    ∃ (lv hi ri ow : Int) (xs : List Pr) (A : Option Addr) (n c : Nat), v = .agg #[.int .i64 lv, .slice A n c, .int .i64 hi, .int .i64 ri, .int .i64 ow] ∧ RS W W.heap.size A n xs ∧ n ≤ c ∧ c ≤ 9223372036854775807 := by
  obtain ⟨cs, rfl, _⟩ := okWide_struct Try.underlying70 hv
  obtain ⟨fuel, hf⟩ := h
  obtain ⟨y, A, n, c, hcs, hR, hc⟩ := Nd_of_cells2 hf
  obtain ⟨l⟩ := cs
  simp [Value.cells] at hcs
  subst hcs
  exact ⟨y.lv, y.hi, y.ri, y.ow, y.ps, A, n, c, rfl, RS.of_pairs hR, hc⟩

set_option maxRecDepth 100000 in
theorem Addr.add_none (b o k : Nat) : (⟨b, o, none⟩ : Addr).add k = ⟨b, o + k, none⟩ := by unfold Addr.add; split <;> simp_all

set_option maxRecDepth 100000 in
theorem RSN_of_cells {H : Type} {enc : TypeId × Value → H} {W : World} {fuel : Nat} {cs : List Value} {x : DataW H × List MemPlace}
    (hf : DataW.trod enc Try.prog W 0 (fun _ => true) true fuel 22 cs = some x) :
    ∃ A n c, ∃ xs : List Nd, cs = [.slice A n c] ∧ RS W W.heap.size A n xs ∧ n ≤ c ∧ c ≤ 9223372036854775807 ∧ ∀ i, i < n → (ndAt xs i).ps.length ≤ 9223372036854775807 := by
  rcases open_slice Try.underlying22 hf with ⟨hcs, _⟩ | ⟨a, len0, cap0, m, k, D, Pl, hcs, _, hl, hm, hmm, _, hx⟩
  · exact ⟨_, _, _, [], hcs, RS.nil _ _ _, by omega, by omega, fun i hi => absurd hi (by omega)⟩
  · have hm2 : m = cap0 := by simpa using hmm
    have each : ∀ i, i < len0 → ∃ y : Nd, ∃ cs', encNd.Is W W.heap.size cs' y ∧ (∀ j u, cs'[j]? = some u → W.cell? ((a.add (i * 5)).add j) = some u) := by
      intro i hi
      obtain ⟨cs', h1, h2⟩ := hx i (by omega)
      rw [node_cells] at h1
      obtain ⟨y, A, n, c, rfl, hR, hc⟩ := Nd_of_cells2 h2
      obtain ⟨_, hlen, hcell⟩ := World.cells?_some h1
      refine ⟨y, _, ⟨A, n, c, rfl, hR, hc⟩, fun j u hu => ?_⟩
      have hj : j < 5 := by have := (List.getElem?_eq_some_iff.1 hu).1; simpa using this
      rw [hcell j hj]
      exact hu
    obtain ⟨f, hf'⟩ := choose_lt (α := Nd) (p := fun i y => ∃ cs', encNd.Is W W.heap.size cs' y ∧ (∀ j u, cs'[j]? = some u → W.cell? ((a.add (i * 5)).add j) = some u)) each
    have hget : ∀ i, i < len0 → ((List.range len0).map f).getD i encNd.dflt = f i := fun i hi => by simp [hi]
    have hpl : ∀ i, i < len0 → (f i).ps.length ≤ 9223372036854775807 := fun i hi => by
      obtain ⟨cs', ⟨A, n, c, _, hR, hc⟩, _⟩ := hf' i hi
      have := hR.1
      omega
    refine ⟨_, _, _, (List.range len0).map f, hcs, ⟨by simp, fun hn => ?_⟩, hl, by unfold maxLen at hm; omega, fun i hi => ?_⟩
    · obtain ⟨b, off, spot⟩ := a
      obtain ⟨cs0, ⟨A, n, c, h0, _⟩, h1⟩ := hf' 0 hn
      subst h0
      have h2 := h1 0 _ rfl
      have hspot : spot = none := by
        have := World.cell?_spot h2
        simpa [Addr.add] using this
      subst hspot
      refine ⟨b, off, rfl, ?_, fun i hi => ?_⟩
      · have := World.block_lt_of_cell? _ _ h2
        simpa [Addr.add] using this
      · obtain ⟨cs', h3, h4⟩ := hf' i hi
        refine ⟨cs', by rw [hget i hi]; exact h3, fun j u hu => ?_⟩
        have := h4 j u hu
        rw [Addr.add_none, Addr.add_none] at this
        exact this
    · show (((List.range len0).map f).getD i encNd.dflt).ps.length ≤ _
      rw [hget i hi]
      exact hpl i hi

set_option maxRecDepth 100000 in
theorem tree_cells : Try.prog.cellsOf 24 = 2 := by kernel_rfl
set_option maxRecDepth 100000 in
theorem nodes_cells : Try.prog.cellsOf 22 = 1 := by kernel_rfl

set_option maxRecDepth 100000 in
theorem Tr_of_cells {H : Type} {enc : TypeId × Value → H} {W : World} {fuel : Nat} {cs : List Value} {x : DataW H × List MemPlace}
    (hf : DataW.trod enc Try.prog W 0 (fun _ => true) true fuel 24 cs = some x) :
    ∃ (r : Int) (xs : List Nd) (A : Option Addr) (n c : Nat), cs = [.int .i64 r, .slice A n c] ∧ RS W W.heap.size A n xs ∧ n ≤ c ∧ c ≤ 9223372036854775807 ∧ ∀ i, i < n → (ndAt xs i).ps.length ≤ 9223372036854775807 := by
  obtain ⟨xs, m, _, _, hlen, hxl, hg⟩ := DataW.trod_struct Try.underlying24 hf
  rw [tree_cells] at hlen
  match cs, hlen with
  | [v0, v1], _ =>
    match xs, hxl with
    | [y0, y1], _ =>
      have h0 := hg 0 _ rfl
      have h1 := hg 1 _ rfl
      simp [int_cells, nodes_cells] at h0 h1
      obtain ⟨a0, e0, _, _⟩ := DataW.trod_int Try.underlying2 h0
      obtain ⟨A, n, c, zs, e1, hR⟩ := RSN_of_cells h1
      simp at e0 e1
      subst e0 e1
      exact ⟨a0, zs, A, n, c, rfl, hR⟩
set_option maxRecDepth 100000 in
theorem Tr_of_trod {H : Type} {enc : TypeId × Value → H} {W : World} {r : Reach} {base : Nat} {v : Value} {d : DataW H} {p : List MemPlace}
    (hv : Value.okWide Try.prog W r base 24 v) (h : DataW.Trod enc Try.prog W 0 (fun _ => true) true 24 v d p) :
    ∃ (r : Int) (xs : List Nd) (A : Option Addr) (n c : Nat), v = .agg #[.int .i64 r, .slice A n c] ∧ RS W W.heap.size A n xs ∧ n ≤ c ∧ c ≤ 9223372036854775807 ∧ ∀ i, i < n → (ndAt xs i).ps.length ≤ 9223372036854775807 := by
  obtain ⟨cs, rfl, _⟩ := okWide_struct Try.underlying24 hv
  obtain ⟨fuel, hf⟩ := h
  obtain ⟨r0, xs, A, n, c, hcs, hR⟩ := Tr_of_cells hf
  obtain ⟨l⟩ := cs
  simp [Value.cells] at hcs
  subst hcs
  exact ⟨r0, xs, A, n, c, rfl, hR⟩
end Go.Proofs.Ytbipdfeikmchcaa

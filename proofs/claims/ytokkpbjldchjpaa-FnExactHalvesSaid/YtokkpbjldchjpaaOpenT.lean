/- A tree that came in, opened. -/
import Derived.Test.YtokkpbjldchjpaaG4
import Derived.Test.YtokkpbjldchjpaaOpenN
namespace Go.Proofs.Ytokkpbjldchjpaa
open Go.ChangeShapes Go.WideShapes Go.ChangeAt Go.RowKit Go.Deep

set_option maxRecDepth 100000 in
/-- A slice that came in has no more in it than it has room for. -/
theorem cap_of_cells {H : Type} {enc : TypeId × Value → H} {W : World} {t el : TypeId} {fuel : Nat} {A : Option Addr} {n c : Nat} {x : DataW H × List MemPlace} (ht : Try.prog.underlying t = some (.slice el))
    (hf : DataW.trod enc Try.prog W 0 (fun _ => true) true fuel t [.slice A n c] = some x) : n ≤ c ∧ c ≤ 9223372036854775807 := by
  rcases open_slice ht hf with ⟨hcs, _⟩ | ⟨a, len0, cap0, m, k, D, Pl, hcs, _, hl, hm, _⟩
  · simp at hcs
    omega
  · simp at hcs
    unfold maxLen at hm
    omega

set_option maxRecDepth 100000 in
theorem Nd_of_cells2 {H : Type} {enc : TypeId × Value → H} {W : World} {fuel : Nat} {cs : List Value} {x : DataW H × List MemPlace}
    (hf : DataW.trod enc Try.prog W 0 (fun _ => true) true fuel 41 cs = some x) :
    ∃ (y : Nd) (A : Option Addr) (n c : Nat), cs = [.int .i64 y.lv, .slice A n c, .int .i64 y.hi, .int .i64 y.ri, .int .i64 y.ow] ∧ RP W W.heap.size A n y.ps ∧ n ≤ c ∧ c ≤ 9223372036854775807 := by
  obtain ⟨y, A, n, c, rfl, hR, _⟩ := Nd_of_cells hf
  obtain ⟨xs, m, _, _, hlen, hxl, hg⟩ := DataW.trod_struct Try.underlying41 hf
  match xs, hxl with
  | [y0, y1, y2, y3, y4], _ =>
    have h1 := hg 1 _ rfl
    simp [slice_cells] at h1
    have := cap_of_cells Try.underlying39 h1
    exact ⟨y, A, n, c, rfl, hR, this.1, this.2⟩
instance : Inhabited Nd := ⟨⟨0, [], 0, 0, 0⟩⟩

set_option maxRecDepth 100000 in
theorem Nd_of_trod2 {H : Type} {enc : TypeId × Value → H} {W : World} {r : Reach} {base : Nat} {v : Value} {d : DataW H} {p : List MemPlace}
    (hv : Value.okWide Try.prog W r base 41 v) (h : DataW.Trod enc Try.prog W 0 (fun _ => true) true 41 v d p) :
    ∃ (lv hi ri ow : Int) (xs : List Pr) (A : Option Addr) (n c : Nat), v = .agg #[.int .i64 lv, .slice A n c, .int .i64 hi, .int .i64 ri, .int .i64 ow] ∧ RS W W.heap.size A n xs ∧ n ≤ c ∧ c ≤ 9223372036854775807 := by
  obtain ⟨cs, rfl, _⟩ := okWide_struct Try.underlying41 hv
  obtain ⟨fuel, hf⟩ := h
  obtain ⟨y, A, n, c, hcs, hR, hc⟩ := Nd_of_cells2 hf
  obtain ⟨l⟩ := cs
  simp [Value.cells] at hcs
  subst hcs
  exact ⟨y.lv, y.hi, y.ri, y.ow, y.ps, A, n, c, rfl, RS.of_pairs hR, hc⟩

set_option maxRecDepth 100000 in
theorem Addr.add_none (b o k : Nat) : (⟨b, o, none⟩ : Addr).add k = ⟨b, o + k, none⟩ := by unfold Addr.add; split <;> simp_all

end Go.Proofs.Ytokkpbjldchjpaa

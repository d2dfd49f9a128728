/- A node that came in, opened. -/
import Derived.Test.YtokkpbjldchjpaaN2
import Derived.Test.YtokkpbjldchjpaaOpen
namespace Go.Proofs.Ytokkpbjldchjpaa
open Go.ChangeShapes Go.WideShapes Go.ChangeAt Go.RowKit Go.Deep

set_option maxRecDepth 100000 in
theorem node_cells : Try.prog.cellsOf 41 = 5 := by kernel_rfl
set_option maxRecDepth 100000 in
theorem slice_cells : Try.prog.cellsOf 39 = 1 := by kernel_rfl

set_option maxRecDepth 100000 in
/-- Its cells, whatever they lie in. -/
theorem Nd_of_cells {H : Type} {enc : TypeId × Value → H} {W : World} {fuel : Nat} {cs : List Value} {x : DataW H × List MemPlace}
    (hf : DataW.trod enc Try.prog W 0 (fun _ => true) true fuel 41 cs = some x) :
    ∃ (y : Nd) (A : Option Addr) (n c : Nat), cs = [.int .i64 y.lv, .slice A n c, .int .i64 y.hi, .int .i64 y.ri, .int .i64 y.ow] ∧ RP W W.heap.size A n y.ps ∧ n ≤ 9223372036854775807 := by
  obtain ⟨xs, m, _, _, hlen, hxl, hg⟩ := DataW.trod_struct Try.underlying41 hf
  rw [node_cells] at hlen
  match cs, hlen with
  | [v0, v1, v2, v3, v4], _ =>
    match xs, hxl with
    | [y0, y1, y2, y3, y4], _ =>
      have h0 := hg 0 _ rfl
      have h1 := hg 1 _ rfl
      have h2 := hg 2 _ rfl
      have h3 := hg 3 _ rfl
      have h4 := hg 4 _ rfl
      simp [int_cells, slice_cells] at h0 h1 h2 h3 h4
      obtain ⟨a0, e0, _, _⟩ := DataW.trod_int Try.underlying2 h0
      obtain ⟨A, n, c, zs, e1, hR, hn, _⟩ := RP_of_cells h1
      obtain ⟨a2, e2, _, _⟩ := DataW.trod_int Try.underlying2 h2
      obtain ⟨a3, e3, _, _⟩ := DataW.trod_int Try.underlying2 h3
      obtain ⟨a4, e4, _, _⟩ := DataW.trod_int Try.underlying2 h4
      simp at e0 e1 e2 e3 e4
      subst e0 e1 e2 e3 e4
      exact ⟨⟨a0, zs, a2, a3, a4⟩, A, n, c, rfl, hR, hn⟩

set_option maxRecDepth 100000 in
theorem Nd_of_trod {H : Type} {enc : TypeId × Value → H} {W : World} {r : Reach} {base : Nat} {v : Value} {d : DataW H} {p : List MemPlace}
    (hv : Value.okWide Try.prog W r base 41 v) (h : DataW.Trod enc Try.prog W 0 (fun _ => true) true 41 v d p) :
    ∃ (y : Nd) (A : Option Addr) (n c : Nat), v = ndV y A n c ∧ RP W W.heap.size A n y.ps ∧ n ≤ 9223372036854775807 := by
  obtain ⟨cs, rfl, _⟩ := okWide_struct Try.underlying41 hv
  obtain ⟨fuel, hf⟩ := h
  obtain ⟨y, A, n, c, hcs, hR, hn⟩ := Nd_of_cells hf
  obtain ⟨l⟩ := cs
  simp [Value.cells] at hcs
  subst hcs
  exact ⟨y, A, n, c, rfl, hR, hn⟩
end Go.Proofs.Ytokkpbjldchjpaa

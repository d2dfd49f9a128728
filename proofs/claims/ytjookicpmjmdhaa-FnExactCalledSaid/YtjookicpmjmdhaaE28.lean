/- Calls and hands that came in, opened. -/
import Derived.Test.YtjookicpmjmdhaaE27
import Derived.Test.YtjookicpmjmdhaaE12
namespace Go.Proofs.Ytjookicpmjmdhaa
open Go.ChangeShapes Go.WideShapes Go.ChangeAt Go.RowKit Go.Deep

set_option maxRecDepth 100000 in
theorem call_cells : Try.prog.cellsOf 44 = 3 := by kernel_rfl
set_option maxRecDepth 100000 in
theorem ints_cells : Try.prog.cellsOf 29 = 1 := by kernel_rfl
set_option maxRecDepth 100000 in
theorem hand_cells : Try.prog.cellsOf 49 = 16 := by kernel_rfl

set_option maxRecDepth 100000 in
theorem C_of_cells {H : Type} {enc : TypeId × Value → H} {W : World} {fuel : Nat} {cs : List Value} {x : DataW H × List MemPlace}
    (hf : DataW.trod enc Try.prog W 0 (fun _ => true) true fuel 44 cs = some x) : ∃ c k v : Int, cs = [.int .i64 c, .int .i64 k, .int .i64 v] := by
  obtain ⟨xs, m, _, _, hlen, hxl, hg⟩ := DataW.trod_struct Try.underlying44 hf
  rw [call_cells] at hlen
  match cs, hlen with
  | [v0, v1, v2], _ =>
    match xs, hxl with
    | [y0, y1, y2], _ =>
      have h0 := hg 0 _ rfl
      have h1 := hg 1 _ rfl
      have h2 := hg 2 _ rfl
      simp [int_cells] at h0 h1 h2
      obtain ⟨a0, e0, _, _⟩ := DataW.trod_int Try.underlying2 h0
      obtain ⟨a1, e1, _, _⟩ := DataW.trod_int Try.underlying2 h1
      obtain ⟨a2, e2, _, _⟩ := DataW.trod_int Try.underlying2 h2
      simp at e0 e1 e2
      subst e0 e1 e2
      exact ⟨a0, a1, a2, rfl⟩
set_option maxRecDepth 100000 in
theorem C_of_trod {H : Type} {enc : TypeId × Value → H} {W : World} {r : Reach} {base : Nat} {v : Value} {d : DataW H} {p : List MemPlace}
    (hv : Value.okWide Try.prog W r base 44 v) (h : DataW.Trod enc Try.prog W 0 (fun _ => true) true 44 v d p) :
    ∃ c k u : Int, v = .agg #[.int .i64 c, .int .i64 k, .int .i64 u] := by
  obtain ⟨cs, rfl, _⟩ := okWide_struct Try.underlying44 hv
  obtain ⟨fuel, hf⟩ := h
  obtain ⟨c, k, u, hcs⟩ := C_of_cells hf
  obtain ⟨l⟩ := cs
  simp [Value.cells] at hcs
  subst hcs
  exact ⟨c, k, u, rfl⟩

set_option maxRecDepth 100000 in
theorem RI_of_cells {H : Type} {enc : TypeId × Value → H} {W : World} {fuel : Nat} {cs : List Value} {x : DataW H × List MemPlace}
    (hf : DataW.trod enc Try.prog W 0 (fun _ => true) true fuel 29 cs = some x) :
    ∃ A n c, ∃ xs : List Int, cs = [.slice A n c] ∧ RS W W.heap.size A n xs ∧ n ≤ c ∧ c ≤ 9223372036854775807 := by
  rcases open_slice Try.underlying29 hf with ⟨hcs, _⟩ | ⟨a, len0, cap0, m, k, D, Pl, hcs, _, hl, hm, hmm, _, hx⟩
  · exact ⟨_, _, _, [], hcs, RS.nil _ _ _, by omega, by omega⟩
  · have hm2 : m = cap0 := by simpa using hmm
    have each : ∀ i, i < len0 → ∃ y : Int, W.cell? (a.add i) = some (.int .i64 y) := by
      intro i hi
      obtain ⟨cs', h1, h2⟩ := hx i (by omega)
      rw [int_cells] at h1
      obtain ⟨y, e, _, _⟩ := DataW.trod_int Try.underlying2 h2
      subst e
      obtain ⟨_, hlen, hcell⟩ := World.cells?_some h1
      have := hcell 0 (by omega)
      refine ⟨y, ?_⟩
      rw [Nat.mul_one] at this
      have e2 : (a.add i).add 0 = a.add i := by
        obtain ⟨b, o, sp⟩ := a
        unfold Addr.add
        split <;> simp_all
      rw [e2] at this
      simpa using this
    obtain ⟨f, hf'⟩ := choose_lt (α := Int) (p := fun i y => W.cell? (a.add i) = some (.int .i64 y)) each
    refine ⟨_, _, _, (List.range len0).map f, hcs, ⟨by simp, fun hn => ?_⟩, hl, by unfold maxLen at hm; omega⟩
    obtain ⟨b, off, spot⟩ := a
    have h0 := hf' 0 hn
    have hspot : spot = none := by
      have := World.cell?_spot h0
      simpa [Addr.add] using this
    subst hspot
    refine ⟨b, off, rfl, ?_, fun i hi => ⟨[.int .i64 (f i)], ?_, fun j u hu => ?_⟩⟩
    · have := World.block_lt_of_cell? _ _ h0
      simpa [Addr.add] using this
    · show [Value.int .i64 (f i)] = [.int .i64 (((List.range len0).map f).getD i 0)]
      simp [hi]
    · have hj : j = 0 := by have := (List.getElem?_eq_some_iff.1 hu).1; simpa using this
      subst hj
      cases hu
      have := hf' i hi
      rw [Addr.add_none] at this
      rw [show off + i * encInt.sz + 0 = off + i from by show off + i * 1 + 0 = off + i; omega]
      exact this

set_option maxRecDepth 100000 in
theorem Hd_of_trod {H : Type} {enc : TypeId × Value → H} {W : World} {r : Reach} {base : Nat} {v : Value} {d : DataW H} {p : List MemPlace}
    (hv : Value.okWide Try.prog W r base 49 v) (h : DataW.Trod enc Try.prog W 0 (fun _ => true) true 49 v d p) :
    ∃ (h : Hd) (A : Option Addr) (n c : Nat), v = hdV h A n c ∧ RS W W.heap.size A n h.st ∧ n ≤ c ∧ c ≤ 9223372036854775807 := by
  obtain ⟨cs, rfl, _⟩ := okWide_struct Try.underlying49 hv
  obtain ⟨fuel, hf⟩ := h
  simp only [Value.cells] at hf
  obtain ⟨l⟩ := cs
  simp only at hf
  obtain ⟨xs, m, _, _, hlen, hxl, hg⟩ := DataW.trod_struct Try.underlying49 hf
  rw [hand_cells] at hlen
  match l, hlen with
  | [v0, v1, v2, v3, v4, v5, v6, v7, v8, v9, v10, v11, v12, v13, v14, v15], _ =>
    match xs, hxl with
    | [y0, y1, y2, y3, y4, y5, y6, y7, y8, y9, y10, y11, y12, y13], _ =>
      have h0 := hg 0 _ rfl
      have h1 := hg 1 _ rfl
      have h2 := hg 2 _ rfl
      have h3 := hg 3 _ rfl
      have h4 := hg 4 _ rfl
      have h5 := hg 5 _ rfl
      have h6 := hg 6 _ rfl
      have h7 := hg 7 _ rfl
      have h8 := hg 8 _ rfl
      have h9 := hg 9 _ rfl
      have h10 := hg 10 _ rfl
      have h11 := hg 11 _ rfl
      have h12 := hg 12 _ rfl
      have h13 := hg 13 _ rfl
      simp [int_cells, ints_cells, call_cells] at h0 h1 h2 h3 h4 h5 h6 h7 h8 h9 h10 h11 h12 h13
      obtain ⟨a0, e0, _, _⟩ := DataW.trod_int Try.underlying2 h0
      obtain ⟨a2, e2, _, _⟩ := DataW.trod_int Try.underlying2 h2
      obtain ⟨a3, e3, _, _⟩ := DataW.trod_int Try.underlying2 h3
      obtain ⟨a4, e4, _, _⟩ := DataW.trod_int Try.underlying2 h4
      obtain ⟨a5, e5, _, _⟩ := DataW.trod_int Try.underlying2 h5
      obtain ⟨a6, e6, _, _⟩ := DataW.trod_int Try.underlying2 h6
      obtain ⟨a7, e7, _, _⟩ := DataW.trod_int Try.underlying2 h7
      obtain ⟨a8, e8, _, _⟩ := DataW.trod_int Try.underlying2 h8
      obtain ⟨a10, e10, _, _⟩ := DataW.trod_int Try.underlying2 h10
      obtain ⟨a11, e11, _, _⟩ := DataW.trod_int Try.underlying2 h11
      obtain ⟨a12, e12, _, _⟩ := DataW.trod_int Try.underlying2 h12
      obtain ⟨a13, e13, _, _⟩ := DataW.trod_int Try.underlying2 h13
      obtain ⟨b0, b1, b2, e1⟩ := C_of_cells h1
      obtain ⟨A, n, c, st, e9, hR, hc⟩ := RI_of_cells h9
      simp at e0 e1 e2 e3 e4 e5 e6 e7 e8 e9 e10 e11 e12 e13
      obtain ⟨rfl, rfl, rfl⟩ := e1
      subst e0 e2 e3 e4 e5 e6 e7 e8 e9 e10 e11 e12 e13
      exact ⟨⟨a0, b0, b1, b2, a2, a3, a4, a5, a6, a7, a8, st, a10, a11, a12, a13⟩, A, n, c, rfl, hR, hc⟩
end Go.Proofs.Ytjookicpmjmdhaa

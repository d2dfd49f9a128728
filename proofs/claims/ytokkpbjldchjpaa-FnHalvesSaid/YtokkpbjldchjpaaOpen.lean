/- A list of pairs that came in, opened: what the form reads as data is what the walks read as cells. -/
import Derived.Test.YtokkpbjldchjpaaW5
import Derived.ProofKit
import Derived.OpenShut
import Derived.ChangeOld
import Derived.Deep.SlicePairs
namespace Go.Proofs.Ytokkpbjldchjpaa
open Go.ChangeShapes Go.WideShapes Go.ChangeAt Go.RowKit Go.Deep

set_option maxRecDepth 100000 in
theorem own : ownKnob Try.prog.godebug = none := by kernel_rfl
set_option maxRecDepth 100000 in
theorem laidOut : laidOutB Try.prog = true := by kernel_rfl
set_option maxRecDepth 100000 in
theorem pair_cells2 : Try.prog.cellsOf 42 = 2 := by kernel_rfl
set_option maxRecDepth 100000 in
theorem int_cells : Try.prog.cellsOf 2 = 1 := by kernel_rfl

/-- Both numbers of a pair fit their kind. -/
def Fits (zs : List Pr) : Prop := ∀ i, i < zs.length → (Lit.int .i64 (kAt zs i)).wf = true ∧ (Lit.int .i64 (vAt zs i)).wf = true

set_option maxRecDepth 100000 in
theorem RP_of_cells {H : Type} {enc : TypeId × Value → H} {W : World} {fuel : Nat} {cs : List Value} {x : DataW H × List MemPlace}
    (hf : DataW.trod enc Try.prog W 0 (fun _ => true) true fuel 39 cs = some x) :
    ∃ A n c zs, cs = [.slice A n c] ∧ RP W W.heap.size A n zs ∧ n ≤ 9223372036854775807 ∧ Fits zs := by
  rcases open_slice_pairs Try.underlying39 Try.underlying42 pair_cells2 rfl rfl int_cells int_cells hf with ⟨hcs, _⟩ | ⟨a, len0, cap0, m, k, V0, V1, D0, D1, P0, P1, hcs, _, hl, hm, hmm, _, hx⟩
  · exact ⟨_, _, _, [], hcs, RP.nil _ _ _, by omega, fun i hi => absurd hi (by simp)⟩
  · have hm2 : m = cap0 := by simpa using hmm
    have each : ∀ i, i < len0 → ∃ x y : Int, W.cell? (a.add (i * 2)) = some (.int .i64 x) ∧ W.cell? (a.add (i * 2 + 1)) = some (.int .i64 y) ∧ (Lit.int .i64 x).wf = true ∧ (Lit.int .i64 y).wf = true := by
      intro i hi
      obtain ⟨h0, h1, h2, h3⟩ := hx i (by omega)
      obtain ⟨x, e0, _, w0⟩ := DataW.trod_int Try.underlying2 h2
      obtain ⟨y, e1, _, w1⟩ := DataW.trod_int Try.underlying2 h3
      simp at e0 e1
      exact ⟨x, y, by rw [h0, e0], by rw [h1, e1], w0, w1⟩
    let f : Nat → Pr := fun i => (intOf ((W.cell? (a.add (i * 2))).getD undef), intOf ((W.cell? (a.add (i * 2 + 1))).getD undef))
    have hk : ∀ i, i < len0 → kAt ((List.range len0).map f) i = (f i).1 ∧ vAt ((List.range len0).map f) i = (f i).2 := fun i hi => by simp [kAt, vAt, hi]
    refine ⟨_, _, _, (List.range len0).map f, hcs, ⟨by simp, fun hn => ?_⟩, by unfold maxLen at hm; omega, ?_⟩
    · obtain ⟨x, y, h0, _, _, _⟩ := each 0 hn
      obtain ⟨b, off, spot⟩ := a
      have hspot : spot = none := by
        have := World.cell?_spot h0
        simpa [Addr.add] using this
      subst hspot
      refine ⟨b, off, rfl, ?_, fun i hi => ?_⟩
      · have := World.block_lt_of_cell? _ _ h0
        simpa [Addr.add] using this
      · obtain ⟨x, y, h0, h1, _, _⟩ := each i hi
        obtain ⟨e0, e1⟩ := hk i hi
        have a0 : (⟨b, off, none⟩ : Addr).add (i * 2) = ⟨b, off + i * 2, none⟩ := by unfold Addr.add; split <;> simp_all
        have a1 : (⟨b, off, none⟩ : Addr).add (i * 2 + 1) = ⟨b, off + i * 2 + 1, none⟩ := by unfold Addr.add; split <;> simp_all [Nat.add_assoc]
        rw [e0, e1]
        simp only [f]
        rw [a0] at h0
        rw [a1] at h1
        simp only [a0, a1, h0, h1, Option.getD_some, intOf]
        exact ⟨trivial, trivial⟩
    · intro i hi
      have hi : i < len0 := by simpa using hi
      obtain ⟨x, y, h0, h1, w0, w1⟩ := each i hi
      obtain ⟨e0, e1⟩ := hk i hi
      rw [e0, e1]
      simp only [f, h0, h1, Option.getD_some, intOf]
      exact ⟨w0, w1⟩

set_option maxRecDepth 100000 in
theorem RP_of_trod {H : Type} {enc : TypeId × Value → H} {W : World} {r : Reach} {base : Nat} {v : Value} {d : DataW H} {p : List MemPlace}
    (hv : Value.okWide Try.prog W r base 39 v) (h : DataW.Trod enc Try.prog W 0 (fun _ => true) true 39 v d p) :
    ∃ A n c zs, v = .slice A n c ∧ RP W W.heap.size A n zs ∧ n ≤ 9223372036854775807 ∧ Fits zs := by
  obtain ⟨a0, len0, cap0, rfl⟩ := okWide_slice Try.underlying39 hv
  obtain ⟨fuel, hf⟩ := h
  obtain ⟨A, n, c, zs, hcs, hR, hn, hF⟩ := RP_of_cells hf
  have e : Value.slice a0 len0 cap0 = .slice A n c := by simpa [Value.cells] using hcs
  exact ⟨A, n, c, zs, e, hR, hn, hF⟩
end Go.Proofs.Ytokkpbjldchjpaa

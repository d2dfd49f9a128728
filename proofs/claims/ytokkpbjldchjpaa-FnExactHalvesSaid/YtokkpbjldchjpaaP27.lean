/- For every node and every pair and every number: the law FnExactHalves returns true and all reads behind the call as it read before. No condition. -/
import Derived.Test.YtokkpbjldchjpaaY11
import Derived.Test.YtokkpbjldchjpaaL13
import Derived.Test.YtokkpbjldchjpaaOpenT
import Derived.Lib.SmallJoins
import Derived.Carry
namespace Go.Proofs.Ytokkpbjldchjpaa
open Go.ChangeShapes Go.WideShapes Go.ChangeAt Go.RowKit Go.Joins

set_option maxRecDepth 100000 in
theorem exactHalves_lifted (os : Os) (started : os.Started) (H : Type) (enc : TypeId × Value → H) :
    ReturnsInHanded {} Try.checked os 4 .any (Rows.fnExactHalvesSpec.pre6 enc Try.prog Try.f4 Rows.fnExactHalvesRow.domain false) (Rows.fnExactHalvesSpec.post enc Try.prog Try.f4 false true false false) := by
  refine returnsInHanded_of_change (C := Try.checked) own started (by kernel_rfl) Try.func4
    (ChangeSpec.witness6 (enc := enc) (C := Try.checked) false ⟨#[], #[.agg #[.int .i64 0, .slice none 0 0, .int .i64 0, .int .i64 0, .int .i64 0], .agg #[.int .i64 0, .int .i64 0], .int .i64 0], []⟩ 8 (by kernel_rfl) (by kernel_rfl) (by kernel_rfl) (by kernel_rfl)) ?_
  intro W base args ds gs before hval0 hW hcnd _
  have hval : ∀ (j : Nat) t v, Try.f4.params[j]? = some t → args[j]? = some v → Value.okWide Try.prog W .any base t v := hval0
  have hW' := hW
  obtain ⟨p, q, hA0, hV, rfl, hfz, hnd⟩ := hW
  have hA : DataW.TrodAll enc Try.prog W 0 (fun _ => true) true Try.f4.params.toList args.toList ds p := hA0
  rw [Try.params4] at hA hval
  obtain ⟨v0, v1, v2, d0, d1, d2, p0, p1, p2, rfl, rfl, rfl, h0, h1, h2⟩ := trodAll_three hA
  obtain ⟨rfl, rfl⟩ := trodVars_none hV
  have k0 := h0
  have lt0 : ∀ x ∈ p0, x.block < W.heap.size := by obtain ⟨m, hm⟩ := k0; exact DataW.trod_lt m _ _ _ hm
  obtain ⟨lv0, hi0, ri0, ow0, xs0, A0, n0, c0, rfl, hR0, hn0, hc0⟩ := Nd_of_trod2 (hval 0 41 v0 rfl rfl) h0
  have k1 := h1
  have lt1 : ∀ x ∈ p1, x.block < W.heap.size := by obtain ⟨m, hm⟩ := k1; exact DataW.trod_lt m _ _ _ hm
  obtain ⟨b10, b11, y10, y11, m1, rfl, _, _, hy10, hy11⟩ := open_agg2 Try.underlying42 (by kernel_rfl) pair_cells2 (hval 1 42 v1 rfl rfl) h1
  obtain ⟨k1k, e10, _, _⟩ := DataW.trod_int Try.underlying2 hy10
  obtain ⟨k1v, e11, _, _⟩ := DataW.trod_int Try.underlying2 hy11
  simp at e10 e11
  subst e10 e11
  have k2 := h2
  have lt2 : ∀ x ∈ p2, x.block < W.heap.size := by obtain ⟨m, hm⟩ := k2; exact DataW.trod_lt m _ _ _ hm
  obtain ⟨a2, rfl, _, _, _⟩ := open_int Try.underlying2 (hval 2 2 v2 rfl rfl) h2
  clear hA0 hval0
  refine (lawHalves_walk ⟨lv0, xs0, hi0, ri0, ow0⟩ (loH ⟨lv0, xs0, hi0, ri0, ow0⟩ k1k k1v a2) (upH ⟨lv0, xs0, hi0, ri0, ow0⟩ k1k k1v a2) (halfB ⟨lv0, xs0, hi0, ri0, ow0⟩ k1k k1v a2) A0 n0 c0 k1k k1v a2  W hR0 (Nat.le_trans hn0 hc0) (fun A c w hs hc hc2 h => halves_any ⟨lv0, xs0, hi0, ri0, ow0⟩ A n0 c k1k k1v a2 w h.pairs (by rw [← h.1]; exact hs) hc hc2) (fun A c w hs hc hc2 h => iHalves_any ⟨lv0, xs0, hi0, ri0, ow0⟩ A n0 c k1k k1v a2 w h.pairs (by rw [← h.1]; exact hs) hc hc2) (loH_sm ⟨lv0, xs0, hi0, ri0, ow0⟩ k1k k1v a2) (upH_sm ⟨lv0, xs0, hi0, ri0, ow0⟩ k1k k1v a2)).mono fun e W' ⟨he, bel⟩ => ?_
  subst he
  exact ⟨_, rfl, _, _, _, [], _, [], hW', trodAll_mk1 (shut_bool Try.underlying4 _), trodAll_mk3 (Below.trod laidOut (by kernel_rfl) (of_decide_eq_true (by kernel_rfl)) k0 bel lt0) (Below.trod laidOut (by kernel_rfl) (of_decide_eq_true (by kernel_rfl)) k1 bel lt1) (Below.trod laidOut (by kernel_rfl) (of_decide_eq_true (by kernel_rfl)) k2 bel lt2), rfl, bel.frame _, fun h => by cases h⟩

theorem exactHalves_holds : Rows.FnExactHalvesSaid :=
  OpenClaim.holds_of_wide 4 Try.f4 rfl rfl rfl rfl rfl rfl rfl ⟨rfl, rfl, rfl, rfl, rfl⟩ rfl rfl rfl rfl rfl (by kernel_rfl) Try.func4 (by kernel_rfl)
    (of_decide_eq_true (by kernel_rfl)) (by unfold Func.isWrapper; first | (rw [if_pos (by decide +kernel)]; kernel_rfl) | (rw [if_neg (by decide +kernel)]; exact ⟨rfl, rfl⟩))
    (fun os started H enc _ => exactHalves_lifted os started H enc)
#print axioms exactHalves_holds
end Go.Proofs.Ytokkpbjldchjpaa

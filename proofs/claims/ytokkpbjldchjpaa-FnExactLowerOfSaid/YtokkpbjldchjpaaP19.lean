/- For every node and every node: the law FnExactLowerOf returns true and all reads behind the call as it read before. No condition. -/
import Derived.Test.YtokkpbjldchjpaaJ6
import Derived.Test.YtokkpbjldchjpaaL12
import Derived.Test.YtokkpbjldchjpaaOpenT
import Derived.Lib.SmallJoins
import Derived.Carry
namespace Go.Proofs.Ytokkpbjldchjpaa
open Go.ChangeShapes Go.WideShapes Go.ChangeAt Go.RowKit Go.Joins

set_option maxRecDepth 100000 in
theorem exactLowerOf_lifted (os : Os) (started : os.Started) (H : Type) (enc : TypeId × Value → H) :
    ReturnsInHanded {} Try.checked os 5 .any (Rows.fnExactLowerOfSpec.pre6 enc Try.prog Try.f5 Rows.fnExactLowerOfRow.domain false) (Rows.fnExactLowerOfSpec.post enc Try.prog Try.f5 false true false false) := by
  refine returnsInHanded_of_change (C := Try.checked) own started (by kernel_rfl) Try.func5
    (ChangeSpec.witness6 (enc := enc) (C := Try.checked) false ⟨#[], #[.agg #[.int .i64 0, .slice none 0 0, .int .i64 0, .int .i64 0, .int .i64 0], .agg #[.int .i64 0, .slice none 0 0, .int .i64 0, .int .i64 0, .int .i64 0]], []⟩ 8 (by kernel_rfl) (by kernel_rfl) (by kernel_rfl) (by kernel_rfl)) ?_
  intro W base args ds gs before hval0 hW hcnd _
  have hval : ∀ (j : Nat) t v, Try.f5.params[j]? = some t → args[j]? = some v → Value.okWide Try.prog W .any base t v := hval0
  have hW' := hW
  obtain ⟨p, q, hA0, hV, rfl, hfz, hnd⟩ := hW
  have hA : DataW.TrodAll enc Try.prog W 0 (fun _ => true) true Try.f5.params.toList args.toList ds p := hA0
  rw [Try.params5] at hA hval
  obtain ⟨v0, v1, d0, d1, p0, p1, rfl, rfl, rfl, h0, h1⟩ := trodAll_two hA
  obtain ⟨rfl, rfl⟩ := trodVars_none hV
  have k0 := h0
  have lt0 : ∀ x ∈ p0, x.block < W.heap.size := by obtain ⟨m, hm⟩ := k0; exact DataW.trod_lt m _ _ _ hm
  obtain ⟨lv0, hi0, ri0, ow0, xs0, A0, n0, c0, rfl, hR0, hn0, hc0⟩ := Nd_of_trod2 (hval 0 41 v0 rfl rfl) h0
  have k1 := h1
  have lt1 : ∀ x ∈ p1, x.block < W.heap.size := by obtain ⟨m, hm⟩ := k1; exact DataW.trod_lt m _ _ _ hm
  obtain ⟨lv1, hi1, ri1, ow1, xs1, A1, n1, c1, rfl, hR1, hn1, hc1⟩ := Nd_of_trod2 (hval 1 41 v1 rfl rfl) h1
  clear hA0 hval0
  refine (lawLowerOf_walk lv0 hi0 ri0 ow0 xs0 A0 n0 c0 lv1 hi1 ri1 ow1 xs1 A1 n1 c1 (lowerB ⟨lv0, xs0, hi0, ri0, ow0⟩ ⟨lv1, xs1, hi1, ri1, ow1⟩) W hR0 (Nat.le_trans hn0 hc0) hR1 (Nat.le_trans hn1 hc1) (fun A0 c0 A1 c1 w hs _ _ h hs' _ _ h' => sLowerOf_any ⟨lv0, xs0, hi0, ri0, ow0⟩ ⟨lv1, xs1, hi1, ri1, ow1⟩ A0 A1 n0 c0 n1 c1 w h h' hs hs') (fun A0 c0 A1 c1 w hs hc hd h hs' hc' hd' h' => iLowerOf_any ⟨lv0, xs0, hi0, ri0, ow0⟩ ⟨lv1, xs1, hi1, ri1, ow1⟩ A0 A1 n0 c0 n1 c1 w h h' hs hs' hc hd hc' hd') ).mono fun e W' ⟨he, bel⟩ => ?_
  subst he
  exact ⟨_, rfl, _, _, _, [], _, [], hW', trodAll_mk1 (shut_bool Try.underlying4 _), trodAll_mk2 (Below.trod laidOut (by kernel_rfl) (of_decide_eq_true (by kernel_rfl)) k0 bel lt0) (Below.trod laidOut (by kernel_rfl) (of_decide_eq_true (by kernel_rfl)) k1 bel lt1), rfl, bel.frame _, fun h => by cases h⟩

theorem exactLowerOf_holds : Rows.FnExactLowerOfSaid :=
  OpenClaim.holds_of_wide 5 Try.f5 rfl rfl rfl rfl rfl rfl rfl ⟨rfl, rfl, rfl, rfl, rfl⟩ rfl rfl rfl rfl rfl (by kernel_rfl) Try.func5 (by kernel_rfl)
    (of_decide_eq_true (by kernel_rfl)) (by unfold Func.isWrapper; first | (rw [if_pos (by decide +kernel)]; kernel_rfl) | (rw [if_neg (by decide +kernel)]; exact ⟨rfl, rfl⟩))
    (fun os started H enc _ => exactLowerOf_lifted os started H enc)
#print axioms exactLowerOf_holds
end Go.Proofs.Ytokkpbjldchjpaa

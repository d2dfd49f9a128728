/- For every hand and every call: the law FnExactCalled returns true and all reads behind the call as it read before. No condition. -/
import Derived.Test.YtjookicpmjmdhaaE18
import Derived.Test.YtjookicpmjmdhaaE26
import Derived.Test.YtjookicpmjmdhaaE28
import Derived.Lib.SmallJoins
import Derived.Carry
namespace Go.Proofs.Ytjookicpmjmdhaa
open Go.ChangeShapes Go.WideShapes Go.ChangeAt Go.RowKit Go.Joins

theorem calledH_sm (h : Hd) (c k v : Int) : Small.sm (calledH h c k v).st := by
  show (calledH h c k v).st.length ≤ 1048576
  have hz : zeroH.st.length ≤ 1048576 := Nat.zero_le _
  unfold calledH
  split
  · rename_i ho
    have hs : h.st.length ≤ 1048576 := by
      unfold handOk stackOk at ho
      simp only [Bool.and_eq_true, decide_eq_true_eq] at ho
      have := ho.2.2.1.1
      omega
    split
    · split
      · exact Nat.zero_le _
      · exact hs
    · exact hs
  · exact hz

set_option maxRecDepth 100000 in
theorem exactCalled_lifted (os : Os) (started : os.Started) (H : Type) (enc : TypeId × Value → H) :
    ReturnsInHanded {} Try.checked os 8 .any (Rows.fnExactCalledSpec.pre6 enc Try.prog Try.f8 Rows.fnExactCalledRow.domain false) (Rows.fnExactCalledSpec.post enc Try.prog Try.f8 false true false false) := by
  refine returnsInHanded_of_change (C := Try.checked) own started (by kernel_rfl) Try.func8
    (ChangeSpec.witness6 (enc := enc) (C := Try.checked) false ⟨#[], #[.agg #[.int .i64 0, .int .i64 0, .int .i64 0, .int .i64 0, .int .i64 0, .int .i64 0, .int .i64 0, .int .i64 0, .int .i64 0, .int .i64 0, .int .i64 0, .slice none 0 0, .int .i64 0, .int .i64 0, .int .i64 0, .int .i64 0], .agg #[.int .i64 0, .int .i64 0, .int .i64 0]], []⟩ 8 (by kernel_rfl) (by kernel_rfl) (by kernel_rfl) (by kernel_rfl)) ?_
  intro W base args ds gs before hval0 hW hcnd _
  have hval : ∀ (j : Nat) t v, Try.f8.params[j]? = some t → args[j]? = some v → Value.okWide Try.prog W .any base t v := hval0
  have hW' := hW
  obtain ⟨p, q, hA0, hV, rfl, hfz, hnd⟩ := hW
  have hA : DataW.TrodAll enc Try.prog W 0 (fun _ => true) true Try.f8.params.toList args.toList ds p := hA0
  rw [Try.params8] at hA hval
  obtain ⟨v0, v1, d0, d1, p0, p1, rfl, rfl, rfl, h0, h1⟩ := trodAll_two hA
  obtain ⟨rfl, rfl⟩ := trodVars_none hV
  have k0 := h0
  have lt0 : ∀ x ∈ p0, x.block < W.heap.size := by obtain ⟨m, hm⟩ := k0; exact DataW.trod_lt m _ _ _ hm
  obtain ⟨hh0, A0, n0, c0, rfl, hR0, hn0, hc0⟩ := Hd_of_trod (hval 0 49 v0 rfl rfl) h0
  have k1 := h1
  have lt1 : ∀ x ∈ p1, x.block < W.heap.size := by obtain ⟨m, hm⟩ := k1; exact DataW.trod_lt m _ _ _ hm
  obtain ⟨cc0, ck0, cv0, rfl⟩ := C_of_trod (hval 1 44 v1 rfl rfl) h1
  clear hA0 hval0
  refine (lawCalled_walk hh0 (calledH hh0 cc0 ck0 cv0) (calledC hh0 cc0 ck0 cv0) A0 n0 c0 cc0 ck0 cv0 W hR0 (Nat.le_trans hn0 hc0) (fun A c w hs _ _ h => sCalled_any hh0 A n0 c cc0 ck0 cv0 w h (by have := h.1; have : hh0.st.length ≤ 1048576 := hs; omega)) (fun A c w hs hc hc2 h => iCalled_any hh0 A n0 c cc0 ck0 cv0 w h hs hc hc2) (calledH_sm _ _ _ _)).mono fun e W' ⟨he, bel⟩ => ?_
  subst he
  exact ⟨_, rfl, _, _, _, [], _, [], hW', trodAll_mk1 (shut_bool Try.underlying4 _), trodAll_mk2 (Below.trod laidOut (by kernel_rfl) (of_decide_eq_true (by kernel_rfl)) k0 bel lt0) (Below.trod laidOut (by kernel_rfl) (of_decide_eq_true (by kernel_rfl)) k1 bel lt1), rfl, bel.frame _, fun h => by cases h⟩

theorem exactCalled_holds : Rows.FnExactCalledSaid :=
  OpenClaim.holds_of_wide 8 Try.f8 rfl rfl rfl rfl rfl rfl rfl ⟨rfl, rfl, rfl, rfl, rfl⟩ rfl rfl rfl rfl rfl (by kernel_rfl) Try.func8 (by kernel_rfl)
    (of_decide_eq_true (by kernel_rfl)) (by unfold Func.isWrapper; first | (rw [if_pos (by decide +kernel)]; kernel_rfl) | (rw [if_neg (by decide +kernel)]; exact ⟨rfl, rfl⟩))
    (fun os started H enc _ => exactCalled_lifted os started H enc)
#print axioms exactCalled_holds
end Go.Proofs.Ytjookicpmjmdhaa

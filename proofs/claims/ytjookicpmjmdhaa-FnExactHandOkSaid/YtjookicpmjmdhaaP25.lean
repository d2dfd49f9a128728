/- For every hand: the law FnExactHandOk returns true and all reads behind the call as it read before. No condition. -/
import Derived.Test.YtjookicpmjmdhaaJ8
import Derived.Test.YtjookicpmjmdhaaL15
import Derived.Test.YtjookicpmjmdhaaOpenH
import Derived.Lib.SmallJoins
import Derived.Carry
namespace Go.Proofs.Ytjookicpmjmdhaa
open Go.ChangeShapes Go.WideShapes Go.ChangeAt Go.RowKit Go.Joins

set_option maxRecDepth 100000 in
theorem exactHandOk_lifted (os : Os) (started : os.Started) (H : Type) (enc : TypeId × Value → H) :
    ReturnsInHanded {} Try.checked os 6 .any (Rows.fnExactHandOkSpec.pre6 enc Try.prog Try.f6 Rows.fnExactHandOkRow.domain false) (Rows.fnExactHandOkSpec.post enc Try.prog Try.f6 false true false false) := by
  refine returnsInHanded_of_change (C := Try.checked) own started (by kernel_rfl) Try.func6
    (ChangeSpec.witness6 (enc := enc) (C := Try.checked) false ⟨#[], #[.agg #[.int .i64 0, .int .i64 0, .int .i64 0, .int .i64 0, .int .i64 0, .int .i64 0, .int .i64 0, .int .i64 0, .int .i64 0, .int .i64 0, .int .i64 0, .slice none 0 0, .int .i64 0, .int .i64 0, .int .i64 0, .int .i64 0]], []⟩ 8 (by kernel_rfl) (by kernel_rfl) (by kernel_rfl) (by kernel_rfl)) ?_
  intro W base args ds gs before hval0 hW hcnd _
  have hval : ∀ (j : Nat) t v, Try.f6.params[j]? = some t → args[j]? = some v → Value.okWide Try.prog W .any base t v := hval0
  have hW' := hW
  obtain ⟨p, q, hA0, hV, rfl, hfz, hnd⟩ := hW
  have hA : DataW.TrodAll enc Try.prog W 0 (fun _ => true) true Try.f6.params.toList args.toList ds p := hA0
  rw [Try.params6] at hA hval
  obtain ⟨v0, d0, rfl, rfl, h0⟩ := trodAll_one hA
  obtain ⟨rfl, rfl⟩ := trodVars_none hV
  have k0 := h0
  have lt0 : ∀ x ∈ p, x.block < W.heap.size := by obtain ⟨m, hm⟩ := k0; exact DataW.trod_lt m _ _ _ hm
  obtain ⟨hh0, A0, n0, c0, rfl, hR0, hn0, hc0⟩ := Hd_of_trod (hval 0 49 v0 rfl rfl) h0
  clear hA0 hval0
  refine (lawHandOk_walk hh0.pos hh0.cc hh0.ck hh0.cv hh0.cur hh0.want hh0.key hh0.kid hh0.old hh0.next hh0.new hh0.thn hh0.beg hh0.rep hh0.out hh0.st A0 n0 c0 (handOk hh0) W hR0 (Nat.le_trans hn0 hc0) (fun A c w hs _ _ h => sHandOk_any hh0 A n0 c w h) (fun A c w hs hc hc2 h => iHandOk_any hh0 A n0 c w h hs hc hc2) ).mono fun e W' ⟨he, bel⟩ => ?_
  subst he
  exact ⟨_, rfl, _, _, _, [], _, [], hW', trodAll_mk1 (shut_bool Try.underlying4 _), trodAll_mk1 (Below.trod laidOut (by kernel_rfl) (of_decide_eq_true (by kernel_rfl)) k0 bel lt0), rfl, bel.frame _, fun h => by cases h⟩

theorem exactHandOk_holds : Rows.FnExactHandOkSaid :=
  OpenClaim.holds_of_wide 6 Try.f6 rfl rfl rfl rfl rfl rfl rfl ⟨rfl, rfl, rfl, rfl, rfl⟩ rfl rfl rfl rfl rfl (by kernel_rfl) Try.func6 (by kernel_rfl)
    (of_decide_eq_true (by kernel_rfl)) (by unfold Func.isWrapper; first | (rw [if_pos (by decide +kernel)]; kernel_rfl) | (rw [if_neg (by decide +kernel)]; exact ⟨rfl, rfl⟩))
    (fun os started H enc _ => exactHandOk_lifted os started H enc)
#print axioms exactHandOk_holds
end Go.Proofs.Ytjookicpmjmdhaa

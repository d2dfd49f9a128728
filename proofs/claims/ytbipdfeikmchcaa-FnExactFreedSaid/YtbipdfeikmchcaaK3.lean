/- The walks of take and release. -/
import Derived.Test.YtbipdfeikmchcaaK2
namespace Go.Proofs.Ytbipdfeikmchcaa
open Go.RowKit

theorem hasKey {x : Int} (hx : (Lit.int .i64 x).wf = true) : keyOf Try.prog 2 (.int .i64 x) = some (.int .i64 x) := Maps.keyOf_int_mk Try.underlying2 hx

set_option maxRecDepth 100000 in
theorem take_any (b n : Nat) (o : Int → Int) (x q : Int) (w : World) (h : Held w b n o) (hx : (Lit.int .i64 x).wf = true) (hq : 1 ≤ q ∧ q ≤ 6) (hn : n ≤ 1048576) :
    Calls Try.prog 46 #[.map (some b), .int .i64 x, .int .i64 q] w fun e w' => e = .returned (.bool (decide (o x = 0))) ∧ Held w' b (n + 1) (if o x = 0 then upd o x q else o) ∧ w.grownBy w' (some b) := by
  obtain ⟨D, hown, hkeep⟩ := h
  have KP := Lib.hid hkeep
  have ON := Lib.hid hown
  clear hown hkeep
  by_cases hz : o x = 0
  · go_enter Try.func46, Try.ntmps46
    go_wp2_with (first
      | (at_lookup; refine wpList_lookup_own_int _ rfl _ _ 61 rfl 2 2 .i64 lawI Try.underlying61 Try.underlying2 (zeroI _) b n _ rfl ON.out _ _ rfl (hasKey hx) ?_; intro c hat hwc; obtain rfl := (KP.out.at hat).symm.trans hz; clear hat hwc)
      | (at_mapUpdate; refine wpList_mapUpdate_own _ rfl _ _ _ 61 rfl 2 2 lawI Try.underlying61 _ b n _ rfl ON.out (by unfold maxLen; omega) _ _ _ rfl rfl (hasKey hx) _ [] (plainElem_int Try.underlying2 (wf_small (by omega) (by omega))) ?_; intro w5 hown5 hgrow5; go_frame))
    go_ret
    exact ⟨rfl, ⟨_, hown5, KP.out.put _ _ (by omega)⟩, hgrow5⟩
  · go_enter Try.func46, Try.ntmps46
    go_wp2_with (at_lookup; refine wpList_lookup_own_int _ rfl _ _ 61 rfl 2 2 .i64 lawI Try.underlying61 Try.underlying2 (zeroI _) b n _ rfl ON.out _ _ rfl (hasKey hx) ?_; intro c hat hwc; have gz : (c != 0) = true := (by rw [← KP.out.at hat]; simpa using hz); clear hat hwc)
    go_ret
    exact ⟨rfl, ⟨D, ON.out.mono (Nat.le_succ _), KP.out⟩, World.grownBy.refl _ _⟩

set_option maxRecDepth 100000 in
theorem release_any (b n : Nat) (o : Int → Int) (x q : Int) (w : World) (h : Held w b n o) (hx : (Lit.int .i64 x).wf = true) :
    Calls Try.prog 48 #[.map (some b), .int .i64 x, .int .i64 q] w fun e w' => e = .returned (.bool (decide (o x = q))) ∧ Held w' b n (if o x = q then upd o x 0 else o) ∧ w.grownBy w' (some b) := by
  obtain ⟨D, hown, hkeep⟩ := h
  have KP := Lib.hid hkeep
  have ON := Lib.hid hown
  clear hown hkeep
  by_cases hz : o x = q
  · have hqq : (q != q) = false := by simp
    go_enter Try.func48, Try.ntmps48
    go_wp2_with (first
      | (at_lookup; refine wpList_lookup_own_int _ rfl _ _ 61 rfl 2 2 .i64 lawI Try.underlying61 Try.underlying2 (zeroI _) b n _ rfl ON.out _ _ rfl (hasKey hx) ?_; intro c hat hwc; obtain rfl := (KP.out.at hat).symm.trans hz; clear hat hwc)
      | (at_delete; refine wpList_delete_own _ rfl _ _ 61 2 rfl 2 lawI Try.underlying61 _ b n _ rfl ON.out _ _ rfl (hasKey hx) ?_; intro w5 hown5 hturn5; go_frame))
    go_ret
    exact ⟨rfl, ⟨_, hown5, KP.out.del _⟩, hturn5.grown⟩
  · go_enter Try.func48, Try.ntmps48
    go_wp2_with (at_lookup; refine wpList_lookup_own_int _ rfl _ _ 61 rfl 2 2 .i64 lawI Try.underlying61 Try.underlying2 (zeroI _) b n _ rfl ON.out _ _ rfl (hasKey hx) ?_; intro c hat hwc; have gz : (c != q) = true := (by rw [← KP.out.at hat]; simpa using hz); clear hat hwc)
    go_ret
    exact ⟨rfl, ⟨D, ON.out, KP.out⟩, World.grownBy.refl _ _⟩
end Go.Proofs.Ytbipdfeikmchcaa

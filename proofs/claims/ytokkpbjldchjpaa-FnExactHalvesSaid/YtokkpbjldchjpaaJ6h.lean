/- The walk of the code's own Halves. (Made by genJ6.py.) -/
import Derived.Test.YtokkpbjldchjpaaJ6
namespace Go.Proofs.Ytokkpbjldchjpaa
open Go.RowKit

/-- Both halves: the lower one's list is the front of one that is longer. -/
def GivesH (w : World) (l u : Nd) (e : Ending) (w' : World) : Prop :=
  ∃ ga ca F1 gm F2, e = .returned (.tuple #[ndV l (some ⟨ga, 0, none⟩) 3 3, ndV u (some ⟨gm, 0, none⟩) 2 2]) ∧ OwnS w' (.slice (some ⟨ga, 0, none⟩) 3 ca) l.ps F1 ∧ OwnS w' (.slice (some ⟨gm, 0, none⟩) 2 2) u.ps F2 ∧
    Apart F1 F2 ∧ Fresh F1 w w' ∧ Fresh F2 w w' ∧ Below w.heap.size w w'
/-- Two nodes and an answer, each node's list of the call's own, whatever its spare room. -/
def GivesNC (w : World) (l u : Nd) (b : Bool) (e : Ending) (w' : World) : Prop :=
  ∃ A1 c1 d1 F1 A2 c2 d2 F2, e = .returned (.tuple #[ndV l A1 l.ps.length c1, ndV u A2 u.ps.length c2, .bool b]) ∧ OwnS w' (.slice A1 l.ps.length d1) l.ps F1 ∧ OwnS w' (.slice A2 u.ps.length d2) u.ps F2 ∧
    Apart F1 F2 ∧ Fresh F1 w w' ∧ Fresh F2 w w' ∧ Below w.heap.size w w' ∧ (l.ps.length ≤ c1 ∧ c1 ≤ 9223372036854775807) ∧ (u.ps.length ≤ c2 ∧ c2 ≤ 9223372036854775807)
theorem none_NC {w w' : World} (b : Below w.heap.size w w') : GivesNC w zeroN zeroN false (.returned (.tuple #[.agg #[.int .i64 0, .slice none 0 0, .int .i64 0, .int .i64 0, .int .i64 0], .agg #[.int .i64 0, .slice none 0 0, .int .i64 0, .int .i64 0, .int .i64 0], .bool false])) w' :=
  ⟨none, 0, 0, fun _ => False, none, 0, 0, fun _ => False, rfl, OwnS.nil _ _, OwnS.nil _ _, fun _ hk => absurd hk id, fun _ hk => absurd hk id, fun _ hk => absurd hk id, b, ⟨Nat.zero_le _, by omega⟩, ⟨Nat.zero_le _, by omega⟩⟩
theorem Sep.givesH {w0 w : World} {L : List Item} (h : Sep noX w0 L w) (i j : Nat) (hij : j < i) {l u : Nd} {ga gm n ca : Nat} {zs : List Pr} {F G : FP} (e : L[i]? = some (ow (.slice (some ⟨ga, 0, none⟩) n ca) zs F)) (e' : L[j]? = some (ow (.slice (some ⟨gm, 0, none⟩) 2 2) u.ps G))
    (hn : 3 ≤ n) (hl : l.ps = zs.take 3) : GivesH w0 l u (.returned (.tuple #[ndV l (some ⟨ga, 0, none⟩) 3 3, ndV u (some ⟨gm, 0, none⟩) 2 2])) w := by
  obtain ⟨h1, h2, h3⟩ := h.ends i e
  obtain ⟨h4, h5, _⟩ := h.ends j e'
  exact ⟨ga, ca, F, gm, G, rfl, by rw [hl]; exact h1.frontE hn, h4, (h.two j i hij e' e).symm, h2, h5, h3⟩
theorem RP.key0 {w : World} {B : Nat} {g : Nat} {zs : List Pr} (h : RP w B (some ⟨g, 0, none⟩) 2 (zs.drop 3)) (hl : zs.length = 5) : w.cell? ⟨g, 0, none⟩ = some (.int .i64 (kAt zs 3)) := by
  obtain ⟨b, off, e, _, hc⟩ := h.2 (by omega)
  cases e
  have := (hc 0 (by omega)).1
  rw [show kAt (zs.drop 3) 0 = kAt zs 3 from by unfold kAt; simp] at this
  exact this
theorem pOk_right {zs : List Pr} (h : pOk zs = true) (j : Nat) (hj : j < zs.length) : rightB (kAt zs j) (vAt zs j) = true := ((pOk_iff zs).1 h).1 j hj |>.1
theorem half_full (x : Nd) (k v at_ : Int) (hl : x.ps.length = 4) (hh : hitB x.ps k = false) (h1 : nodeOk (loN x k v at_) = true) (h2 : nodeOk (upN x k v) = true) : rightB k v = true ∧ numB at_ = true := by
  have p1 := nodeOk_pOk h1
  have p2 := nodeOk_pOk h2
  have hz : (insL x.ps k v).length = 5 := by rw [insL_length, hh, hl]; rfl
  have hg : geIx x.ps k ≤ 4 := by have := geIx_le x.ps k; omega
  have hk : (insL x.ps k v)[geIx x.ps k]? = some (k, v) := by
    unfold insL
    rw [List.append_assoc, List.getElem?_append_right (by rw [List.length_take]; omega), List.length_take, Nat.min_eq_left (by omega)]
    simp
  have l1 : (loN x k v at_).ps = (insL x.ps k v).take 3 := rfl
  have l2 : (upN x k v).ps = (insL x.ps k v).drop 3 := rfl
  rw [l1] at p1
  rw [l2] at p2
  constructor
  · rcases Nat.lt_or_ge (geIx x.ps k) 3 with h3 | h3
    · have h4 := pOk_right p1 (geIx x.ps k) (by rw [List.length_take]; omega)
      have h5 : ((insL x.ps k v).take 3)[geIx x.ps k]? = some (k, v) := by rw [List.getElem?_take_of_lt h3]; exact hk
      unfold kAt vAt at h4
      rw [List.getD_eq_getElem?_getD, h5] at h4
      exact h4
    · have h4 := pOk_right p2 (geIx x.ps k - 3) (by rw [List.length_drop]; omega)
      have h5 : ((insL x.ps k v).drop 3)[geIx x.ps k - 3]? = some (k, v) := by rw [List.getElem?_drop, show 3 + (geIx x.ps k - 3) = geIx x.ps k by omega]; exact hk
      unfold kAt vAt at h4
      rw [List.getD_eq_getElem?_getD, h5] at h4
      exact h4
  · have h4 := pOk_right p2 0 (by rw [List.length_drop]; omega)
    have h5 : kAt ((insL x.ps k v).drop 3) 0 = kAt (insL x.ps k v) 3 := by unfold kAt; simp
    rw [h5] at h4
    have h6 : (loN x k v at_).hi ≠ -1 := by
      show kAt (insL x.ps k v) 3 ≠ -1
      unfold rightB at h4
      simp only [decide_eq_true_eq] at h4
      omega
    unfold nodeOk at h1
    rw [if_neg h6] at h1
    simp only [Bool.and_eq_true] at h1
    exact h1.2.1.2
theorem half_is (x : Nd) (k v at_ : Int) : halfB x k v at_ = (fullB x k && (nodeOk (loN x k v at_) && nodeOk (upN x k v))) := by
  unfold halfB
  cases h1 : nodeOk (loN x k v at_)
  · simp
  cases h2 : nodeOk (upN x k v)
  · simp
  unfold guardH fullB
  by_cases hl : x.ps.length = 4
  · cases hh : hitB x.ps k
    · obtain ⟨h3, h4⟩ := half_full x k v at_ hl hh h1 h2
      rw [h3, h4]
      simp [hl]
    · simp
  · simp [hl]

set_option maxRecDepth 100000 in
set_option maxHeartbeats 16000000 in
theorem iHalve_any (x : Nd) (A : Option Addr) (c : Nat) (k v at_ : Int) (w0 : World) (hP : RP w0 w0.heap.size A 4 x.ps) (hc : 4 ≤ c) (hc2 : c ≤ 9223372036854775807) (hh : hitB x.ps k = false) :
    Calls Try.prog 30 #[ndV x A 4 c, .agg #[.int .i64 k, .int .i64 v], .int .i64 at_] w0 (GivesH w0 (loN x k v at_) (upN x k v)) := by
  have hz : (insL x.ps k v).length = 5 := by rw [insL_length, hh, hP.1]; rfl
  have hg : geIx x.ps k ≤ 4 := by have := geIx_le x.ps k; rw [hP.1] at this; exact this
  have hi : insL x.ps k v = x.ps.take (geIx x.ps k) ++ [(k, v)] ++ x.ps.drop (geIx x.ps k) := by unfold insL; rw [hh]; rfl
  have FK := Lib.hid (fun w h => find_any A 4 c x.ps k w h (by omega))
  have SP := Lib.hid (fun w A' c' h h' => spliced_any A A' 4 c 1 c' (geIx x.ps k) (geIx x.ps k) x.ps [(k, v)] w h h' (Nat.le_refl _) hg hc hc2 (by omega) (by omega))
  rw [← hi] at SP
  have HP := Lib.hid hP
  have HZ := Lib.hid hz
  obtain ⟨i0, hi0, hz0, hz1, hz2⟩ := info_parts pair_info
  clear hP hc hc2 hh hz hi hg
  unfold loN upN at *
  generalize insL x.ps k v = zs at *
  generalize geIx x.ps k = g1 at *
  generalize hitB x.ps k = q1 at *
  have S := Lib.hid (Sep.start noX w0)
  have tok0 : True := trivial
  have tok1 : True := trivial
  have tok2 : True := trivial
  have tok3 : True := trivial
  unfold ndV at *
  go_enter Try.func30, Try.ntmps30
  go_wp2_with (first
      | go_skip
      | (have _t := tok0; clear _t; refine wpList_op rfl (op_bx 26 _ rfl S.out _ rfl ?_); clear S tok0; intro gn w S; replace S := Lib.hid S)
      | (have _t := tok1; clear _t; refine wpList_op rfl (op_bx 28 _ rfl S.out _ rfl ?_); clear S tok1; intro gp w S; replace S := Lib.hid S)
      | (have _t := tok2; clear _t; refine wpList_op rfl (op_nx 26 rfl S.out _ Try.zeroValue26 ?_); clear S tok2; intro r1 w S; replace S := Lib.hid S)
      | (have _t := tok3; clear _t; refine wpList_op rfl (op_nx 26 rfl S.out _ Try.zeroValue26 ?_); clear S tok3; intro r2 w S; replace S := Lib.hid S)
      | (refine wpList_op rfl (op_get 24 _ rfl S.out 3 rfl _ rfl Try.isAgg24 _ rfl ?_))
      | (refine wpList_op rfl (op_get 2 _ rfl S.out 2 rfl _ rfl Try.isAgg2 _ rfl ?_)))
  refine (FK.out _ (HP.out.on S.out.below)).mono ?_
  rintro e w ⟨rfl, b⟩
  replace S := Lib.hid (S.out.call b)
  clear b
  go_wp2_with (first
      | go_skip
      | (refine wpList_op rfl (op_get 24 _ rfl S.out 3 rfl _ rfl Try.isAgg24 _ rfl ?_))
      | (refine wpList_op rfl (op_row 28 _ rfl S.out 2 rfl rfl Try.isAgg28 (by kernel_rfl) ?_)))
  have bX : Below w.heap.size w (w.alloc (.cells #[.int .i64 k, .int .i64 v] 28)) := (Below.refl _ _).alloc (Nat.le_refl _) _
  have BX := Lib.hid bX
  clear bX
  refine (SP.out _ _ _ (HP.out.on (S.out.call BX.out).below) ((one_row w _ k v).more (by simp))).mono ?_
  rintro e w2 hh
  obtain ⟨A5, ca, rfl, own, b⟩ := own_form hh
  rw [HZ.out] at own
  obtain ⟨ga, cap, hv, _, _⟩ := own.form (by omega)
  obtain ⟨rfl, rfl⟩ : A5 = some ⟨ga, 0, none⟩ ∧ ca = cap := by simpa using hv
  have HCA : Hid (5 ≤ ca ∧ ca ≤ 9223372036854775807) := Lib.hid (by
    obtain ⟨A9, c9, h9, h8, h7⟩ := own_shape own
    cases h9
    unfold maxLen at h7
    omega)
  rw [HZ.out]
  replace S := Lib.hid ((S.out.call BX.out).own b (F := fun k => k = ga) (OwnS.of_pairs own (fun k hk => by simpa [Value.ownBlock] using hk.symm)) (fun k hk => by have := own.lt ga rfl; subst hk; exact this))
  obtain ⟨FA, hFA⟩ : ∃ FA : FP, FA = fun k => k = ga := ⟨_, rfl⟩
  rw [← hFA] at S
  clear hh own hv b hFA BX
  go_wp2_with fail
  refine wp_region_ev (by kernel_rfl) _ (by kernel_rfl) (by kernel_rfl) 54 rfl (by kernel_rfl) (fun D V w => ∃ ga2 : Nat, ∃ ga3 : Nat, Sep noX w0 [ow (.slice (some ⟨ga, 0, none⟩) 5 ca) zs FA, bx r2 #[.int .i64 0, .slice none 0 0, .int .i64 0, .int .i64 0, .int .i64 0] 26, bx r1 #[.int .i64 0, .slice none 0 0, .int .i64 0, .int .i64 0, .int .i64 0] 26, bx gp #[.int .i64 k, .int .i64 v] 28, bx gn #[.int .i64 x.lv, .slice A 4 c, .int .i64 x.hi, .int .i64 x.ri, .int .i64 x.ow] 26, cnd (D 2) em (cnd (D 4) (bx ga2 #[.int .i64 0, .slice none 0 0, .int .i64 0, .int .i64 0, .int .i64 0] 26) (bx ga2 #[.int .i64 x.lv, .slice A 4 c, .int .i64 x.hi, .int .i64 x.ri, .int .i64 x.ow] 26)), cnd (D 3) em (cnd (D 5) (bx ga3 #[.int .i64 0, .slice none 0 0, .int .i64 0, .int .i64 0, .int .i64 0] 26) (bx ga3 #[.int .i64 x.lv, .slice A 4 c, .int .i64 x.hi, .int .i64 x.ri, .int .i64 x.ow] 26))] w ∧ (D 0 = true → V 0 = .agg #[.int .i64 x.lv, .slice A 4 c, .int .i64 x.hi, .int .i64 x.ri, .int .i64 x.ow]) ∧ (D 1 = true → V 1 = .agg #[.int .i64 x.lv, .slice A 4 c, .int .i64 x.hi, .int .i64 x.ri, .int .i64 x.ow]) ∧ (D 2 = true → V 2 = .pointer (some ⟨ga2, 0, none⟩)) ∧ (D 3 = true → V 3 = .pointer (some ⟨ga3, 0, none⟩)) ∧ (D 4 = true → D 2 = true) ∧ (D 5 = true → D 3 = true)) ?_ ?_ ?_
  · intro D hD
    have d2 := hD 2 (by decide)
    have d3 := hD 3 (by decide)
    have d4 := hD 4 (by decide)
    have d5 := hD 5 (by decide)
    exact ⟨0, 0, by rw [cnd_f d2, cnd_f d3]; exact S.out.drew.ems 2, (fun h => absurd h (by rw [hD 0 (by decide)]; exact Bool.false_ne_true)), (fun h => absurd h (by rw [hD 1 (by decide)]; exact Bool.false_ne_true)), (fun h => absurd h (by rw [hD 2 (by decide)]; exact Bool.false_ne_true)), (fun h => absurd h (by rw [hD 3 (by decide)]; exact Bool.false_ne_true)), (fun h => absurd h (by rw [hD 4 (by decide)]; exact Bool.false_ne_true)), (fun h => absurd h (by rw [hD 5 (by decide)]; exact Bool.false_ne_true))⟩
  · intro i o D V w a ho hI hDi haf hev
    obtain ⟨ga2, ga3, S, f0, f1, f2, f3, o4_2, o5_3⟩ := hI
    rcases i with _ | _ | _ | _ | _ | _ | i
    · obtain rfl := Option.some.inj (show some _ = some o from ho)
      exact op_row 26 _ rfl S 4 rfl ((hev.old 3 (by kernel_rfl)).trans rfl) Try.isAgg26 (by kernel_rfl) ⟨_, rfl, ga2, ga3, S, fun _ => rfl, f1, f2, f3, o4_2, o5_3⟩
    · obtain rfl := Option.some.inj (show some _ = some o from ho)
      exact op_row 26 _ rfl S 4 rfl ((hev.old 3 (by kernel_rfl)).trans rfl) Try.isAgg26 (by kernel_rfl) ⟨_, rfl, ga2, ga3, S, f0, fun _ => rfl, f2, f3, o4_2, o5_3⟩
    · obtain rfl := Option.some.inj (show some _ = some o from ho)
      have nst : D 4 = false := by
        cases hq : D 4 with
        | false => rfl
        | true => exact absurd (o4_2 hq) (by rw [hDi]; exact Bool.false_ne_true)
      refine op_nxAt 26 rfl S 5 (by simp only [List.getElem?_cons_succ, List.getElem?_cons_zero, cnd_f hDi]) _ Try.zeroValue26 (fun g w S => ⟨_, rfl, g, ga3, (by have e : updB D 2 4 = false := nst; rw [e]; exact S), f0, f1, fun _ => rfl, f3, fun _ => rfl, o5_3⟩)
    · obtain rfl := Option.some.inj (show some _ = some o from ho)
      have nst : D 5 = false := by
        cases hq : D 5 with
        | false => rfl
        | true => exact absurd (o5_3 hq) (by rw [hDi]; exact Bool.false_ne_true)
      refine op_nxAt 26 rfl S 6 (by simp only [List.getElem?_cons_succ, List.getElem?_cons_zero, cnd_f hDi]) _ Try.zeroValue26 (fun g w S => ⟨_, rfl, ga2, g, (by have e : updB D 3 5 = false := nst; rw [e]; exact S), f0, f1, f2, fun _ => rfl, o4_2, fun _ => rfl⟩)
    · obtain rfl := Option.some.inj (show some _ = some o from ho)
      have h2 : D 2 = true := by first | exact haf ⟨2, .data⟩ (by simp) rfl | exact haf ⟨2, .phase⟩ (by simp) rfl | exact haf ⟨2, .chain⟩ (by simp) rfl
      have h0 : D 0 = true := by first | exact haf ⟨0, .data⟩ (by simp) rfl | exact haf ⟨0, .phase⟩ (by simp) rfl | exact haf ⟨0, .chain⟩ (by simp) rfl
      have ha : D 2 = true := by first | exact haf ⟨2, .data⟩ (by simp) rfl | exact haf ⟨2, .phase⟩ (by simp) rfl | exact haf ⟨2, .chain⟩ (by simp) rfl
      exact op_putR 26 _ _ rfl S 5 (g := ga2) (C := #[.int .i64 0, .slice none 0 0, .int .i64 0, .int .i64 0, .int .i64 0]) (t := 26) (by simp only [List.getElem?_cons_succ, List.getElem?_cons_zero, cnd_t ha, cnd_f hDi]) ((hev.new 2 _ 11 rfl rfl h2).trans (f2 h2)) _ ((hev.new 0 _ 28 rfl rfl h0).trans (f0 h0)) rfl (by kernel_rfl) rfl (fun w S => ⟨_, rfl, ga2, ga3, (by have e : updB D 4 2 = true := ha; rw [e]; exact S), f0, f1, f2, f3, fun _ => h2, o5_3⟩)
    · obtain rfl := Option.some.inj (show some _ = some o from ho)
      have h3 : D 3 = true := by first | exact haf ⟨3, .data⟩ (by simp) rfl | exact haf ⟨3, .phase⟩ (by simp) rfl | exact haf ⟨3, .chain⟩ (by simp) rfl
      have h1 : D 1 = true := by first | exact haf ⟨1, .data⟩ (by simp) rfl | exact haf ⟨1, .phase⟩ (by simp) rfl | exact haf ⟨1, .chain⟩ (by simp) rfl
      have ha : D 3 = true := by first | exact haf ⟨3, .data⟩ (by simp) rfl | exact haf ⟨3, .phase⟩ (by simp) rfl | exact haf ⟨3, .chain⟩ (by simp) rfl
      exact op_putR 26 _ _ rfl S 6 (g := ga3) (C := #[.int .i64 0, .slice none 0 0, .int .i64 0, .int .i64 0, .int .i64 0]) (t := 26) (by simp only [List.getElem?_cons_succ, List.getElem?_cons_zero, cnd_t ha, cnd_f hDi]) ((hev.new 3 _ 12 rfl rfl h3).trans (f3 h3)) _ ((hev.new 1 _ 29 rfl rfl h1).trans (f1 h1)) rfl (by kernel_rfl) rfl (fun w S => ⟨_, rfl, ga2, ga3, (by have e : updB D 5 3 = true := ha; rw [e]; exact S), f0, f1, f2, f3, o4_2, fun _ => h3⟩)
    · exact absurd ho (by simp)
  intro V w hI
  obtain ⟨ga2, ga3, S, f0, f1, f2, f3, o4_2, o5_3⟩ := hI
  replace f0 := f0 rfl
  replace f1 := f1 rfl
  replace f2 := f2 rfl
  replace f3 := f3 rfl
  replace S : Hid (Sep noX w0 [ow (.slice (some ⟨ga, 0, none⟩) 5 ca) zs FA, bx r2 #[.int .i64 0, .slice none 0 0, .int .i64 0, .int .i64 0, .int .i64 0] 26, bx r1 #[.int .i64 0, .slice none 0 0, .int .i64 0, .int .i64 0, .int .i64 0] 26, bx gp #[.int .i64 k, .int .i64 v] 28, bx gn #[.int .i64 x.lv, .slice A 4 c, .int .i64 x.hi, .int .i64 x.ri, .int .i64 x.ow] 26, bx ga2 #[.int .i64 x.lv, .slice A 4 c, .int .i64 x.hi, .int .i64 x.ri, .int .i64 x.ow] 26, bx ga3 #[.int .i64 x.lv, .slice A 4 c, .int .i64 x.hi, .int .i64 x.ri, .int .i64 x.ow] 26] w) := Lib.hid S
  simp only [putF, Act.put, List.setIfInBounds_toArray, List.set_cons_succ, List.set_cons_zero, f0, f1, f2, f3]
  clear f0 f1 f2 f3 o4_2 o5_3
  go_wp2_with (at_make; refine wpList_make_full _ rfl _ _ 24 rfl w.heap.size 28 i0 (.agg #[.int .i64 0, .int .i64 0]) 2 Try.underlying24 hi0 hz0 hz1 .i64 .i64 _ _ 2 rfl rfl rfl rfl (by rw [hz2]; omega) (by unfold maxLen; omega) (Nat.le_refl _) ?_)
  intro w1 hown hgrow
  have hown : w1.ownsRow w.heap.size 28 2 (.slice (some ⟨w.heap.size, 0, none⟩) 2 2) 2 (PL [((0 : Int), (0 : Int)), (0, 0)]) := by
    have := made_noughts 2
    rw [show List.replicate 2 ((0 : Int), (0 : Int)) = [(0, 0), (0, 0)] from rfl] at this
    rw [← this]; exact hown
  have hb1 : Below w.heap.size w w1 := (Below.refl _ _).grown hgrow (Nat.le_refl _) (by intro k hk; cases hk)
  have S1 := Lib.hid (S.out.own hb1 (F := fun k => k = w.heap.size) (OwnS.of_pairs hown (fun k hk => by simpa [Value.ownBlock] using hk.symm)) (fun k hk => by have := hown.lt w.heap.size rfl; subst hk; exact this))
  clear hown hb1 hgrow S
  obtain ⟨FM, hFM⟩ : ∃ FM : FP, FM = fun k => k = w.heap.size := ⟨_, rfl⟩
  rw [← hFM] at S1
  clear hFM
  generalize w.heap.size = gm at *
  clear w
  obtain ⟨w, rfl⟩ : ∃ w, w = w1 := ⟨_, rfl⟩
  have S := S1
  clear S1
  go_wp2_with (first
      | go_skip
      | (refine wpList_op rfl (op_put1_7 24 _ _ rfl S _ rfl _ rfl rfl (by kernel_rfl) (of_decide_eq_true rfl) ?_); clear S; intro w S; replace S : Hid (Sep noX w0 [ow (.slice (some ⟨gm, 0, none⟩) 2 2) [((0 : Int), (0 : Int)), (0, 0)] FM, ow (.slice (some ⟨ga, 0, none⟩) 5 ca) zs FA, bx r2 #[.int .i64 0, .slice none 0 0, .int .i64 0, .int .i64 0, .int .i64 0] 26, bx r1 #[.int .i64 0, .slice none 0 0, .int .i64 0, .int .i64 0, .int .i64 0] 26, bx gp #[.int .i64 k, .int .i64 v] 28, bx gn #[.int .i64 x.lv, .slice A 4 c, .int .i64 x.hi, .int .i64 x.ri, .int .i64 x.ow] 26, bx ga2 #[.int .i64 x.lv, .slice A 4 c, .int .i64 x.hi, .int .i64 x.ri, .int .i64 x.ow] 26, bx ga3 #[.int .i64 x.lv, .slice (some ⟨gm, 0, none⟩) 2 2, .int .i64 x.hi, .int .i64 x.ri, .int .i64 x.ow] 26] w) := S))
  refine wp_region_ev (by kernel_rfl) _ (by kernel_rfl) (by kernel_rfl) 54 rfl (by kernel_rfl) (fun D V w => Sep noX w0 [cnd (D 4) (ow (.slice (some ⟨gm, 0, none⟩) 2 2) [((0 : Int), (0 : Int)), (0, 0)] FM) (ow (.slice (some ⟨gm, 0, none⟩) 2 2) (zs.drop 3) FM), ow (.slice (some ⟨ga, 0, none⟩) 5 ca) zs FA, bx r2 #[.int .i64 0, .slice none 0 0, .int .i64 0, .int .i64 0, .int .i64 0] 26, bx r1 #[.int .i64 0, .slice none 0 0, .int .i64 0, .int .i64 0, .int .i64 0] 26, bx gp #[.int .i64 k, .int .i64 v] 28, bx gn #[.int .i64 x.lv, .slice A 4 c, .int .i64 x.hi, .int .i64 x.ri, .int .i64 x.ow] 26, bx ga2 #[.int .i64 x.lv, .slice A 4 c, .int .i64 x.hi, .int .i64 x.ri, .int .i64 x.ow] 26, bx ga3 #[.int .i64 x.lv, .slice (some ⟨gm, 0, none⟩) 2 2, .int .i64 x.hi, .int .i64 x.ri, .int .i64 x.ow] 26] w ∧ (D 0 = true → V 0 = .pointer (some ⟨ga3, 1, none⟩)) ∧ (D 1 = true → V 1 = .slice (some ⟨gm, 0, none⟩) 2 2) ∧ (D 2 = true → V 2 = .slice (some ⟨ga, 0, none⟩) 5 ca) ∧ (D 3 = true → V 3 = .slice (some ⟨ga, 0 + 3 * 2, none⟩) (5 - 3) (ca - 3)) ∧ (D 4 = true → V 4 = .int .i64 2)) ?_ ?_ ?_
  · intro D hD
    have d4 := hD 4 (by decide)
    exact ⟨by simp only [cnd_f d4]; exact S.out.drew.ems 0, (fun h => absurd h (by rw [hD 0 (by decide)]; exact Bool.false_ne_true)), (fun h => absurd h (by rw [hD 1 (by decide)]; exact Bool.false_ne_true)), (fun h => absurd h (by rw [hD 2 (by decide)]; exact Bool.false_ne_true)), (fun h => absurd h (by rw [hD 3 (by decide)]; exact Bool.false_ne_true)), (fun h => absurd h (by rw [hD 4 (by decide)]; exact Bool.false_ne_true))⟩
  · intro i o D V w a ho hI hDi haf hev
    obtain ⟨S, f0, f1, f2, f3, f4⟩ := hI
    rcases i with _ | _ | _ | _ | _ | i
    · obtain rfl := Option.some.inj (show some _ = some o from ho)
      exact op_field _ _ _ rfl ((hev.old 12 (by kernel_rfl)).trans rfl) (by kernel_rfl) ⟨_, rfl, S, fun _ => rfl, f1, f2, f3, f4⟩
    · obtain rfl := Option.some.inj (show some _ = some o from ho)
      have h0 : D 0 = true := by first | exact haf ⟨0, .data⟩ (by simp) rfl | exact haf ⟨0, .phase⟩ (by simp) rfl | exact haf ⟨0, .chain⟩ (by simp) rfl
      exact op_get 24 _ rfl S 7 rfl 1 ((hev.new 0 _ 35 rfl rfl h0).trans (f0 h0)) Try.isAgg24 _ rfl ⟨_, rfl, S, f0, fun _ => rfl, f2, f3, f4⟩
    · obtain rfl := Option.some.inj (show some _ = some o from ho)
      exact op_move (.inl rfl) ((hev.old 10 (by kernel_rfl)).trans rfl) ⟨_, rfl, S, f0, f1, fun _ => rfl, f3, f4⟩
    · obtain rfl := Option.some.inj (show some _ = some o from ho)
      have h2 : D 2 = true := by first | exact haf ⟨2, .data⟩ (by simp) rfl | exact haf ⟨2, .phase⟩ (by simp) rfl | exact haf ⟨2, .chain⟩ (by simp) rfl
      exact op_slFrom _ 28 2 3 _ rfl Try.underlying24 Try.sizeOf28 ((hev.new 2 _ 37 rfl rfl h2).trans (f2 h2)) (by omega) (by have := HCA.out; omega) (by have := HCA.out; omega) ⟨_, rfl, S, f0, f1, f2, fun _ => rfl, f4⟩
    · obtain rfl := Option.some.inj (show some _ = some o from ho)
      have h1 : D 1 = true := by first | exact haf ⟨1, .data⟩ (by simp) rfl | exact haf ⟨1, .phase⟩ (by simp) rfl | exact haf ⟨1, .chain⟩ (by simp) rfl
      have h3 : D 3 = true := by first | exact haf ⟨3, .data⟩ (by simp) rfl | exact haf ⟨3, .phase⟩ (by simp) rfl | exact haf ⟨3, .chain⟩ (by simp) rfl
      have hx0 := ((hev.new 1 _ 36 rfl rfl h1).trans (f1 h1))
      have hx1 := ((hev.new 3 _ 38 rfl rfl h3).trans (f3 h3))
      have rp := (OwnS.rp (S.get 1 rfl) HZ.out).drop3
      exact op_copyP _ _ rfl S 0 (g := gm) (m := 2) (c := 2) (xs := [((0 : Int), (0 : Int)), (0, 0)]) (F := FM) (by simp only [List.getElem?_cons_zero, cnd_f hDi]) hx0 rfl rp hx1 (by omega) (fun w S => ⟨_, rfl, S, f0, f1, f2, f3, fun _ => rfl⟩)
    · exact absurd ho (by simp)
  intro V w hI
  obtain ⟨S, f0, f1, f2, f3, f4⟩ := hI
  replace f0 := f0 rfl
  replace f1 := f1 rfl
  replace f2 := f2 rfl
  replace f3 := f3 rfl
  replace f4 := f4 rfl
  replace S : Hid (Sep noX w0 [ow (.slice (some ⟨gm, 0, none⟩) 2 2) (zs.drop 3) FM, ow (.slice (some ⟨ga, 0, none⟩) 5 ca) zs FA, bx r2 #[.int .i64 0, .slice none 0 0, .int .i64 0, .int .i64 0, .int .i64 0] 26, bx r1 #[.int .i64 0, .slice none 0 0, .int .i64 0, .int .i64 0, .int .i64 0] 26, bx gp #[.int .i64 k, .int .i64 v] 28, bx gn #[.int .i64 x.lv, .slice A 4 c, .int .i64 x.hi, .int .i64 x.ri, .int .i64 x.ow] 26, bx ga2 #[.int .i64 x.lv, .slice A 4 c, .int .i64 x.hi, .int .i64 x.ri, .int .i64 x.ow] 26, bx ga3 #[.int .i64 x.lv, .slice (some ⟨gm, 0, none⟩) 2 2, .int .i64 x.hi, .int .i64 x.ri, .int .i64 x.ow] 26] w) := Lib.hid S
  simp only [putF, Act.put, List.setIfInBounds_toArray, List.set_cons_succ, List.set_cons_zero, f0, f1, f2, f3, f4]
  clear f0 f1 f2 f3 f4
  go_wp2_with (first
      | go_skip
      | (refine wpList_op rfl (op_slTo3 _ 28 2 3 _ rfl Try.underlying24 Try.sizeOf28 rfl (by have := HCA.out; omega) (by omega) ?_))
      | (refine wpList_op rfl (op_put1_6 24 _ _ rfl S _ rfl _ rfl rfl (by kernel_rfl) (of_decide_eq_true rfl) ?_); clear S; intro w S; replace S : Hid (Sep noX w0 [ow (.slice (some ⟨gm, 0, none⟩) 2 2) (zs.drop 3) FM, ow (.slice (some ⟨ga, 0, none⟩) 5 ca) zs FA, bx r2 #[.int .i64 0, .slice none 0 0, .int .i64 0, .int .i64 0, .int .i64 0] 26, bx r1 #[.int .i64 0, .slice none 0 0, .int .i64 0, .int .i64 0, .int .i64 0] 26, bx gp #[.int .i64 k, .int .i64 v] 28, bx gn #[.int .i64 x.lv, .slice A 4 c, .int .i64 x.hi, .int .i64 x.ri, .int .i64 x.ow] 26, bx ga2 #[.int .i64 x.lv, .slice (some ⟨ga, 0, none⟩) 3 3, .int .i64 x.hi, .int .i64 x.ri, .int .i64 x.ow] 26, bx ga3 #[.int .i64 x.lv, .slice (some ⟨gm, 0, none⟩) 2 2, .int .i64 x.hi, .int .i64 x.ri, .int .i64 0] 26] w) := S)
      | (refine wpList_op rfl (op_get 24 _ rfl S.out 7 rfl _ rfl Try.isAgg24 _ rfl ?_))
      | (refine wpList_op rfl (op_idx _ _ _ rfl 28 2 Try.underlying24 Try.sizeOf28 rfl (k := 0) rfl (by omega) ?_))
      | (have ck := RP.key0 (OwnS.rp (m := 2) (S.out.get 0 rfl) (by rw [List.length_drop, HZ.out])) HZ.out; refine wpList_op rfl (op_cell 2 _ rfl rfl Try.isAgg2 ck ?_); clear ck)
      | (refine wpList_op rfl (op_put1_6 2 _ _ rfl S 2 rfl _ rfl rfl (by kernel_rfl) (of_decide_eq_true rfl) ?_); clear S; intro w S; replace S : Hid (Sep noX w0 [ow (.slice (some ⟨gm, 0, none⟩) 2 2) (zs.drop 3) FM, ow (.slice (some ⟨ga, 0, none⟩) 5 ca) zs FA, bx r2 #[.int .i64 0, .slice none 0 0, .int .i64 0, .int .i64 0, .int .i64 0] 26, bx r1 #[.int .i64 0, .slice none 0 0, .int .i64 0, .int .i64 0, .int .i64 0] 26, bx gp #[.int .i64 k, .int .i64 v] 28, bx gn #[.int .i64 x.lv, .slice A 4 c, .int .i64 x.hi, .int .i64 x.ri, .int .i64 x.ow] 26, bx ga2 #[.int .i64 x.lv, .slice (some ⟨ga, 0, none⟩) 3 3, .int .i64 (kAt zs 3), .int .i64 x.ri, .int .i64 x.ow] 26, bx ga3 #[.int .i64 x.lv, .slice (some ⟨gm, 0, none⟩) 2 2, .int .i64 x.hi, .int .i64 x.ri, .int .i64 0] 26] w) := S)
      | (refine wpList_op rfl (op_put1_6 2 _ _ rfl S 3 rfl _ rfl rfl (by kernel_rfl) (of_decide_eq_true rfl) ?_); clear S; intro w S; replace S : Hid (Sep noX w0 [ow (.slice (some ⟨gm, 0, none⟩) 2 2) (zs.drop 3) FM, ow (.slice (some ⟨ga, 0, none⟩) 5 ca) zs FA, bx r2 #[.int .i64 0, .slice none 0 0, .int .i64 0, .int .i64 0, .int .i64 0] 26, bx r1 #[.int .i64 0, .slice none 0 0, .int .i64 0, .int .i64 0, .int .i64 0] 26, bx gp #[.int .i64 k, .int .i64 v] 28, bx gn #[.int .i64 x.lv, .slice A 4 c, .int .i64 x.hi, .int .i64 x.ri, .int .i64 x.ow] 26, bx ga2 #[.int .i64 x.lv, .slice (some ⟨ga, 0, none⟩) 3 3, .int .i64 (kAt zs 3), .int .i64 at_, .int .i64 x.ow] 26, bx ga3 #[.int .i64 x.lv, .slice (some ⟨gm, 0, none⟩) 2 2, .int .i64 x.hi, .int .i64 x.ri, .int .i64 0] 26] w) := S)
      | (refine wpList_op rfl (op_put1_7 2 _ _ rfl S _ rfl _ rfl rfl (by kernel_rfl) (of_decide_eq_true rfl) ?_); clear S; intro w S; replace S : Hid (Sep noX w0 [ow (.slice (some ⟨gm, 0, none⟩) 2 2) (zs.drop 3) FM, ow (.slice (some ⟨ga, 0, none⟩) 5 ca) zs FA, bx r2 #[.int .i64 0, .slice none 0 0, .int .i64 0, .int .i64 0, .int .i64 0] 26, bx r1 #[.int .i64 0, .slice none 0 0, .int .i64 0, .int .i64 0, .int .i64 0] 26, bx gp #[.int .i64 k, .int .i64 v] 28, bx gn #[.int .i64 x.lv, .slice A 4 c, .int .i64 x.hi, .int .i64 x.ri, .int .i64 x.ow] 26, bx ga2 #[.int .i64 x.lv, .slice A 4 c, .int .i64 x.hi, .int .i64 x.ri, .int .i64 x.ow] 26, bx ga3 #[.int .i64 x.lv, .slice (some ⟨gm, 0, none⟩) 2 2, .int .i64 x.hi, .int .i64 x.ri, .int .i64 0] 26] w) := S))
  refine wp_region_ev (by kernel_rfl) _ (by kernel_rfl) (by kernel_rfl) 54 rfl (by kernel_rfl) (fun D V w => Sep noX w0 [ow (.slice (some ⟨gm, 0, none⟩) 2 2) (zs.drop 3) FM, ow (.slice (some ⟨ga, 0, none⟩) 5 ca) zs FA, cnd (D 3) (bx r2 #[.int .i64 0, .slice none 0 0, .int .i64 0, .int .i64 0, .int .i64 0] 26) (bx r2 #[.int .i64 x.lv, .slice (some ⟨gm, 0, none⟩) 2 2, .int .i64 x.hi, .int .i64 x.ri, .int .i64 0] 26), cnd (D 2) (bx r1 #[.int .i64 0, .slice none 0 0, .int .i64 0, .int .i64 0, .int .i64 0] 26) (bx r1 #[.int .i64 x.lv, .slice (some ⟨ga, 0, none⟩) 3 3, .int .i64 (kAt zs 3), .int .i64 at_, .int .i64 x.ow] 26), bx gp #[.int .i64 k, .int .i64 v] 28, bx gn #[.int .i64 x.lv, .slice A 4 c, .int .i64 x.hi, .int .i64 x.ri, .int .i64 x.ow] 26, bx ga2 #[.int .i64 x.lv, .slice (some ⟨ga, 0, none⟩) 3 3, .int .i64 (kAt zs 3), .int .i64 at_, .int .i64 x.ow] 26, bx ga3 #[.int .i64 x.lv, .slice (some ⟨gm, 0, none⟩) 2 2, .int .i64 x.hi, .int .i64 x.ri, .int .i64 0] 26] w ∧ (D 0 = true → V 0 = .agg #[.int .i64 x.lv, .slice (some ⟨ga, 0, none⟩) 3 3, .int .i64 (kAt zs 3), .int .i64 at_, .int .i64 x.ow]) ∧ (D 1 = true → V 1 = .agg #[.int .i64 x.lv, .slice (some ⟨gm, 0, none⟩) 2 2, .int .i64 x.hi, .int .i64 x.ri, .int .i64 0])) ?_ ?_ ?_
  · intro D hD
    have d2 := hD 2 (by decide)
    have d3 := hD 3 (by decide)
    exact ⟨by rw [cnd_f d3, cnd_f d2]; exact S.out.drew.ems 0, (fun h => absurd h (by rw [hD 0 (by decide)]; exact Bool.false_ne_true)), (fun h => absurd h (by rw [hD 1 (by decide)]; exact Bool.false_ne_true))⟩
  · intro i o D V w a ho hI hDi haf hev
    obtain ⟨S, f0, f1⟩ := hI
    rcases i with _ | _ | _ | _ | i
    · obtain rfl := Option.some.inj (show some _ = some o from ho)
      exact op_row 26 _ rfl S 6 rfl ((hev.old 11 (by kernel_rfl)).trans rfl) Try.isAgg26 (by kernel_rfl) ⟨_, rfl, S, fun _ => rfl, f1⟩
    · obtain rfl := Option.some.inj (show some _ = some o from ho)
      exact op_row 26 _ rfl S 7 rfl ((hev.old 12 (by kernel_rfl)).trans rfl) Try.isAgg26 (by kernel_rfl) ⟨_, rfl, S, f0, fun _ => rfl⟩
    · obtain rfl := Option.some.inj (show some _ = some o from ho)
      have h0 : D 0 = true := by first | exact haf ⟨0, .data⟩ (by simp) rfl | exact haf ⟨0, .phase⟩ (by simp) rfl | exact haf ⟨0, .chain⟩ (by simp) rfl
      exact op_putR 26 _ _ rfl S 3 (g := r1) (C := #[.int .i64 0, .slice none 0 0, .int .i64 0, .int .i64 0, .int .i64 0]) (t := 26) (by simp only [List.getElem?_cons_succ, List.getElem?_cons_zero, cnd_f hDi]) ((hev.old 6 (by kernel_rfl)).trans rfl) _ ((hev.new 0 _ 52 rfl rfl h0).trans (f0 h0)) rfl (by kernel_rfl) rfl (fun w S => ⟨_, rfl, S, f0, f1⟩)
    · obtain rfl := Option.some.inj (show some _ = some o from ho)
      have h1 : D 1 = true := by first | exact haf ⟨1, .data⟩ (by simp) rfl | exact haf ⟨1, .phase⟩ (by simp) rfl | exact haf ⟨1, .chain⟩ (by simp) rfl
      exact op_putR 26 _ _ rfl S 2 (g := r2) (C := #[.int .i64 0, .slice none 0 0, .int .i64 0, .int .i64 0, .int .i64 0]) (t := 26) (by simp only [List.getElem?_cons_succ, List.getElem?_cons_zero, cnd_f hDi]) ((hev.old 7 (by kernel_rfl)).trans rfl) _ ((hev.new 1 _ 53 rfl rfl h1).trans (f1 h1)) rfl (by kernel_rfl) rfl (fun w S => ⟨_, rfl, S, f0, f1⟩)
    · exact absurd ho (by simp)
  intro V w hI
  obtain ⟨S, f0, f1⟩ := hI
  replace f0 := f0 rfl
  replace f1 := f1 rfl
  replace S : Hid (Sep noX w0 [ow (.slice (some ⟨gm, 0, none⟩) 2 2) (zs.drop 3) FM, ow (.slice (some ⟨ga, 0, none⟩) 5 ca) zs FA, bx r2 #[.int .i64 x.lv, .slice (some ⟨gm, 0, none⟩) 2 2, .int .i64 x.hi, .int .i64 x.ri, .int .i64 0] 26, bx r1 #[.int .i64 x.lv, .slice (some ⟨ga, 0, none⟩) 3 3, .int .i64 (kAt zs 3), .int .i64 at_, .int .i64 x.ow] 26, bx gp #[.int .i64 k, .int .i64 v] 28, bx gn #[.int .i64 x.lv, .slice A 4 c, .int .i64 x.hi, .int .i64 x.ri, .int .i64 x.ow] 26, bx ga2 #[.int .i64 x.lv, .slice (some ⟨ga, 0, none⟩) 3 3, .int .i64 (kAt zs 3), .int .i64 at_, .int .i64 x.ow] 26, bx ga3 #[.int .i64 x.lv, .slice (some ⟨gm, 0, none⟩) 2 2, .int .i64 x.hi, .int .i64 x.ri, .int .i64 0] 26] w) := Lib.hid S
  simp only [putF, Act.put, List.setIfInBounds_toArray, List.set_cons_succ, List.set_cons_zero, f0, f1]
  clear f0 f1
  go_wp2_with fail
  exact bodyPost_ret (results_cc rfl _ S.out 3 2 rfl rfl rfl rfl Try.isAgg26 Try.isAgg26 (by kernel_rfl) (by kernel_rfl)) rfl (by exact S.out.givesH 1 0 (by omega) (l := ⟨x.lv, zs.take 3, kAt zs 3, at_, x.ow⟩) (u := ⟨x.lv, zs.drop 3, x.hi, x.ri, 0⟩) rfl rfl (by omega) rfl)

end Go.Proofs.Ytokkpbjldchjpaa

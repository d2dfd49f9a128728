/- The exact law of Halves, walked: it returns true, and nothing that was there is turned, if the model and the code answer alike. (Made by genL13.py.) -/
import Derived.Test.YtokkpbjldchjpaaJ6i
namespace Go.Proofs.Ytokkpbjldchjpaa
open Go.RowKit

theorem markC_any (base : Nat) (A : Option Addr) (n c d k : Nat) (zs : List Pr) (w : World) (h : w.ownsRow base 28 2 (.slice A n d) n (PL zs)) (hn : n ≤ 1048576) (hk : k ≤ 1125899906842624) :
    Calls Try.prog 46 #[.slice A n c, .int .i64 k] w fun e w' => e = .returned (.int .i64 ((k + 2 * n : Nat) : Int)) ∧ w'.ownsRow base 28 2 (.slice A n d) n (PL (markTo zs k n)) ∧ w.grownBy w' (Value.slice A n d).ownBlock := by
  have hl : zs.length = n := by have := h.1; rw [PL_length] at this; omega
  rcases Nat.eq_zero_or_pos n with h0 | h0
  · subst h0
    have hz : zs = [] := List.eq_nil_of_length_eq_zero hl
    subst hz
    have HO := Lib.hid h
    clear h hl
    go_enter Try.func46, Try.ntmps46
    go_wp2
    refine wp_loop_rounds 1 ?_
    rw [rounds_succ]
    go_wp2
    go_ret
    exact ⟨rfl, HO.out, World.grownBy.refl _ _⟩
  · obtain ⟨g, cap, hv, _, hlt⟩ := h.form h0
    obtain ⟨rfl, rfl⟩ : A = some ⟨g, 0, none⟩ ∧ d = cap := by simpa using hv
    have HO : Hid (w.ownsRow base 28 2 (.slice (some ⟨g, 0, none⟩) n d) n (PL (markTo zs k 0))) := Lib.hid (by simpa [markTo] using h)
    have HL := Lib.hid hl
    clear h hv hl
    go_enter Try.func46, Try.ntmps46
    go_wp2
    go_loopw [1, 5] (fun q i wr => ∃ j : Nat, i = .int .i64 j ∧ j ≤ n ∧ q = .int .i64 (k + 2 * j) ∧ Hid (wr.ownsRow base 28 2 (.slice (some ⟨g, 0, none⟩) n d) n (PL (markTo zs k j))) ∧ Hid (w.grownBy wr (some g))) (fun _ i _ => n - (intOf i).toNat)
    case atStart => exact ⟨0, rfl, by omega, by simp, HO, Lib.hid (World.grownBy.refl _ _)⟩
    case round =>
      obtain ⟨j, rfl, hj, rfl, ho, hg⟩ := hrel
      clear HO
      by_cases hjn : j < n
      · have f1 : wr.frozen? ⟨g, j * 2, none⟩ = false := ho.out.frozenAt _
        have f2 : wr.frozen? ⟨g, j * 2 + 1, none⟩ = false := ho.out.frozenAt _
        have d1 : wr.cell? ⟨g, j * 2, none⟩ = some (.int .i64 (kAt (markTo zs k j) j)) := (ho.out.cellAt (j * 2) (by omega)).trans (PL_fst _ _ (by rw [markTo_length _ _ _ (by have := HL.out; omega), HL.out]; exact hjn))
        have d2 : wr.cell? ⟨g, j * 2 + 1, none⟩ = some (.int .i64 (vAt (markTo zs k j) j)) := (ho.out.cellAt (j * 2 + 1) (by omega)).trans (PL_snd _ _ (by rw [markTo_length _ _ _ (by have := HL.out; omega), HL.out]; exact hjn))
        go_wp2
        go_roundw
        case rel =>
          refine ⟨j + 1, by go_num, by omega, by go_num, Lib.hid ?_, Lib.hid ?_⟩
          · have h1 := (ho.out.stored (j * 2) (.int .i64 (k + 2 * j))).1
            have h2 := (h1.stored (j * 2 + 1) (.int .i64 (k + 2 * j + 1))).1
            rw [PL_set, markTo_next _ _ _ (by have := HL.out; omega)] at h2
            exact h2
          · have h1 := ho.out.stored (j * 2) (.int .i64 (k + 2 * j))
            exact grown_trans (grown_trans hg.out h1.2) (h1.1.stored (j * 2 + 1) (.int .i64 (k + 2 * j + 1))).2
        case measure => simp [intOf]; omega
      · obtain rfl : j = n := by omega
        go_wp2
        go_ret
        exact ⟨ret_int (by omega), ho.out, hg.out⟩
/-- A node's list is marked, whatever its spare room. -/
theorem mkNC (x : Nd) (A : Option Addr) (n c d k K : Nat) (hK : k + cntS x.ps = K) (F : FP) (w : World) (h : OwnS w (.slice A n d) x.ps F) (hl : x.ps.length = n) (hs : Small.sm x.ps) (hk : k ≤ 562949953421312) :
    Calls Try.prog 20 #[.agg #[.int .i64 x.lv, .slice A n c, .int .i64 x.hi, .int .i64 x.ri, .int .i64 x.ow], .int .i64 k] w fun e w' => e = .returned (.int .i64 K) ∧ OwnS w' (.slice A n d) (mkS k x.ps) F ∧ Only F w w' := by
  subst hK
  rw [cntS_pairs, hl, mkS_pairs]
  obtain ⟨w1, hw1⟩ : ∃ w1, w1 = w.alloc (.cells #[.int .i64 x.lv, .slice A n c, .int .i64 x.hi, .int .i64 x.ri, .int .i64 x.ow] 26) := ⟨_, rfl⟩
  have b1 : Below w.heap.size w w1 := by rw [hw1]; exact (Below.refl _ _).alloc (Nat.le_refl _) _
  obtain ⟨hp, hF⟩ := (h.on b1).pairs
  have hn : n ≤ 1048576 := by rw [← hl]; exact hs
  have MK := Lib.hid (markC_any 0 A n c d k x.ps w1 (by rw [hl] at hp; exact hp) hn (by omega))
  have B1 := Lib.hid b1
  have HW := Lib.hid hw1
  have HF := Lib.hid hF
  have HL := Lib.hid hl
  clear h hp hF b1 hw1 hs hl
  go_enter Try.func20, Try.ntmps20
  go_wp2_with fail
  rw [← HW.out]
  refine MK.out.mono ?_
  rintro e w2 ⟨rfl, o2, g2⟩
  have O2 := Lib.hid o2
  have G2 := Lib.hid ((Only.of_below (F := F) B1.out).trans (Only.of_grown g2 (fun k hk => HF.out k hk)))
  clear o2 g2
  go_wp2
  go_ret
  refine ⟨rfl, OwnS.of_pairs O2.out HF.out |> fun h => ?_, G2.out⟩
  rw [HL.out]
  exact h
theorem hdNC (x : Nd) (A : Option Addr) (n c k K : Nat) (hK : k + cntS x.ps = K) (w : World) (h : RS w w.heap.size A n (mkS k x.ps)) (hs : Small.sm x.ps) (hk : k ≤ 562949953421312) :
    Calls Try.prog 21 #[.agg #[.int .i64 x.lv, .slice A n c, .int .i64 x.hi, .int .i64 x.ri, .int .i64 x.ow], .int .i64 k] w fun e w' => e = .returned (.int .i64 K) ∧ Below w.heap.size w w' := by
  subst hK
  exact hdN1 _ _ _ _ _ _ _ _ _ w h hs hk
theorem loH_sm (x : Nd) (k v at_ : Int) : Small.sm (loH x k v at_).ps := by
  show (loH x k v at_).ps.length ≤ 1048576
  unfold loH
  split
  · show ((insL x.ps k v).take 3).length ≤ 1048576
    rw [List.length_take]; omega
  · exact Nat.zero_le _
theorem upH_sm (x : Nd) (k v at_ : Int) : Small.sm (upH x k v at_).ps := by
  show (upH x k v at_).ps.length ≤ 1048576
  unfold upH
  split
  · rename_i h
    unfold halfB guardH at h
    simp only [Bool.and_eq_true, decide_eq_true_eq, Bool.not_eq_true'] at h
    have hz : (insL x.ps k v).length = 5 := by rw [insL_length, h.1.2.2.2.1, h.1.2.1]; rfl
    show ((insL x.ps k v).drop 3).length ≤ 1048576
    rw [List.length_drop]; omega
  · exact Nat.zero_le _
theorem mkS_len (k : Nat) (zs : List Pr) {n : Nat} (h : zs.length = n) : (mkS k zs).length = n := by rw [mkS_length]; exact h

set_option maxRecDepth 100000 in
set_option maxHeartbeats 16000000 in
theorem lawHalves_walk (x lo up : Nd) (hb : Bool) (A : Option Addr) (n c : Nat) (k v at_ : Int) (w0 : World) (h : RS w0 w0.heap.size A n x.ps) (hm : n ≤ 9223372036854775807)
    (hS : ∀ (A : Option Addr) (c : Nat) (w : World), Small.sm x.ps → n ≤ c → c ≤ 9223372036854775807 → RS w w.heap.size A n x.ps → Calls Try.prog 9 #[ndV x A n c, .agg #[.int .i64 k, .int .i64 v], .int .i64 at_] w (GivesNN w lo up hb))
    (hI : ∀ (A : Option Addr) (c : Nat) (w : World), Small.sm x.ps → n ≤ c → c ≤ 9223372036854775807 → RS w w.heap.size A n x.ps → Calls Try.prog 8 #[ndV x A n c, .agg #[.int .i64 k, .int .i64 v], .int .i64 at_] w (GivesNC w lo up hb)) (hr0 : Small.sm lo.ps) (hr1 : Small.sm up.ps) :
    Calls Try.prog 4 #[ndV x A n c, .agg #[.int .i64 k, .int .i64 v], .int .i64 at_] w0 fun e w' => e = .returned (.bool true) ∧ Below w0.heap.size w0 w' := by
  have hn0 := h.1
  have HH := Lib.hid h
  have SZ := Lib.hid (fun w h => szN1 x.lv x.hi x.ri x.ow x.ps A n c 1048576 (by omega) hm w h)
  have S := Lib.hid (Sep.start noX w0)
  have tok0 : True := trivial
  have tok1 : True := trivial
  rcases left_cases 1048576 (x.ps.length) with ⟨hq, hlt⟩ | ⟨hq, hle⟩
  · rw [hq] at SZ
    clear hq hlt hn0 hS hI hr0 hr1 h hm
    unfold ndV at *
    go_enter Try.func4, Try.ntmps4
    go_wp2_with (first
        | go_skip
        | (have _t := tok0; clear _t; refine wpList_op rfl (op_bx 41 _ rfl S.out _ rfl ?_); clear S tok0; intro gx w S; replace S := Lib.hid S; simp only [Act.put, List.setIfInBounds_toArray, List.set_cons_succ, List.set_cons_zero])
        | (have _t := tok1; clear _t; refine wpList_op rfl (op_bx 42 _ rfl S.out _ rfl ?_); clear S tok1; intro gp w S; replace S := Lib.hid S; simp only [Act.put, List.setIfInBounds_toArray, List.set_cons_succ, List.set_cons_zero])
        | (refine wpList_op rfl (op_row 41 _ rfl S.out 1 rfl rfl Try.isAgg41 (by kernel_rfl) ?_); simp only [Act.put, List.setIfInBounds_toArray, List.set_cons_succ, List.set_cons_zero]))
    refine (SZ.out _ (S.out.rs HH.out)).mono ?_
    rintro e w ⟨rfl, b⟩
    replace S := Lib.hid (S.out.call b)
    clear b
    go_wp2_with fail
    go_ret
    exact ⟨rfl, S.out.below⟩
  rw [hq] at SZ
  have hsm : Small.sm x.ps := hle
  have HSM := Lib.hid hsm
  have HN := Lib.hid hn0
  obtain ⟨L0, hL0⟩ : ∃ L0 : Nat, L0 = 1048576 - x.ps.length := ⟨_, rfl⟩
  rw [← hL0] at SZ
  have gL : decide ((L0 : Int) < 0) = false := by simp
  obtain ⟨nl, hnl⟩ : ∃ nl, lo.ps.length = nl := ⟨_, rfl⟩
  obtain ⟨nu, hnu⟩ : ∃ nu, up.ps.length = nu := ⟨_, rfl⟩
  have HNL := Lib.hid hnl
  have HNU := Lib.hid hnu
  have TN := Lib.hid (fun w h => toN1 x.lv x.hi x.ri x.ow x.ps A n c w h hsm)
  have TP := Lib.hid (toPair_any k v)
  have HS := Lib.hid (fun A c w a b => hS A c w hsm a b)
  have HI := Lib.hid (fun A c w a b => hI A c w hsm a b)
  have EL := Lib.hid (fun (A B : Option Addr) {c d : Nat} w (h : RS w w.heap.size A nl lo.ps) (h' : RS w w.heap.size B nl lo.ps) => eqN1 lo.lv lo.hi lo.ri lo.ow lo.ps A B nl c d w h h' hr0)
  have EU := Lib.hid (fun (A B : Option Addr) {c d : Nat} w (h : RS w w.heap.size A nu up.ps) (h' : RS w w.heap.size B nu up.ps) => eqN1 up.lv up.hi up.ri up.ow up.ps A B nu c d w h h' hr1)
  have EX := Lib.hid (fun (A B : Option Addr) {c d : Nat} w (h : RS w w.heap.size A n x.ps) (h' : RS w w.heap.size B n x.ps) => eqN1 x.lv x.hi x.ri x.ow x.ps A B n c d w h h' hsm)
  have s1 : x.ps.length ≤ 1048576 := hsm
  have s2 : lo.ps.length ≤ 1048576 := hr0
  have s3 : up.ps.length ≤ 1048576 := hr1
  obtain ⟨K1, hK1⟩ : ∃ K1 : Nat, 1 + cntS x.ps = K1 := ⟨_, rfl⟩
  obtain ⟨K2, hK2⟩ : ∃ K2 : Nat, 1 + cntS lo.ps = K2 := ⟨_, rfl⟩
  obtain ⟨K3, hK3⟩ : ∃ K3 : Nat, K2 + cntS up.ps = K3 := ⟨_, rfl⟩
  have g1 : decide ((K1 : Int) < 0) = false := by simp
  have g2 : decide ((K2 : Int) < 0) = false := by simp
  have g3 : decide ((K3 : Int) < 0) = false := by simp
  have hk2 : K2 ≤ 562949953421312 := by rw [cntS_pairs] at hK2; omega
  have MX := Lib.hid (fun A {c d : Nat} {F : FP} w h => mkNC x A n c d 1 K1 hK1 F w h hn0 hsm (by omega))
  have MG := Lib.hid (fun A {c d : Nat} {F : FP} w h => mkNC lo A nl c d 1 K2 hK2 F w h hnl hr0 (by omega))
  have MH := Lib.hid (fun A {c d : Nat} {F : FP} w h => mkNC up A nu c d K2 K3 hK3 F w h hnu hr1 hk2)
  have DG := Lib.hid (fun A {c : Nat} w h => hdNC lo A nl c 1 K2 hK2 w h hr0 (by omega))
  have DH := Lib.hid (fun A {c : Nat} w h => hdNC up A nu c K2 K3 hK3 w h hr1 hk2)
  have ML := Lib.hid (mkS_len 1 lo.ps hnl)
  have MU := Lib.hid (mkS_len K2 up.ps hnu)
  have gb : (hb != hb) = false := by simp
  clear hq hle hL0 hnl hnu hS hI hr0 hr1 h hm hsm hn0 s1 s2 s3 hK1 hK2 hK3 hk2
  unfold ndV at *
  go_enter Try.func4, Try.ntmps4
  go_wp2_with (first
      | go_skip
      | (have _t := tok0; clear _t; refine wpList_op rfl (op_bx 41 _ rfl S.out _ rfl ?_); clear S tok0; intro gx w S; replace S := Lib.hid S; simp only [Act.put, List.setIfInBounds_toArray, List.set_cons_succ, List.set_cons_zero])
      | (have _t := tok1; clear _t; refine wpList_op rfl (op_bx 42 _ rfl S.out _ rfl ?_); clear S tok1; intro gp w S; replace S := Lib.hid S; simp only [Act.put, List.setIfInBounds_toArray, List.set_cons_succ, List.set_cons_zero])
      | (refine wpList_op rfl (op_row 41 _ rfl S.out 1 rfl rfl Try.isAgg41 (by kernel_rfl) ?_); simp only [Act.put, List.setIfInBounds_toArray, List.set_cons_succ, List.set_cons_zero]))
  refine (SZ.out _ (S.out.rs HH.out)).mono ?_
  rintro e w ⟨rfl, b⟩
  replace S := Lib.hid (S.out.call b)
  clear b
  go_wp2_with fail
  refine wp_region_ev (by kernel_rfl) _ (by kernel_rfl) (by kernel_rfl) 146 rfl (by kernel_rfl) (fun D V w => ∃ A1 : Option Addr, ∃ c1 : Nat, ∃ F1 : FP, ∃ AA : Option Addr, ∃ cA : Nat, ∃ FA : FP, ∃ AB : Option Addr, ∃ cB : Nat, ∃ FB : FP, ∃ ga10 : Nat, ∃ ga11 : Nat, Sep noX w0 [bx gp #[.int .i64 k, .int .i64 v] 42, bx gx #[.int .i64 x.lv, .slice A n c, .int .i64 x.hi, .int .i64 x.ri, .int .i64 x.ow] 41, cnd (D 1) em (ow (.slice A1 n c1) x.ps F1), cnd (D 5) em (ow (.slice AA nl cA) lo.ps FA), cnd (D 5) em (ow (.slice AB nu cB) up.ps FB), cnd (D 10) em (cnd (D 12) (bx ga10 #[.int .i64 0, .slice none 0 0, .int .i64 0, .int .i64 0, .int .i64 0] 26) (bx ga10 #[.int .i64 lo.lv, .slice AA nl cA, .int .i64 lo.hi, .int .i64 lo.ri, .int .i64 lo.ow] 26)), cnd (D 11) em (cnd (D 13) (bx ga11 #[.int .i64 0, .slice none 0 0, .int .i64 0, .int .i64 0, .int .i64 0] 26) (bx ga11 #[.int .i64 up.lv, .slice AB nu cB, .int .i64 up.hi, .int .i64 up.ri, .int .i64 up.ow] 26))] w ∧ (D 0 = true → V 0 = .agg #[.int .i64 x.lv, .slice A n c, .int .i64 x.hi, .int .i64 x.ri, .int .i64 x.ow]) ∧ (D 1 = true → V 1 = .agg #[.int .i64 x.lv, .slice A1 n c1, .int .i64 x.hi, .int .i64 x.ri, .int .i64 x.ow]) ∧ (D 2 = true → V 2 = .agg #[.int .i64 k, .int .i64 v]) ∧ (D 3 = true → V 3 = .agg #[.int .i64 k, .int .i64 v]) ∧ (D 4 = true → V 4 = .int .i64 at_) ∧ (D 5 = true → V 5 = .tuple #[.agg #[.int .i64 lo.lv, .slice AA nl cA, .int .i64 lo.hi, .int .i64 lo.ri, .int .i64 lo.ow], .agg #[.int .i64 up.lv, .slice AB nu cB, .int .i64 up.hi, .int .i64 up.ri, .int .i64 up.ow], .bool hb]) ∧ (D 6 = true → V 6 = .tuple #[.agg #[.int .i64 lo.lv, .slice AA nl cA, .int .i64 lo.hi, .int .i64 lo.ri, .int .i64 lo.ow], .agg #[.int .i64 up.lv, .slice AB nu cB, .int .i64 up.hi, .int .i64 up.ri, .int .i64 up.ow], .bool hb]) ∧ (D 7 = true → V 7 = .agg #[.int .i64 lo.lv, .slice AA nl cA, .int .i64 lo.hi, .int .i64 lo.ri, .int .i64 lo.ow]) ∧ (D 8 = true → V 8 = .agg #[.int .i64 up.lv, .slice AB nu cB, .int .i64 up.hi, .int .i64 up.ri, .int .i64 up.ow]) ∧ (D 9 = true → V 9 = .bool hb) ∧ (D 10 = true → V 10 = .pointer (some ⟨ga10, 0, none⟩)) ∧ (D 11 = true → V 11 = .pointer (some ⟨ga11, 0, none⟩)) ∧ (D 14 = true → V 14 = .bool hb) ∧ (D 6 = true → D 5 = true) ∧ (D 7 = true → D 5 = true) ∧ (D 8 = true → D 5 = true) ∧ (D 12 = true → D 5 = true) ∧ (D 12 = true → D 10 = true) ∧ (D 13 = true → D 5 = true) ∧ (D 13 = true → D 11 = true)) ?_ ?_ ?_
  · intro D hD
    have d1 := hD 1 (by decide)
    have d5 := hD 5 (by decide)
    have d10 := hD 10 (by decide)
    have d11 := hD 11 (by decide)
    have d12 := hD 12 (by decide)
    have d13 := hD 13 (by decide)
    exact ⟨none, 0, fun _ => False, none, 0, fun _ => False, none, 0, fun _ => False, 0, 0, by rw [cnd_f d1, cnd_f d5, cnd_f d5, cnd_f d10, cnd_f d11]; exact S.out.drew.ems 5, (fun h => absurd h (by rw [hD 0 (by decide)]; exact Bool.false_ne_true)), (fun h => absurd h (by rw [hD 1 (by decide)]; exact Bool.false_ne_true)), (fun h => absurd h (by rw [hD 2 (by decide)]; exact Bool.false_ne_true)), (fun h => absurd h (by rw [hD 3 (by decide)]; exact Bool.false_ne_true)), (fun h => absurd h (by rw [hD 4 (by decide)]; exact Bool.false_ne_true)), (fun h => absurd h (by rw [hD 5 (by decide)]; exact Bool.false_ne_true)), (fun h => absurd h (by rw [hD 6 (by decide)]; exact Bool.false_ne_true)), (fun h => absurd h (by rw [hD 7 (by decide)]; exact Bool.false_ne_true)), (fun h => absurd h (by rw [hD 8 (by decide)]; exact Bool.false_ne_true)), (fun h => absurd h (by rw [hD 9 (by decide)]; exact Bool.false_ne_true)), (fun h => absurd h (by rw [hD 10 (by decide)]; exact Bool.false_ne_true)), (fun h => absurd h (by rw [hD 11 (by decide)]; exact Bool.false_ne_true)), (fun h => absurd h (by rw [hD 14 (by decide)]; exact Bool.false_ne_true)), (fun h => absurd h (by rw [hD 6 (by decide)]; exact Bool.false_ne_true)), (fun h => absurd h (by rw [hD 7 (by decide)]; exact Bool.false_ne_true)), (fun h => absurd h (by rw [hD 8 (by decide)]; exact Bool.false_ne_true)), (fun h => absurd h (by rw [hD 12 (by decide)]; exact Bool.false_ne_true)), (fun h => absurd h (by rw [hD 12 (by decide)]; exact Bool.false_ne_true)), (fun h => absurd h (by rw [hD 13 (by decide)]; exact Bool.false_ne_true)), (fun h => absurd h (by rw [hD 13 (by decide)]; exact Bool.false_ne_true))⟩
  · intro i o D V w a ho hI hDi haf hev
    obtain ⟨A1, c1, F1, AA, cA, FA, AB, cB, FB, ga10, ga11, S, f0, f1, f2, f3, f4, f5, f6, f7, f8, f9, f10, f11, f14, o6_5, o7_5, o8_5, o12_5, o12_10, o13_5, o13_11⟩ := hI
    rcases i with _ | _ | _ | _ | _ | _ | _ | _ | _ | _ | _ | _ | _ | _ | _ | i
    · obtain rfl := Option.some.inj (show some _ = some o from ho)
      exact op_row 41 _ rfl S 1 rfl ((hev.old 3 (by kernel_rfl)).trans rfl) Try.isAgg41 (by kernel_rfl) ⟨_, rfl, A1, c1, F1, AA, cA, FA, AB, cB, FB, ga10, ga11, S, fun _ => rfl, f1, f2, f3, f4, f5, f6, f7, f8, f9, f10, f11, f14, o6_5, o7_5, o8_5, o12_5, o12_10, o13_5, o13_11⟩
    · obtain rfl := Option.some.inj (show some _ = some o from ho)
      have h0 : D 0 = true := by first | exact haf ⟨0, .data⟩ (by simp) rfl | exact haf ⟨0, .phase⟩ (by simp) rfl | exact haf ⟨0, .chain⟩ (by simp) rfl
      have hx0 := ((hev.new 0 _ 27 rfl rfl h0).trans (f0 h0))
      refine op_call _ _ _ rfl (enters_of Try.func17 (by kernel_rfl) rfl) #[.agg #[.int .i64 x.lv, .slice A n c, .int .i64 x.hi, .int .i64 x.ri, .int .i64 x.ow]] (by simp [hx0]) (TN.out w (S.rs HH.out)) (fun e w2 hh => ?_)
      obtain ⟨A9, c9, F9, rfl, oo, ff, bb⟩ := hh
      have S2 := S.turn 2 (I := em) (by simp only [List.getElem?_cons_succ, List.getElem?_cons_zero, cnd_f hDi]) (Only.of_below bb) (ow (.slice A9 n c9) x.ps F9) oo (fun k hk => ⟨.inr (ff k hk).1, (ff k hk).2⟩)
      exact ⟨_, rfl, ⟨_, rfl, A9, c9, F9, AA, cA, FA, AB, cB, FB, ga10, ga11, S2, f0, fun _ => rfl, f2, f3, f4, f5, f6, f7, f8, f9, f10, f11, f14, o6_5, o7_5, o8_5, o12_5, o12_10, o13_5, o13_11⟩⟩
    · obtain rfl := Option.some.inj (show some _ = some o from ho)
      exact op_row 42 _ rfl S 0 rfl ((hev.old 4 (by kernel_rfl)).trans rfl) Try.isAgg42 (by kernel_rfl) ⟨_, rfl, A1, c1, F1, AA, cA, FA, AB, cB, FB, ga10, ga11, S, f0, f1, fun _ => rfl, f3, f4, f5, f6, f7, f8, f9, f10, f11, f14, o6_5, o7_5, o8_5, o12_5, o12_10, o13_5, o13_11⟩
    · obtain rfl := Option.some.inj (show some _ = some o from ho)
      have h2 : D 2 = true := by first | exact haf ⟨2, .data⟩ (by simp) rfl | exact haf ⟨2, .phase⟩ (by simp) rfl | exact haf ⟨2, .chain⟩ (by simp) rfl
      have hx0 := ((hev.new 2 _ 29 rfl rfl h2).trans (f2 h2))
      refine op_call _ _ _ rfl (enters_of Try.func18 (by kernel_rfl) rfl) #[.agg #[.int .i64 k, .int .i64 v]] (by simp [hx0]) (TP.out w) (fun e w2 hh => ?_)
      obtain ⟨rfl, b⟩ := hh
      exact ⟨_, rfl, ⟨_, rfl, A1, c1, F1, AA, cA, FA, AB, cB, FB, ga10, ga11, S.call b, f0, f1, f2, fun _ => rfl, f4, f5, f6, f7, f8, f9, f10, f11, f14, o6_5, o7_5, o8_5, o12_5, o12_10, o13_5, o13_11⟩⟩
    · obtain rfl := Option.some.inj (show some _ = some o from ho)
      exact op_move (.inl rfl) ((hev.old 2 (by kernel_rfl)).trans rfl) ⟨_, rfl, A1, c1, F1, AA, cA, FA, AB, cB, FB, ga10, ga11, S, f0, f1, f2, f3, fun _ => rfl, f5, f6, f7, f8, f9, f10, f11, f14, o6_5, o7_5, o8_5, o12_5, o12_10, o13_5, o13_11⟩
    · obtain rfl := Option.some.inj (show some _ = some o from ho)
      have h1 : D 1 = true := by first | exact haf ⟨1, .data⟩ (by simp) rfl | exact haf ⟨1, .phase⟩ (by simp) rfl | exact haf ⟨1, .chain⟩ (by simp) rfl
      have h3 : D 3 = true := by first | exact haf ⟨3, .data⟩ (by simp) rfl | exact haf ⟨3, .phase⟩ (by simp) rfl | exact haf ⟨3, .chain⟩ (by simp) rfl
      have h4 : D 4 = true := by first | exact haf ⟨4, .data⟩ (by simp) rfl | exact haf ⟨4, .phase⟩ (by simp) rfl | exact haf ⟨4, .chain⟩ (by simp) rfl
      have ns12 : D 12 = false := by
        cases hq : D 12 with
        | false => rfl
        | true => exact absurd (o12_5 hq) (by rw [hDi]; exact Bool.false_ne_true)
      have ns13 : D 13 = false := by
        cases hq : D 13 with
        | false => rfl
        | true => exact absurd (o13_5 hq) (by rw [hDi]; exact Bool.false_ne_true)
      have hx0 := ((hev.new 1 _ 28 rfl rfl h1).trans (f1 h1))
      have hx1 := ((hev.new 3 _ 30 rfl rfl h3).trans (f3 h3))
      have hx2 := ((hev.new 4 _ 31 rfl rfl h4).trans (f4 h4))
      have so := S.get 2 (I := ow (.slice A1 n c1) x.ps F1) (by simp only [List.getElem?_cons_succ, List.getElem?_cons_zero, cnd_t h1])
      refine op_call _ _ _ rfl (enters_of Try.func9 (by kernel_rfl) rfl) #[.agg #[.int .i64 x.lv, .slice A1 n c1, .int .i64 x.hi, .int .i64 x.ri, .int .i64 x.ow], .agg #[.int .i64 k, .int .i64 v], .int .i64 at_] (by simp [hx0, hx1, hx2]) (HS.out A1 c1 w (OwnS.cap so).1 (OwnS.cap so).2 (OwnS.rs so HN.out)) (fun e w2 hh => ?_)
      obtain ⟨A8, c8, F8, A9, c9, F9, rfl, u8, u9, uap, v8, v9, bb⟩ := hh
      unfold ndV
      rw [HNL.out, HNU.out]
      rw [HNL.out] at u8
      rw [HNU.out] at u9
      have S2 := S.gainAt2 bb 3 4 (by omega) (by simp only [List.getElem?_cons_succ, List.getElem?_cons_zero, cnd_f hDi]) (by simp only [List.getElem?_cons_succ, List.getElem?_cons_zero, cnd_f hDi]) (ow (.slice A8 nl c8) lo.ps F8) (ow (.slice A9 nu c9) up.ps F9) u8 u9 (fun k hk => v8 k hk) (fun k hk => v9 k hk) (fun k hk => uap k hk)
      exact ⟨_, rfl, ⟨_, rfl, A1, c1, F1, A8, c8, F8, A9, c9, F9, ga10, ga11, (by have SS := S2; rw [cnd_f ns12, cnd_f ns13] at SS; rw [show updB D 5 12 = false from ns12, show updB D 5 13 = false from ns13]; exact SS), f0, f1, f2, f3, f4, fun _ => rfl, (fun h => absurd (o6_5 h) (by rw [hDi]; exact Bool.false_ne_true)), (fun h => absurd (o7_5 h) (by rw [hDi]; exact Bool.false_ne_true)), (fun h => absurd (o8_5 h) (by rw [hDi]; exact Bool.false_ne_true)), f9, f10, f11, f14, fun _ => rfl, fun _ => rfl, fun _ => rfl, fun _ => rfl, o12_10, fun _ => rfl, o13_11⟩⟩
    · obtain rfl := Option.some.inj (show some _ = some o from ho)
      have h5 : D 5 = true := by first | exact haf ⟨5, .data⟩ (by simp) rfl | exact haf ⟨5, .phase⟩ (by simp) rfl | exact haf ⟨5, .chain⟩ (by simp) rfl
      exact op_move (.inl rfl) ((hev.new 5 _ 32 rfl rfl h5).trans (f5 h5)) ⟨_, rfl, A1, c1, F1, AA, cA, FA, AB, cB, FB, ga10, ga11, S, f0, f1, f2, f3, f4, f5, fun _ => rfl, f7, f8, f9, f10, f11, f14, fun _ => h5, o7_5, o8_5, o12_5, o12_10, o13_5, o13_11⟩
    · obtain rfl := Option.some.inj (show some _ = some o from ho)
      have h6 : D 6 = true := by first | exact haf ⟨6, .data⟩ (by simp) rfl | exact haf ⟨6, .phase⟩ (by simp) rfl | exact haf ⟨6, .chain⟩ (by simp) rfl
      have h5 : D 5 = true := o6_5 h6
      exact op_extract _ _ rfl ((hev.new 6 _ 26 rfl rfl h6).trans (f6 h6)) rfl ⟨_, rfl, A1, c1, F1, AA, cA, FA, AB, cB, FB, ga10, ga11, S, f0, f1, f2, f3, f4, f5, f6, fun _ => rfl, f8, f9, f10, f11, f14, o6_5, fun _ => h5, o8_5, o12_5, o12_10, o13_5, o13_11⟩
    · obtain rfl := Option.some.inj (show some _ = some o from ho)
      have h6 : D 6 = true := by first | exact haf ⟨6, .data⟩ (by simp) rfl | exact haf ⟨6, .phase⟩ (by simp) rfl | exact haf ⟨6, .chain⟩ (by simp) rfl
      have h5 : D 5 = true := o6_5 h6
      exact op_extract _ _ rfl ((hev.new 6 _ 26 rfl rfl h6).trans (f6 h6)) rfl ⟨_, rfl, A1, c1, F1, AA, cA, FA, AB, cB, FB, ga10, ga11, S, f0, f1, f2, f3, f4, f5, f6, f7, fun _ => rfl, f9, f10, f11, f14, o6_5, o7_5, fun _ => h5, o12_5, o12_10, o13_5, o13_11⟩
    · obtain rfl := Option.some.inj (show some _ = some o from ho)
      have h6 : D 6 = true := by first | exact haf ⟨6, .data⟩ (by simp) rfl | exact haf ⟨6, .phase⟩ (by simp) rfl | exact haf ⟨6, .chain⟩ (by simp) rfl
      exact op_extract _ _ rfl ((hev.new 6 _ 26 rfl rfl h6).trans (f6 h6)) rfl ⟨_, rfl, A1, c1, F1, AA, cA, FA, AB, cB, FB, ga10, ga11, S, f0, f1, f2, f3, f4, f5, f6, f7, f8, fun _ => rfl, f10, f11, f14, o6_5, o7_5, o8_5, o12_5, o12_10, o13_5, o13_11⟩
    · obtain rfl := Option.some.inj (show some _ = some o from ho)
      have nst : D 12 = false := by
        cases hq : D 12 with
        | false => rfl
        | true => exact absurd (o12_10 hq) (by rw [hDi]; exact Bool.false_ne_true)
      refine op_nxAt 26 rfl S 5 (by simp only [List.getElem?_cons_succ, List.getElem?_cons_zero, cnd_f hDi]) _ Try.zeroValue26 (fun g w S => ⟨_, rfl, A1, c1, F1, AA, cA, FA, AB, cB, FB, g, ga11, (by have e : updB D 10 12 = false := nst; rw [e]; exact S), f0, f1, f2, f3, f4, f5, f6, f7, f8, f9, fun _ => rfl, f11, f14, o6_5, o7_5, o8_5, o12_5, fun _ => rfl, o13_5, o13_11⟩)
    · obtain rfl := Option.some.inj (show some _ = some o from ho)
      have nst : D 13 = false := by
        cases hq : D 13 with
        | false => rfl
        | true => exact absurd (o13_11 hq) (by rw [hDi]; exact Bool.false_ne_true)
      refine op_nxAt 26 rfl S 6 (by simp only [List.getElem?_cons_succ, List.getElem?_cons_zero, cnd_f hDi]) _ Try.zeroValue26 (fun g w S => ⟨_, rfl, A1, c1, F1, AA, cA, FA, AB, cB, FB, ga10, g, (by have e : updB D 11 13 = false := nst; rw [e]; exact S), f0, f1, f2, f3, f4, f5, f6, f7, f8, f9, f10, fun _ => rfl, f14, o6_5, o7_5, o8_5, o12_5, o12_10, o13_5, fun _ => rfl⟩)
    · obtain rfl := Option.some.inj (show some _ = some o from ho)
      have h10 : D 10 = true := by first | exact haf ⟨10, .data⟩ (by simp) rfl | exact haf ⟨10, .phase⟩ (by simp) rfl | exact haf ⟨10, .chain⟩ (by simp) rfl
      have h7 : D 7 = true := by first | exact haf ⟨7, .data⟩ (by simp) rfl | exact haf ⟨7, .phase⟩ (by simp) rfl | exact haf ⟨7, .chain⟩ (by simp) rfl
      have h5 : D 5 = true := o7_5 h7
      have ha : D 10 = true := by first | exact haf ⟨10, .data⟩ (by simp) rfl | exact haf ⟨10, .phase⟩ (by simp) rfl | exact haf ⟨10, .chain⟩ (by simp) rfl
      exact op_putR 26 _ _ rfl S 5 (g := ga10) (C := #[.int .i64 0, .slice none 0 0, .int .i64 0, .int .i64 0, .int .i64 0]) (t := 26) (by simp only [List.getElem?_cons_succ, List.getElem?_cons_zero, cnd_t ha, cnd_f hDi]) ((hev.new 10 _ 8 rfl rfl h10).trans (f10 h10)) _ ((hev.new 7 _ 33 rfl rfl h7).trans (f7 h7)) rfl (by kernel_rfl) rfl (fun w S => ⟨_, rfl, A1, c1, F1, AA, cA, FA, AB, cB, FB, ga10, ga11, (by have e : updB D 12 10 = true := ha; rw [e]; exact S), f0, f1, f2, f3, f4, f5, f6, f7, f8, f9, f10, f11, f14, o6_5, o7_5, o8_5, fun _ => h5, fun _ => h10, o13_5, o13_11⟩)
    · obtain rfl := Option.some.inj (show some _ = some o from ho)
      have h11 : D 11 = true := by first | exact haf ⟨11, .data⟩ (by simp) rfl | exact haf ⟨11, .phase⟩ (by simp) rfl | exact haf ⟨11, .chain⟩ (by simp) rfl
      have h8 : D 8 = true := by first | exact haf ⟨8, .data⟩ (by simp) rfl | exact haf ⟨8, .phase⟩ (by simp) rfl | exact haf ⟨8, .chain⟩ (by simp) rfl
      have h5 : D 5 = true := o8_5 h8
      have ha : D 11 = true := by first | exact haf ⟨11, .data⟩ (by simp) rfl | exact haf ⟨11, .phase⟩ (by simp) rfl | exact haf ⟨11, .chain⟩ (by simp) rfl
      exact op_putR 26 _ _ rfl S 6 (g := ga11) (C := #[.int .i64 0, .slice none 0 0, .int .i64 0, .int .i64 0, .int .i64 0]) (t := 26) (by simp only [List.getElem?_cons_succ, List.getElem?_cons_zero, cnd_t ha, cnd_f hDi]) ((hev.new 11 _ 9 rfl rfl h11).trans (f11 h11)) _ ((hev.new 8 _ 34 rfl rfl h8).trans (f8 h8)) rfl (by kernel_rfl) rfl (fun w S => ⟨_, rfl, A1, c1, F1, AA, cA, FA, AB, cB, FB, ga10, ga11, (by have e : updB D 13 11 = true := ha; rw [e]; exact S), f0, f1, f2, f3, f4, f5, f6, f7, f8, f9, f10, f11, f14, o6_5, o7_5, o8_5, o12_5, o12_10, fun _ => h5, fun _ => h11⟩)
    · obtain rfl := Option.some.inj (show some _ = some o from ho)
      have h9 : D 9 = true := by first | exact haf ⟨9, .data⟩ (by simp) rfl | exact haf ⟨9, .phase⟩ (by simp) rfl | exact haf ⟨9, .chain⟩ (by simp) rfl
      exact op_move (.inr rfl) ((hev.new 9 _ 35 rfl rfl h9).trans (f9 h9)) ⟨_, rfl, A1, c1, F1, AA, cA, FA, AB, cB, FB, ga10, ga11, S, f0, f1, f2, f3, f4, f5, f6, f7, f8, f9, f10, f11, fun _ => rfl, o6_5, o7_5, o8_5, o12_5, o12_10, o13_5, o13_11⟩
    · exact absurd ho (by simp)
  intro V w hI
  obtain ⟨A1, c1, F1, AA, cA, FA, AB, cB, FB, ga10, ga11, S, f0, f1, f2, f3, f4, f5, f6, f7, f8, f9, f10, f11, f14, o6_5, o7_5, o8_5, o12_5, o12_10, o13_5, o13_11⟩ := hI
  replace f0 := f0 rfl
  replace f1 := f1 rfl
  replace f2 := f2 rfl
  replace f3 := f3 rfl
  replace f4 := f4 rfl
  replace f5 := f5 rfl
  replace f6 := f6 rfl
  replace f7 := f7 rfl
  replace f8 := f8 rfl
  replace f9 := f9 rfl
  replace f10 := f10 rfl
  replace f11 := f11 rfl
  replace f14 := f14 rfl
  replace S : Hid (Sep noX w0 [bx gp #[.int .i64 k, .int .i64 v] 42, bx gx #[.int .i64 x.lv, .slice A n c, .int .i64 x.hi, .int .i64 x.ri, .int .i64 x.ow] 41, ow (.slice A1 n c1) x.ps F1, ow (.slice AA nl cA) lo.ps FA, ow (.slice AB nu cB) up.ps FB, bx ga10 #[.int .i64 lo.lv, .slice AA nl cA, .int .i64 lo.hi, .int .i64 lo.ri, .int .i64 lo.ow] 26, bx ga11 #[.int .i64 up.lv, .slice AB nu cB, .int .i64 up.hi, .int .i64 up.ri, .int .i64 up.ow] 26] w) := Lib.hid S
  simp only [putF, Act.put, List.setIfInBounds_toArray, List.set_cons_succ, List.set_cons_zero, f0, f1, f2, f3, f4, f5, f6, f7, f8, f9, f10, f11, f14]
  clear f0 f1 f2 f3 f4 f5 f6 f7 f8 f9 f10 f11 f14 o6_5 o7_5 o8_5 o12_5 o12_10 o13_5 o13_11
  go_wp2_with (first
      | go_skip
      | (refine wpList_op rfl (op_row 41 _ rfl S.out 1 rfl rfl Try.isAgg41 (by kernel_rfl) ?_); simp only [Act.put, List.setIfInBounds_toArray, List.set_cons_succ, List.set_cons_zero]))
  refine (TN.out _ (S.out.rs HH.out)).mono ?_
  rintro e w9 ⟨AX, cX, FX, rfl, o9, f9, b9⟩
  replace S : Hid (Sep noX w0 [ow (.slice AX n cX) x.ps FX, bx gp #[.int .i64 k, .int .i64 v] 42, bx gx #[.int .i64 x.lv, .slice A n c, .int .i64 x.hi, .int .i64 x.ri, .int .i64 x.ow] 41, ow (.slice A1 n c1) x.ps F1, ow (.slice AA nl cA) lo.ps FA, ow (.slice AB nu cB) up.ps FB, bx ga10 #[.int .i64 lo.lv, .slice AA nl cA, .int .i64 lo.hi, .int .i64 lo.ri, .int .i64 lo.ow] 26, bx ga11 #[.int .i64 up.lv, .slice AB nu cB, .int .i64 up.hi, .int .i64 up.ri, .int .i64 up.ow] 26] w9) := Lib.hid (S.out.own b9 o9 f9)
  clear o9 f9 b9
  have tokA : True := trivial
  go_wp2_with (first
      | go_skip
      | (have _t := tokA; clear _t; refine wpList_op rfl (op_nx 26 rfl S.out _ Try.zeroValue26 ?_); clear S tokA; intro gX w S; replace S := Lib.hid S; simp only [Act.put, List.setIfInBounds_toArray, List.set_cons_succ, List.set_cons_zero])
      | (refine wpList_op rfl (op_putR_0 26 _ _ rfl S rfl _ rfl rfl (by kernel_rfl) rfl ?_); clear S; intro w S; simp only [Act.put, List.setIfInBounds_toArray, List.set_cons_succ, List.set_cons_zero]))
  refine wp_region_ev (by kernel_rfl) _ (by kernel_rfl) (by kernel_rfl) 146 rfl (by kernel_rfl) (fun D V w => ∃ AG : Option Addr, ∃ cG : Nat, ∃ dG : Nat, ∃ FG : FP, ∃ AH : Option Addr, ∃ cH : Nat, ∃ dH : Nat, ∃ FH : FP, ∃ gb9 : Nat, ∃ gb10 : Nat, Sep noX w0 [bx gX #[.int .i64 x.lv, .slice AX n cX, .int .i64 x.hi, .int .i64 x.ri, .int .i64 x.ow] 26, ow (.slice AX n cX) x.ps FX, bx gp #[.int .i64 k, .int .i64 v] 42, bx gx #[.int .i64 x.lv, .slice A n c, .int .i64 x.hi, .int .i64 x.ri, .int .i64 x.ow] 41, ow (.slice A1 n c1) x.ps F1, ow (.slice AA nl cA) lo.ps FA, ow (.slice AB nu cB) up.ps FB, bx ga10 #[.int .i64 lo.lv, .slice AA nl cA, .int .i64 lo.hi, .int .i64 lo.ri, .int .i64 lo.ow] 26, bx ga11 #[.int .i64 up.lv, .slice AB nu cB, .int .i64 up.hi, .int .i64 up.ri, .int .i64 up.ow] 26, cnd (D 4) em (ow (.slice AG nl dG) lo.ps FG), cnd (D 4) em (ow (.slice AH nu dH) up.ps FH), cnd (D 9) em (cnd (D 11) (bx gb9 #[.int .i64 0, .slice none 0 0, .int .i64 0, .int .i64 0, .int .i64 0] 26) (bx gb9 #[.int .i64 lo.lv, .slice AG nl cG, .int .i64 lo.hi, .int .i64 lo.ri, .int .i64 lo.ow] 26)), cnd (D 10) em (cnd (D 12) (bx gb10 #[.int .i64 0, .slice none 0 0, .int .i64 0, .int .i64 0, .int .i64 0] 26) (bx gb10 #[.int .i64 up.lv, .slice AH nu cH, .int .i64 up.hi, .int .i64 up.ri, .int .i64 up.ow] 26))] w ∧ (D 0 = true → V 0 = .agg #[.int .i64 x.lv, .slice AX n cX, .int .i64 x.hi, .int .i64 x.ri, .int .i64 x.ow]) ∧ (D 1 = true → V 1 = .agg #[.int .i64 k, .int .i64 v]) ∧ (D 2 = true → V 2 = .agg #[.int .i64 k, .int .i64 v]) ∧ (D 3 = true → V 3 = .int .i64 at_) ∧ (D 4 = true → V 4 = .tuple #[.agg #[.int .i64 lo.lv, .slice AG nl cG, .int .i64 lo.hi, .int .i64 lo.ri, .int .i64 lo.ow], .agg #[.int .i64 up.lv, .slice AH nu cH, .int .i64 up.hi, .int .i64 up.ri, .int .i64 up.ow], .bool hb]) ∧ (D 5 = true → V 5 = .tuple #[.agg #[.int .i64 lo.lv, .slice AG nl cG, .int .i64 lo.hi, .int .i64 lo.ri, .int .i64 lo.ow], .agg #[.int .i64 up.lv, .slice AH nu cH, .int .i64 up.hi, .int .i64 up.ri, .int .i64 up.ow], .bool hb]) ∧ (D 6 = true → V 6 = .agg #[.int .i64 lo.lv, .slice AG nl cG, .int .i64 lo.hi, .int .i64 lo.ri, .int .i64 lo.ow]) ∧ (D 7 = true → V 7 = .agg #[.int .i64 up.lv, .slice AH nu cH, .int .i64 up.hi, .int .i64 up.ri, .int .i64 up.ow]) ∧ (D 8 = true → V 8 = .bool hb) ∧ (D 9 = true → V 9 = .pointer (some ⟨gb9, 0, none⟩)) ∧ (D 10 = true → V 10 = .pointer (some ⟨gb10, 0, none⟩)) ∧ (D 13 = true → V 13 = .bool hb) ∧ (D 5 = true → D 4 = true) ∧ (D 6 = true → D 4 = true) ∧ (D 7 = true → D 4 = true) ∧ (D 11 = true → D 4 = true) ∧ (D 11 = true → D 9 = true) ∧ (D 12 = true → D 4 = true) ∧ (D 12 = true → D 10 = true)) ?_ ?_ ?_
  · intro D hD
    have d4 := hD 4 (by decide)
    have d9 := hD 9 (by decide)
    have d10 := hD 10 (by decide)
    have d11 := hD 11 (by decide)
    have d12 := hD 12 (by decide)
    exact ⟨none, 0, 0, fun _ => False, none, 0, 0, fun _ => False, 0, 0, by rw [cnd_f d4, cnd_f d4, cnd_f d9, cnd_f d10]; exact S.out.drew.ems 4, (fun h => absurd h (by rw [hD 0 (by decide)]; exact Bool.false_ne_true)), (fun h => absurd h (by rw [hD 1 (by decide)]; exact Bool.false_ne_true)), (fun h => absurd h (by rw [hD 2 (by decide)]; exact Bool.false_ne_true)), (fun h => absurd h (by rw [hD 3 (by decide)]; exact Bool.false_ne_true)), (fun h => absurd h (by rw [hD 4 (by decide)]; exact Bool.false_ne_true)), (fun h => absurd h (by rw [hD 5 (by decide)]; exact Bool.false_ne_true)), (fun h => absurd h (by rw [hD 6 (by decide)]; exact Bool.false_ne_true)), (fun h => absurd h (by rw [hD 7 (by decide)]; exact Bool.false_ne_true)), (fun h => absurd h (by rw [hD 8 (by decide)]; exact Bool.false_ne_true)), (fun h => absurd h (by rw [hD 9 (by decide)]; exact Bool.false_ne_true)), (fun h => absurd h (by rw [hD 10 (by decide)]; exact Bool.false_ne_true)), (fun h => absurd h (by rw [hD 13 (by decide)]; exact Bool.false_ne_true)), (fun h => absurd h (by rw [hD 5 (by decide)]; exact Bool.false_ne_true)), (fun h => absurd h (by rw [hD 6 (by decide)]; exact Bool.false_ne_true)), (fun h => absurd h (by rw [hD 7 (by decide)]; exact Bool.false_ne_true)), (fun h => absurd h (by rw [hD 11 (by decide)]; exact Bool.false_ne_true)), (fun h => absurd h (by rw [hD 11 (by decide)]; exact Bool.false_ne_true)), (fun h => absurd h (by rw [hD 12 (by decide)]; exact Bool.false_ne_true)), (fun h => absurd h (by rw [hD 12 (by decide)]; exact Bool.false_ne_true))⟩
  · intro i o D V w a ho hI hDi haf hev
    obtain ⟨AG, cG, dG, FG, AH, cH, dH, FH, gb9, gb10, S, f0, f1, f2, f3, f4, f5, f6, f7, f8, f9, f10, f13, o5_4, o6_4, o7_4, o11_4, o11_9, o12_4, o12_10⟩ := hI
    rcases i with _ | _ | _ | _ | _ | _ | _ | _ | _ | _ | _ | _ | _ | _ | i
    · obtain rfl := Option.some.inj (show some _ = some o from ho)
      exact op_row 26 _ rfl S 0 rfl ((hev.old 11 (by kernel_rfl)).trans rfl) Try.isAgg26 (by kernel_rfl) ⟨_, rfl, AG, cG, dG, FG, AH, cH, dH, FH, gb9, gb10, S, fun _ => rfl, f1, f2, f3, f4, f5, f6, f7, f8, f9, f10, f13, o5_4, o6_4, o7_4, o11_4, o11_9, o12_4, o12_10⟩
    · obtain rfl := Option.some.inj (show some _ = some o from ho)
      exact op_row 42 _ rfl S 2 rfl ((hev.old 4 (by kernel_rfl)).trans rfl) Try.isAgg42 (by kernel_rfl) ⟨_, rfl, AG, cG, dG, FG, AH, cH, dH, FH, gb9, gb10, S, f0, fun _ => rfl, f2, f3, f4, f5, f6, f7, f8, f9, f10, f13, o5_4, o6_4, o7_4, o11_4, o11_9, o12_4, o12_10⟩
    · obtain rfl := Option.some.inj (show some _ = some o from ho)
      have h1 : D 1 = true := by first | exact haf ⟨1, .data⟩ (by simp) rfl | exact haf ⟨1, .phase⟩ (by simp) rfl | exact haf ⟨1, .chain⟩ (by simp) rfl
      have hx0 := ((hev.new 1 _ 40 rfl rfl h1).trans (f1 h1))
      refine op_call _ _ _ rfl (enters_of Try.func18 (by kernel_rfl) rfl) #[.agg #[.int .i64 k, .int .i64 v]] (by simp [hx0]) (TP.out w) (fun e w2 hh => ?_)
      obtain ⟨rfl, b⟩ := hh
      exact ⟨_, rfl, ⟨_, rfl, AG, cG, dG, FG, AH, cH, dH, FH, gb9, gb10, S.call b, f0, f1, fun _ => rfl, f3, f4, f5, f6, f7, f8, f9, f10, f13, o5_4, o6_4, o7_4, o11_4, o11_9, o12_4, o12_10⟩⟩
    · obtain rfl := Option.some.inj (show some _ = some o from ho)
      exact op_move (.inl rfl) ((hev.old 2 (by kernel_rfl)).trans rfl) ⟨_, rfl, AG, cG, dG, FG, AH, cH, dH, FH, gb9, gb10, S, f0, f1, f2, fun _ => rfl, f4, f5, f6, f7, f8, f9, f10, f13, o5_4, o6_4, o7_4, o11_4, o11_9, o12_4, o12_10⟩
    · obtain rfl := Option.some.inj (show some _ = some o from ho)
      have h0 : D 0 = true := by first | exact haf ⟨0, .data⟩ (by simp) rfl | exact haf ⟨0, .phase⟩ (by simp) rfl | exact haf ⟨0, .chain⟩ (by simp) rfl
      have h2 : D 2 = true := by first | exact haf ⟨2, .data⟩ (by simp) rfl | exact haf ⟨2, .phase⟩ (by simp) rfl | exact haf ⟨2, .chain⟩ (by simp) rfl
      have h3 : D 3 = true := by first | exact haf ⟨3, .data⟩ (by simp) rfl | exact haf ⟨3, .phase⟩ (by simp) rfl | exact haf ⟨3, .chain⟩ (by simp) rfl
      have ns11 : D 11 = false := by
        cases hq : D 11 with
        | false => rfl
        | true => exact absurd (o11_4 hq) (by rw [hDi]; exact Bool.false_ne_true)
      have ns12 : D 12 = false := by
        cases hq : D 12 with
        | false => rfl
        | true => exact absurd (o12_4 hq) (by rw [hDi]; exact Bool.false_ne_true)
      have hx0 := ((hev.new 0 _ 39 rfl rfl h0).trans (f0 h0))
      have hx1 := ((hev.new 2 _ 41 rfl rfl h2).trans (f2 h2))
      have hx2 := ((hev.new 3 _ 42 rfl rfl h3).trans (f3 h3))
      have so := S.get 1 (I := ow (.slice AX n cX) x.ps FX) rfl
      refine op_call _ _ _ rfl (enters_of Try.func8 (by kernel_rfl) rfl) #[.agg #[.int .i64 x.lv, .slice AX n cX, .int .i64 x.hi, .int .i64 x.ri, .int .i64 x.ow], .agg #[.int .i64 k, .int .i64 v], .int .i64 at_] (by simp [hx0, hx1, hx2]) (HI.out AX cX w (OwnS.cap so).1 (OwnS.cap so).2 (OwnS.rs so HN.out)) (fun e w2 hh => ?_)
      obtain ⟨A8, c8, d8, F8, A9, c9, d9, F9, rfl, u8, u9, uap, v8, v9, bb, _, _⟩ := hh
      unfold ndV
      rw [HNL.out, HNU.out]
      rw [HNL.out] at u8
      rw [HNU.out] at u9
      have S2 := S.gainAt2 bb 9 10 (by omega) (by simp only [List.getElem?_cons_succ, List.getElem?_cons_zero, cnd_f hDi]) (by simp only [List.getElem?_cons_succ, List.getElem?_cons_zero, cnd_f hDi]) (ow (.slice A8 nl d8) lo.ps F8) (ow (.slice A9 nu d9) up.ps F9) u8 u9 (fun k hk => v8 k hk) (fun k hk => v9 k hk) (fun k hk => uap k hk)
      exact ⟨_, rfl, ⟨_, rfl, A8, c8, d8, F8, A9, c9, d9, F9, gb9, gb10, (by have SS := S2; rw [cnd_f ns11, cnd_f ns12] at SS; rw [show updB D 4 11 = false from ns11, show updB D 4 12 = false from ns12]; exact SS), f0, f1, f2, f3, fun _ => rfl, (fun h => absurd (o5_4 h) (by rw [hDi]; exact Bool.false_ne_true)), (fun h => absurd (o6_4 h) (by rw [hDi]; exact Bool.false_ne_true)), (fun h => absurd (o7_4 h) (by rw [hDi]; exact Bool.false_ne_true)), f8, f9, f10, f13, fun _ => rfl, fun _ => rfl, fun _ => rfl, fun _ => rfl, o11_9, fun _ => rfl, o12_10⟩⟩
    · obtain rfl := Option.some.inj (show some _ = some o from ho)
      have h4 : D 4 = true := by first | exact haf ⟨4, .data⟩ (by simp) rfl | exact haf ⟨4, .phase⟩ (by simp) rfl | exact haf ⟨4, .chain⟩ (by simp) rfl
      exact op_move (.inl rfl) ((hev.new 4 _ 43 rfl rfl h4).trans (f4 h4)) ⟨_, rfl, AG, cG, dG, FG, AH, cH, dH, FH, gb9, gb10, S, f0, f1, f2, f3, f4, fun _ => rfl, f6, f7, f8, f9, f10, f13, fun _ => h4, o6_4, o7_4, o11_4, o11_9, o12_4, o12_10⟩
    · obtain rfl := Option.some.inj (show some _ = some o from ho)
      have h5 : D 5 = true := by first | exact haf ⟨5, .data⟩ (by simp) rfl | exact haf ⟨5, .phase⟩ (by simp) rfl | exact haf ⟨5, .chain⟩ (by simp) rfl
      have h4 : D 4 = true := o5_4 h5
      exact op_extract _ _ rfl ((hev.new 5 _ 38 rfl rfl h5).trans (f5 h5)) rfl ⟨_, rfl, AG, cG, dG, FG, AH, cH, dH, FH, gb9, gb10, S, f0, f1, f2, f3, f4, f5, fun _ => rfl, f7, f8, f9, f10, f13, o5_4, fun _ => h4, o7_4, o11_4, o11_9, o12_4, o12_10⟩
    · obtain rfl := Option.some.inj (show some _ = some o from ho)
      have h5 : D 5 = true := by first | exact haf ⟨5, .data⟩ (by simp) rfl | exact haf ⟨5, .phase⟩ (by simp) rfl | exact haf ⟨5, .chain⟩ (by simp) rfl
      have h4 : D 4 = true := o5_4 h5
      exact op_extract _ _ rfl ((hev.new 5 _ 38 rfl rfl h5).trans (f5 h5)) rfl ⟨_, rfl, AG, cG, dG, FG, AH, cH, dH, FH, gb9, gb10, S, f0, f1, f2, f3, f4, f5, f6, fun _ => rfl, f8, f9, f10, f13, o5_4, o6_4, fun _ => h4, o11_4, o11_9, o12_4, o12_10⟩
    · obtain rfl := Option.some.inj (show some _ = some o from ho)
      have h5 : D 5 = true := by first | exact haf ⟨5, .data⟩ (by simp) rfl | exact haf ⟨5, .phase⟩ (by simp) rfl | exact haf ⟨5, .chain⟩ (by simp) rfl
      exact op_extract _ _ rfl ((hev.new 5 _ 38 rfl rfl h5).trans (f5 h5)) rfl ⟨_, rfl, AG, cG, dG, FG, AH, cH, dH, FH, gb9, gb10, S, f0, f1, f2, f3, f4, f5, f6, f7, fun _ => rfl, f9, f10, f13, o5_4, o6_4, o7_4, o11_4, o11_9, o12_4, o12_10⟩
    · obtain rfl := Option.some.inj (show some _ = some o from ho)
      have nst : D 11 = false := by
        cases hq : D 11 with
        | false => rfl
        | true => exact absurd (o11_9 hq) (by rw [hDi]; exact Bool.false_ne_true)
      refine op_nxAt 26 rfl S 11 (by simp only [List.getElem?_cons_succ, List.getElem?_cons_zero, cnd_f hDi]) _ Try.zeroValue26 (fun g w S => ⟨_, rfl, AG, cG, dG, FG, AH, cH, dH, FH, g, gb10, (by have e : updB D 9 11 = false := nst; rw [e]; exact S), f0, f1, f2, f3, f4, f5, f6, f7, f8, fun _ => rfl, f10, f13, o5_4, o6_4, o7_4, o11_4, fun _ => rfl, o12_4, o12_10⟩)
    · obtain rfl := Option.some.inj (show some _ = some o from ho)
      have nst : D 12 = false := by
        cases hq : D 12 with
        | false => rfl
        | true => exact absurd (o12_10 hq) (by rw [hDi]; exact Bool.false_ne_true)
      refine op_nxAt 26 rfl S 12 (by simp only [List.getElem?_cons_succ, List.getElem?_cons_zero, cnd_f hDi]) _ Try.zeroValue26 (fun g w S => ⟨_, rfl, AG, cG, dG, FG, AH, cH, dH, FH, gb9, g, (by have e : updB D 10 12 = false := nst; rw [e]; exact S), f0, f1, f2, f3, f4, f5, f6, f7, f8, f9, fun _ => rfl, f13, o5_4, o6_4, o7_4, o11_4, o11_9, o12_4, fun _ => rfl⟩)
    · obtain rfl := Option.some.inj (show some _ = some o from ho)
      have h9 : D 9 = true := by first | exact haf ⟨9, .data⟩ (by simp) rfl | exact haf ⟨9, .phase⟩ (by simp) rfl | exact haf ⟨9, .chain⟩ (by simp) rfl
      have h6 : D 6 = true := by first | exact haf ⟨6, .data⟩ (by simp) rfl | exact haf ⟨6, .phase⟩ (by simp) rfl | exact haf ⟨6, .chain⟩ (by simp) rfl
      have h4 : D 4 = true := o6_4 h6
      have ha : D 9 = true := by first | exact haf ⟨9, .data⟩ (by simp) rfl | exact haf ⟨9, .phase⟩ (by simp) rfl | exact haf ⟨9, .chain⟩ (by simp) rfl
      exact op_putR 26 _ _ rfl S 11 (g := gb9) (C := #[.int .i64 0, .slice none 0 0, .int .i64 0, .int .i64 0, .int .i64 0]) (t := 26) (by simp only [List.getElem?_cons_succ, List.getElem?_cons_zero, cnd_t ha, cnd_f hDi]) ((hev.new 9 _ 12 rfl rfl h9).trans (f9 h9)) _ ((hev.new 6 _ 44 rfl rfl h6).trans (f6 h6)) rfl (by kernel_rfl) rfl (fun w S => ⟨_, rfl, AG, cG, dG, FG, AH, cH, dH, FH, gb9, gb10, (by have e : updB D 11 9 = true := ha; rw [e]; exact S), f0, f1, f2, f3, f4, f5, f6, f7, f8, f9, f10, f13, o5_4, o6_4, o7_4, fun _ => h4, fun _ => h9, o12_4, o12_10⟩)
    · obtain rfl := Option.some.inj (show some _ = some o from ho)
      have h10 : D 10 = true := by first | exact haf ⟨10, .data⟩ (by simp) rfl | exact haf ⟨10, .phase⟩ (by simp) rfl | exact haf ⟨10, .chain⟩ (by simp) rfl
      have h7 : D 7 = true := by first | exact haf ⟨7, .data⟩ (by simp) rfl | exact haf ⟨7, .phase⟩ (by simp) rfl | exact haf ⟨7, .chain⟩ (by simp) rfl
      have h4 : D 4 = true := o7_4 h7
      have ha : D 10 = true := by first | exact haf ⟨10, .data⟩ (by simp) rfl | exact haf ⟨10, .phase⟩ (by simp) rfl | exact haf ⟨10, .chain⟩ (by simp) rfl
      exact op_putR 26 _ _ rfl S 12 (g := gb10) (C := #[.int .i64 0, .slice none 0 0, .int .i64 0, .int .i64 0, .int .i64 0]) (t := 26) (by simp only [List.getElem?_cons_succ, List.getElem?_cons_zero, cnd_t ha, cnd_f hDi]) ((hev.new 10 _ 13 rfl rfl h10).trans (f10 h10)) _ ((hev.new 7 _ 45 rfl rfl h7).trans (f7 h7)) rfl (by kernel_rfl) rfl (fun w S => ⟨_, rfl, AG, cG, dG, FG, AH, cH, dH, FH, gb9, gb10, (by have e : updB D 12 10 = true := ha; rw [e]; exact S), f0, f1, f2, f3, f4, f5, f6, f7, f8, f9, f10, f13, o5_4, o6_4, o7_4, o11_4, o11_9, fun _ => h4, fun _ => h10⟩)
    · obtain rfl := Option.some.inj (show some _ = some o from ho)
      have h8 : D 8 = true := by first | exact haf ⟨8, .data⟩ (by simp) rfl | exact haf ⟨8, .phase⟩ (by simp) rfl | exact haf ⟨8, .chain⟩ (by simp) rfl
      exact op_move (.inr rfl) ((hev.new 8 _ 46 rfl rfl h8).trans (f8 h8)) ⟨_, rfl, AG, cG, dG, FG, AH, cH, dH, FH, gb9, gb10, S, f0, f1, f2, f3, f4, f5, f6, f7, f8, f9, f10, fun _ => rfl, o5_4, o6_4, o7_4, o11_4, o11_9, o12_4, o12_10⟩
    · exact absurd ho (by simp)
  intro V w hI
  obtain ⟨AG, cG, dG, FG, AH, cH, dH, FH, gb9, gb10, S, f0, f1, f2, f3, f4, f5, f6, f7, f8, f9, f10, f13, o5_4, o6_4, o7_4, o11_4, o11_9, o12_4, o12_10⟩ := hI
  replace f0 := f0 rfl
  replace f1 := f1 rfl
  replace f2 := f2 rfl
  replace f3 := f3 rfl
  replace f4 := f4 rfl
  replace f5 := f5 rfl
  replace f6 := f6 rfl
  replace f7 := f7 rfl
  replace f8 := f8 rfl
  replace f9 := f9 rfl
  replace f10 := f10 rfl
  replace f13 := f13 rfl
  replace S : Hid (Sep noX w0 [bx gX #[.int .i64 x.lv, .slice AX n cX, .int .i64 x.hi, .int .i64 x.ri, .int .i64 x.ow] 26, ow (.slice AX n cX) x.ps FX, bx gp #[.int .i64 k, .int .i64 v] 42, bx gx #[.int .i64 x.lv, .slice A n c, .int .i64 x.hi, .int .i64 x.ri, .int .i64 x.ow] 41, ow (.slice A1 n c1) x.ps F1, ow (.slice AA nl cA) lo.ps FA, ow (.slice AB nu cB) up.ps FB, bx ga10 #[.int .i64 lo.lv, .slice AA nl cA, .int .i64 lo.hi, .int .i64 lo.ri, .int .i64 lo.ow] 26, bx ga11 #[.int .i64 up.lv, .slice AB nu cB, .int .i64 up.hi, .int .i64 up.ri, .int .i64 up.ow] 26, ow (.slice AG nl dG) lo.ps FG, ow (.slice AH nu dH) up.ps FH, bx gb9 #[.int .i64 lo.lv, .slice AG nl cG, .int .i64 lo.hi, .int .i64 lo.ri, .int .i64 lo.ow] 26, bx gb10 #[.int .i64 up.lv, .slice AH nu cH, .int .i64 up.hi, .int .i64 up.ri, .int .i64 up.ow] 26] w) := Lib.hid S
  simp only [putF, Act.put, List.setIfInBounds_toArray, List.set_cons_succ, List.set_cons_zero, f0, f1, f2, f3, f4, f5, f6, f7, f8, f9, f10, f13]
  clear f0 f1 f2 f3 f4 f5 f6 f7 f8 f9 f10 f13 o5_4 o6_4 o7_4 o11_4 o11_9 o12_4 o12_10
  go_wp2_with (first
      | go_skip
      | (refine wpList_op rfl (op_row 26 _ rfl S.out 11 rfl rfl Try.isAgg26 (by kernel_rfl) ?_); simp only [Act.put, List.setIfInBounds_toArray, List.set_cons_succ, List.set_cons_zero])
      | (refine wpList_op rfl (op_row 26 _ rfl S.out 7 rfl rfl Try.isAgg26 (by kernel_rfl) ?_); simp only [Act.put, List.setIfInBounds_toArray, List.set_cons_succ, List.set_cons_zero]))
  refine (EL.out AG AA _ (OwnS.rs (S.out.get 9 rfl) HNL.out) (OwnS.rs (S.out.get 5 rfl) HNL.out)).mono ?_
  rintro e w ⟨rfl, b⟩
  replace S := Lib.hid (S.out.call b)
  clear b
  go_wp2_with (first
      | go_skip
      | (refine wpList_op rfl (op_row 26 _ rfl S.out 12 rfl rfl Try.isAgg26 (by kernel_rfl) ?_); simp only [Act.put, List.setIfInBounds_toArray, List.set_cons_succ, List.set_cons_zero])
      | (refine wpList_op rfl (op_row 26 _ rfl S.out 8 rfl rfl Try.isAgg26 (by kernel_rfl) ?_); simp only [Act.put, List.setIfInBounds_toArray, List.set_cons_succ, List.set_cons_zero]))
  refine (EU.out AH AB _ (OwnS.rs (S.out.get 10 rfl) HNU.out) (OwnS.rs (S.out.get 6 rfl) HNU.out)).mono ?_
  rintro e w ⟨rfl, b⟩
  replace S := Lib.hid (S.out.call b)
  clear b
  go_wp2_with fail
  refine wp_region_ev (by kernel_rfl) _ (by kernel_rfl) (by kernel_rfl) 146 rfl (by kernel_rfl) (fun D V w => ∃ AY : Option Addr, ∃ cY : Nat, ∃ FY : FP, Sep noX w0 [bx gX #[.int .i64 x.lv, .slice AX n cX, .int .i64 x.hi, .int .i64 x.ri, .int .i64 x.ow] 26, ow (.slice AX n cX) x.ps FX, bx gp #[.int .i64 k, .int .i64 v] 42, bx gx #[.int .i64 x.lv, .slice A n c, .int .i64 x.hi, .int .i64 x.ri, .int .i64 x.ow] 41, ow (.slice A1 n c1) x.ps F1, ow (.slice AA nl cA) lo.ps FA, ow (.slice AB nu cB) up.ps FB, bx ga10 #[.int .i64 lo.lv, .slice AA nl cA, .int .i64 lo.hi, .int .i64 lo.ri, .int .i64 lo.ow] 26, bx ga11 #[.int .i64 up.lv, .slice AB nu cB, .int .i64 up.hi, .int .i64 up.ri, .int .i64 up.ow] 26, ow (.slice AG nl dG) lo.ps FG, ow (.slice AH nu dH) up.ps FH, bx gb9 #[.int .i64 lo.lv, .slice AG nl cG, .int .i64 lo.hi, .int .i64 lo.ri, .int .i64 lo.ow] 26, bx gb10 #[.int .i64 up.lv, .slice AH nu cH, .int .i64 up.hi, .int .i64 up.ri, .int .i64 up.ow] 26, cnd (D 2) em (ow (.slice AY n cY) x.ps FY)] w ∧ (D 0 = true → V 0 = .agg #[.int .i64 x.lv, .slice AX n cX, .int .i64 x.hi, .int .i64 x.ri, .int .i64 x.ow]) ∧ (D 1 = true → V 1 = .agg #[.int .i64 x.lv, .slice A n c, .int .i64 x.hi, .int .i64 x.ri, .int .i64 x.ow]) ∧ (D 2 = true → V 2 = .agg #[.int .i64 x.lv, .slice AY n cY, .int .i64 x.hi, .int .i64 x.ri, .int .i64 x.ow]) ∧ (D 3 = true → V 3 = .bool true) ∧ (D 4 = true → V 4 = .bool (!true))) ?_ ?_ ?_
  · intro D hD
    have d2 := hD 2 (by decide)
    exact ⟨none, 0, fun _ => False, by rw [cnd_f d2]; exact S.out.drew.ems 1, (fun h => absurd h (by rw [hD 0 (by decide)]; exact Bool.false_ne_true)), (fun h => absurd h (by rw [hD 1 (by decide)]; exact Bool.false_ne_true)), (fun h => absurd h (by rw [hD 2 (by decide)]; exact Bool.false_ne_true)), (fun h => absurd h (by rw [hD 3 (by decide)]; exact Bool.false_ne_true)), (fun h => absurd h (by rw [hD 4 (by decide)]; exact Bool.false_ne_true))⟩
  · intro i o D V w a ho hI hDi haf hev
    obtain ⟨AY, cY, FY, S, f0, f1, f2, f3, f4⟩ := hI
    rcases i with _ | _ | _ | _ | _ | i
    · obtain rfl := Option.some.inj (show some _ = some o from ho)
      exact op_row 26 _ rfl S 0 rfl ((hev.old 11 (by kernel_rfl)).trans rfl) Try.isAgg26 (by kernel_rfl) ⟨_, rfl, AY, cY, FY, S, fun _ => rfl, f1, f2, f3, f4⟩
    · obtain rfl := Option.some.inj (show some _ = some o from ho)
      exact op_row 41 _ rfl S 3 rfl ((hev.old 3 (by kernel_rfl)).trans rfl) Try.isAgg41 (by kernel_rfl) ⟨_, rfl, AY, cY, FY, S, f0, fun _ => rfl, f2, f3, f4⟩
    · obtain rfl := Option.some.inj (show some _ = some o from ho)
      have h1 : D 1 = true := by first | exact haf ⟨1, .data⟩ (by simp) rfl | exact haf ⟨1, .phase⟩ (by simp) rfl | exact haf ⟨1, .chain⟩ (by simp) rfl
      have hx0 := ((hev.new 1 _ 63 rfl rfl h1).trans (f1 h1))
      refine op_call _ _ _ rfl (enters_of Try.func17 (by kernel_rfl) rfl) #[.agg #[.int .i64 x.lv, .slice A n c, .int .i64 x.hi, .int .i64 x.ri, .int .i64 x.ow]] (by simp [hx0]) (TN.out w (S.rs HH.out)) (fun e w2 hh => ?_)
      obtain ⟨A9, c9, F9, rfl, oo, ff, bb⟩ := hh
      have S2 := S.turn 13 (I := em) (by simp only [List.getElem?_cons_succ, List.getElem?_cons_zero, cnd_f hDi]) (Only.of_below bb) (ow (.slice A9 n c9) x.ps F9) oo (fun k hk => ⟨.inr (ff k hk).1, (ff k hk).2⟩)
      exact ⟨_, rfl, ⟨_, rfl, A9, c9, F9, S2, f0, f1, fun _ => rfl, f3, f4⟩⟩
    · obtain rfl := Option.some.inj (show some _ = some o from ho)
      have h0 : D 0 = true := by first | exact haf ⟨0, .data⟩ (by simp) rfl | exact haf ⟨0, .phase⟩ (by simp) rfl | exact haf ⟨0, .chain⟩ (by simp) rfl
      have h2 : D 2 = true := by first | exact haf ⟨2, .data⟩ (by simp) rfl | exact haf ⟨2, .phase⟩ (by simp) rfl | exact haf ⟨2, .chain⟩ (by simp) rfl
      have hx0 := ((hev.new 0 _ 62 rfl rfl h0).trans (f0 h0))
      have hx1 := ((hev.new 2 _ 64 rfl rfl h2).trans (f2 h2))
      refine op_call _ _ _ rfl (enters_of Try.func19 (by kernel_rfl) rfl) #[.agg #[.int .i64 x.lv, .slice AX n cX, .int .i64 x.hi, .int .i64 x.ri, .int .i64 x.ow], .agg #[.int .i64 x.lv, .slice AY n cY, .int .i64 x.hi, .int .i64 x.ri, .int .i64 x.ow]] (by simp [hx0, hx1]) (EX.out AX AY w (OwnS.rs (S.get 1 rfl) HN.out) (OwnS.rs (S.get 13 (I := ow (.slice AY n cY) x.ps FY) (by simp only [List.getElem?_cons_succ, List.getElem?_cons_zero, cnd_t h2])) HN.out)) (fun e w2 hh => ?_)
      obtain ⟨rfl, b⟩ := hh
      exact ⟨_, rfl, ⟨_, rfl, AY, cY, FY, S.call b, f0, f1, f2, fun _ => rfl, f4⟩⟩
    · obtain rfl := Option.some.inj (show some _ = some o from ho)
      have h3 : D 3 = true := by first | exact haf ⟨3, .data⟩ (by simp) rfl | exact haf ⟨3, .phase⟩ (by simp) rfl | exact haf ⟨3, .chain⟩ (by simp) rfl
      exact op_not _ _ rfl ((hev.new 3 _ 65 rfl rfl h3).trans (f3 h3)) ⟨_, rfl, AY, cY, FY, S, f0, f1, f2, f3, fun _ => rfl⟩
    · exact absurd ho (by simp)
  intro V w hI
  obtain ⟨AY, cY, FY, S, f0, f1, f2, f3, f4⟩ := hI
  replace f0 := f0 rfl
  replace f1 := f1 rfl
  replace f2 := f2 rfl
  replace f3 := f3 rfl
  replace f4 := f4 rfl
  replace S : Hid (Sep noX w0 [bx gX #[.int .i64 x.lv, .slice AX n cX, .int .i64 x.hi, .int .i64 x.ri, .int .i64 x.ow] 26, ow (.slice AX n cX) x.ps FX, bx gp #[.int .i64 k, .int .i64 v] 42, bx gx #[.int .i64 x.lv, .slice A n c, .int .i64 x.hi, .int .i64 x.ri, .int .i64 x.ow] 41, ow (.slice A1 n c1) x.ps F1, ow (.slice AA nl cA) lo.ps FA, ow (.slice AB nu cB) up.ps FB, bx ga10 #[.int .i64 lo.lv, .slice AA nl cA, .int .i64 lo.hi, .int .i64 lo.ri, .int .i64 lo.ow] 26, bx ga11 #[.int .i64 up.lv, .slice AB nu cB, .int .i64 up.hi, .int .i64 up.ri, .int .i64 up.ow] 26, ow (.slice AG nl dG) lo.ps FG, ow (.slice AH nu dH) up.ps FH, bx gb9 #[.int .i64 lo.lv, .slice AG nl cG, .int .i64 lo.hi, .int .i64 lo.ri, .int .i64 lo.ow] 26, bx gb10 #[.int .i64 up.lv, .slice AH nu cH, .int .i64 up.hi, .int .i64 up.ri, .int .i64 up.ow] 26, ow (.slice AY n cY) x.ps FY] w) := Lib.hid S
  simp only [putF, Act.put, List.setIfInBounds_toArray, List.set_cons_succ, List.set_cons_zero, f0, f1, f2, f3, f4]
  clear f0 f1 f2 f3 f4
  go_wp2_with (first
      | go_skip
      | (refine wpList_op rfl (op_row 26 _ rfl S.out 0 rfl rfl Try.isAgg26 (by kernel_rfl) ?_); simp only [Act.put, List.setIfInBounds_toArray, List.set_cons_succ, List.set_cons_zero]))
  refine (MX.out _ _ (S.out.get 1 rfl)).mono ?_
  rintro e w9 ⟨rfl, o9, y9⟩
  replace S : Hid (Sep noX w0 [bx gX #[.int .i64 x.lv, .slice AX n cX, .int .i64 x.hi, .int .i64 x.ri, .int .i64 x.ow] 26, ow (.slice AX n cX) (mkS 1 x.ps) FX, bx gp #[.int .i64 k, .int .i64 v] 42, bx gx #[.int .i64 x.lv, .slice A n c, .int .i64 x.hi, .int .i64 x.ri, .int .i64 x.ow] 41, ow (.slice A1 n c1) x.ps F1, ow (.slice AA nl cA) lo.ps FA, ow (.slice AB nu cB) up.ps FB, bx ga10 #[.int .i64 lo.lv, .slice AA nl cA, .int .i64 lo.hi, .int .i64 lo.ri, .int .i64 lo.ow] 26, bx ga11 #[.int .i64 up.lv, .slice AB nu cB, .int .i64 up.hi, .int .i64 up.ri, .int .i64 up.ow] 26, ow (.slice AG nl dG) lo.ps FG, ow (.slice AH nu dH) up.ps FH, bx gb9 #[.int .i64 lo.lv, .slice AG nl cG, .int .i64 lo.hi, .int .i64 lo.ri, .int .i64 lo.ow] 26, bx gb10 #[.int .i64 up.lv, .slice AH nu cH, .int .i64 up.hi, .int .i64 up.ri, .int .i64 up.ow] 26, ow (.slice AY n cY) x.ps FY] w9) := Lib.hid (S.out.marked 1 rfl y9 o9)
  clear o9 y9
  go_wp2_with (first
      | go_skip
      | (refine wpList_op rfl (op_row 26 _ rfl S.out 11 rfl rfl Try.isAgg26 (by kernel_rfl) ?_); simp only [Act.put, List.setIfInBounds_toArray, List.set_cons_succ, List.set_cons_zero])
      | (refine wpList_op rfl (op_row 26 _ rfl S.out 7 rfl rfl Try.isAgg26 (by kernel_rfl) ?_); simp only [Act.put, List.setIfInBounds_toArray, List.set_cons_succ, List.set_cons_zero]))
  refine (EL.out AG AA _ (OwnS.rs (S.out.get 9 rfl) HNL.out) (OwnS.rs (S.out.get 5 rfl) HNL.out)).mono ?_
  rintro e w ⟨rfl, b⟩
  replace S := Lib.hid (S.out.call b)
  clear b
  go_wp2_with (first
      | go_skip
      | (refine wpList_op rfl (op_row 26 _ rfl S.out 12 rfl rfl Try.isAgg26 (by kernel_rfl) ?_); simp only [Act.put, List.setIfInBounds_toArray, List.set_cons_succ, List.set_cons_zero])
      | (refine wpList_op rfl (op_row 26 _ rfl S.out 8 rfl rfl Try.isAgg26 (by kernel_rfl) ?_); simp only [Act.put, List.setIfInBounds_toArray, List.set_cons_succ, List.set_cons_zero]))
  refine (EU.out AH AB _ (OwnS.rs (S.out.get 10 rfl) HNU.out) (OwnS.rs (S.out.get 6 rfl) HNU.out)).mono ?_
  rintro e w ⟨rfl, b⟩
  replace S := Lib.hid (S.out.call b)
  clear b
  go_wp2_with (first
      | go_skip
      | (refine wpList_op rfl (op_row 26 _ rfl S.out 11 rfl rfl Try.isAgg26 (by kernel_rfl) ?_); simp only [Act.put, List.setIfInBounds_toArray, List.set_cons_succ, List.set_cons_zero]))
  refine (MG.out _ _ (S.out.get 9 rfl)).mono ?_
  rintro e w9 ⟨rfl, o9, y9⟩
  replace S : Hid (Sep noX w0 [bx gX #[.int .i64 x.lv, .slice AX n cX, .int .i64 x.hi, .int .i64 x.ri, .int .i64 x.ow] 26, ow (.slice AX n cX) (mkS 1 x.ps) FX, bx gp #[.int .i64 k, .int .i64 v] 42, bx gx #[.int .i64 x.lv, .slice A n c, .int .i64 x.hi, .int .i64 x.ri, .int .i64 x.ow] 41, ow (.slice A1 n c1) x.ps F1, ow (.slice AA nl cA) lo.ps FA, ow (.slice AB nu cB) up.ps FB, bx ga10 #[.int .i64 lo.lv, .slice AA nl cA, .int .i64 lo.hi, .int .i64 lo.ri, .int .i64 lo.ow] 26, bx ga11 #[.int .i64 up.lv, .slice AB nu cB, .int .i64 up.hi, .int .i64 up.ri, .int .i64 up.ow] 26, ow (.slice AG nl dG) (mkS 1 lo.ps) FG, ow (.slice AH nu dH) up.ps FH, bx gb9 #[.int .i64 lo.lv, .slice AG nl cG, .int .i64 lo.hi, .int .i64 lo.ri, .int .i64 lo.ow] 26, bx gb10 #[.int .i64 up.lv, .slice AH nu cH, .int .i64 up.hi, .int .i64 up.ri, .int .i64 up.ow] 26, ow (.slice AY n cY) x.ps FY] w9) := Lib.hid (S.out.marked 9 rfl y9 o9)
  clear o9 y9
  go_wp2_with (first
      | go_skip
      | (refine wpList_op rfl (op_row 26 _ rfl S.out 12 rfl rfl Try.isAgg26 (by kernel_rfl) ?_); simp only [Act.put, List.setIfInBounds_toArray, List.set_cons_succ, List.set_cons_zero]))
  refine (MH.out _ _ (S.out.get 10 rfl)).mono ?_
  rintro e w9 ⟨rfl, o9, y9⟩
  replace S : Hid (Sep noX w0 [bx gX #[.int .i64 x.lv, .slice AX n cX, .int .i64 x.hi, .int .i64 x.ri, .int .i64 x.ow] 26, ow (.slice AX n cX) (mkS 1 x.ps) FX, bx gp #[.int .i64 k, .int .i64 v] 42, bx gx #[.int .i64 x.lv, .slice A n c, .int .i64 x.hi, .int .i64 x.ri, .int .i64 x.ow] 41, ow (.slice A1 n c1) x.ps F1, ow (.slice AA nl cA) lo.ps FA, ow (.slice AB nu cB) up.ps FB, bx ga10 #[.int .i64 lo.lv, .slice AA nl cA, .int .i64 lo.hi, .int .i64 lo.ri, .int .i64 lo.ow] 26, bx ga11 #[.int .i64 up.lv, .slice AB nu cB, .int .i64 up.hi, .int .i64 up.ri, .int .i64 up.ow] 26, ow (.slice AG nl dG) (mkS 1 lo.ps) FG, ow (.slice AH nu dH) (mkS K2 up.ps) FH, bx gb9 #[.int .i64 lo.lv, .slice AG nl cG, .int .i64 lo.hi, .int .i64 lo.ri, .int .i64 lo.ow] 26, bx gb10 #[.int .i64 up.lv, .slice AH nu cH, .int .i64 up.hi, .int .i64 up.ri, .int .i64 up.ow] 26, ow (.slice AY n cY) x.ps FY] w9) := Lib.hid (S.out.marked 10 rfl y9 o9)
  clear o9 y9
  go_wp2_with (first
      | go_skip
      | (refine wpList_op rfl (op_row 26 _ rfl S.out 11 rfl rfl Try.isAgg26 (by kernel_rfl) ?_); simp only [Act.put, List.setIfInBounds_toArray, List.set_cons_succ, List.set_cons_zero]))
  refine (DG.out _ _ (OwnS.rs (S.out.get 9 rfl) ML.out)).mono ?_
  rintro e w ⟨rfl, b⟩
  replace S := Lib.hid (S.out.call b)
  clear b
  go_wp2_with (first
      | go_skip
      | (refine wpList_op rfl (op_row 26 _ rfl S.out 12 rfl rfl Try.isAgg26 (by kernel_rfl) ?_); simp only [Act.put, List.setIfInBounds_toArray, List.set_cons_succ, List.set_cons_zero]))
  refine (DH.out _ _ (OwnS.rs (S.out.get 10 rfl) MU.out)).mono ?_
  rintro e w ⟨rfl, b⟩
  replace S := Lib.hid (S.out.call b)
  clear b
  go_wp2_with fail
  refine wp_region_ev (by kernel_rfl) _ (by kernel_rfl) (by kernel_rfl) 146 rfl (by kernel_rfl) (fun D V w => ∃ AZ : Option Addr, ∃ cZ : Nat, ∃ FZ : FP, ∃ AP : Option Addr, ∃ cP : Nat, ∃ dP : Nat, ∃ FPP : FP, ∃ AQ : Option Addr, ∃ cQ : Nat, ∃ dQ : Nat, ∃ FQQ : FP, ∃ gd10 : Nat, ∃ gd11 : Nat, Sep noX w0 [bx gX #[.int .i64 x.lv, .slice AX n cX, .int .i64 x.hi, .int .i64 x.ri, .int .i64 x.ow] 26, ow (.slice AX n cX) (mkS 1 x.ps) FX, bx gp #[.int .i64 k, .int .i64 v] 42, bx gx #[.int .i64 x.lv, .slice A n c, .int .i64 x.hi, .int .i64 x.ri, .int .i64 x.ow] 41, ow (.slice A1 n c1) x.ps F1, ow (.slice AA nl cA) lo.ps FA, ow (.slice AB nu cB) up.ps FB, bx ga10 #[.int .i64 lo.lv, .slice AA nl cA, .int .i64 lo.hi, .int .i64 lo.ri, .int .i64 lo.ow] 26, bx ga11 #[.int .i64 up.lv, .slice AB nu cB, .int .i64 up.hi, .int .i64 up.ri, .int .i64 up.ow] 26, ow (.slice AG nl dG) (mkS 1 lo.ps) FG, ow (.slice AH nu dH) (mkS K2 up.ps) FH, bx gb9 #[.int .i64 lo.lv, .slice AG nl cG, .int .i64 lo.hi, .int .i64 lo.ri, .int .i64 lo.ow] 26, bx gb10 #[.int .i64 up.lv, .slice AH nu cH, .int .i64 up.hi, .int .i64 up.ri, .int .i64 up.ow] 26, ow (.slice AY n cY) x.ps FY, cnd (D 1) em (ow (.slice AZ n cZ) x.ps FZ), cnd (D 5) em (ow (.slice AP nl dP) lo.ps FPP), cnd (D 5) em (ow (.slice AQ nu dQ) up.ps FQQ), cnd (D 10) em (cnd (D 12) (bx gd10 #[.int .i64 0, .slice none 0 0, .int .i64 0, .int .i64 0, .int .i64 0] 26) (bx gd10 #[.int .i64 lo.lv, .slice AP nl cP, .int .i64 lo.hi, .int .i64 lo.ri, .int .i64 lo.ow] 26)), cnd (D 11) em (cnd (D 13) (bx gd11 #[.int .i64 0, .slice none 0 0, .int .i64 0, .int .i64 0, .int .i64 0] 26) (bx gd11 #[.int .i64 up.lv, .slice AQ nu cQ, .int .i64 up.hi, .int .i64 up.ri, .int .i64 up.ow] 26))] w ∧ (D 0 = true → V 0 = .agg #[.int .i64 x.lv, .slice A n c, .int .i64 x.hi, .int .i64 x.ri, .int .i64 x.ow]) ∧ (D 1 = true → V 1 = .agg #[.int .i64 x.lv, .slice AZ n cZ, .int .i64 x.hi, .int .i64 x.ri, .int .i64 x.ow]) ∧ (D 2 = true → V 2 = .agg #[.int .i64 k, .int .i64 v]) ∧ (D 3 = true → V 3 = .agg #[.int .i64 k, .int .i64 v]) ∧ (D 4 = true → V 4 = .int .i64 at_) ∧ (D 5 = true → V 5 = .tuple #[.agg #[.int .i64 lo.lv, .slice AP nl cP, .int .i64 lo.hi, .int .i64 lo.ri, .int .i64 lo.ow], .agg #[.int .i64 up.lv, .slice AQ nu cQ, .int .i64 up.hi, .int .i64 up.ri, .int .i64 up.ow], .bool hb]) ∧ (D 6 = true → V 6 = .tuple #[.agg #[.int .i64 lo.lv, .slice AP nl cP, .int .i64 lo.hi, .int .i64 lo.ri, .int .i64 lo.ow], .agg #[.int .i64 up.lv, .slice AQ nu cQ, .int .i64 up.hi, .int .i64 up.ri, .int .i64 up.ow], .bool hb]) ∧ (D 7 = true → V 7 = .agg #[.int .i64 lo.lv, .slice AP nl cP, .int .i64 lo.hi, .int .i64 lo.ri, .int .i64 lo.ow]) ∧ (D 8 = true → V 8 = .agg #[.int .i64 up.lv, .slice AQ nu cQ, .int .i64 up.hi, .int .i64 up.ri, .int .i64 up.ow]) ∧ (D 9 = true → V 9 = .bool hb) ∧ (D 10 = true → V 10 = .pointer (some ⟨gd10, 0, none⟩)) ∧ (D 11 = true → V 11 = .pointer (some ⟨gd11, 0, none⟩)) ∧ (D 14 = true → V 14 = .bool hb) ∧ (D 6 = true → D 5 = true) ∧ (D 7 = true → D 5 = true) ∧ (D 8 = true → D 5 = true) ∧ (D 12 = true → D 5 = true) ∧ (D 12 = true → D 10 = true) ∧ (D 13 = true → D 5 = true) ∧ (D 13 = true → D 11 = true)) ?_ ?_ ?_
  · intro D hD
    have d1 := hD 1 (by decide)
    have d5 := hD 5 (by decide)
    have d10 := hD 10 (by decide)
    have d11 := hD 11 (by decide)
    have d12 := hD 12 (by decide)
    have d13 := hD 13 (by decide)
    exact ⟨none, 0, fun _ => False, none, 0, 0, fun _ => False, none, 0, 0, fun _ => False, 0, 0, by rw [cnd_f d1, cnd_f d5, cnd_f d5, cnd_f d10, cnd_f d11]; exact S.out.drew.ems 5, (fun h => absurd h (by rw [hD 0 (by decide)]; exact Bool.false_ne_true)), (fun h => absurd h (by rw [hD 1 (by decide)]; exact Bool.false_ne_true)), (fun h => absurd h (by rw [hD 2 (by decide)]; exact Bool.false_ne_true)), (fun h => absurd h (by rw [hD 3 (by decide)]; exact Bool.false_ne_true)), (fun h => absurd h (by rw [hD 4 (by decide)]; exact Bool.false_ne_true)), (fun h => absurd h (by rw [hD 5 (by decide)]; exact Bool.false_ne_true)), (fun h => absurd h (by rw [hD 6 (by decide)]; exact Bool.false_ne_true)), (fun h => absurd h (by rw [hD 7 (by decide)]; exact Bool.false_ne_true)), (fun h => absurd h (by rw [hD 8 (by decide)]; exact Bool.false_ne_true)), (fun h => absurd h (by rw [hD 9 (by decide)]; exact Bool.false_ne_true)), (fun h => absurd h (by rw [hD 10 (by decide)]; exact Bool.false_ne_true)), (fun h => absurd h (by rw [hD 11 (by decide)]; exact Bool.false_ne_true)), (fun h => absurd h (by rw [hD 14 (by decide)]; exact Bool.false_ne_true)), (fun h => absurd h (by rw [hD 6 (by decide)]; exact Bool.false_ne_true)), (fun h => absurd h (by rw [hD 7 (by decide)]; exact Bool.false_ne_true)), (fun h => absurd h (by rw [hD 8 (by decide)]; exact Bool.false_ne_true)), (fun h => absurd h (by rw [hD 12 (by decide)]; exact Bool.false_ne_true)), (fun h => absurd h (by rw [hD 12 (by decide)]; exact Bool.false_ne_true)), (fun h => absurd h (by rw [hD 13 (by decide)]; exact Bool.false_ne_true)), (fun h => absurd h (by rw [hD 13 (by decide)]; exact Bool.false_ne_true))⟩
  · intro i o D V w a ho hI hDi haf hev
    obtain ⟨AZ, cZ, FZ, AP, cP, dP, FPP, AQ, cQ, dQ, FQQ, gd10, gd11, S, f0, f1, f2, f3, f4, f5, f6, f7, f8, f9, f10, f11, f14, o6_5, o7_5, o8_5, o12_5, o12_10, o13_5, o13_11⟩ := hI
    rcases i with _ | _ | _ | _ | _ | _ | _ | _ | _ | _ | _ | _ | _ | _ | _ | i
    · obtain rfl := Option.some.inj (show some _ = some o from ho)
      exact op_row 41 _ rfl S 3 rfl ((hev.old 3 (by kernel_rfl)).trans rfl) Try.isAgg41 (by kernel_rfl) ⟨_, rfl, AZ, cZ, FZ, AP, cP, dP, FPP, AQ, cQ, dQ, FQQ, gd10, gd11, S, fun _ => rfl, f1, f2, f3, f4, f5, f6, f7, f8, f9, f10, f11, f14, o6_5, o7_5, o8_5, o12_5, o12_10, o13_5, o13_11⟩
    · obtain rfl := Option.some.inj (show some _ = some o from ho)
      have h0 : D 0 = true := by first | exact haf ⟨0, .data⟩ (by simp) rfl | exact haf ⟨0, .phase⟩ (by simp) rfl | exact haf ⟨0, .chain⟩ (by simp) rfl
      have hx0 := ((hev.new 0 _ 109 rfl rfl h0).trans (f0 h0))
      refine op_call _ _ _ rfl (enters_of Try.func17 (by kernel_rfl) rfl) #[.agg #[.int .i64 x.lv, .slice A n c, .int .i64 x.hi, .int .i64 x.ri, .int .i64 x.ow]] (by simp [hx0]) (TN.out w (S.rs HH.out)) (fun e w2 hh => ?_)
      obtain ⟨A9, c9, F9, rfl, oo, ff, bb⟩ := hh
      have S2 := S.turn 14 (I := em) (by simp only [List.getElem?_cons_succ, List.getElem?_cons_zero, cnd_f hDi]) (Only.of_below bb) (ow (.slice A9 n c9) x.ps F9) oo (fun k hk => ⟨.inr (ff k hk).1, (ff k hk).2⟩)
      exact ⟨_, rfl, ⟨_, rfl, A9, c9, F9, AP, cP, dP, FPP, AQ, cQ, dQ, FQQ, gd10, gd11, S2, f0, fun _ => rfl, f2, f3, f4, f5, f6, f7, f8, f9, f10, f11, f14, o6_5, o7_5, o8_5, o12_5, o12_10, o13_5, o13_11⟩⟩
    · obtain rfl := Option.some.inj (show some _ = some o from ho)
      exact op_row 42 _ rfl S 2 rfl ((hev.old 4 (by kernel_rfl)).trans rfl) Try.isAgg42 (by kernel_rfl) ⟨_, rfl, AZ, cZ, FZ, AP, cP, dP, FPP, AQ, cQ, dQ, FQQ, gd10, gd11, S, f0, f1, fun _ => rfl, f3, f4, f5, f6, f7, f8, f9, f10, f11, f14, o6_5, o7_5, o8_5, o12_5, o12_10, o13_5, o13_11⟩
    · obtain rfl := Option.some.inj (show some _ = some o from ho)
      have h2 : D 2 = true := by first | exact haf ⟨2, .data⟩ (by simp) rfl | exact haf ⟨2, .phase⟩ (by simp) rfl | exact haf ⟨2, .chain⟩ (by simp) rfl
      have hx0 := ((hev.new 2 _ 111 rfl rfl h2).trans (f2 h2))
      refine op_call _ _ _ rfl (enters_of Try.func18 (by kernel_rfl) rfl) #[.agg #[.int .i64 k, .int .i64 v]] (by simp [hx0]) (TP.out w) (fun e w2 hh => ?_)
      obtain ⟨rfl, b⟩ := hh
      exact ⟨_, rfl, ⟨_, rfl, AZ, cZ, FZ, AP, cP, dP, FPP, AQ, cQ, dQ, FQQ, gd10, gd11, S.call b, f0, f1, f2, fun _ => rfl, f4, f5, f6, f7, f8, f9, f10, f11, f14, o6_5, o7_5, o8_5, o12_5, o12_10, o13_5, o13_11⟩⟩
    · obtain rfl := Option.some.inj (show some _ = some o from ho)
      exact op_move (.inl rfl) ((hev.old 2 (by kernel_rfl)).trans rfl) ⟨_, rfl, AZ, cZ, FZ, AP, cP, dP, FPP, AQ, cQ, dQ, FQQ, gd10, gd11, S, f0, f1, f2, f3, fun _ => rfl, f5, f6, f7, f8, f9, f10, f11, f14, o6_5, o7_5, o8_5, o12_5, o12_10, o13_5, o13_11⟩
    · obtain rfl := Option.some.inj (show some _ = some o from ho)
      have h1 : D 1 = true := by first | exact haf ⟨1, .data⟩ (by simp) rfl | exact haf ⟨1, .phase⟩ (by simp) rfl | exact haf ⟨1, .chain⟩ (by simp) rfl
      have h3 : D 3 = true := by first | exact haf ⟨3, .data⟩ (by simp) rfl | exact haf ⟨3, .phase⟩ (by simp) rfl | exact haf ⟨3, .chain⟩ (by simp) rfl
      have h4 : D 4 = true := by first | exact haf ⟨4, .data⟩ (by simp) rfl | exact haf ⟨4, .phase⟩ (by simp) rfl | exact haf ⟨4, .chain⟩ (by simp) rfl
      have ns12 : D 12 = false := by
        cases hq : D 12 with
        | false => rfl
        | true => exact absurd (o12_5 hq) (by rw [hDi]; exact Bool.false_ne_true)
      have ns13 : D 13 = false := by
        cases hq : D 13 with
        | false => rfl
        | true => exact absurd (o13_5 hq) (by rw [hDi]; exact Bool.false_ne_true)
      have hx0 := ((hev.new 1 _ 110 rfl rfl h1).trans (f1 h1))
      have hx1 := ((hev.new 3 _ 112 rfl rfl h3).trans (f3 h3))
      have hx2 := ((hev.new 4 _ 113 rfl rfl h4).trans (f4 h4))
      have so := S.get 14 (I := ow (.slice AZ n cZ) x.ps FZ) (by simp only [List.getElem?_cons_succ, List.getElem?_cons_zero, cnd_t h1])
      refine op_call _ _ _ rfl (enters_of Try.func8 (by kernel_rfl) rfl) #[.agg #[.int .i64 x.lv, .slice AZ n cZ, .int .i64 x.hi, .int .i64 x.ri, .int .i64 x.ow], .agg #[.int .i64 k, .int .i64 v], .int .i64 at_] (by simp [hx0, hx1, hx2]) (HI.out AZ cZ w (OwnS.cap so).1 (OwnS.cap so).2 (OwnS.rs so HN.out)) (fun e w2 hh => ?_)
      obtain ⟨A8, c8, d8, F8, A9, c9, d9, F9, rfl, u8, u9, uap, v8, v9, bb, _, _⟩ := hh
      unfold ndV
      rw [HNL.out, HNU.out]
      rw [HNL.out] at u8
      rw [HNU.out] at u9
      have S2 := S.gainAt2 bb 15 16 (by omega) (by simp only [List.getElem?_cons_succ, List.getElem?_cons_zero, cnd_f hDi]) (by simp only [List.getElem?_cons_succ, List.getElem?_cons_zero, cnd_f hDi]) (ow (.slice A8 nl d8) lo.ps F8) (ow (.slice A9 nu d9) up.ps F9) u8 u9 (fun k hk => v8 k hk) (fun k hk => v9 k hk) (fun k hk => uap k hk)
      exact ⟨_, rfl, ⟨_, rfl, AZ, cZ, FZ, A8, c8, d8, F8, A9, c9, d9, F9, gd10, gd11, (by have SS := S2; rw [cnd_f ns12, cnd_f ns13] at SS; rw [show updB D 5 12 = false from ns12, show updB D 5 13 = false from ns13]; exact SS), f0, f1, f2, f3, f4, fun _ => rfl, (fun h => absurd (o6_5 h) (by rw [hDi]; exact Bool.false_ne_true)), (fun h => absurd (o7_5 h) (by rw [hDi]; exact Bool.false_ne_true)), (fun h => absurd (o8_5 h) (by rw [hDi]; exact Bool.false_ne_true)), f9, f10, f11, f14, fun _ => rfl, fun _ => rfl, fun _ => rfl, fun _ => rfl, o12_10, fun _ => rfl, o13_11⟩⟩
    · obtain rfl := Option.some.inj (show some _ = some o from ho)
      have h5 : D 5 = true := by first | exact haf ⟨5, .data⟩ (by simp) rfl | exact haf ⟨5, .phase⟩ (by simp) rfl | exact haf ⟨5, .chain⟩ (by simp) rfl
      exact op_move (.inl rfl) ((hev.new 5 _ 114 rfl rfl h5).trans (f5 h5)) ⟨_, rfl, AZ, cZ, FZ, AP, cP, dP, FPP, AQ, cQ, dQ, FQQ, gd10, gd11, S, f0, f1, f2, f3, f4, f5, fun _ => rfl, f7, f8, f9, f10, f11, f14, fun _ => h5, o7_5, o8_5, o12_5, o12_10, o13_5, o13_11⟩
    · obtain rfl := Option.some.inj (show some _ = some o from ho)
      have h6 : D 6 = true := by first | exact haf ⟨6, .data⟩ (by simp) rfl | exact haf ⟨6, .phase⟩ (by simp) rfl | exact haf ⟨6, .chain⟩ (by simp) rfl
      have h5 : D 5 = true := o6_5 h6
      exact op_extract _ _ rfl ((hev.new 6 _ 108 rfl rfl h6).trans (f6 h6)) rfl ⟨_, rfl, AZ, cZ, FZ, AP, cP, dP, FPP, AQ, cQ, dQ, FQQ, gd10, gd11, S, f0, f1, f2, f3, f4, f5, f6, fun _ => rfl, f8, f9, f10, f11, f14, o6_5, fun _ => h5, o8_5, o12_5, o12_10, o13_5, o13_11⟩
    · obtain rfl := Option.some.inj (show some _ = some o from ho)
      have h6 : D 6 = true := by first | exact haf ⟨6, .data⟩ (by simp) rfl | exact haf ⟨6, .phase⟩ (by simp) rfl | exact haf ⟨6, .chain⟩ (by simp) rfl
      have h5 : D 5 = true := o6_5 h6
      exact op_extract _ _ rfl ((hev.new 6 _ 108 rfl rfl h6).trans (f6 h6)) rfl ⟨_, rfl, AZ, cZ, FZ, AP, cP, dP, FPP, AQ, cQ, dQ, FQQ, gd10, gd11, S, f0, f1, f2, f3, f4, f5, f6, f7, fun _ => rfl, f9, f10, f11, f14, o6_5, o7_5, fun _ => h5, o12_5, o12_10, o13_5, o13_11⟩
    · obtain rfl := Option.some.inj (show some _ = some o from ho)
      have h6 : D 6 = true := by first | exact haf ⟨6, .data⟩ (by simp) rfl | exact haf ⟨6, .phase⟩ (by simp) rfl | exact haf ⟨6, .chain⟩ (by simp) rfl
      exact op_extract _ _ rfl ((hev.new 6 _ 108 rfl rfl h6).trans (f6 h6)) rfl ⟨_, rfl, AZ, cZ, FZ, AP, cP, dP, FPP, AQ, cQ, dQ, FQQ, gd10, gd11, S, f0, f1, f2, f3, f4, f5, f6, f7, f8, fun _ => rfl, f10, f11, f14, o6_5, o7_5, o8_5, o12_5, o12_10, o13_5, o13_11⟩
    · obtain rfl := Option.some.inj (show some _ = some o from ho)
      have nst : D 12 = false := by
        cases hq : D 12 with
        | false => rfl
        | true => exact absurd (o12_10 hq) (by rw [hDi]; exact Bool.false_ne_true)
      refine op_nxAt 26 rfl S 17 (by simp only [List.getElem?_cons_succ, List.getElem?_cons_zero, cnd_f hDi]) _ Try.zeroValue26 (fun g w S => ⟨_, rfl, AZ, cZ, FZ, AP, cP, dP, FPP, AQ, cQ, dQ, FQQ, g, gd11, (by have e : updB D 10 12 = false := nst; rw [e]; exact S), f0, f1, f2, f3, f4, f5, f6, f7, f8, f9, fun _ => rfl, f11, f14, o6_5, o7_5, o8_5, o12_5, fun _ => rfl, o13_5, o13_11⟩)
    · obtain rfl := Option.some.inj (show some _ = some o from ho)
      have nst : D 13 = false := by
        cases hq : D 13 with
        | false => rfl
        | true => exact absurd (o13_11 hq) (by rw [hDi]; exact Bool.false_ne_true)
      refine op_nxAt 26 rfl S 18 (by simp only [List.getElem?_cons_succ, List.getElem?_cons_zero, cnd_f hDi]) _ Try.zeroValue26 (fun g w S => ⟨_, rfl, AZ, cZ, FZ, AP, cP, dP, FPP, AQ, cQ, dQ, FQQ, gd10, g, (by have e : updB D 11 13 = false := nst; rw [e]; exact S), f0, f1, f2, f3, f4, f5, f6, f7, f8, f9, f10, fun _ => rfl, f14, o6_5, o7_5, o8_5, o12_5, o12_10, o13_5, fun _ => rfl⟩)
    · obtain rfl := Option.some.inj (show some _ = some o from ho)
      have h10 : D 10 = true := by first | exact haf ⟨10, .data⟩ (by simp) rfl | exact haf ⟨10, .phase⟩ (by simp) rfl | exact haf ⟨10, .chain⟩ (by simp) rfl
      have h7 : D 7 = true := by first | exact haf ⟨7, .data⟩ (by simp) rfl | exact haf ⟨7, .phase⟩ (by simp) rfl | exact haf ⟨7, .chain⟩ (by simp) rfl
      have h5 : D 5 = true := o7_5 h7
      have ha : D 10 = true := by first | exact haf ⟨10, .data⟩ (by simp) rfl | exact haf ⟨10, .phase⟩ (by simp) rfl | exact haf ⟨10, .chain⟩ (by simp) rfl
      exact op_putR 26 _ _ rfl S 17 (g := gd10) (C := #[.int .i64 0, .slice none 0 0, .int .i64 0, .int .i64 0, .int .i64 0]) (t := 26) (by simp only [List.getElem?_cons_succ, List.getElem?_cons_zero, cnd_t ha, cnd_f hDi]) ((hev.new 10 _ 18 rfl rfl h10).trans (f10 h10)) _ ((hev.new 7 _ 115 rfl rfl h7).trans (f7 h7)) rfl (by kernel_rfl) rfl (fun w S => ⟨_, rfl, AZ, cZ, FZ, AP, cP, dP, FPP, AQ, cQ, dQ, FQQ, gd10, gd11, (by have e : updB D 12 10 = true := ha; rw [e]; exact S), f0, f1, f2, f3, f4, f5, f6, f7, f8, f9, f10, f11, f14, o6_5, o7_5, o8_5, fun _ => h5, fun _ => h10, o13_5, o13_11⟩)
    · obtain rfl := Option.some.inj (show some _ = some o from ho)
      have h11 : D 11 = true := by first | exact haf ⟨11, .data⟩ (by simp) rfl | exact haf ⟨11, .phase⟩ (by simp) rfl | exact haf ⟨11, .chain⟩ (by simp) rfl
      have h8 : D 8 = true := by first | exact haf ⟨8, .data⟩ (by simp) rfl | exact haf ⟨8, .phase⟩ (by simp) rfl | exact haf ⟨8, .chain⟩ (by simp) rfl
      have h5 : D 5 = true := o8_5 h8
      have ha : D 11 = true := by first | exact haf ⟨11, .data⟩ (by simp) rfl | exact haf ⟨11, .phase⟩ (by simp) rfl | exact haf ⟨11, .chain⟩ (by simp) rfl
      exact op_putR 26 _ _ rfl S 18 (g := gd11) (C := #[.int .i64 0, .slice none 0 0, .int .i64 0, .int .i64 0, .int .i64 0]) (t := 26) (by simp only [List.getElem?_cons_succ, List.getElem?_cons_zero, cnd_t ha, cnd_f hDi]) ((hev.new 11 _ 19 rfl rfl h11).trans (f11 h11)) _ ((hev.new 8 _ 116 rfl rfl h8).trans (f8 h8)) rfl (by kernel_rfl) rfl (fun w S => ⟨_, rfl, AZ, cZ, FZ, AP, cP, dP, FPP, AQ, cQ, dQ, FQQ, gd10, gd11, (by have e : updB D 13 11 = true := ha; rw [e]; exact S), f0, f1, f2, f3, f4, f5, f6, f7, f8, f9, f10, f11, f14, o6_5, o7_5, o8_5, o12_5, o12_10, fun _ => h5, fun _ => h11⟩)
    · obtain rfl := Option.some.inj (show some _ = some o from ho)
      have h9 : D 9 = true := by first | exact haf ⟨9, .data⟩ (by simp) rfl | exact haf ⟨9, .phase⟩ (by simp) rfl | exact haf ⟨9, .chain⟩ (by simp) rfl
      exact op_move (.inr rfl) ((hev.new 9 _ 117 rfl rfl h9).trans (f9 h9)) ⟨_, rfl, AZ, cZ, FZ, AP, cP, dP, FPP, AQ, cQ, dQ, FQQ, gd10, gd11, S, f0, f1, f2, f3, f4, f5, f6, f7, f8, f9, f10, f11, fun _ => rfl, o6_5, o7_5, o8_5, o12_5, o12_10, o13_5, o13_11⟩
    · exact absurd ho (by simp)
  intro V w hI
  obtain ⟨AZ, cZ, FZ, AP, cP, dP, FPP, AQ, cQ, dQ, FQQ, gd10, gd11, S, f0, f1, f2, f3, f4, f5, f6, f7, f8, f9, f10, f11, f14, o6_5, o7_5, o8_5, o12_5, o12_10, o13_5, o13_11⟩ := hI
  replace f0 := f0 rfl
  replace f1 := f1 rfl
  replace f2 := f2 rfl
  replace f3 := f3 rfl
  replace f4 := f4 rfl
  replace f5 := f5 rfl
  replace f6 := f6 rfl
  replace f7 := f7 rfl
  replace f8 := f8 rfl
  replace f9 := f9 rfl
  replace f10 := f10 rfl
  replace f11 := f11 rfl
  replace f14 := f14 rfl
  replace S : Hid (Sep noX w0 [bx gX #[.int .i64 x.lv, .slice AX n cX, .int .i64 x.hi, .int .i64 x.ri, .int .i64 x.ow] 26, ow (.slice AX n cX) (mkS 1 x.ps) FX, bx gp #[.int .i64 k, .int .i64 v] 42, bx gx #[.int .i64 x.lv, .slice A n c, .int .i64 x.hi, .int .i64 x.ri, .int .i64 x.ow] 41, ow (.slice A1 n c1) x.ps F1, ow (.slice AA nl cA) lo.ps FA, ow (.slice AB nu cB) up.ps FB, bx ga10 #[.int .i64 lo.lv, .slice AA nl cA, .int .i64 lo.hi, .int .i64 lo.ri, .int .i64 lo.ow] 26, bx ga11 #[.int .i64 up.lv, .slice AB nu cB, .int .i64 up.hi, .int .i64 up.ri, .int .i64 up.ow] 26, ow (.slice AG nl dG) (mkS 1 lo.ps) FG, ow (.slice AH nu dH) (mkS K2 up.ps) FH, bx gb9 #[.int .i64 lo.lv, .slice AG nl cG, .int .i64 lo.hi, .int .i64 lo.ri, .int .i64 lo.ow] 26, bx gb10 #[.int .i64 up.lv, .slice AH nu cH, .int .i64 up.hi, .int .i64 up.ri, .int .i64 up.ow] 26, ow (.slice AY n cY) x.ps FY, ow (.slice AZ n cZ) x.ps FZ, ow (.slice AP nl dP) lo.ps FPP, ow (.slice AQ nu dQ) up.ps FQQ, bx gd10 #[.int .i64 lo.lv, .slice AP nl cP, .int .i64 lo.hi, .int .i64 lo.ri, .int .i64 lo.ow] 26, bx gd11 #[.int .i64 up.lv, .slice AQ nu cQ, .int .i64 up.hi, .int .i64 up.ri, .int .i64 up.ow] 26] w) := Lib.hid S
  simp only [putF, Act.put, List.setIfInBounds_toArray, List.set_cons_succ, List.set_cons_zero, f0, f1, f2, f3, f4, f5, f6, f7, f8, f9, f10, f11, f14]
  clear f0 f1 f2 f3 f4 f5 f6 f7 f8 f9 f10 f11 f14 o6_5 o7_5 o8_5 o12_5 o12_10 o13_5 o13_11
  go_wp2_with (first
      | go_skip
      | (refine wpList_op rfl (op_row 26 _ rfl S.out 17 rfl rfl Try.isAgg26 (by kernel_rfl) ?_); simp only [Act.put, List.setIfInBounds_toArray, List.set_cons_succ, List.set_cons_zero])
      | (refine wpList_op rfl (op_row 26 _ rfl S.out 7 rfl rfl Try.isAgg26 (by kernel_rfl) ?_); simp only [Act.put, List.setIfInBounds_toArray, List.set_cons_succ, List.set_cons_zero]))
  refine (EL.out AP AA _ (OwnS.rs (S.out.get 15 rfl) HNL.out) (OwnS.rs (S.out.get 5 rfl) HNL.out)).mono ?_
  rintro e w ⟨rfl, b⟩
  replace S := Lib.hid (S.out.call b)
  clear b
  go_wp2_with (first
      | go_skip
      | (refine wpList_op rfl (op_row 26 _ rfl S.out 18 rfl rfl Try.isAgg26 (by kernel_rfl) ?_); simp only [Act.put, List.setIfInBounds_toArray, List.set_cons_succ, List.set_cons_zero])
      | (refine wpList_op rfl (op_row 26 _ rfl S.out 8 rfl rfl Try.isAgg26 (by kernel_rfl) ?_); simp only [Act.put, List.setIfInBounds_toArray, List.set_cons_succ, List.set_cons_zero]))
  refine (EU.out AQ AB _ (OwnS.rs (S.out.get 16 rfl) HNU.out) (OwnS.rs (S.out.get 6 rfl) HNU.out)).mono ?_
  rintro e w ⟨rfl, b⟩
  replace S := Lib.hid (S.out.call b)
  clear b
  go_wp2_with (first
      | go_skip
      | (refine wpList_op rfl (op_row 26 _ rfl S.out 11 rfl rfl Try.isAgg26 (by kernel_rfl) ?_); simp only [Act.put, List.setIfInBounds_toArray, List.set_cons_succ, List.set_cons_zero]))
  refine (DG.out _ _ (OwnS.rs (S.out.get 9 rfl) ML.out)).mono ?_
  rintro e w ⟨rfl, b⟩
  replace S := Lib.hid (S.out.call b)
  clear b
  go_wp2_with (first
      | go_skip
      | (refine wpList_op rfl (op_row 26 _ rfl S.out 12 rfl rfl Try.isAgg26 (by kernel_rfl) ?_); simp only [Act.put, List.setIfInBounds_toArray, List.set_cons_succ, List.set_cons_zero]))
  refine (DH.out _ _ (OwnS.rs (S.out.get 10 rfl) MU.out)).mono ?_
  rintro e w ⟨rfl, b⟩
  replace S := Lib.hid (S.out.call b)
  clear b
  go_wp2_with fail
  go_ret
  exact ⟨rfl, S.out.below⟩
end Go.Proofs.Ytokkpbjldchjpaa

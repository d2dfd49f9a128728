/- The walk of the model's PairsOk. -/
import Derived.Test.YtpffkhjegpddbaaGreatV01
open Go.Value renaming int → jI, slice → jS
open Go.IntKind renaming i64 → jZ
namespace Go.Proofs.YtpffkhjegpddbaaGreat
open Go.RowKit

def okTo (zs : List Pr) (k : Nat) : Prop := ∀ j, j < k → rightB (kAt zs j) (vAt zs j) = true ∧ (0 < j → kAt zs (j - 1) < kAt zs j)
def pOk (zs : List Pr) : Bool := decide (zs.length ≤ 40) && (List.range zs.length).all fun j => rightB (kAt zs j) (vAt zs j) && (j == 0 || decide (kAt zs (j - 1) < kAt zs j))
theorem pOk_iff (zs : List Pr) : pOk zs = true ↔ (okTo zs zs.length ∧ zs.length ≤ 40) := by
 unfold pOk okTo
 simp only [Bool.and_eq_true, decide_eq_true_eq, List.all_eq_true, List.mem_range, Bool.or_eq_true, beq_iff_eq]
 constructor
 · rintro ⟨h1, h2⟩
   exact ⟨fun j hj => ⟨(h2 j hj).1, fun h0 => by rcases (h2 j hj).2 with h | h; omega; exact h⟩, h1⟩
 · rintro ⟨h1, h2⟩
   exact ⟨h2, fun j hj => ⟨(h1 j hj).1, by rcases Nat.eq_zero_or_pos j with h | h; exact .inl h; exact .inr ((h1 j hj).2 h)⟩⟩
theorem pOk_false (zs : List Pr) (h : ¬ (okTo zs zs.length ∧ zs.length ≤ 40)) : pOk zs = false := by
 cases e : pOk zs with
 | false => rfl
 | true => exact absurd ((pOk_iff zs).1 e) h

theorem okTo_snoc {zs : List Pr} {k : Nat} (h : okTo zs k) (hr : rightB (kAt zs k) (vAt zs k) = true) (hl : 0 < k → kAt zs (k - 1) < kAt zs k) : okTo zs (k + 1) := by
 intro j hj
 rcases Nat.lt_or_ge j k with h' | h'
 · exact h j h'
 · obtain rfl : j = k := by omega
   exact ⟨hr, hl⟩

theorem spOk_any (A : Option Addr) (n c : Nat) (zs : List Pr) (w : World) (h : RP w w.heap.size A n zs) (hn : n ≤ 1048576) :
   Calls Tryz.prog 60 #[jS A n c] w fun e w' => e = .returned (.bool (pOk zs)) ∧ Below w.heap.size w w' := by
 have hl := h.1
 have HL := Lib.hid hl
 clear hl
 have HH := Lib.hid h
 clear h
 go_enter Tryz.func60, Tryz.ntmps60
 go_wp2
 go_loopw [3] (fun i wr => ∃ k : Nat, i = jI jZ k ∧ k ≤ n ∧ Hid (okTo zs k) ∧ Hid (Below w.heap.size w wr)) (fun i _ => n - (intOf i).toNat)
 case atStart => exact ⟨0, rfl, by omega, Lib.hid (by intro j hj; omega), Lib.hid (Below.refl _ _)⟩
 case round =>
   obtain ⟨k, rfl, hk, ho, hbw⟩ := hrel
   by_cases hlt : k < n
   · obtain ⟨b, off, rfl, hb, hc⟩ := HH.out.2 (by omega)
     have c1 := hc k hlt
     have c2 := Later.of_cell c1.1 hbw.out hb
     have c3 := Later.of_cell c1.2 hbw.out hb
     clear c1
     by_cases hr : rightB (kAt zs k) (vAt zs k) = true
     · have p1 : ∀ w, Calls Tryz.prog 88 #[.agg #[jI jZ (kAt zs k), jI jZ (vAt zs k)]] w fun e w' => e = .returned (.bool true) ∧ Below w.heap.size w w' := fun w => by
         rw [← hr]; exact pair_any _ _ w
       by_cases hk0 : 0 < k
       · have g0 : decide (0 < k) = true := by simpa using hk0
         have c4 := Later.of_cell (hc (k - 1) (by omega)).1 hbw.out hb
         clear hc
         by_cases hle : kAt zs k ≤ kAt zs (k - 1)
         · have g1 : decide (kAt zs k ≤ kAt zs (k - 1)) = true := by simpa using hle
           go_wp2
           refine wp_region_later (by kernel_rfl) (by kernel_rfl) ?_
           repeat (go_big_quiet_step ((go_at_call 88; exact Calls.later (p1 _))))
           refine wpQuiet_nil ?_
           intro _ hw'
           obtain ⟨s, rfl⟩ := hw'
           go_wp2
           go_ret
           exact ⟨ret_bool (pOk_false zs (fun h => by have := (h.1 k (by have := HL.out; omega)).2 hk0; omega)).symm, s.below_of hbw.out⟩
         · have g1 : decide (kAt zs k ≤ kAt zs (k - 1)) = false := by simpa using hle
           go_wp2
           refine wp_region_later (by kernel_rfl) (by kernel_rfl) ?_
           repeat (go_big_quiet_step ((go_at_call 88; exact Calls.later (p1 _))))
           refine wpQuiet_nil ?_
           intro _ hw'
           obtain ⟨s, rfl⟩ := hw'
           go_wp2
           go_roundw
           case rel => exact ⟨k + 1, by go_num, by omega, Lib.hid (okTo_snoc ho.out hr (fun _ => by omega)), Lib.hid (s.below_of hbw.out)⟩
           case measure => simp [intOf]; omega
       · have g0 : decide (0 < k) = false := by simpa using hk0
         clear hc
         go_wp2
         refine wp_region_later (by kernel_rfl) (by kernel_rfl) ?_
         repeat (go_big_quiet_step ((go_at_call 88; exact Calls.later (p1 _))))
         refine wpQuiet_nil ?_
         intro _ hw'
         obtain ⟨s, rfl⟩ := hw'
         go_wp2
         go_roundw
         case rel => exact ⟨k + 1, by go_num, by omega, Lib.hid (okTo_snoc ho.out hr (fun h => absurd h hk0)), Lib.hid (s.below_of hbw.out)⟩
         case measure => simp [intOf]; omega
     · have hr : rightB (kAt zs k) (vAt zs k) = false := by simpa using hr
       have p1 : ∀ w, Calls Tryz.prog 88 #[.agg #[jI jZ (kAt zs k), jI jZ (vAt zs k)]] w fun e w' => e = .returned (.bool false) ∧ Below w.heap.size w w' := fun w => by
         rw [← hr]; exact pair_any _ _ w
       clear hc
       go_wp2
       refine wp_region_later (by kernel_rfl) (by kernel_rfl) ?_
       repeat (go_big_quiet_step ((go_at_call 88; exact Calls.later (p1 _))))
       refine wpQuiet_nil ?_
       intro _ hw'
       obtain ⟨s, rfl⟩ := hw'
       go_wp2
       go_ret
       exact ⟨ret_bool (pOk_false zs (fun h => by have := (h.1 k (by have := HL.out; omega)).1; rw [hr] at this; cases this)).symm, s.below_of hbw.out⟩
   · go_wp2
     go_ret
     have hz : zs.length = n := HL.out
     have hk' : k = zs.length := by omega
     refine ⟨ret_bool ?_, hbw.out⟩
     rw [Bool.eq_iff_iff, pOk_iff]
     simp only [decide_eq_true_eq]
     exact ⟨fun h => ⟨by rw [← hk']; exact ho.out, by omega⟩, fun h => by omega⟩
end Go.Proofs.YtpffkhjegpddbaaGreat
namespace Go.Proofs.YtpffkhjegpddbaaGreat
open Go.RowKit

def riseTo (zs : List Pr) (k : Nat) : Prop := ∀ j, j < k → 0 < j → kAt zs (j - 1) < kAt zs j
def risesB (zs : List Pr) : Bool := (List.range zs.length).all fun j => j == 0 || decide (kAt zs (j - 1) < kAt zs j)

theorem risesB_true {zs : List Pr} (h : riseTo zs zs.length) : risesB zs = true := by
 unfold risesB
 simp only [List.all_eq_true, List.mem_range, Bool.or_eq_true, beq_iff_eq, decide_eq_true_eq]
 intro j hj
 rcases Nat.eq_zero_or_pos j with h0 | h0
 · exact .inl h0
 · exact .inr (h j hj h0)
theorem risesB_iff (zs : List Pr) : risesB zs = true ↔ riseTo zs zs.length := by
 refine ⟨fun h => ?_, risesB_true⟩
 unfold risesB at h
 simp only [List.all_eq_true, List.mem_range, Bool.or_eq_true, beq_iff_eq, decide_eq_true_eq] at h
 intro j hj h0
 rcases h j hj with h' | h'
 · omega
 · exact h'
theorem risesB_false {zs : List Pr} (h : ∃ j, j < zs.length ∧ 0 < j ∧ ¬ kAt zs (j - 1) < kAt zs j) : risesB zs = false := by
 obtain ⟨j, h1, h2, h3⟩ := h
 cases e : risesB zs with
 | false => rfl
 | true => exact absurd ((risesB_iff zs).1 e j h1 h2) h3
theorem riseTo_snoc {zs : List Pr} {k : Nat} (h : riseTo zs k) (hl : kAt zs (k - 1) < kAt zs k) : riseTo zs (k + 1) := by
 intro j hj h0
 rcases Nat.lt_or_ge j k with h' | h'
 · exact h j h' h0
 · obtain rfl : j = k := by omega
   exact hl

theorem meth_key (k v : Int) (w : World) : (method 276 68 (.agg #[jI jZ k, jI jZ v]) "loop.example/g00796/impl.key").run Tryz.prog w = .ok (152, .agg #[jI jZ k, jI jZ v]) w := by kernel_rfl

theorem rises_any (A : Option Addr) (n c : Nat) (zs : List Pr) (w : World) (h : RP w w.heap.size A n zs) (hn : n ≤ 1048576) :
   Calls Tryz.prog 103 #[jS A n c] w fun e w' => e = .returned (.bool (risesB zs)) ∧ Below w.heap.size w w' := by
 have hl := h.1
 have HL := Lib.hid hl
 clear hl
 have HH := Lib.hid h
 clear h
 go_enter Tryz.func103, Tryz.ntmps103
 go_wp2
 go_loopw [3] (fun i wr => ∃ k : Nat, i = jI jZ k ∧ 1 ≤ k ∧ (k ≤ n ∨ k = 1) ∧ Hid (riseTo zs k) ∧ Hid (Below w.heap.size w wr)) (fun i _ => n + 1 - (intOf i).toNat)
 case atStart => exact ⟨1, rfl, by omega, by omega, Lib.hid (by intro j hj; omega), Lib.hid (Below.refl _ _)⟩
 case round =>
   obtain ⟨k, rfl, hk1, hk, ho, hbw⟩ := hrel
   by_cases hlt : k < n
   · obtain ⟨b, off, rfl, hb, hc⟩ := HH.out.2 (by omega)
     have c1 := Later.of_cell (hc k hlt).1 hbw.out hb
     have c2 := Later.of_cell (hc k hlt).2 hbw.out hb
     have c3 := Later.of_cell (hc (k - 1) (by omega)).1 hbw.out hb
     have c4 := Later.of_cell (hc (k - 1) (by omega)).2 hbw.out hb
     clear hc
     have m1 := meth_key
     go_wp2
     refine wp_region_later (by kernel_rfl) (by kernel_rfl) ?_
     repeat (go_big_quiet_step ((go_at_call 152; exact Calls.later (rkey_any _ _ _))))
     refine wpQuiet_nil ?_
     intro _ hw'
     obtain ⟨s, rfl⟩ := hw'
     go_wp2
     · go_ret
       refine ⟨ret_bool ?_, s.below_of hbw.out⟩
       have hge : kAt zs k ≤ kAt zs (k - 1) := by assumption
       exact (risesB_false ⟨k, by have := HL.out; omega, by omega, by omega⟩).symm
     · go_roundw
       have hge : kAt zs (k - 1) < kAt zs k := by assumption
       case rel => exact ⟨k + 1, by go_num, by omega, by omega, Lib.hid (riseTo_snoc ho.out hge), Lib.hid (s.below_of hbw.out)⟩
       case measure => simp [intOf]; omega
   · go_wp2
     go_ret
     refine ⟨ret_bool (risesB_true ?_).symm, hbw.out⟩
     have hz : zs.length = n := HL.out
     intro j hj h0
     exact ho.out j (by omega) h0

def rightTo (zs : List Pr) (k : Nat) : Prop := ∀ j, j < k → rightB (kAt zs j) (vAt zs j) = true
theorem rightTo_snoc {zs : List Pr} {k : Nat} (h : rightTo zs k) (hr : rightB (kAt zs k) (vAt zs k) = true) : rightTo zs (k + 1) := by
 intro j hj
 rcases Nat.lt_or_ge j k with h' | h'
 · exact h j h'
 · obtain rfl : j = k := by omega
   exact hr
theorem pOk_of (zs : List Pr) (h : rightTo zs zs.length) (hl : zs.length ≤ 40) : risesB zs = pOk zs := by
 rw [Bool.eq_iff_iff, pOk_iff, risesB_iff]
 exact ⟨fun hr => ⟨fun j hj => ⟨h j hj, hr j hj⟩, hl⟩, fun hh j hj => (hh.1 j hj).2⟩

theorem iOk_any (A : Option Addr) (n c : Nat) (zs : List Pr) (w : World) (h : RP w w.heap.size A n zs) (hn : n ≤ 1048576) :
   Calls Tryz.prog 85 #[jS A n c] w fun e w' => e = .returned (.bool (pOk zs)) ∧ Below w.heap.size w w' := by
 have hl := h.1
 have HL := Lib.hid hl
 clear hl
 have HH := Lib.hid h
 clear h
 by_cases h40 : 40 < n
 · go_enter Tryz.func85, Tryz.ntmps85
   go_wp2
   go_ret
   exact ⟨ret_bool (pOk_false zs (fun h => by have := HL.out; omega)).symm, Below.refl _ _⟩
 have h40' : n ≤ 40 := by omega
 clear h40
 go_enter Tryz.func85, Tryz.ntmps85
 go_wp2
 go_loopw [10] (fun i wr => ∃ k : Nat, i = jI jZ k ∧ k ≤ n ∧ Hid (rightTo zs k) ∧ Hid (Below w.heap.size w wr)) (fun i _ => n - (intOf i).toNat)
 case atStart => exact ⟨0, rfl, by omega, Lib.hid (by intro j hj; omega), Lib.hid (Below.refl _ _)⟩
 case round =>
   obtain ⟨k, rfl, hk, ho, hbw⟩ := hrel
   by_cases hlt : k < n
   · obtain ⟨b, off, rfl, hb, hc⟩ := HH.out.2 (by omega)
     have c1 := (hbw.out.cell (p := ⟨b, off + k * 2, none⟩) hb).trans (hc k hlt).1
     have c2 := (hbw.out.cell (p := ⟨b, off + k * 2 + 1, none⟩) hb).trans (hc k hlt).2
     clear hc
     go_wp2_with (go_at_call 102; refine (right_any _ _ _).mono ?_; rintro e w1 ⟨rfl, hb1⟩)
     · go_ret
       have hr' : (!rightB (kAt zs k) (vAt zs k)) = true := by assumption
       have hr : rightB (kAt zs k) (vAt zs k) = false := by simpa using hr'
       exact ⟨ret_bool (pOk_false zs (fun h => by have := (h.1 k (by have := HL.out; omega)).1; rw [hr] at this; cases this)).symm,
         hbw.out.trans (((Below.refl _ _).alloc (Nat.le_refl _) _).trans (hb1.mono (by simp)) |>.mono hbw.out.size)⟩
     · go_roundw
       have hr' : (!rightB (kAt zs k) (vAt zs k)) = false := by assumption
       have hr : rightB (kAt zs k) (vAt zs k) = true := by simpa using hr'
       case rel => exact ⟨k + 1, by go_num, by omega, Lib.hid (rightTo_snoc ho.out hr), Lib.hid (hbw.out.trans (((Below.refl _ _).alloc (Nat.le_refl _) _).trans (hb1.mono (by simp)) |>.mono hbw.out.size))⟩
       case measure => simp [intOf]; omega
   · have hz : zs.length = n := HL.out
     have hR : RP wr wr.heap.size A n zs := HH.out.on hbw.out
     have HR := Lib.hid hR
     have HZ := Lib.hid hz
     clear hR hz
     go_wp2_with (go_at_call 103; refine (rises_any _ _ _ _ _ HR.out (by omega)).mono ?_; rintro e w1 ⟨rfl, hb1⟩)
     go_ret
     refine ⟨ret_bool (pOk_of zs (fun j hj => ho.out j (by have := HZ.out; omega)) (by have := HZ.out; omega)), hbw.out.trans (hb1.mono hbw.out.size)⟩
end Go.Proofs.YtpffkhjegpddbaaGreat
namespace Go.Proofs.YtpffkhjegpddbaaGreat
open Go.RowKit

theorem pair_info : (Tryz.prog.info? 68).map (fun i => (i.zero, i.size, i.bytes)) = some (some (.agg #[jI jZ 0, jI jZ 0]), 2, 16) := by kernel_rfl

end Go.Proofs.YtpffkhjegpddbaaGreat

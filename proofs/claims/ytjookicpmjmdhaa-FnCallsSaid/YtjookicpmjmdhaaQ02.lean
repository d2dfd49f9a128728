/- The walks of the small functions: a number in bounds, a right pair, a pair made, two pairs held against each other, a pair's key. -/
import Derived.Test.YtjookicpmjmdhaaRows
import Derived.Test.YtjookicpmjmdhaaQ01
open Go.Value renaming int → jI, slice → jS
open Go.IntKind renaming i64 → jZ
namespace Go.Proofs.Ytjookicpmjmdhaa
open Go.RowKit

def inB (x lo hi : Int) : Bool := decide (lo ≤ x ∧ x ≤ hi)
def rightB (k v : Int) : Bool := decide (0 ≤ k ∧ k ≤ 99 ∧ 0 ≤ v ∧ v ≤ 999)
theorem ret_bool {a b : Bool} (h : a = b) : Ending.returned (.bool a) = .returned (.bool b) := by rw [h]
theorem ret_int {a b : Int} (h : a = b) : Ending.returned (jI jZ a) = .returned (jI jZ b) := by rw [h]

theorem rightB_of {k v : Int} {b : Bool} (h : b = true ↔ (0 ≤ k ∧ k ≤ 99 ∧ 0 ≤ v ∧ v ≤ 999)) : b = rightB k v := by
 rw [Bool.eq_iff_iff, h]; simp [rightB]

theorem in_any (x lo hi : Int) (w : World) :
   Calls Try.prog 44 #[jI jZ x, jI jZ lo, jI jZ hi] w fun e w' => e = .returned (.bool (inB x lo hi)) ∧ w = w' := by
 by_cases h1 : lo ≤ x
 · have h1' : decide (lo ≤ x) = true := by simpa using h1
   go_enter Try.func44, Try.ntmps44
   go_wp2
   go_ret
   exact ⟨ret_bool (by simp [inB, h1]), rfl⟩
 · have h1' : decide (lo ≤ x) = false := by simpa using h1
   go_enter Try.func44, Try.ntmps44
   go_wp2
   go_ret
   exact ⟨ret_bool (by simp [inB]; omega), rfl⟩

theorem key_any (x : Int) (w : World) :
   Calls Try.prog 45 #[jI jZ x] w fun e w' => e = .returned (.bool (inB x 0 99)) ∧ w = w' := by
 go_enter Try.func45, Try.ntmps45
 go_wp2_with (go_at_call 44; refine (in_any _ _ _ _).mono ?_; rintro e w' ⟨rfl, rfl⟩)
 go_ret
 exact ⟨rfl, rfl⟩

theorem pair_any (k v : Int) (w : World) :
   Calls Try.prog 105 #[.agg #[jI jZ k, jI jZ v]] w fun e w' => e = .returned (.bool (rightB k v)) ∧ Below w.heap.size w w' := by
 by_cases h : inB k 0 99 = true
 · have c1 : ∀ w, Calls Try.prog 45 #[jI jZ k] w fun e w' => e = .returned (.bool true) ∧ w = w' := fun w => by
     rw [← h]; exact key_any k w
   go_enter Try.func105, Try.ntmps105
   go_wp2_with (first | (go_at_call 45; refine (c1 _).mono ?_; rintro e w' ⟨rfl, rfl⟩) | (go_at_call 44; refine (in_any _ _ _ _).mono ?_; rintro e w' ⟨rfl, rfl⟩))
   go_ret
   exact ⟨ret_bool (rightB_of (by simp [inB] at h ⊢; omega)), (Below.refl _ _).alloc (Nat.le_refl _) _⟩
 · have h : inB k 0 99 = false := by simpa using h
   have c1 : ∀ w, Calls Try.prog 45 #[jI jZ k] w fun e w' => e = .returned (.bool false) ∧ w = w' := fun w => by
     rw [← h]; exact key_any k w
   go_enter Try.func105, Try.ntmps105
   go_wp2_with (go_at_call 45; refine (c1 _).mono ?_; rintro e w' ⟨rfl, rfl⟩)
   go_ret
   exact ⟨ret_bool (rightB_of (by simp [inB] at h ⊢; omega)), (Below.refl _ _).alloc (Nat.le_refl _) _⟩

theorem keyNumber_any (x : Int) (w : World) :
   Calls Try.prog 64 #[jI jZ x] w fun e w' => e = .returned (.bool (inB x 0 99)) ∧ w = w' := by
 by_cases h1 : 0 ≤ x
 · have h1' : decide (0 ≤ x) = true := by simpa using h1
   go_enter Try.func64, Try.ntmps64
   go_wp2
   go_ret
   exact ⟨ret_bool (by simp [inB, h1]), rfl⟩
 · have h1' : decide (0 ≤ x) = false := by simpa using h1
   go_enter Try.func64, Try.ntmps64
   go_wp2
   go_ret
   exact ⟨ret_bool (by simp [inB]; omega), rfl⟩

theorem right_any (k v : Int) (w : World) :
   Calls Try.prog 66 #[.agg #[jI jZ k, jI jZ v]] w fun e w' => e = .returned (.bool (rightB k v)) ∧ Below w.heap.size w w' := by
 by_cases h : inB k 0 99 = true
 · have c1 : ∀ w, Calls Try.prog 64 #[jI jZ k] w fun e w' => e = .returned (.bool true) ∧ w = w' := fun w => by
     rw [← h]; exact keyNumber_any k w
   by_cases h3 : 0 ≤ v
   · have g3 : decide (0 ≤ v) = true := by simpa using h3
     go_enter Try.func66, Try.ntmps66
     go_wp2_with (go_at_call 64; refine (c1 _).mono ?_; rintro e w' ⟨rfl, rfl⟩)
     go_ret
     exact ⟨ret_bool (rightB_of (by simp [inB] at h ⊢; omega)), (Below.refl _ _).alloc (Nat.le_refl _) _⟩
   · have g3 : decide (0 ≤ v) = false := by simpa using h3
     go_enter Try.func66, Try.ntmps66
     go_wp2_with (go_at_call 64; refine (c1 _).mono ?_; rintro e w' ⟨rfl, rfl⟩)
     go_ret
     exact ⟨ret_bool (rightB_of (by simp [inB] at h ⊢; omega)), (Below.refl _ _).alloc (Nat.le_refl _) _⟩
 · have h : inB k 0 99 = false := by simpa using h
   have c1 : ∀ w, Calls Try.prog 64 #[jI jZ k] w fun e w' => e = .returned (.bool false) ∧ w = w' := fun w => by
     rw [← h]; exact keyNumber_any k w
   go_enter Try.func66, Try.ntmps66
   go_wp2_with (go_at_call 64; refine (c1 _).mono ?_; rintro e w' ⟨rfl, rfl⟩)
   go_ret
   exact ⟨ret_bool (rightB_of (by simp [inB] at h ⊢; omega)), (Below.refl _ _).alloc (Nat.le_refl _) _⟩

end Go.Proofs.Ytjookicpmjmdhaa
namespace Go.Proofs.Ytjookicpmjmdhaa
open Go.RowKit


def atKey (zs : List Pr) (key : Int) : Nat := zs.findIdx (fun p => p.1 == key)
def whereI (zs : List Pr) (key : Int) : Int := if atKey zs key < zs.length then (atKey zs key : Int) else -1
theorem atKey_of (zs : List Pr) (key : Int) (k : Nat) (hk : k < zs.length) (h : kAt zs k = key) (hn : ∀ j, j < k → kAt zs j ≠ key) : atKey zs key = k := by
 unfold atKey
 rw [List.findIdx_eq hk]
 refine ⟨by rw [kAt_eq _ _ hk] at h; simpa using h, fun j hj => ?_⟩
 have := hn j hj
 rw [kAt_eq _ _ (by omega)] at this
 simpa using this
theorem atKey_none (zs : List Pr) (key : Int) (hn : ∀ j, j < zs.length → kAt zs j ≠ key) : atKey zs key = zs.length := by
 unfold atKey
 rw [List.findIdx_eq_length]
 intro x hx
 obtain ⟨i, hi, rfl⟩ := List.getElem_of_mem hx
 have := hn i hi
 rw [kAt_eq _ _ hi] at this
 simpa using this

theorem where_any (A : Option Addr) (n c : Nat) (zs : List Pr) (key : Int) (w : World) (h : RP w w.heap.size A n zs) (hn : n ≤ 1048576) :
   Calls Try.prog 109 #[jS A n c, jI jZ key] w fun e w' => e = .returned (jI jZ (whereI zs key)) ∧ w = w' := by
 have hl := h.1
 have HL := Lib.hid hl
 clear hl
 go_enter Try.func109, Try.ntmps109
 go_wp2
 go_loop [5] (fun i => ∃ k : Nat, i = jI jZ k ∧ k ≤ n ∧ Hid (∀ j, j < k → kAt zs j ≠ key)) (fun i => n - (intOf i).toNat)
 case atStart => exact ⟨0, rfl, by omega, Lib.hid (by intro j hj; omega)⟩
 case round =>
   obtain ⟨k, rfl, hk, hn⟩ := hrel
   by_cases hlt : k < n
   · obtain ⟨b, off, rfl, hb, hc⟩ := h.2 (by omega)
     have c1 := hc k hlt
     clear h hc
     go_wp2
     · go_ret
       have h1 : (kAt zs k == key) = true := by assumption
       have e : atKey zs key = k := atKey_of zs key k (by have := HL.out; omega) (by simpa using h1) hn.out
       exact ⟨ret_int (by unfold whereI; rw [e, if_pos (by have := HL.out; omega)]), rfl⟩
     · go_round
       have h1 : (kAt zs k == key) = false := by assumption
       case rel => exact ⟨k + 1, by go_num, by omega, Lib.hid (by
         intro j hj
         rcases Nat.lt_or_ge j k with h | h
         · exact hn.out j h
         · obtain rfl : j = k := by omega
           simpa using h1)⟩
       case measure => simp [intOf]; omega
   · go_wp2
     go_ret
     have e : atKey zs key = zs.length := atKey_none zs key (by have := HL.out; have := hn.out; intro j hj; exact hn.out j (by omega))
     exact ⟨ret_int (by unfold whereI; rw [e, if_neg (by omega)]), rfl⟩
end Go.Proofs.Ytjookicpmjmdhaa
namespace Go.Proofs.Ytjookicpmjmdhaa
open Go.RowKit

def okTo (zs : List Pr) (k : Nat) : Prop := ∀ j, j < k → rightB (kAt zs j) (vAt zs j) = true ∧ (0 < j → kAt zs (j - 1) < kAt zs j)
def pOk (zs : List Pr) : Bool := decide (zs.length ≤ 40) && (List.range zs.length).all fun j => rightB (kAt zs j) (vAt zs j) && (j == 0 || decide (kAt zs (j - 1) < kAt zs j))
theorem pOk_iff (zs : List Pr) : pOk zs = true ↔ (okTo zs zs.length ∧ zs.length ≤ 40) := by
 unfold pOk okTo
 simp only [Bool.and_eq_true, decide_eq_true_eq, List.all_eq_true, List.mem_range, Bool.or_eq_true, beq_iff_eq]
 constructor
 · rintro ⟨h1, h2⟩
   exact ⟨fun j hj => ⟨(h2 j hj).1, fun h0 => by rcases (h2 j hj).2 with h | h; omega; exact h⟩, h1⟩
 · rintro ⟨h1, h2⟩
   exact ⟨h2, fun j hj => ⟨(h1 j hj).1, by rcases Nat.eq_zero_or_pos j with h | h; exact .inl h; exact .inr ((h1 j hj).2 h)⟩⟩
theorem pOk_false (zs : List Pr) (h : ¬ (okTo zs zs.length ∧ zs.length ≤ 40)) : pOk zs = false := by
 cases e : pOk zs with
 | false => rfl
 | true => exact absurd ((pOk_iff zs).1 e) h

theorem okTo_snoc {zs : List Pr} {k : Nat} (h : okTo zs k) (hr : rightB (kAt zs k) (vAt zs k) = true) (hl : 0 < k → kAt zs (k - 1) < kAt zs k) : okTo zs (k + 1) := by
 intro j hj
 rcases Nat.lt_or_ge j k with h' | h'
 · exact h j h'
 · obtain rfl : j = k := by omega
   exact ⟨hr, hl⟩

theorem spOk_any (A : Option Addr) (n c : Nat) (zs : List Pr) (w : World) (h : RP w w.heap.size A n zs) (hn : n ≤ 1048576) :
   Calls Try.prog 89 #[jS A n c] w fun e w' => e = .returned (.bool (pOk zs)) ∧ Below w.heap.size w w' := by
 have hl := h.1
 have HL := Lib.hid hl
 clear hl
 have HH := Lib.hid h
 clear h
 go_enter Try.func89, Try.ntmps89
 go_wp2
 go_loopw [3] (fun i wr => ∃ k : Nat, i = jI jZ k ∧ k ≤ n ∧ Hid (okTo zs k) ∧ Hid (Below w.heap.size w wr)) (fun i _ => n - (intOf i).toNat)
 case atStart => exact ⟨0, rfl, by omega, Lib.hid (by intro j hj; omega), Lib.hid (Below.refl _ _)⟩
 case round =>
   obtain ⟨k, rfl, hk, ho, hbw⟩ := hrel
   by_cases hlt : k < n
   · obtain ⟨b, off, rfl, hb, hc⟩ := HH.out.2 (by omega)
     have c1 := hc k hlt
     have c2 := Later.of_cell c1.1 hbw.out hb
     have c3 := Later.of_cell c1.2 hbw.out hb
     clear c1
     by_cases hr : rightB (kAt zs k) (vAt zs k) = true
     · have p1 : ∀ w, Calls Try.prog 105 #[.agg #[jI jZ (kAt zs k), jI jZ (vAt zs k)]] w fun e w' => e = .returned (.bool true) ∧ Below w.heap.size w w' := fun w => by
         rw [← hr]; exact pair_any _ _ w
       by_cases hk0 : 0 < k
       · have g0 : decide (0 < k) = true := by simpa using hk0
         have c4 := Later.of_cell (hc (k - 1) (by omega)).1 hbw.out hb
         clear hc
         by_cases hle : kAt zs k ≤ kAt zs (k - 1)
         · have g1 : decide (kAt zs k ≤ kAt zs (k - 1)) = true := by simpa using hle
           go_wp2
           refine wp_region_later (by kernel_rfl) (by kernel_rfl) ?_
           repeat (go_big_quiet_step ((go_at_call 105; exact Calls.later (p1 _))))
           refine wpQuiet_nil ?_
           intro _ hw'
           obtain ⟨s, rfl⟩ := hw'
           go_wp2
           go_ret
           exact ⟨ret_bool (pOk_false zs (fun h => by have := (h.1 k (by have := HL.out; omega)).2 hk0; omega)).symm, s.below_of hbw.out⟩
         · have g1 : decide (kAt zs k ≤ kAt zs (k - 1)) = false := by simpa using hle
           go_wp2
           refine wp_region_later (by kernel_rfl) (by kernel_rfl) ?_
           repeat (go_big_quiet_step ((go_at_call 105; exact Calls.later (p1 _))))
           refine wpQuiet_nil ?_
           intro _ hw'
           obtain ⟨s, rfl⟩ := hw'
           go_wp2
           go_roundw
           case rel => exact ⟨k + 1, by go_num, by omega, Lib.hid (okTo_snoc ho.out hr (fun _ => by omega)), Lib.hid (s.below_of hbw.out)⟩
           case measure => simp [intOf]; omega
       · have g0 : decide (0 < k) = false := by simpa using hk0
         clear hc
         go_wp2
         refine wp_region_later (by kernel_rfl) (by kernel_rfl) ?_
         repeat (go_big_quiet_step ((go_at_call 105; exact Calls.later (p1 _))))
         refine wpQuiet_nil ?_
         intro _ hw'
         obtain ⟨s, rfl⟩ := hw'
         go_wp2
         go_roundw
         case rel => exact ⟨k + 1, by go_num, by omega, Lib.hid (okTo_snoc ho.out hr (fun h => absurd h hk0)), Lib.hid (s.below_of hbw.out)⟩
         case measure => simp [intOf]; omega
     · have hr : rightB (kAt zs k) (vAt zs k) = false := by simpa using hr
       have p1 : ∀ w, Calls Try.prog 105 #[.agg #[jI jZ (kAt zs k), jI jZ (vAt zs k)]] w fun e w' => e = .returned (.bool false) ∧ Below w.heap.size w w' := fun w => by
         rw [← hr]; exact pair_any _ _ w
       clear hc
       go_wp2
       refine wp_region_later (by kernel_rfl) (by kernel_rfl) ?_
       repeat (go_big_quiet_step ((go_at_call 105; exact Calls.later (p1 _))))
       refine wpQuiet_nil ?_
       intro _ hw'
       obtain ⟨s, rfl⟩ := hw'
       go_wp2
       go_ret
       exact ⟨ret_bool (pOk_false zs (fun h => by have := (h.1 k (by have := HL.out; omega)).1; rw [hr] at this; cases this)).symm, s.below_of hbw.out⟩
   · go_wp2
     go_ret
     have hz : zs.length = n := HL.out
     have hk' : k = zs.length := by omega
     refine ⟨ret_bool ?_, hbw.out⟩
     rw [Bool.eq_iff_iff, pOk_iff]
     simp only [decide_eq_true_eq]
     exact ⟨fun h => ⟨by rw [← hk']; exact ho.out, by omega⟩, fun h => by omega⟩
end Go.Proofs.Ytjookicpmjmdhaa
namespace Go.Proofs.Ytjookicpmjmdhaa
open Go.RowKit

def riseTo (zs : List Pr) (k : Nat) : Prop := ∀ j, j < k → 0 < j → kAt zs (j - 1) < kAt zs j
end Go.Proofs.Ytjookicpmjmdhaa
namespace Go.Proofs.Ytjookicpmjmdhaa
open Go.RowKit

theorem pair_info : (Try.prog.info? 86).map (fun i => (i.zero, i.size, i.bytes)) = some (some (.agg #[jI jZ 0, jI jZ 0]), 2, 16) := by kernel_rfl

end Go.Proofs.Ytjookicpmjmdhaa

/- The walks of the model's nodes: NodeOk, Within, KidFor. -/
import Derived.Test.YtjookicpmjmdhaaQ02
open Go.Value renaming int → jI, slice → jS
open Go.IntKind renaming i64 → jZ
namespace Go.Proofs.Ytjookicpmjmdhaa
open Go.RowKit

structure Nd where
 lv : Int
 ps : List Pr
 hi : Int
 ri : Int
 ow : Int

def numB (x : Int) : Bool := inB x 0 39
def kidsTo (zs : List Pr) (k : Nat) : Prop := ∀ j, j < k → numB (vAt zs j) = true
def kidsB (zs : List Pr) : Bool := (List.range zs.length).all (fun j => numB (vAt zs j)) && decide (0 < zs.length)
theorem kidsB_iff (zs : List Pr) : kidsB zs = true ↔ (kidsTo zs zs.length ∧ 0 < zs.length) := by
 unfold kidsB kidsTo
 simp only [Bool.and_eq_true, List.all_eq_true, List.mem_range, decide_eq_true_eq]
theorem kidsB_false {zs : List Pr} (h : ¬ (kidsTo zs zs.length ∧ 0 < zs.length)) : kidsB zs = false := by
 cases e : kidsB zs with
 | false => rfl
 | true => exact absurd ((kidsB_iff zs).1 e) h
def lastK (zs : List Pr) : Int := kAt zs (zs.length - 1)
def nodeOk (x : Nd) : Bool :=
 inB x.lv 0 6 && decide (x.ps.length ≤ 4) && pOk x.ps && (decide (x.lv ≤ 0) || kidsB x.ps) && inB x.ow 0 6 &&
 (if x.hi = -1 then decide (x.ri = -1) else inB x.hi 1 100 && numB x.ri && (decide (x.ps.length = 0) || decide (lastK x.ps < x.hi)))

theorem num_is (x : Int) (w : World) :
   Calls Try.prog 48 #[jI jZ x] w fun e w' => e = .returned (.bool (numB x)) ∧ w = w' := by
 go_enter Try.func48, Try.ntmps48
 go_wp2_with (go_at_call 44; refine (in_any _ _ _ _).mono ?_; rintro e w' ⟨rfl, rfl⟩)
 go_ret
 exact ⟨rfl, rfl⟩

theorem kids_any (A : Option Addr) (n c : Nat) (zs : List Pr) (w : World) (h : RP w w.heap.size A n zs) (hn : n ≤ 1048576) :
   Calls Try.prog 90 #[jS A n c] w fun e w' => e = .returned (.bool (kidsB zs)) ∧ w = w' := by
 have HL := Lib.hid h.1
 have HH := Lib.hid h
 clear h
 go_enter Try.func90, Try.ntmps90
 go_wp2
 go_loop [3] (fun i => ∃ k : Nat, i = jI jZ k ∧ k ≤ n ∧ Hid (kidsTo zs k)) (fun i => n - (intOf i).toNat)
 case atStart => exact ⟨0, rfl, by omega, Lib.hid (by intro j hj; omega)⟩
 case round =>
   obtain ⟨k, rfl, hk, ho⟩ := hrel
   by_cases hlt : k < n
   · obtain ⟨b, off, rfl, hb, hc⟩ := HH.out.2 (by omega)
     have c1 := (hc k hlt).2
     clear hc
     go_wp2_with (go_at_call 48; refine (num_is _ _).mono ?_; rintro e w' ⟨rfl, rfl⟩)
     · go_ret
       have h1 : (!numB (vAt zs k)) = true := by assumption
       exact ⟨ret_bool (kidsB_false (fun h => by have := h.1 k (by have := HL.out; omega); simp [this] at h1)).symm, rfl⟩
     · go_round
       have h1 : (!numB (vAt zs k)) = false := by assumption
       case rel => exact ⟨k + 1, by go_num, by omega, Lib.hid (by
         intro j hj
         rcases Nat.lt_or_ge j k with h | h
         · exact ho.out j h
         · obtain rfl : j = k := by omega
           simpa using h1)⟩
       case measure => simp [intOf]; omega
   · go_wp2
     go_ret
     have hz : zs.length = n := HL.out
     refine ⟨ret_bool ?_, rfl⟩
     rw [Bool.eq_iff_iff, kidsB_iff]
     simp only [decide_eq_true_eq]
     exact ⟨fun h => ⟨fun j hj => ho.out j (by omega), by omega⟩, fun h => by omega⟩

theorem below_drewN {w w' : World} {B : Nat} (h : Below B w w') (n : Nat) : Below B w (w'.drewN n) := ⟨h.os, h.tape, h.output, h.size, h.block⟩

set_option maxHeartbeats 400000 in
theorem nOk_lv (lv hi ri ow : Int) (A : Option Addr) (n c : Nat) (zs : List Pr) (w : World) (h : RP w w.heap.size A n zs) (_hn : n ≤ 1048576) (h1 : inB lv 0 6 = false) :
   Calls Try.prog 83 #[.agg #[jI jZ lv, jS A n c, jI jZ hi, jI jZ ri, jI jZ ow]] w fun e w' => e = .returned (.bool false) ∧ Below w.heap.size w w' := by
 have HL := Lib.hid h.1
 have HH := Lib.hid h
 clear h
 go_enter Try.func83, Try.ntmps83
 go_wp2_with (first | (go_at_call 44; refine (in_any _ _ _ _).mono ?_; rintro e w' ⟨rfl, rfl⟩) | (go_at_call 48; refine (num_is _ _).mono ?_; rintro e w' ⟨rfl, rfl⟩))
 go_ret
 exact ⟨rfl, (Below.refl _ _).alloc (Nat.le_refl _) _⟩

set_option maxHeartbeats 400000 in
theorem nOk_fan (lv hi ri ow : Int) (A : Option Addr) (n c : Nat) (zs : List Pr) (w : World) (h : RP w w.heap.size A n zs) (_hn : n ≤ 1048576) (h1 : inB lv 0 6 = true) (h2 : 4 < n) :
   Calls Try.prog 83 #[.agg #[jI jZ lv, jS A n c, jI jZ hi, jI jZ ri, jI jZ ow]] w fun e w' => e = .returned (.bool false) ∧ Below w.heap.size w w' := by
 have HL := Lib.hid h.1
 have HH := Lib.hid h
 clear h
 go_enter Try.func83, Try.ntmps83
 go_wp2_with (first | (go_at_call 44; refine (in_any _ _ _ _).mono ?_; rintro e w' ⟨rfl, rfl⟩) | (go_at_call 48; refine (num_is _ _).mono ?_; rintro e w' ⟨rfl, rfl⟩))
 go_ret
 exact ⟨rfl, (Below.refl _ _).alloc (Nat.le_refl _) _⟩

set_option maxHeartbeats 400000 in
theorem nOk_ps (lv hi ri ow : Int) (A : Option Addr) (n c : Nat) (zs : List Pr) (w : World) (h : RP w w.heap.size A n zs) (hn : n ≤ 1048576) (h1 : inB lv 0 6 = true) (h2 : n ≤ 4) (h3 : pOk zs = false) :
   Calls Try.prog 83 #[.agg #[jI jZ lv, jS A n c, jI jZ hi, jI jZ ri, jI jZ ow]] w fun e w' => e = .returned (.bool false) ∧ Below w.heap.size w w' := by
 have HL := Lib.hid h.1
 have HH := Lib.hid h
 clear h
 go_enter Try.func83, Try.ntmps83
 go_wp2_with (first | (go_at_call 44; refine (in_any _ _ _ _).mono ?_; rintro e w' ⟨rfl, rfl⟩) | (go_at_call 48; refine (num_is _ _).mono ?_; rintro e w' ⟨rfl, rfl⟩))
 obtain ⟨w0, hw0⟩ : ∃ w0, w0 = w.alloc (.cells #[jI jZ lv, jS A n c, jI jZ hi, jI jZ ri, jI jZ ow] 101) := ⟨_, rfl⟩
 have B0 : Hid (Below w.heap.size w w0) := Lib.hid (by rw [hw0]; exact (Below.refl _ _).alloc (Nat.le_refl _) _)
 have a0 : w0.cell? ⟨w.heap.size, 0, none⟩ = some (jI jZ lv) := by rw [hw0]; simp
 have a1 : w0.cell? ⟨w.heap.size, 1, none⟩ = some (.slice A n c) := by rw [hw0]; simp
 have a2 : w0.cell? ⟨w.heap.size, 2, none⟩ = some (jI jZ hi) := by rw [hw0]; simp
 have a3 : w0.cell? ⟨w.heap.size, 3, none⟩ = some (jI jZ ri) := by rw [hw0]; simp
 have a4 : w0.cell? ⟨w.heap.size, 4, none⟩ = some (jI jZ ow) := by rw [hw0]; simp
 have s0 : w.heap.size < w0.heap.size := by rw [hw0]; simp
 rw [← hw0]
 clear hw0
 refine (spOk_any _ _ _ zs _ (HH.out.on B0.out) hn).mono ?_
 rintro e w1 ⟨rfl, b1⟩
 have d0 := (b1.cell (p := ⟨w.heap.size, 0, none⟩) s0).trans a0
 have d1 := (b1.cell (p := ⟨w.heap.size, 1, none⟩) s0).trans a1
 have d2 := (b1.cell (p := ⟨w.heap.size, 2, none⟩) s0).trans a2
 have d3 := (b1.cell (p := ⟨w.heap.size, 3, none⟩) s0).trans a3
 have d4 := (b1.cell (p := ⟨w.heap.size, 4, none⟩) s0).trans a4
 have B1 := Lib.hid (B0.out.trans (b1.mono B0.out.size))
 have R1 := Lib.hid (HH.out.on B1.out)
 clear b1 a0 a1 a2 a3 a4 s0 B0
 go_wp2_with (first | (go_at_call 44; refine (in_any _ _ _ _).mono ?_; rintro e w' ⟨rfl, rfl⟩) | (go_at_call 48; refine (num_is _ _).mono ?_; rintro e w' ⟨rfl, rfl⟩) | (go_at_call 90; refine (kids_any _ _ _ _ _ R1.out (by omega)).mono ?_; rintro e w' ⟨rfl, rfl⟩))
 go_ret
 exact ⟨rfl, B1.out⟩

set_option maxHeartbeats 400000 in
theorem nOk_kids (lv hi ri ow : Int) (A : Option Addr) (n c : Nat) (zs : List Pr) (w : World) (h : RP w w.heap.size A n zs) (hn : n ≤ 1048576) (h1 : inB lv 0 6 = true) (h2 : n ≤ 4) (h3 : pOk zs = true) (h4 : 0 < lv) (h5 : kidsB zs = false) :
   Calls Try.prog 83 #[.agg #[jI jZ lv, jS A n c, jI jZ hi, jI jZ ri, jI jZ ow]] w fun e w' => e = .returned (.bool false) ∧ Below w.heap.size w w' := by
 have HL := Lib.hid h.1
 have HH := Lib.hid h
 clear h
 go_enter Try.func83, Try.ntmps83
 go_wp2_with (first | (go_at_call 44; refine (in_any _ _ _ _).mono ?_; rintro e w' ⟨rfl, rfl⟩) | (go_at_call 48; refine (num_is _ _).mono ?_; rintro e w' ⟨rfl, rfl⟩))
 obtain ⟨w0, hw0⟩ : ∃ w0, w0 = w.alloc (.cells #[jI jZ lv, jS A n c, jI jZ hi, jI jZ ri, jI jZ ow] 101) := ⟨_, rfl⟩
 have B0 : Hid (Below w.heap.size w w0) := Lib.hid (by rw [hw0]; exact (Below.refl _ _).alloc (Nat.le_refl _) _)
 have a0 : w0.cell? ⟨w.heap.size, 0, none⟩ = some (jI jZ lv) := by rw [hw0]; simp
 have a1 : w0.cell? ⟨w.heap.size, 1, none⟩ = some (.slice A n c) := by rw [hw0]; simp
 have a2 : w0.cell? ⟨w.heap.size, 2, none⟩ = some (jI jZ hi) := by rw [hw0]; simp
 have a3 : w0.cell? ⟨w.heap.size, 3, none⟩ = some (jI jZ ri) := by rw [hw0]; simp
 have a4 : w0.cell? ⟨w.heap.size, 4, none⟩ = some (jI jZ ow) := by rw [hw0]; simp
 have s0 : w.heap.size < w0.heap.size := by rw [hw0]; simp
 rw [← hw0]
 clear hw0
 refine (spOk_any _ _ _ zs _ (HH.out.on B0.out) hn).mono ?_
 rintro e w1 ⟨rfl, b1⟩
 have d0 := (b1.cell (p := ⟨w.heap.size, 0, none⟩) s0).trans a0
 have d1 := (b1.cell (p := ⟨w.heap.size, 1, none⟩) s0).trans a1
 have d2 := (b1.cell (p := ⟨w.heap.size, 2, none⟩) s0).trans a2
 have d3 := (b1.cell (p := ⟨w.heap.size, 3, none⟩) s0).trans a3
 have d4 := (b1.cell (p := ⟨w.heap.size, 4, none⟩) s0).trans a4
 have B1 := Lib.hid (B0.out.trans (b1.mono B0.out.size))
 have R1 := Lib.hid (HH.out.on B1.out)
 clear b1 a0 a1 a2 a3 a4 s0 B0
 go_wp2_with (first | (go_at_call 44; refine (in_any _ _ _ _).mono ?_; rintro e w' ⟨rfl, rfl⟩) | (go_at_call 48; refine (num_is _ _).mono ?_; rintro e w' ⟨rfl, rfl⟩) | (go_at_call 90; refine (kids_any _ _ _ _ _ R1.out (by omega)).mono ?_; rintro e w' ⟨rfl, rfl⟩))
 go_ret
 exact ⟨rfl, B1.out⟩

set_option maxHeartbeats 400000 in
theorem nOk_owU (lv hi ri ow : Int) (A : Option Addr) (n c : Nat) (zs : List Pr) (w : World) (h : RP w w.heap.size A n zs) (hn : n ≤ 1048576) (h1 : inB lv 0 6 = true) (h2 : n ≤ 4) (h3 : pOk zs = true) (h4 : 0 < lv) (h5 : kidsB zs = true) (h6 : inB ow 0 6 = false) :
   Calls Try.prog 83 #[.agg #[jI jZ lv, jS A n c, jI jZ hi, jI jZ ri, jI jZ ow]] w fun e w' => e = .returned (.bool false) ∧ Below w.heap.size w w' := by
 have HL := Lib.hid h.1
 have HH := Lib.hid h
 clear h
 go_enter Try.func83, Try.ntmps83
 go_wp2_with (first | (go_at_call 44; refine (in_any _ _ _ _).mono ?_; rintro e w' ⟨rfl, rfl⟩) | (go_at_call 48; refine (num_is _ _).mono ?_; rintro e w' ⟨rfl, rfl⟩))
 obtain ⟨w0, hw0⟩ : ∃ w0, w0 = w.alloc (.cells #[jI jZ lv, jS A n c, jI jZ hi, jI jZ ri, jI jZ ow] 101) := ⟨_, rfl⟩
 have B0 : Hid (Below w.heap.size w w0) := Lib.hid (by rw [hw0]; exact (Below.refl _ _).alloc (Nat.le_refl _) _)
 have a0 : w0.cell? ⟨w.heap.size, 0, none⟩ = some (jI jZ lv) := by rw [hw0]; simp
 have a1 : w0.cell? ⟨w.heap.size, 1, none⟩ = some (.slice A n c) := by rw [hw0]; simp
 have a2 : w0.cell? ⟨w.heap.size, 2, none⟩ = some (jI jZ hi) := by rw [hw0]; simp
 have a3 : w0.cell? ⟨w.heap.size, 3, none⟩ = some (jI jZ ri) := by rw [hw0]; simp
 have a4 : w0.cell? ⟨w.heap.size, 4, none⟩ = some (jI jZ ow) := by rw [hw0]; simp
 have s0 : w.heap.size < w0.heap.size := by rw [hw0]; simp
 rw [← hw0]
 clear hw0
 refine (spOk_any _ _ _ zs _ (HH.out.on B0.out) hn).mono ?_
 rintro e w1 ⟨rfl, b1⟩
 have d0 := (b1.cell (p := ⟨w.heap.size, 0, none⟩) s0).trans a0
 have d1 := (b1.cell (p := ⟨w.heap.size, 1, none⟩) s0).trans a1
 have d2 := (b1.cell (p := ⟨w.heap.size, 2, none⟩) s0).trans a2
 have d3 := (b1.cell (p := ⟨w.heap.size, 3, none⟩) s0).trans a3
 have d4 := (b1.cell (p := ⟨w.heap.size, 4, none⟩) s0).trans a4
 have B1 := Lib.hid (B0.out.trans (b1.mono B0.out.size))
 have R1 := Lib.hid (HH.out.on B1.out)
 clear b1 a0 a1 a2 a3 a4 s0 B0
 go_wp2_with (first | (go_at_call 44; refine (in_any _ _ _ _).mono ?_; rintro e w' ⟨rfl, rfl⟩) | (go_at_call 48; refine (num_is _ _).mono ?_; rintro e w' ⟨rfl, rfl⟩) | (go_at_call 90; refine (kids_any _ _ _ _ _ R1.out (by omega)).mono ?_; rintro e w' ⟨rfl, rfl⟩))
 go_ret
 exact ⟨rfl, B1.out⟩

set_option maxHeartbeats 400000 in
theorem nOk_openU (lv hi ri ow : Int) (A : Option Addr) (n c : Nat) (zs : List Pr) (w : World) (h : RP w w.heap.size A n zs) (hn : n ≤ 1048576) (h1 : inB lv 0 6 = true) (h2 : n ≤ 4) (h3 : pOk zs = true) (h4 : 0 < lv) (h5 : kidsB zs = true) (h6 : inB ow 0 6 = true) (h7 : hi = -1) :
   Calls Try.prog 83 #[.agg #[jI jZ lv, jS A n c, jI jZ hi, jI jZ ri, jI jZ ow]] w fun e w' => e = .returned (.bool (ri == -1)) ∧ Below w.heap.size w w' := by
 have HL := Lib.hid h.1
 have HH := Lib.hid h
 clear h
 have h7b : (hi == -1) = true := by simpa using h7
 clear h7
 go_enter Try.func83, Try.ntmps83
 go_wp2_with (first | (go_at_call 44; refine (in_any _ _ _ _).mono ?_; rintro e w' ⟨rfl, rfl⟩) | (go_at_call 48; refine (num_is _ _).mono ?_; rintro e w' ⟨rfl, rfl⟩))
 obtain ⟨w0, hw0⟩ : ∃ w0, w0 = w.alloc (.cells #[jI jZ lv, jS A n c, jI jZ hi, jI jZ ri, jI jZ ow] 101) := ⟨_, rfl⟩
 have B0 : Hid (Below w.heap.size w w0) := Lib.hid (by rw [hw0]; exact (Below.refl _ _).alloc (Nat.le_refl _) _)
 have a0 : w0.cell? ⟨w.heap.size, 0, none⟩ = some (jI jZ lv) := by rw [hw0]; simp
 have a1 : w0.cell? ⟨w.heap.size, 1, none⟩ = some (.slice A n c) := by rw [hw0]; simp
 have a2 : w0.cell? ⟨w.heap.size, 2, none⟩ = some (jI jZ hi) := by rw [hw0]; simp
 have a3 : w0.cell? ⟨w.heap.size, 3, none⟩ = some (jI jZ ri) := by rw [hw0]; simp
 have a4 : w0.cell? ⟨w.heap.size, 4, none⟩ = some (jI jZ ow) := by rw [hw0]; simp
 have s0 : w.heap.size < w0.heap.size := by rw [hw0]; simp
 rw [← hw0]
 clear hw0
 refine (spOk_any _ _ _ zs _ (HH.out.on B0.out) hn).mono ?_
 rintro e w1 ⟨rfl, b1⟩
 have d0 := (b1.cell (p := ⟨w.heap.size, 0, none⟩) s0).trans a0
 have d1 := (b1.cell (p := ⟨w.heap.size, 1, none⟩) s0).trans a1
 have d2 := (b1.cell (p := ⟨w.heap.size, 2, none⟩) s0).trans a2
 have d3 := (b1.cell (p := ⟨w.heap.size, 3, none⟩) s0).trans a3
 have d4 := (b1.cell (p := ⟨w.heap.size, 4, none⟩) s0).trans a4
 have B1 := Lib.hid (B0.out.trans (b1.mono B0.out.size))
 have R1 := Lib.hid (HH.out.on B1.out)
 clear b1 a0 a1 a2 a3 a4 s0 B0
 go_wp2_with (first | (go_at_call 44; refine (in_any _ _ _ _).mono ?_; rintro e w' ⟨rfl, rfl⟩) | (go_at_call 48; refine (num_is _ _).mono ?_; rintro e w' ⟨rfl, rfl⟩) | (go_at_call 90; refine (kids_any _ _ _ _ _ R1.out (by omega)).mono ?_; rintro e w' ⟨rfl, rfl⟩))
 go_ret
 exact ⟨rfl, B1.out⟩

set_option maxHeartbeats 400000 in
theorem nOk_hiU (lv hi ri ow : Int) (A : Option Addr) (n c : Nat) (zs : List Pr) (w : World) (h : RP w w.heap.size A n zs) (hn : n ≤ 1048576) (h1 : inB lv 0 6 = true) (h2 : n ≤ 4) (h3 : pOk zs = true) (h4 : 0 < lv) (h5 : kidsB zs = true) (h6 : inB ow 0 6 = true) (h7 : hi ≠ -1) (h8 : inB hi 1 100 = false) :
   Calls Try.prog 83 #[.agg #[jI jZ lv, jS A n c, jI jZ hi, jI jZ ri, jI jZ ow]] w fun e w' => e = .returned (.bool false) ∧ Below w.heap.size w w' := by
 have HL := Lib.hid h.1
 have HH := Lib.hid h
 clear h
 have h7b : (hi == -1) = false := by simpa using h7
 clear h7
 go_enter Try.func83, Try.ntmps83
 go_wp2_with (first | (go_at_call 44; refine (in_any _ _ _ _).mono ?_; rintro e w' ⟨rfl, rfl⟩) | (go_at_call 48; refine (num_is _ _).mono ?_; rintro e w' ⟨rfl, rfl⟩))
 obtain ⟨w0, hw0⟩ : ∃ w0, w0 = w.alloc (.cells #[jI jZ lv, jS A n c, jI jZ hi, jI jZ ri, jI jZ ow] 101) := ⟨_, rfl⟩
 have B0 : Hid (Below w.heap.size w w0) := Lib.hid (by rw [hw0]; exact (Below.refl _ _).alloc (Nat.le_refl _) _)
 have a0 : w0.cell? ⟨w.heap.size, 0, none⟩ = some (jI jZ lv) := by rw [hw0]; simp
 have a1 : w0.cell? ⟨w.heap.size, 1, none⟩ = some (.slice A n c) := by rw [hw0]; simp
 have a2 : w0.cell? ⟨w.heap.size, 2, none⟩ = some (jI jZ hi) := by rw [hw0]; simp
 have a3 : w0.cell? ⟨w.heap.size, 3, none⟩ = some (jI jZ ri) := by rw [hw0]; simp
 have a4 : w0.cell? ⟨w.heap.size, 4, none⟩ = some (jI jZ ow) := by rw [hw0]; simp
 have s0 : w.heap.size < w0.heap.size := by rw [hw0]; simp
 rw [← hw0]
 clear hw0
 refine (spOk_any _ _ _ zs _ (HH.out.on B0.out) hn).mono ?_
 rintro e w1 ⟨rfl, b1⟩
 have d0 := (b1.cell (p := ⟨w.heap.size, 0, none⟩) s0).trans a0
 have d1 := (b1.cell (p := ⟨w.heap.size, 1, none⟩) s0).trans a1
 have d2 := (b1.cell (p := ⟨w.heap.size, 2, none⟩) s0).trans a2
 have d3 := (b1.cell (p := ⟨w.heap.size, 3, none⟩) s0).trans a3
 have d4 := (b1.cell (p := ⟨w.heap.size, 4, none⟩) s0).trans a4
 have B1 := Lib.hid (B0.out.trans (b1.mono B0.out.size))
 have R1 := Lib.hid (HH.out.on B1.out)
 clear b1 a0 a1 a2 a3 a4 s0 B0
 go_wp2_with (first | (go_at_call 44; refine (in_any _ _ _ _).mono ?_; rintro e w' ⟨rfl, rfl⟩) | (go_at_call 48; refine (num_is _ _).mono ?_; rintro e w' ⟨rfl, rfl⟩) | (go_at_call 90; refine (kids_any _ _ _ _ _ R1.out (by omega)).mono ?_; rintro e w' ⟨rfl, rfl⟩))
 go_ret
 exact ⟨rfl, B1.out⟩

set_option maxHeartbeats 400000 in
theorem nOk_riU (lv hi ri ow : Int) (A : Option Addr) (n c : Nat) (zs : List Pr) (w : World) (h : RP w w.heap.size A n zs) (hn : n ≤ 1048576) (h1 : inB lv 0 6 = true) (h2 : n ≤ 4) (h3 : pOk zs = true) (h4 : 0 < lv) (h5 : kidsB zs = true) (h6 : inB ow 0 6 = true) (h7 : hi ≠ -1) (h8 : inB hi 1 100 = true) (h9 : numB ri = false) :
   Calls Try.prog 83 #[.agg #[jI jZ lv, jS A n c, jI jZ hi, jI jZ ri, jI jZ ow]] w fun e w' => e = .returned (.bool false) ∧ Below w.heap.size w w' := by
 have HL := Lib.hid h.1
 have HH := Lib.hid h
 clear h
 have h7b : (hi == -1) = false := by simpa using h7
 clear h7
 go_enter Try.func83, Try.ntmps83
 go_wp2_with (first | (go_at_call 44; refine (in_any _ _ _ _).mono ?_; rintro e w' ⟨rfl, rfl⟩) | (go_at_call 48; refine (num_is _ _).mono ?_; rintro e w' ⟨rfl, rfl⟩))
 obtain ⟨w0, hw0⟩ : ∃ w0, w0 = w.alloc (.cells #[jI jZ lv, jS A n c, jI jZ hi, jI jZ ri, jI jZ ow] 101) := ⟨_, rfl⟩
 have B0 : Hid (Below w.heap.size w w0) := Lib.hid (by rw [hw0]; exact (Below.refl _ _).alloc (Nat.le_refl _) _)
 have a0 : w0.cell? ⟨w.heap.size, 0, none⟩ = some (jI jZ lv) := by rw [hw0]; simp
 have a1 : w0.cell? ⟨w.heap.size, 1, none⟩ = some (.slice A n c) := by rw [hw0]; simp
 have a2 : w0.cell? ⟨w.heap.size, 2, none⟩ = some (jI jZ hi) := by rw [hw0]; simp
 have a3 : w0.cell? ⟨w.heap.size, 3, none⟩ = some (jI jZ ri) := by rw [hw0]; simp
 have a4 : w0.cell? ⟨w.heap.size, 4, none⟩ = some (jI jZ ow) := by rw [hw0]; simp
 have s0 : w.heap.size < w0.heap.size := by rw [hw0]; simp
 rw [← hw0]
 clear hw0
 refine (spOk_any _ _ _ zs _ (HH.out.on B0.out) hn).mono ?_
 rintro e w1 ⟨rfl, b1⟩
 have d0 := (b1.cell (p := ⟨w.heap.size, 0, none⟩) s0).trans a0
 have d1 := (b1.cell (p := ⟨w.heap.size, 1, none⟩) s0).trans a1
 have d2 := (b1.cell (p := ⟨w.heap.size, 2, none⟩) s0).trans a2
 have d3 := (b1.cell (p := ⟨w.heap.size, 3, none⟩) s0).trans a3
 have d4 := (b1.cell (p := ⟨w.heap.size, 4, none⟩) s0).trans a4
 have B1 := Lib.hid (B0.out.trans (b1.mono B0.out.size))
 have R1 := Lib.hid (HH.out.on B1.out)
 clear b1 a0 a1 a2 a3 a4 s0 B0
 go_wp2_with (first | (go_at_call 44; refine (in_any _ _ _ _).mono ?_; rintro e w' ⟨rfl, rfl⟩) | (go_at_call 48; refine (num_is _ _).mono ?_; rintro e w' ⟨rfl, rfl⟩) | (go_at_call 90; refine (kids_any _ _ _ _ _ R1.out (by omega)).mono ?_; rintro e w' ⟨rfl, rfl⟩))
 go_ret
 exact ⟨rfl, B1.out⟩

set_option maxHeartbeats 400000 in
theorem nOk_noneU (lv hi ri ow : Int) (A : Option Addr) (n c : Nat) (zs : List Pr) (w : World) (h : RP w w.heap.size A n zs) (hn : n ≤ 1048576) (h1 : inB lv 0 6 = true) (h2 : n ≤ 4) (h3 : pOk zs = true) (h4 : 0 < lv) (h5 : kidsB zs = true) (h6 : inB ow 0 6 = true) (h7 : hi ≠ -1) (h8 : inB hi 1 100 = true) (h9 : numB ri = true) (h10 : n = 0) :
   Calls Try.prog 83 #[.agg #[jI jZ lv, jS A n c, jI jZ hi, jI jZ ri, jI jZ ow]] w fun e w' => e = .returned (.bool true) ∧ Below w.heap.size w w' := by
 have HL := Lib.hid h.1
 have HH := Lib.hid h
 clear h
 have h7b : (hi == -1) = false := by simpa using h7
 clear h7
 have h10b : ((n : Int) == 0) = true := by simp [h10]
 have H10 := Lib.hid h10
 clear h10
 go_enter Try.func83, Try.ntmps83
 go_wp2_with (first | (go_at_call 44; refine (in_any _ _ _ _).mono ?_; rintro e w' ⟨rfl, rfl⟩) | (go_at_call 48; refine (num_is _ _).mono ?_; rintro e w' ⟨rfl, rfl⟩))
 obtain ⟨w0, hw0⟩ : ∃ w0, w0 = w.alloc (.cells #[jI jZ lv, jS A n c, jI jZ hi, jI jZ ri, jI jZ ow] 101) := ⟨_, rfl⟩
 have B0 : Hid (Below w.heap.size w w0) := Lib.hid (by rw [hw0]; exact (Below.refl _ _).alloc (Nat.le_refl _) _)
 have a0 : w0.cell? ⟨w.heap.size, 0, none⟩ = some (jI jZ lv) := by rw [hw0]; simp
 have a1 : w0.cell? ⟨w.heap.size, 1, none⟩ = some (.slice A n c) := by rw [hw0]; simp
 have a2 : w0.cell? ⟨w.heap.size, 2, none⟩ = some (jI jZ hi) := by rw [hw0]; simp
 have a3 : w0.cell? ⟨w.heap.size, 3, none⟩ = some (jI jZ ri) := by rw [hw0]; simp
 have a4 : w0.cell? ⟨w.heap.size, 4, none⟩ = some (jI jZ ow) := by rw [hw0]; simp
 have s0 : w.heap.size < w0.heap.size := by rw [hw0]; simp
 rw [← hw0]
 clear hw0
 refine (spOk_any _ _ _ zs _ (HH.out.on B0.out) hn).mono ?_
 rintro e w1 ⟨rfl, b1⟩
 have d0 := (b1.cell (p := ⟨w.heap.size, 0, none⟩) s0).trans a0
 have d1 := (b1.cell (p := ⟨w.heap.size, 1, none⟩) s0).trans a1
 have d2 := (b1.cell (p := ⟨w.heap.size, 2, none⟩) s0).trans a2
 have d3 := (b1.cell (p := ⟨w.heap.size, 3, none⟩) s0).trans a3
 have d4 := (b1.cell (p := ⟨w.heap.size, 4, none⟩) s0).trans a4
 have B1 := Lib.hid (B0.out.trans (b1.mono B0.out.size))
 have R1 := Lib.hid (HH.out.on B1.out)
 clear b1 a0 a1 a2 a3 a4 s0 B0
 go_wp2_with (first | (go_at_call 44; refine (in_any _ _ _ _).mono ?_; rintro e w' ⟨rfl, rfl⟩) | (go_at_call 48; refine (num_is _ _).mono ?_; rintro e w' ⟨rfl, rfl⟩) | (go_at_call 90; refine (kids_any _ _ _ _ _ R1.out (by omega)).mono ?_; rintro e w' ⟨rfl, rfl⟩))
 go_quiet (fail)
 go_wp2
 go_ret
 exact ⟨rfl, below_drewN B1.out _⟩

set_option maxHeartbeats 400000 in
theorem nOk_lastU (lv hi ri ow : Int) (A : Option Addr) (n c : Nat) (zs : List Pr) (w : World) (h : RP w w.heap.size A n zs) (hn : n ≤ 1048576) (h1 : inB lv 0 6 = true) (h2 : n ≤ 4) (h3 : pOk zs = true) (h4 : 0 < lv) (h5 : kidsB zs = true) (h6 : inB ow 0 6 = true) (h7 : hi ≠ -1) (h8 : inB hi 1 100 = true) (h9 : numB ri = true) (h10 : 0 < n) :
   Calls Try.prog 83 #[.agg #[jI jZ lv, jS A n c, jI jZ hi, jI jZ ri, jI jZ ow]] w fun e w' => e = .returned (.bool (decide (kAt zs (n - 1) < hi))) ∧ Below w.heap.size w w' := by
 have HL := Lib.hid h.1
 have HH := Lib.hid h
 clear h
 have h7b : (hi == -1) = false := by simpa using h7
 clear h7
 have h10b : ((n : Int) == 0) = false := by simp; omega
 go_enter Try.func83, Try.ntmps83
 go_wp2_with (first | (go_at_call 44; refine (in_any _ _ _ _).mono ?_; rintro e w' ⟨rfl, rfl⟩) | (go_at_call 48; refine (num_is _ _).mono ?_; rintro e w' ⟨rfl, rfl⟩))
 obtain ⟨w0, hw0⟩ : ∃ w0, w0 = w.alloc (.cells #[jI jZ lv, jS A n c, jI jZ hi, jI jZ ri, jI jZ ow] 101) := ⟨_, rfl⟩
 have B0 : Hid (Below w.heap.size w w0) := Lib.hid (by rw [hw0]; exact (Below.refl _ _).alloc (Nat.le_refl _) _)
 have a0 : w0.cell? ⟨w.heap.size, 0, none⟩ = some (jI jZ lv) := by rw [hw0]; simp
 have a1 : w0.cell? ⟨w.heap.size, 1, none⟩ = some (.slice A n c) := by rw [hw0]; simp
 have a2 : w0.cell? ⟨w.heap.size, 2, none⟩ = some (jI jZ hi) := by rw [hw0]; simp
 have a3 : w0.cell? ⟨w.heap.size, 3, none⟩ = some (jI jZ ri) := by rw [hw0]; simp
 have a4 : w0.cell? ⟨w.heap.size, 4, none⟩ = some (jI jZ ow) := by rw [hw0]; simp
 have s0 : w.heap.size < w0.heap.size := by rw [hw0]; simp
 rw [← hw0]
 clear hw0
 refine (spOk_any _ _ _ zs _ (HH.out.on B0.out) hn).mono ?_
 rintro e w1 ⟨rfl, b1⟩
 have d0 := (b1.cell (p := ⟨w.heap.size, 0, none⟩) s0).trans a0
 have d1 := (b1.cell (p := ⟨w.heap.size, 1, none⟩) s0).trans a1
 have d2 := (b1.cell (p := ⟨w.heap.size, 2, none⟩) s0).trans a2
 have d3 := (b1.cell (p := ⟨w.heap.size, 3, none⟩) s0).trans a3
 have d4 := (b1.cell (p := ⟨w.heap.size, 4, none⟩) s0).trans a4
 have B1 := Lib.hid (B0.out.trans (b1.mono B0.out.size))
 have R1 := Lib.hid (HH.out.on B1.out)
 clear b1 a0 a1 a2 a3 a4 s0 B0
 obtain ⟨b, off, rfl, hb, hcc⟩ := HH.out.2 (by omega)
 have c1 := (B1.out.cell (p := ⟨b, off + (n - 1) * 2, none⟩) hb).trans (hcc (n - 1) (by omega)).1
 clear hcc
 go_wp2_with (first | (go_at_call 44; refine (in_any _ _ _ _).mono ?_; rintro e w' ⟨rfl, rfl⟩) | (go_at_call 48; refine (num_is _ _).mono ?_; rintro e w' ⟨rfl, rfl⟩) | (go_at_call 90; refine (kids_any _ _ _ _ _ R1.out (by omega)).mono ?_; rintro e w' ⟨rfl, rfl⟩))
 go_quiet (fail)
 go_wp2
 go_ret
 exact ⟨rfl, below_drewN B1.out _⟩

set_option maxHeartbeats 400000 in
theorem nOk_owL (lv hi ri ow : Int) (A : Option Addr) (n c : Nat) (zs : List Pr) (w : World) (h : RP w w.heap.size A n zs) (hn : n ≤ 1048576) (h1 : inB lv 0 6 = true) (h2 : n ≤ 4) (h3 : pOk zs = true) (h4 : lv ≤ 0) (h6 : inB ow 0 6 = false) :
   Calls Try.prog 83 #[.agg #[jI jZ lv, jS A n c, jI jZ hi, jI jZ ri, jI jZ ow]] w fun e w' => e = .returned (.bool false) ∧ Below w.heap.size w w' := by
 have HL := Lib.hid h.1
 have HH := Lib.hid h
 clear h
 go_enter Try.func83, Try.ntmps83
 go_wp2_with (first | (go_at_call 44; refine (in_any _ _ _ _).mono ?_; rintro e w' ⟨rfl, rfl⟩) | (go_at_call 48; refine (num_is _ _).mono ?_; rintro e w' ⟨rfl, rfl⟩))
 obtain ⟨w0, hw0⟩ : ∃ w0, w0 = w.alloc (.cells #[jI jZ lv, jS A n c, jI jZ hi, jI jZ ri, jI jZ ow] 101) := ⟨_, rfl⟩
 have B0 : Hid (Below w.heap.size w w0) := Lib.hid (by rw [hw0]; exact (Below.refl _ _).alloc (Nat.le_refl _) _)
 have a0 : w0.cell? ⟨w.heap.size, 0, none⟩ = some (jI jZ lv) := by rw [hw0]; simp
 have a1 : w0.cell? ⟨w.heap.size, 1, none⟩ = some (.slice A n c) := by rw [hw0]; simp
 have a2 : w0.cell? ⟨w.heap.size, 2, none⟩ = some (jI jZ hi) := by rw [hw0]; simp
 have a3 : w0.cell? ⟨w.heap.size, 3, none⟩ = some (jI jZ ri) := by rw [hw0]; simp
 have a4 : w0.cell? ⟨w.heap.size, 4, none⟩ = some (jI jZ ow) := by rw [hw0]; simp
 have s0 : w.heap.size < w0.heap.size := by rw [hw0]; simp
 rw [← hw0]
 clear hw0
 refine (spOk_any _ _ _ zs _ (HH.out.on B0.out) hn).mono ?_
 rintro e w1 ⟨rfl, b1⟩
 have d0 := (b1.cell (p := ⟨w.heap.size, 0, none⟩) s0).trans a0
 have d1 := (b1.cell (p := ⟨w.heap.size, 1, none⟩) s0).trans a1
 have d2 := (b1.cell (p := ⟨w.heap.size, 2, none⟩) s0).trans a2
 have d3 := (b1.cell (p := ⟨w.heap.size, 3, none⟩) s0).trans a3
 have d4 := (b1.cell (p := ⟨w.heap.size, 4, none⟩) s0).trans a4
 have B1 := Lib.hid (B0.out.trans (b1.mono B0.out.size))
 have R1 := Lib.hid (HH.out.on B1.out)
 clear b1 a0 a1 a2 a3 a4 s0 B0
 go_wp2_with (first | (go_at_call 44; refine (in_any _ _ _ _).mono ?_; rintro e w' ⟨rfl, rfl⟩) | (go_at_call 48; refine (num_is _ _).mono ?_; rintro e w' ⟨rfl, rfl⟩) | (go_at_call 90; refine (kids_any _ _ _ _ _ R1.out (by omega)).mono ?_; rintro e w' ⟨rfl, rfl⟩))
 go_ret
 exact ⟨rfl, B1.out⟩

set_option maxHeartbeats 400000 in
theorem nOk_openL (lv hi ri ow : Int) (A : Option Addr) (n c : Nat) (zs : List Pr) (w : World) (h : RP w w.heap.size A n zs) (hn : n ≤ 1048576) (h1 : inB lv 0 6 = true) (h2 : n ≤ 4) (h3 : pOk zs = true) (h4 : lv ≤ 0) (h6 : inB ow 0 6 = true) (h7 : hi = -1) :
   Calls Try.prog 83 #[.agg #[jI jZ lv, jS A n c, jI jZ hi, jI jZ ri, jI jZ ow]] w fun e w' => e = .returned (.bool (ri == -1)) ∧ Below w.heap.size w w' := by
 have HL := Lib.hid h.1
 have HH := Lib.hid h
 clear h
 have h7b : (hi == -1) = true := by simpa using h7
 clear h7
 go_enter Try.func83, Try.ntmps83
 go_wp2_with (first | (go_at_call 44; refine (in_any _ _ _ _).mono ?_; rintro e w' ⟨rfl, rfl⟩) | (go_at_call 48; refine (num_is _ _).mono ?_; rintro e w' ⟨rfl, rfl⟩))
 obtain ⟨w0, hw0⟩ : ∃ w0, w0 = w.alloc (.cells #[jI jZ lv, jS A n c, jI jZ hi, jI jZ ri, jI jZ ow] 101) := ⟨_, rfl⟩
 have B0 : Hid (Below w.heap.size w w0) := Lib.hid (by rw [hw0]; exact (Below.refl _ _).alloc (Nat.le_refl _) _)
 have a0 : w0.cell? ⟨w.heap.size, 0, none⟩ = some (jI jZ lv) := by rw [hw0]; simp
 have a1 : w0.cell? ⟨w.heap.size, 1, none⟩ = some (.slice A n c) := by rw [hw0]; simp
 have a2 : w0.cell? ⟨w.heap.size, 2, none⟩ = some (jI jZ hi) := by rw [hw0]; simp
 have a3 : w0.cell? ⟨w.heap.size, 3, none⟩ = some (jI jZ ri) := by rw [hw0]; simp
 have a4 : w0.cell? ⟨w.heap.size, 4, none⟩ = some (jI jZ ow) := by rw [hw0]; simp
 have s0 : w.heap.size < w0.heap.size := by rw [hw0]; simp
 rw [← hw0]
 clear hw0
 refine (spOk_any _ _ _ zs _ (HH.out.on B0.out) hn).mono ?_
 rintro e w1 ⟨rfl, b1⟩
 have d0 := (b1.cell (p := ⟨w.heap.size, 0, none⟩) s0).trans a0
 have d1 := (b1.cell (p := ⟨w.heap.size, 1, none⟩) s0).trans a1
 have d2 := (b1.cell (p := ⟨w.heap.size, 2, none⟩) s0).trans a2
 have d3 := (b1.cell (p := ⟨w.heap.size, 3, none⟩) s0).trans a3
 have d4 := (b1.cell (p := ⟨w.heap.size, 4, none⟩) s0).trans a4
 have B1 := Lib.hid (B0.out.trans (b1.mono B0.out.size))
 have R1 := Lib.hid (HH.out.on B1.out)
 clear b1 a0 a1 a2 a3 a4 s0 B0
 go_wp2_with (first | (go_at_call 44; refine (in_any _ _ _ _).mono ?_; rintro e w' ⟨rfl, rfl⟩) | (go_at_call 48; refine (num_is _ _).mono ?_; rintro e w' ⟨rfl, rfl⟩) | (go_at_call 90; refine (kids_any _ _ _ _ _ R1.out (by omega)).mono ?_; rintro e w' ⟨rfl, rfl⟩))
 go_ret
 exact ⟨rfl, B1.out⟩

set_option maxHeartbeats 400000 in
theorem nOk_hiL (lv hi ri ow : Int) (A : Option Addr) (n c : Nat) (zs : List Pr) (w : World) (h : RP w w.heap.size A n zs) (hn : n ≤ 1048576) (h1 : inB lv 0 6 = true) (h2 : n ≤ 4) (h3 : pOk zs = true) (h4 : lv ≤ 0) (h6 : inB ow 0 6 = true) (h7 : hi ≠ -1) (h8 : inB hi 1 100 = false) :
   Calls Try.prog 83 #[.agg #[jI jZ lv, jS A n c, jI jZ hi, jI jZ ri, jI jZ ow]] w fun e w' => e = .returned (.bool false) ∧ Below w.heap.size w w' := by
 have HL := Lib.hid h.1
 have HH := Lib.hid h
 clear h
 have h7b : (hi == -1) = false := by simpa using h7
 clear h7
 go_enter Try.func83, Try.ntmps83
 go_wp2_with (first | (go_at_call 44; refine (in_any _ _ _ _).mono ?_; rintro e w' ⟨rfl, rfl⟩) | (go_at_call 48; refine (num_is _ _).mono ?_; rintro e w' ⟨rfl, rfl⟩))
 obtain ⟨w0, hw0⟩ : ∃ w0, w0 = w.alloc (.cells #[jI jZ lv, jS A n c, jI jZ hi, jI jZ ri, jI jZ ow] 101) := ⟨_, rfl⟩
 have B0 : Hid (Below w.heap.size w w0) := Lib.hid (by rw [hw0]; exact (Below.refl _ _).alloc (Nat.le_refl _) _)
 have a0 : w0.cell? ⟨w.heap.size, 0, none⟩ = some (jI jZ lv) := by rw [hw0]; simp
 have a1 : w0.cell? ⟨w.heap.size, 1, none⟩ = some (.slice A n c) := by rw [hw0]; simp
 have a2 : w0.cell? ⟨w.heap.size, 2, none⟩ = some (jI jZ hi) := by rw [hw0]; simp
 have a3 : w0.cell? ⟨w.heap.size, 3, none⟩ = some (jI jZ ri) := by rw [hw0]; simp
 have a4 : w0.cell? ⟨w.heap.size, 4, none⟩ = some (jI jZ ow) := by rw [hw0]; simp
 have s0 : w.heap.size < w0.heap.size := by rw [hw0]; simp
 rw [← hw0]
 clear hw0
 refine (spOk_any _ _ _ zs _ (HH.out.on B0.out) hn).mono ?_
 rintro e w1 ⟨rfl, b1⟩
 have d0 := (b1.cell (p := ⟨w.heap.size, 0, none⟩) s0).trans a0
 have d1 := (b1.cell (p := ⟨w.heap.size, 1, none⟩) s0).trans a1
 have d2 := (b1.cell (p := ⟨w.heap.size, 2, none⟩) s0).trans a2
 have d3 := (b1.cell (p := ⟨w.heap.size, 3, none⟩) s0).trans a3
 have d4 := (b1.cell (p := ⟨w.heap.size, 4, none⟩) s0).trans a4
 have B1 := Lib.hid (B0.out.trans (b1.mono B0.out.size))
 have R1 := Lib.hid (HH.out.on B1.out)
 clear b1 a0 a1 a2 a3 a4 s0 B0
 go_wp2_with (first | (go_at_call 44; refine (in_any _ _ _ _).mono ?_; rintro e w' ⟨rfl, rfl⟩) | (go_at_call 48; refine (num_is _ _).mono ?_; rintro e w' ⟨rfl, rfl⟩) | (go_at_call 90; refine (kids_any _ _ _ _ _ R1.out (by omega)).mono ?_; rintro e w' ⟨rfl, rfl⟩))
 go_ret
 exact ⟨rfl, B1.out⟩

set_option maxHeartbeats 400000 in
theorem nOk_riL (lv hi ri ow : Int) (A : Option Addr) (n c : Nat) (zs : List Pr) (w : World) (h : RP w w.heap.size A n zs) (hn : n ≤ 1048576) (h1 : inB lv 0 6 = true) (h2 : n ≤ 4) (h3 : pOk zs = true) (h4 : lv ≤ 0) (h6 : inB ow 0 6 = true) (h7 : hi ≠ -1) (h8 : inB hi 1 100 = true) (h9 : numB ri = false) :
   Calls Try.prog 83 #[.agg #[jI jZ lv, jS A n c, jI jZ hi, jI jZ ri, jI jZ ow]] w fun e w' => e = .returned (.bool false) ∧ Below w.heap.size w w' := by
 have HL := Lib.hid h.1
 have HH := Lib.hid h
 clear h
 have h7b : (hi == -1) = false := by simpa using h7
 clear h7
 go_enter Try.func83, Try.ntmps83
 go_wp2_with (first | (go_at_call 44; refine (in_any _ _ _ _).mono ?_; rintro e w' ⟨rfl, rfl⟩) | (go_at_call 48; refine (num_is _ _).mono ?_; rintro e w' ⟨rfl, rfl⟩))
 obtain ⟨w0, hw0⟩ : ∃ w0, w0 = w.alloc (.cells #[jI jZ lv, jS A n c, jI jZ hi, jI jZ ri, jI jZ ow] 101) := ⟨_, rfl⟩
 have B0 : Hid (Below w.heap.size w w0) := Lib.hid (by rw [hw0]; exact (Below.refl _ _).alloc (Nat.le_refl _) _)
 have a0 : w0.cell? ⟨w.heap.size, 0, none⟩ = some (jI jZ lv) := by rw [hw0]; simp
 have a1 : w0.cell? ⟨w.heap.size, 1, none⟩ = some (.slice A n c) := by rw [hw0]; simp
 have a2 : w0.cell? ⟨w.heap.size, 2, none⟩ = some (jI jZ hi) := by rw [hw0]; simp
 have a3 : w0.cell? ⟨w.heap.size, 3, none⟩ = some (jI jZ ri) := by rw [hw0]; simp
 have a4 : w0.cell? ⟨w.heap.size, 4, none⟩ = some (jI jZ ow) := by rw [hw0]; simp
 have s0 : w.heap.size < w0.heap.size := by rw [hw0]; simp
 rw [← hw0]
 clear hw0
 refine (spOk_any _ _ _ zs _ (HH.out.on B0.out) hn).mono ?_
 rintro e w1 ⟨rfl, b1⟩
 have d0 := (b1.cell (p := ⟨w.heap.size, 0, none⟩) s0).trans a0
 have d1 := (b1.cell (p := ⟨w.heap.size, 1, none⟩) s0).trans a1
 have d2 := (b1.cell (p := ⟨w.heap.size, 2, none⟩) s0).trans a2
 have d3 := (b1.cell (p := ⟨w.heap.size, 3, none⟩) s0).trans a3
 have d4 := (b1.cell (p := ⟨w.heap.size, 4, none⟩) s0).trans a4
 have B1 := Lib.hid (B0.out.trans (b1.mono B0.out.size))
 have R1 := Lib.hid (HH.out.on B1.out)
 clear b1 a0 a1 a2 a3 a4 s0 B0
 go_wp2_with (first | (go_at_call 44; refine (in_any _ _ _ _).mono ?_; rintro e w' ⟨rfl, rfl⟩) | (go_at_call 48; refine (num_is _ _).mono ?_; rintro e w' ⟨rfl, rfl⟩) | (go_at_call 90; refine (kids_any _ _ _ _ _ R1.out (by omega)).mono ?_; rintro e w' ⟨rfl, rfl⟩))
 go_ret
 exact ⟨rfl, B1.out⟩

set_option maxHeartbeats 400000 in
theorem nOk_noneL (lv hi ri ow : Int) (A : Option Addr) (n c : Nat) (zs : List Pr) (w : World) (h : RP w w.heap.size A n zs) (hn : n ≤ 1048576) (h1 : inB lv 0 6 = true) (h2 : n ≤ 4) (h3 : pOk zs = true) (h4 : lv ≤ 0) (h6 : inB ow 0 6 = true) (h7 : hi ≠ -1) (h8 : inB hi 1 100 = true) (h9 : numB ri = true) (h10 : n = 0) :
   Calls Try.prog 83 #[.agg #[jI jZ lv, jS A n c, jI jZ hi, jI jZ ri, jI jZ ow]] w fun e w' => e = .returned (.bool true) ∧ Below w.heap.size w w' := by
 have HL := Lib.hid h.1
 have HH := Lib.hid h
 clear h
 have h7b : (hi == -1) = false := by simpa using h7
 clear h7
 have h10b : ((n : Int) == 0) = true := by simp [h10]
 have H10 := Lib.hid h10
 clear h10
 go_enter Try.func83, Try.ntmps83
 go_wp2_with (first | (go_at_call 44; refine (in_any _ _ _ _).mono ?_; rintro e w' ⟨rfl, rfl⟩) | (go_at_call 48; refine (num_is _ _).mono ?_; rintro e w' ⟨rfl, rfl⟩))
 obtain ⟨w0, hw0⟩ : ∃ w0, w0 = w.alloc (.cells #[jI jZ lv, jS A n c, jI jZ hi, jI jZ ri, jI jZ ow] 101) := ⟨_, rfl⟩
 have B0 : Hid (Below w.heap.size w w0) := Lib.hid (by rw [hw0]; exact (Below.refl _ _).alloc (Nat.le_refl _) _)
 have a0 : w0.cell? ⟨w.heap.size, 0, none⟩ = some (jI jZ lv) := by rw [hw0]; simp
 have a1 : w0.cell? ⟨w.heap.size, 1, none⟩ = some (.slice A n c) := by rw [hw0]; simp
 have a2 : w0.cell? ⟨w.heap.size, 2, none⟩ = some (jI jZ hi) := by rw [hw0]; simp
 have a3 : w0.cell? ⟨w.heap.size, 3, none⟩ = some (jI jZ ri) := by rw [hw0]; simp
 have a4 : w0.cell? ⟨w.heap.size, 4, none⟩ = some (jI jZ ow) := by rw [hw0]; simp
 have s0 : w.heap.size < w0.heap.size := by rw [hw0]; simp
 rw [← hw0]
 clear hw0
 refine (spOk_any _ _ _ zs _ (HH.out.on B0.out) hn).mono ?_
 rintro e w1 ⟨rfl, b1⟩
 have d0 := (b1.cell (p := ⟨w.heap.size, 0, none⟩) s0).trans a0
 have d1 := (b1.cell (p := ⟨w.heap.size, 1, none⟩) s0).trans a1
 have d2 := (b1.cell (p := ⟨w.heap.size, 2, none⟩) s0).trans a2
 have d3 := (b1.cell (p := ⟨w.heap.size, 3, none⟩) s0).trans a3
 have d4 := (b1.cell (p := ⟨w.heap.size, 4, none⟩) s0).trans a4
 have B1 := Lib.hid (B0.out.trans (b1.mono B0.out.size))
 have R1 := Lib.hid (HH.out.on B1.out)
 clear b1 a0 a1 a2 a3 a4 s0 B0
 go_wp2_with (first | (go_at_call 44; refine (in_any _ _ _ _).mono ?_; rintro e w' ⟨rfl, rfl⟩) | (go_at_call 48; refine (num_is _ _).mono ?_; rintro e w' ⟨rfl, rfl⟩) | (go_at_call 90; refine (kids_any _ _ _ _ _ R1.out (by omega)).mono ?_; rintro e w' ⟨rfl, rfl⟩))
 go_quiet (fail)
 go_wp2
 go_ret
 exact ⟨rfl, below_drewN B1.out _⟩

set_option maxHeartbeats 400000 in
theorem nOk_lastL (lv hi ri ow : Int) (A : Option Addr) (n c : Nat) (zs : List Pr) (w : World) (h : RP w w.heap.size A n zs) (hn : n ≤ 1048576) (h1 : inB lv 0 6 = true) (h2 : n ≤ 4) (h3 : pOk zs = true) (h4 : lv ≤ 0) (h6 : inB ow 0 6 = true) (h7 : hi ≠ -1) (h8 : inB hi 1 100 = true) (h9 : numB ri = true) (h10 : 0 < n) :
   Calls Try.prog 83 #[.agg #[jI jZ lv, jS A n c, jI jZ hi, jI jZ ri, jI jZ ow]] w fun e w' => e = .returned (.bool (decide (kAt zs (n - 1) < hi))) ∧ Below w.heap.size w w' := by
 have HL := Lib.hid h.1
 have HH := Lib.hid h
 clear h
 have h7b : (hi == -1) = false := by simpa using h7
 clear h7
 have h10b : ((n : Int) == 0) = false := by simp; omega
 go_enter Try.func83, Try.ntmps83
 go_wp2_with (first | (go_at_call 44; refine (in_any _ _ _ _).mono ?_; rintro e w' ⟨rfl, rfl⟩) | (go_at_call 48; refine (num_is _ _).mono ?_; rintro e w' ⟨rfl, rfl⟩))
 obtain ⟨w0, hw0⟩ : ∃ w0, w0 = w.alloc (.cells #[jI jZ lv, jS A n c, jI jZ hi, jI jZ ri, jI jZ ow] 101) := ⟨_, rfl⟩
 have B0 : Hid (Below w.heap.size w w0) := Lib.hid (by rw [hw0]; exact (Below.refl _ _).alloc (Nat.le_refl _) _)
 have a0 : w0.cell? ⟨w.heap.size, 0, none⟩ = some (jI jZ lv) := by rw [hw0]; simp
 have a1 : w0.cell? ⟨w.heap.size, 1, none⟩ = some (.slice A n c) := by rw [hw0]; simp
 have a2 : w0.cell? ⟨w.heap.size, 2, none⟩ = some (jI jZ hi) := by rw [hw0]; simp
 have a3 : w0.cell? ⟨w.heap.size, 3, none⟩ = some (jI jZ ri) := by rw [hw0]; simp
 have a4 : w0.cell? ⟨w.heap.size, 4, none⟩ = some (jI jZ ow) := by rw [hw0]; simp
 have s0 : w.heap.size < w0.heap.size := by rw [hw0]; simp
 rw [← hw0]
 clear hw0
 refine (spOk_any _ _ _ zs _ (HH.out.on B0.out) hn).mono ?_
 rintro e w1 ⟨rfl, b1⟩
 have d0 := (b1.cell (p := ⟨w.heap.size, 0, none⟩) s0).trans a0
 have d1 := (b1.cell (p := ⟨w.heap.size, 1, none⟩) s0).trans a1
 have d2 := (b1.cell (p := ⟨w.heap.size, 2, none⟩) s0).trans a2
 have d3 := (b1.cell (p := ⟨w.heap.size, 3, none⟩) s0).trans a3
 have d4 := (b1.cell (p := ⟨w.heap.size, 4, none⟩) s0).trans a4
 have B1 := Lib.hid (B0.out.trans (b1.mono B0.out.size))
 have R1 := Lib.hid (HH.out.on B1.out)
 clear b1 a0 a1 a2 a3 a4 s0 B0
 obtain ⟨b, off, rfl, hb, hcc⟩ := HH.out.2 (by omega)
 have c1 := (B1.out.cell (p := ⟨b, off + (n - 1) * 2, none⟩) hb).trans (hcc (n - 1) (by omega)).1
 clear hcc
 go_wp2_with (first | (go_at_call 44; refine (in_any _ _ _ _).mono ?_; rintro e w' ⟨rfl, rfl⟩) | (go_at_call 48; refine (num_is _ _).mono ?_; rintro e w' ⟨rfl, rfl⟩) | (go_at_call 90; refine (kids_any _ _ _ _ _ R1.out (by omega)).mono ?_; rintro e w' ⟨rfl, rfl⟩))
 go_quiet (fail)
 go_wp2
 go_ret
 exact ⟨rfl, below_drewN B1.out _⟩

end Go.Proofs.Ytjookicpmjmdhaa

/- Two hands that are like. (Made by genLq.py.) -/
import Derived.Test.YtjookicpmjmdhaaQ50
import Derived.Test.YtjookicpmjmdhaaQ12
import Derived.Test.YtjookicpmjmdhaaQ06
import Derived.Test.YtjookicpmjmdhaaQ04
import Derived.Shelf.Abstract
open Go.Value renaming int → jI, slice → jS
open Go.IntKind renaming i64 → jZ
namespace Go.Proofs.Ytjookicpmjmdhaa
open Go.RowKit

set_option maxRecDepth 100000 in
set_option maxHeartbeats 4000000 in
theorem likeH_yes (h : Hd) (A B : Option Addr) (n c d : Nat) (w : World) (hR : RS w w.heap.size A n h.st) (hR' : RS w w.heap.size B n h.st) (hn : n ≤ 1048576) :
   Calls Try.prog 23 #[hdV h A n c, hdV h B n d] w fun e w' => e = .returned (.bool true) ∧ Below w.heap.size w w' := by
 have ei := fun w hR hR' => likeI_yes A B n c d h.st w hR hR' hn
 obtain ⟨w1, hw1⟩ : ∃ w1, w1 = w.alloc (.cells #[jI jZ h.pos, jI jZ h.cc, jI jZ h.ck, jI jZ h.cv, jI jZ h.cur, jI jZ h.want, jI jZ h.key, jI jZ h.kid, jI jZ h.old, jI jZ h.next, jI jZ h.new, jS A n c, jI jZ h.thn, jI jZ h.beg, jI jZ h.rep, jI jZ h.out] 31) := ⟨_, rfl⟩
 obtain ⟨w2, hw2⟩ : ∃ w2, w2 = w1.alloc (.cells #[jI jZ h.pos, jI jZ h.cc, jI jZ h.ck, jI jZ h.cv, jI jZ h.cur, jI jZ h.want, jI jZ h.key, jI jZ h.kid, jI jZ h.old, jI jZ h.next, jI jZ h.new, jS B n d, jI jZ h.thn, jI jZ h.beg, jI jZ h.rep, jI jZ h.out] 31) := ⟨_, rfl⟩
 have b1 : Below w.heap.size w w1 := by rw [hw1]; exact (Below.refl _ _).alloc (Nat.le_refl _) _
 have s1 : w1.heap.size = w.heap.size + 1 := by rw [hw1]; simp
 have b2 : Below w.heap.size w w2 := by rw [hw2]; exact b1.alloc (by omega) _
 have x0 : w2.heap[w.heap.size]? = some (.cells #[jI jZ h.pos, jI jZ h.cc, jI jZ h.ck, jI jZ h.cv, jI jZ h.cur, jI jZ h.want, jI jZ h.key, jI jZ h.kid, jI jZ h.old, jI jZ h.next, jI jZ h.new, jS A n c, jI jZ h.thn, jI jZ h.beg, jI jZ h.rep, jI jZ h.out] 31 (0, 0)) := by
   rw [hw2]
   exact (Below.heap_alloc _ _ _ (by omega)).trans (by rw [hw1]; exact heap_alloc_new _ _)
 have x1 : w2.heap[w.heap.size + 1]? = some (.cells #[jI jZ h.pos, jI jZ h.cc, jI jZ h.ck, jI jZ h.cv, jI jZ h.cur, jI jZ h.want, jI jZ h.key, jI jZ h.kid, jI jZ h.old, jI jZ h.next, jI jZ h.new, jS B n d, jI jZ h.thn, jI jZ h.beg, jI jZ h.rep, jI jZ h.out] 31 (0, 0)) := by rw [hw2, ← s1]; exact heap_alloc_new _ _
 have HR := Lib.hid (hR.on b2)
 have HR' := Lib.hid (hR'.on b2)
 have X0 := Lib.hid x0
 have X1 := Lib.hid x1
 have B2 := Lib.hid b2
 have EI := Lib.hid ei
 have HW2 := Lib.hid hw2
 have HW1 := Lib.hid hw1
 have p0 : w2.cell? ⟨w.heap.size, 0, none⟩ = some (jI jZ h.pos) := by rw [cell_of_row _ _ 0 _ _ _ X0.out]; rfl
 have p1 : w2.cell? ⟨w.heap.size, 1, none⟩ = some (jI jZ h.cc) := by rw [cell_of_row _ _ 1 _ _ _ X0.out]; rfl
 have p2 : w2.cell? ⟨w.heap.size, 2, none⟩ = some (jI jZ h.ck) := by rw [cell_of_row _ _ 2 _ _ _ X0.out]; rfl
 have p3 : w2.cell? ⟨w.heap.size, 3, none⟩ = some (jI jZ h.cv) := by rw [cell_of_row _ _ 3 _ _ _ X0.out]; rfl
 have p4 : w2.cell? ⟨w.heap.size, 4, none⟩ = some (jI jZ h.cur) := by rw [cell_of_row _ _ 4 _ _ _ X0.out]; rfl
 have p5 : w2.cell? ⟨w.heap.size, 5, none⟩ = some (jI jZ h.want) := by rw [cell_of_row _ _ 5 _ _ _ X0.out]; rfl
 have p6 : w2.cell? ⟨w.heap.size, 6, none⟩ = some (jI jZ h.key) := by rw [cell_of_row _ _ 6 _ _ _ X0.out]; rfl
 have p7 : w2.cell? ⟨w.heap.size, 7, none⟩ = some (jI jZ h.kid) := by rw [cell_of_row _ _ 7 _ _ _ X0.out]; rfl
 have p8 : w2.cell? ⟨w.heap.size, 8, none⟩ = some (jI jZ h.old) := by rw [cell_of_row _ _ 8 _ _ _ X0.out]; rfl
 have p9 : w2.cell? ⟨w.heap.size, 9, none⟩ = some (jI jZ h.next) := by rw [cell_of_row _ _ 9 _ _ _ X0.out]; rfl
 have p10 : w2.cell? ⟨w.heap.size, 10, none⟩ = some (jI jZ h.new) := by rw [cell_of_row _ _ 10 _ _ _ X0.out]; rfl
 have p11 : w2.cell? ⟨w.heap.size, 11, none⟩ = some (.slice A n c) := by rw [cell_of_row _ _ 11 _ _ _ X0.out]; rfl
 have p12 : w2.cell? ⟨w.heap.size, 12, none⟩ = some (jI jZ h.thn) := by rw [cell_of_row _ _ 12 _ _ _ X0.out]; rfl
 have p13 : w2.cell? ⟨w.heap.size, 13, none⟩ = some (jI jZ h.beg) := by rw [cell_of_row _ _ 13 _ _ _ X0.out]; rfl
 have p14 : w2.cell? ⟨w.heap.size, 14, none⟩ = some (jI jZ h.rep) := by rw [cell_of_row _ _ 14 _ _ _ X0.out]; rfl
 have p15 : w2.cell? ⟨w.heap.size, 15, none⟩ = some (jI jZ h.out) := by rw [cell_of_row _ _ 15 _ _ _ X0.out]; rfl
 have q0 : w2.cell? ⟨w.heap.size + 1, 0, none⟩ = some (jI jZ h.pos) := by rw [cell_of_row _ _ 0 _ _ _ X1.out]; rfl
 have q1 : w2.cell? ⟨w.heap.size + 1, 1, none⟩ = some (jI jZ h.cc) := by rw [cell_of_row _ _ 1 _ _ _ X1.out]; rfl
 have q2 : w2.cell? ⟨w.heap.size + 1, 2, none⟩ = some (jI jZ h.ck) := by rw [cell_of_row _ _ 2 _ _ _ X1.out]; rfl
 have q3 : w2.cell? ⟨w.heap.size + 1, 3, none⟩ = some (jI jZ h.cv) := by rw [cell_of_row _ _ 3 _ _ _ X1.out]; rfl
 have q4 : w2.cell? ⟨w.heap.size + 1, 4, none⟩ = some (jI jZ h.cur) := by rw [cell_of_row _ _ 4 _ _ _ X1.out]; rfl
 have q5 : w2.cell? ⟨w.heap.size + 1, 5, none⟩ = some (jI jZ h.want) := by rw [cell_of_row _ _ 5 _ _ _ X1.out]; rfl
 have q6 : w2.cell? ⟨w.heap.size + 1, 6, none⟩ = some (jI jZ h.key) := by rw [cell_of_row _ _ 6 _ _ _ X1.out]; rfl
 have q7 : w2.cell? ⟨w.heap.size + 1, 7, none⟩ = some (jI jZ h.kid) := by rw [cell_of_row _ _ 7 _ _ _ X1.out]; rfl
 have q8 : w2.cell? ⟨w.heap.size + 1, 8, none⟩ = some (jI jZ h.old) := by rw [cell_of_row _ _ 8 _ _ _ X1.out]; rfl
 have q9 : w2.cell? ⟨w.heap.size + 1, 9, none⟩ = some (jI jZ h.next) := by rw [cell_of_row _ _ 9 _ _ _ X1.out]; rfl
 have q10 : w2.cell? ⟨w.heap.size + 1, 10, none⟩ = some (jI jZ h.new) := by rw [cell_of_row _ _ 10 _ _ _ X1.out]; rfl
 have q11 : w2.cell? ⟨w.heap.size + 1, 11, none⟩ = some (.slice B n d) := by rw [cell_of_row _ _ 11 _ _ _ X1.out]; rfl
 have q12 : w2.cell? ⟨w.heap.size + 1, 12, none⟩ = some (jI jZ h.thn) := by rw [cell_of_row _ _ 12 _ _ _ X1.out]; rfl
 have q13 : w2.cell? ⟨w.heap.size + 1, 13, none⟩ = some (jI jZ h.beg) := by rw [cell_of_row _ _ 13 _ _ _ X1.out]; rfl
 have q14 : w2.cell? ⟨w.heap.size + 1, 14, none⟩ = some (jI jZ h.rep) := by rw [cell_of_row _ _ 14 _ _ _ X1.out]; rfl
 have q15 : w2.cell? ⟨w.heap.size + 1, 15, none⟩ = some (jI jZ h.out) := by rw [cell_of_row _ _ 15 _ _ _ X1.out]; rfl
 rw [hw2, hw1] at p0 q0 p1 q1 p2 q2 p3 q3 p4 q4 p5 q5 p6 q6 p7 q7 p8 q8 p9 q9 p10 q10 p11 q11 p12 q12 p13 q13 p14 q14 p15 q15
 clear hR hR' b2 x0 x1 hw1 hw2 ei b1 s1
 unfold hdV
 go_enter Try.func23, Try.ntmps23
 go_wp2_with fail
 rw [← HW1.out, ← HW2.out]
 refine (EI.out _ HR.out HR'.out).mono ?_
 rintro e w3 ⟨rfl, b3⟩
 clear p0 q0 p1 q1 p2 q2 p3 q3 p4 q4 p5 q5 p6 q6 p7 q7 p8 q8 p9 q9 p10 q10 p11 q11 p12 q12 p13 q13 p14 q14 p15 q15
 replace X0 := Lib.hid (box_on b3 X0.out)
 replace X1 := Lib.hid (box_on b3 X1.out)
 replace B2 := Lib.hid (B2.out.trans (b3.mono B2.out.size))
 clear b3
 have p0 : w3.cell? ⟨w.heap.size, 0, none⟩ = some (jI jZ h.pos) := by rw [cell_of_row _ _ 0 _ _ _ X0.out]; rfl
 have p1 : w3.cell? ⟨w.heap.size, 1, none⟩ = some (jI jZ h.cc) := by rw [cell_of_row _ _ 1 _ _ _ X0.out]; rfl
 have p2 : w3.cell? ⟨w.heap.size, 2, none⟩ = some (jI jZ h.ck) := by rw [cell_of_row _ _ 2 _ _ _ X0.out]; rfl
 have p3 : w3.cell? ⟨w.heap.size, 3, none⟩ = some (jI jZ h.cv) := by rw [cell_of_row _ _ 3 _ _ _ X0.out]; rfl
 have p4 : w3.cell? ⟨w.heap.size, 4, none⟩ = some (jI jZ h.cur) := by rw [cell_of_row _ _ 4 _ _ _ X0.out]; rfl
 have p5 : w3.cell? ⟨w.heap.size, 5, none⟩ = some (jI jZ h.want) := by rw [cell_of_row _ _ 5 _ _ _ X0.out]; rfl
 have p6 : w3.cell? ⟨w.heap.size, 6, none⟩ = some (jI jZ h.key) := by rw [cell_of_row _ _ 6 _ _ _ X0.out]; rfl
 have p7 : w3.cell? ⟨w.heap.size, 7, none⟩ = some (jI jZ h.kid) := by rw [cell_of_row _ _ 7 _ _ _ X0.out]; rfl
 have p8 : w3.cell? ⟨w.heap.size, 8, none⟩ = some (jI jZ h.old) := by rw [cell_of_row _ _ 8 _ _ _ X0.out]; rfl
 have p9 : w3.cell? ⟨w.heap.size, 9, none⟩ = some (jI jZ h.next) := by rw [cell_of_row _ _ 9 _ _ _ X0.out]; rfl
 have p10 : w3.cell? ⟨w.heap.size, 10, none⟩ = some (jI jZ h.new) := by rw [cell_of_row _ _ 10 _ _ _ X0.out]; rfl
 have p11 : w3.cell? ⟨w.heap.size, 11, none⟩ = some (.slice A n c) := by rw [cell_of_row _ _ 11 _ _ _ X0.out]; rfl
 have p12 : w3.cell? ⟨w.heap.size, 12, none⟩ = some (jI jZ h.thn) := by rw [cell_of_row _ _ 12 _ _ _ X0.out]; rfl
 have p13 : w3.cell? ⟨w.heap.size, 13, none⟩ = some (jI jZ h.beg) := by rw [cell_of_row _ _ 13 _ _ _ X0.out]; rfl
 have p14 : w3.cell? ⟨w.heap.size, 14, none⟩ = some (jI jZ h.rep) := by rw [cell_of_row _ _ 14 _ _ _ X0.out]; rfl
 have p15 : w3.cell? ⟨w.heap.size, 15, none⟩ = some (jI jZ h.out) := by rw [cell_of_row _ _ 15 _ _ _ X0.out]; rfl
 have q0 : w3.cell? ⟨w.heap.size + 1, 0, none⟩ = some (jI jZ h.pos) := by rw [cell_of_row _ _ 0 _ _ _ X1.out]; rfl
 have q1 : w3.cell? ⟨w.heap.size + 1, 1, none⟩ = some (jI jZ h.cc) := by rw [cell_of_row _ _ 1 _ _ _ X1.out]; rfl
 have q2 : w3.cell? ⟨w.heap.size + 1, 2, none⟩ = some (jI jZ h.ck) := by rw [cell_of_row _ _ 2 _ _ _ X1.out]; rfl
 have q3 : w3.cell? ⟨w.heap.size + 1, 3, none⟩ = some (jI jZ h.cv) := by rw [cell_of_row _ _ 3 _ _ _ X1.out]; rfl
 have q4 : w3.cell? ⟨w.heap.size + 1, 4, none⟩ = some (jI jZ h.cur) := by rw [cell_of_row _ _ 4 _ _ _ X1.out]; rfl
 have q5 : w3.cell? ⟨w.heap.size + 1, 5, none⟩ = some (jI jZ h.want) := by rw [cell_of_row _ _ 5 _ _ _ X1.out]; rfl
 have q6 : w3.cell? ⟨w.heap.size + 1, 6, none⟩ = some (jI jZ h.key) := by rw [cell_of_row _ _ 6 _ _ _ X1.out]; rfl
 have q7 : w3.cell? ⟨w.heap.size + 1, 7, none⟩ = some (jI jZ h.kid) := by rw [cell_of_row _ _ 7 _ _ _ X1.out]; rfl
 have q8 : w3.cell? ⟨w.heap.size + 1, 8, none⟩ = some (jI jZ h.old) := by rw [cell_of_row _ _ 8 _ _ _ X1.out]; rfl
 have q9 : w3.cell? ⟨w.heap.size + 1, 9, none⟩ = some (jI jZ h.next) := by rw [cell_of_row _ _ 9 _ _ _ X1.out]; rfl
 have q10 : w3.cell? ⟨w.heap.size + 1, 10, none⟩ = some (jI jZ h.new) := by rw [cell_of_row _ _ 10 _ _ _ X1.out]; rfl
 have q11 : w3.cell? ⟨w.heap.size + 1, 11, none⟩ = some (.slice B n d) := by rw [cell_of_row _ _ 11 _ _ _ X1.out]; rfl
 have q12 : w3.cell? ⟨w.heap.size + 1, 12, none⟩ = some (jI jZ h.thn) := by rw [cell_of_row _ _ 12 _ _ _ X1.out]; rfl
 have q13 : w3.cell? ⟨w.heap.size + 1, 13, none⟩ = some (jI jZ h.beg) := by rw [cell_of_row _ _ 13 _ _ _ X1.out]; rfl
 have q14 : w3.cell? ⟨w.heap.size + 1, 14, none⟩ = some (jI jZ h.rep) := by rw [cell_of_row _ _ 14 _ _ _ X1.out]; rfl
 have q15 : w3.cell? ⟨w.heap.size + 1, 15, none⟩ = some (jI jZ h.out) := by rw [cell_of_row _ _ 15 _ _ _ X1.out]; rfl
 go_wp2
 go_ret
 exact ⟨rfl, B2.out⟩
end Go.Proofs.Ytjookicpmjmdhaa
namespace Go.Proofs.Ytjookicpmjmdhaa
open Go.RowKit

theorem inum_is (x : Int) (w : World) :
   Calls Try.prog 72 #[jI jZ x] w fun e w' => e = .returned (.bool (numB x)) ∧ w = w' := by
 by_cases h1 : 0 ≤ x
 · have g1 : decide (0 ≤ x) = true := by simpa using h1
   go_enter Try.func72, Try.ntmps72
   go_wp2
   go_ret
   exact ⟨ret_bool (by unfold numB inB; rw [Bool.eq_iff_iff]; simp; omega), rfl⟩
 · have g1 : decide (0 ≤ x) = false := by simpa using h1
   go_enter Try.func72, Try.ntmps72
   go_wp2
   go_ret
   exact ⟨ret_bool (by unfold numB inB; symm; simp; omega), rfl⟩

end Go.Proofs.Ytjookicpmjmdhaa
namespace Go.Proofs.Ytjookicpmjmdhaa
open Go.RowKit

theorem iUpTo_any (x l : Int) (w : World) :
   Calls Try.prog 61 #[jI jZ x, jI jZ l] w fun e w' => e = .returned (.bool (inB x 0 l)) ∧ w = w' := by
 by_cases h1 : 0 ≤ x
 · have h1' : decide (0 ≤ x) = true := by simpa using h1
   go_enter Try.func61, Try.ntmps61
   go_wp2
   go_ret
   exact ⟨ret_bool (by simp [inB, h1]), rfl⟩
 · have h1' : decide (0 ≤ x) = false := by simpa using h1
   go_enter Try.func61, Try.ntmps61
   go_wp2
   go_ret
   exact ⟨ret_bool (by simp [inB]; omega), rfl⟩

theorem callRight_any (c k v : Int) (w : World) :
   Calls Try.prog 41 #[.agg #[jI jZ c, jI jZ k, jI jZ v]] w fun e w' => e = .returned (.bool (callOk c k v)) ∧ Below w.heap.size w w' := by
 have B0 : Hid (Below w.heap.size w (w.alloc (.cells #[jI jZ c, jI jZ k, jI jZ v] 25))) := Lib.hid ((Below.refl _ _).alloc (Nat.le_refl _) _)
 by_cases h1 : c = 1 ∨ c = 3
 · have e0 : callOk c k v = (inB k 0 99 && decide (v = 0)) := by
     unfold callOk
     rcases h1 with rfl | rfl <;> rfl
   rw [e0]
   have K := Lib.hid (fun w => keyNumber_any k w)
   have g3 : (v == 0) = decide (v = 0) := by rw [Bool.eq_iff_iff]; simp
   generalize decide (v = 0) = q3 at *
   generalize inB k 0 99 = q1 at *
   clear e0
   rcases h1 with rfl | rfl
   all_goals
     go_enter Try.func41, Try.ntmps41
     go_wp2_with fail
     refine (K.out _).mono ?_
     rintro e w1 ⟨rfl, rfl⟩
     cases q1
     · go_wp2
       go_ret
       exact ⟨rfl, B0.out⟩
     · go_wp2
       go_ret
       exact ⟨ret_bool (by simp), B0.out⟩
 have g1 : (c == 1) = false := by simp; omega
 have g3 : (c == 3) = false := by simp; omega
 by_cases h2 : c = 2
 · have e0 : callOk c k v = rightB k v := by
     subst h2
     unfold callOk inB rightB
     rw [Bool.eq_iff_iff]
     simp
     omega
   rw [e0]
   have R := Lib.hid (fun w => right_any k v w)
   generalize rightB k v = q at *
   clear h1 e0
   have g2 : (c == 2) = true := by simpa using h2
   clear h2
   go_enter Try.func41, Try.ntmps41
   go_wp2_with fail
   refine (R.out _).mono ?_
   rintro e w1 ⟨rfl, b1⟩
   have B1 := Lib.hid (B0.out.trans (b1.mono B0.out.size))
   clear b1
   go_wp2
   go_ret
   exact ⟨rfl, B1.out⟩
 · have e0 : callOk c k v = false := by
     unfold callOk inB
     simp
     omega
   rw [e0]
   have g2 : (c == 2) = false := by simpa using h2
   clear h1 h2 e0
   go_enter Try.func41, Try.ntmps41
   go_wp2
   go_ret
   exact ⟨rfl, B0.out⟩

theorem noCall_any (c k v : Int) (w : World) :
   Calls Try.prog 62 #[.agg #[jI jZ c, jI jZ k, jI jZ v]] w fun e w' => e = .returned (.bool (decide (c = 0) && (decide (k = 0) && decide (v = 0)))) ∧ Below w.heap.size w w' := by
 go_enter Try.func62, Try.ntmps62
 go_wp2
 all_goals
   go_ret
   exact ⟨ret_bool (by simp [*]), (Below.refl _ _).alloc (Nat.le_refl _) _⟩

theorem canReply_any (c k v rep : Int) (w : World) :
   Calls Try.prog 43 #[.agg #[jI jZ c, jI jZ k, jI jZ v], jI jZ rep] w fun e w' => e = .returned (.bool (replyOk c k v rep)) ∧ Below w.heap.size w w' := by
 obtain ⟨w0, hw0⟩ : ∃ w0, w0 = w.alloc (.cells #[jI jZ c, jI jZ k, jI jZ v] 25) := ⟨_, rfl⟩
 have b0 : Below w.heap.size w w0 := by rw [hw0]; exact (Below.refl _ _).alloc (Nat.le_refl _) _
 have x0 : w0.heap[w.heap.size]? = some (.cells #[jI jZ c, jI jZ k, jI jZ v] 25 (0, 0)) := by rw [hw0]; exact heap_alloc_new _ _
 have D0 : Hid (∀ wx, Below w0.heap.size w0 wx → wx.cell? ⟨w.heap.size, 0, none⟩ = some (jI jZ c)) := Lib.hid (fun wx hb => by rw [cell_of_row _ _ 0 _ _ _ (box_on hb x0)]; rfl)
 have B0 := Lib.hid b0
 have HW := Lib.hid hw0
 have C := Lib.hid (fun w => callRight_any c k v w)
 clear hw0 b0 x0
 by_cases h1 : rep = 1 ∨ rep = 2
 · have e0 : replyOk c k v rep = callOk c k v := by
     unfold replyOk
     rcases h1 with rfl | rfl <;> simp [inB]
   rw [e0]
   generalize callOk c k v = q1 at *
   clear e0 D0
   rcases h1 with rfl | rfl
   all_goals
     go_enter Try.func43, Try.ntmps43
     go_wp2_with fail
     rw [← HW.out]
     refine (C.out _).mono ?_
     rintro e w1 ⟨rfl, b1⟩
     have B1 := Lib.hid (B0.out.trans (b1.mono B0.out.size))
     clear b1
     go_wp2
     go_ret
     exact ⟨rfl, B1.out⟩
 have g1 : (rep == 1) = false := by simp; omega
 have g2 : (rep == 2) = false := by simp; omega
 by_cases h3 : rep = 3
 · have e0 : replyOk c k v rep = (callOk c k v && decide (c = 2)) := by
     subst h3
     unfold replyOk
     simp [inB]
   rw [e0]
   have g3 : (rep == 3) = true := by simpa using h3
   have g4 : (c == 2) = decide (c = 2) := by rw [Bool.eq_iff_iff]; simp
   generalize decide (c = 2) = q3 at *
   generalize callOk c k v = q1 at *
   clear e0 h1 h3
   go_enter Try.func43, Try.ntmps43
   go_wp2_with fail
   rw [← HW.out]
   refine (C.out _).mono ?_
   rintro e w1 ⟨rfl, b1⟩
   have d0 := D0.out _ b1
   have B1 := Lib.hid (B0.out.trans (b1.mono B0.out.size))
   clear b1
   cases q1
   · go_wp2
     go_ret
     exact ⟨rfl, B1.out⟩
   · go_wp2
     go_ret
     exact ⟨ret_bool (by simp), B1.out⟩
 · have e0 : replyOk c k v rep = false := by
     have : inB rep 1 3 = false := by unfold inB; simp; omega
     unfold replyOk
     rw [this]
     simp
   rw [e0]
   have g3 : (rep == 3) = false := by simpa using h3
   clear e0 h1 h3
   go_enter Try.func43, Try.ntmps43
   go_wp2
   go_ret
   rw [← HW.out]
   exact ⟨rfl, B0.out⟩

theorem iCallOk_any (c k v : Int) (w : World) :
   Calls Try.prog 19 #[.agg #[jI jZ c, jI jZ k, jI jZ v]] w fun e w' => e = .returned (.bool (callOk c k v)) ∧ Below w.heap.size w w' := by
 have C := Lib.hid (fun w => callRight_any c k v w)
 have B0 : Hid (Below w.heap.size w (w.alloc (.cells #[jI jZ c, jI jZ k, jI jZ v] 25))) := Lib.hid ((Below.refl _ _).alloc (Nat.le_refl _) _)
 generalize callOk c k v = q1 at *
 go_enter Try.func19, Try.ntmps19
 go_wp2_with fail
 refine (C.out _).mono ?_
 rintro e w1 ⟨rfl, b1⟩
 have B1 := Lib.hid (B0.out.trans (b1.mono B0.out.size))
 clear b1
 go_wp2
 go_ret
 exact ⟨rfl, B1.out⟩

theorem iReplyOk_any (c k v rep : Int) (w : World) :
   Calls Try.prog 17 #[.agg #[jI jZ c, jI jZ k, jI jZ v], jI jZ rep] w fun e w' => e = .returned (.bool (replyOk c k v rep)) ∧ Below w.heap.size w w' := by
 have C := Lib.hid (fun w => canReply_any c k v rep w)
 have B0 : Hid (Below w.heap.size w (w.alloc (.cells #[jI jZ c, jI jZ k, jI jZ v] 25))) := Lib.hid ((Below.refl _ _).alloc (Nat.le_refl _) _)
 generalize replyOk c k v rep = q1 at *
 go_enter Try.func17, Try.ntmps17
 go_wp2_with fail
 refine (C.out _).mono ?_
 rintro e w1 ⟨rfl, b1⟩
 have B1 := Lib.hid (B0.out.trans (b1.mono B0.out.size))
 clear b1
 go_wp2
 go_ret
 exact ⟨rfl, B1.out⟩

theorem nums_no {st : List Int} (h : ∃ i, i < st.length ∧ numB (iAt st i) = false) : st.all numB = false := by
 obtain ⟨i, hi, h⟩ := h
 rw [List.all_eq_false]
 refine ⟨st[i], List.getElem_mem hi, ?_⟩
 have e : iAt st i = st[i] := by unfold iAt; simp [hi]
 rw [← e, h]; simp
theorem nums_yes {st : List Int} (h : ∀ i, i < st.length → numB (iAt st i) = true) : st.all numB = true := by
 rw [List.all_eq_true]
 intro x hx
 obtain ⟨i, hi, rfl⟩ := List.getElem_of_mem hx
 have e : iAt st i = st[i] := by unfold iAt; simp [hi]
 rw [← e]; exact h i hi

set_option maxRecDepth 100000 in
theorem nodeNums_any (st : List Int) (A : Option Addr) (n c : Nat) (w : World) (h : RS w w.heap.size A n st) (hn : n ≤ 1048576) :
   Calls Try.prog 63 #[jS A n c] w fun e w' => e = .returned (.bool (st.all numB)) ∧ w = w' := by
 have hl : st.length = n := h.1
 have Y1 : Hid (∀ i, i < n → numB (iAt st i) = false → st.all numB = false) := Lib.hid (fun i hi h => nums_no ⟨i, by omega, h⟩)
 have Y2 : Hid ((∀ i, i < n → numB (iAt st i) = true) → st.all numB = true) := Lib.hid (fun h => nums_yes (fun i hi => h i (by omega)))
 have HH := Lib.hid h
 clear h hl
 generalize st.all numB = q at *
 go_enter Try.func63, Try.ntmps63
 go_wp2
 go_loopw [7] (fun i wr => ∃ k : Nat, i = jI jZ k ∧ k ≤ n ∧ Hid (∀ j, j < k → numB (iAt st j) = true) ∧ Hid (wr = w)) (fun i _ => n - (intOf i).toNat)
 case atStart => exact ⟨0, rfl, by omega, Lib.hid (by intro j hj; omega), Lib.hid rfl⟩
 case round =>
   obtain ⟨k, rfl, hk, ho, hw⟩ := hrel
   obtain rfl := hw.out
   by_cases hlt : k < n
   · obtain ⟨b, off, rfl, hb, hc⟩ := HH.out.ints (by omega)
     have c1 := hc k hlt
     have nk := fun w => inum_is (iAt st k) w
     have YK := Lib.hid (Y1.out k hlt)
     have HO2 : Hid (numB (iAt st k) = true → ∀ j, j < k + 1 → numB (iAt st j) = true) := Lib.hid (fun h j hj => by
       rcases Nat.lt_or_ge j k with h' | h'
       · exact ho.out j h'
       · obtain rfl : j = k := by omega
         exact h)
     clear hc
     generalize numB (iAt st k) = nb at *
     generalize iAt st k = x at *
     have NK := Lib.hid nk
     clear nk
     go_wp2_with fail
     refine (NK.out _).mono ?_
     rintro e w' ⟨rfl, rfl⟩
     cases nb
     · obtain rfl := YK.out rfl
       go_wp2
       go_ret
       exact ⟨rfl, rfl⟩
     · have HN := Lib.hid (HO2.out rfl)
       go_wp2
       go_roundw
       case rel => exact ⟨k + 1, by go_num, by omega, HN, Lib.hid (by trivial)⟩
       case measure => simp [intOf]; omega
   · obtain rfl : k = n := by omega
     obtain rfl := Y2.out ho.out
     go_wp2
     go_ret
     exact ⟨rfl, rfl⟩
end Go.Proofs.Ytjookicpmjmdhaa

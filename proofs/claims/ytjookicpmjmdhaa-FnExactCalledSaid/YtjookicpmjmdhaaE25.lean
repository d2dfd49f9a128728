/- The laws' own words on hands: compared, marked, asked, counted. -/
import Derived.Test.YtjookicpmjmdhaaE24
namespace Go.Proofs.Ytjookicpmjmdhaa
open Go.RowKit

set_option maxRecDepth 100000 in
set_option maxHeartbeats 2000000 in
theorem eqH_yes (h : Hd) (A B : Option Addr) (n c d : Nat) (w : World) (hR : RS w w.heap.size A n h.st) (hR' : RS w w.heap.size B n h.st) (hn : n ≤ 1048576) :
    Calls Try.prog 29 #[hdV h A n c, hdV h B n d] w fun e w' => e = .returned (.bool true) ∧ Below w.heap.size w w' := by
  have ec := fun w => eqC_yes h.cc h.ck h.cv w
  have ei := fun w hR hR' => eqI_yes A B n c d h.st w hR hR' hn
  obtain ⟨w2, hw2⟩ : ∃ w2, w2 = (w.alloc (.cells #[.int .i64 h.pos, .int .i64 h.cc, .int .i64 h.ck, .int .i64 h.cv, .int .i64 h.cur, .int .i64 h.want, .int .i64 h.key, .int .i64 h.kid, .int .i64 h.old, .int .i64 h.next, .int .i64 h.new, .slice A n c, .int .i64 h.thn, .int .i64 h.beg, .int .i64 h.rep, .int .i64 h.out] 31)).alloc (.cells #[.int .i64 h.pos, .int .i64 h.cc, .int .i64 h.ck, .int .i64 h.cv, .int .i64 h.cur, .int .i64 h.want, .int .i64 h.key, .int .i64 h.kid, .int .i64 h.old, .int .i64 h.next, .int .i64 h.new, .slice B n d, .int .i64 h.thn, .int .i64 h.beg, .int .i64 h.rep, .int .i64 h.out] 31) := ⟨_, rfl⟩
  have b2 : Below w.heap.size w w2 := by rw [hw2]; exact ((Below.refl _ _).alloc (Nat.le_refl _) _).alloc (by simp) _
  have x0 : w2.heap[w.heap.size]? = some (.cells #[.int .i64 h.pos, .int .i64 h.cc, .int .i64 h.ck, .int .i64 h.cv, .int .i64 h.cur, .int .i64 h.want, .int .i64 h.key, .int .i64 h.kid, .int .i64 h.old, .int .i64 h.next, .int .i64 h.new, .slice A n c, .int .i64 h.thn, .int .i64 h.beg, .int .i64 h.rep, .int .i64 h.out] 31 (0, 0)) := by rw [hw2, Below.heap_alloc _ _ _ (by simp)]; exact heap_alloc_new _ _
  have x1 : w2.heap[w.heap.size + 1]? = some (.cells #[.int .i64 h.pos, .int .i64 h.cc, .int .i64 h.ck, .int .i64 h.cv, .int .i64 h.cur, .int .i64 h.want, .int .i64 h.key, .int .i64 h.kid, .int .i64 h.old, .int .i64 h.next, .int .i64 h.new, .slice B n d, .int .i64 h.thn, .int .i64 h.beg, .int .i64 h.rep, .int .i64 h.out] 31 (0, 0)) := by
    have hz := heap_alloc_new (w.alloc (.cells #[.int .i64 h.pos, .int .i64 h.cc, .int .i64 h.ck, .int .i64 h.cv, .int .i64 h.cur, .int .i64 h.want, .int .i64 h.key, .int .i64 h.kid, .int .i64 h.old, .int .i64 h.next, .int .i64 h.new, .slice A n c, .int .i64 h.thn, .int .i64 h.beg, .int .i64 h.rep, .int .i64 h.out] 31)) (.cells #[.int .i64 h.pos, .int .i64 h.cc, .int .i64 h.ck, .int .i64 h.cv, .int .i64 h.cur, .int .i64 h.want, .int .i64 h.key, .int .i64 h.kid, .int .i64 h.old, .int .i64 h.next, .int .i64 h.new, .slice B n d, .int .i64 h.thn, .int .i64 h.beg, .int .i64 h.rep, .int .i64 h.out] 31)
    rw [hw2]
    rwa [show (w.alloc (.cells #[.int .i64 h.pos, .int .i64 h.cc, .int .i64 h.ck, .int .i64 h.cv, .int .i64 h.cur, .int .i64 h.want, .int .i64 h.key, .int .i64 h.kid, .int .i64 h.old, .int .i64 h.next, .int .i64 h.new, .slice A n c, .int .i64 h.thn, .int .i64 h.beg, .int .i64 h.rep, .int .i64 h.out] 31)).heap.size = w.heap.size + 1 from by simp] at hz
  have HR := Lib.hid (hR.on b2)
  have HR' := Lib.hid (hR'.on b2)
  have X0 := Lib.hid x0
  have X1 := Lib.hid x1
  have B2 := Lib.hid b2
  have HW := Lib.hid hw2
  have EC := Lib.hid ec
  have EI := Lib.hid ei
  clear hR hR' b2 x0 x1 hw2 ec ei
  unfold hdV
  go_enter Try.func29, Try.ntmps29
  go_wp2_with fail
  rw [← HW.out]
  refine (EC.out _).mono ?_
  rintro e w3 ⟨rfl, b3⟩
  replace X0 := Lib.hid (box_on b3 X0.out)
  replace X1 := Lib.hid (box_on b3 X1.out)
  replace HR := Lib.hid (HR.out.on b3)
  replace HR' := Lib.hid (HR'.out.on b3)
  replace B2 := Lib.hid (B2.out.trans (b3.mono B2.out.size))
  clear b3
  have p0 : w3.cell? ⟨w.heap.size, 0, none⟩ = some (.int .i64 h.pos) := by rw [cell_of_row _ _ 0 _ _ _ X0.out]; rfl
  have p1 : w3.cell? ⟨w.heap.size, 1, none⟩ = some (.int .i64 h.cc) := by rw [cell_of_row _ _ 1 _ _ _ X0.out]; rfl
  have p2 : w3.cell? ⟨w.heap.size, 2, none⟩ = some (.int .i64 h.ck) := by rw [cell_of_row _ _ 2 _ _ _ X0.out]; rfl
  have p3 : w3.cell? ⟨w.heap.size, 3, none⟩ = some (.int .i64 h.cv) := by rw [cell_of_row _ _ 3 _ _ _ X0.out]; rfl
  have p4 : w3.cell? ⟨w.heap.size, 4, none⟩ = some (.int .i64 h.cur) := by rw [cell_of_row _ _ 4 _ _ _ X0.out]; rfl
  have p5 : w3.cell? ⟨w.heap.size, 5, none⟩ = some (.int .i64 h.want) := by rw [cell_of_row _ _ 5 _ _ _ X0.out]; rfl
  have p6 : w3.cell? ⟨w.heap.size, 6, none⟩ = some (.int .i64 h.key) := by rw [cell_of_row _ _ 6 _ _ _ X0.out]; rfl
  have p7 : w3.cell? ⟨w.heap.size, 7, none⟩ = some (.int .i64 h.kid) := by rw [cell_of_row _ _ 7 _ _ _ X0.out]; rfl
  have p8 : w3.cell? ⟨w.heap.size, 8, none⟩ = some (.int .i64 h.old) := by rw [cell_of_row _ _ 8 _ _ _ X0.out]; rfl
  have p9 : w3.cell? ⟨w.heap.size, 9, none⟩ = some (.int .i64 h.next) := by rw [cell_of_row _ _ 9 _ _ _ X0.out]; rfl
  have p10 : w3.cell? ⟨w.heap.size, 10, none⟩ = some (.int .i64 h.new) := by rw [cell_of_row _ _ 10 _ _ _ X0.out]; rfl
  have p11 : w3.cell? ⟨w.heap.size, 11, none⟩ = some (.slice A n c) := by rw [cell_of_row _ _ 11 _ _ _ X0.out]; rfl
  have p12 : w3.cell? ⟨w.heap.size, 12, none⟩ = some (.int .i64 h.thn) := by rw [cell_of_row _ _ 12 _ _ _ X0.out]; rfl
  have p13 : w3.cell? ⟨w.heap.size, 13, none⟩ = some (.int .i64 h.beg) := by rw [cell_of_row _ _ 13 _ _ _ X0.out]; rfl
  have p14 : w3.cell? ⟨w.heap.size, 14, none⟩ = some (.int .i64 h.rep) := by rw [cell_of_row _ _ 14 _ _ _ X0.out]; rfl
  have p15 : w3.cell? ⟨w.heap.size, 15, none⟩ = some (.int .i64 h.out) := by rw [cell_of_row _ _ 15 _ _ _ X0.out]; rfl
  have q0 : w3.cell? ⟨w.heap.size + 1, 0, none⟩ = some (.int .i64 h.pos) := by rw [cell_of_row _ _ 0 _ _ _ X1.out]; rfl
  have q1 : w3.cell? ⟨w.heap.size + 1, 1, none⟩ = some (.int .i64 h.cc) := by rw [cell_of_row _ _ 1 _ _ _ X1.out]; rfl
  have q2 : w3.cell? ⟨w.heap.size + 1, 2, none⟩ = some (.int .i64 h.ck) := by rw [cell_of_row _ _ 2 _ _ _ X1.out]; rfl
  have q3 : w3.cell? ⟨w.heap.size + 1, 3, none⟩ = some (.int .i64 h.cv) := by rw [cell_of_row _ _ 3 _ _ _ X1.out]; rfl
  have q4 : w3.cell? ⟨w.heap.size + 1, 4, none⟩ = some (.int .i64 h.cur) := by rw [cell_of_row _ _ 4 _ _ _ X1.out]; rfl
  have q5 : w3.cell? ⟨w.heap.size + 1, 5, none⟩ = some (.int .i64 h.want) := by rw [cell_of_row _ _ 5 _ _ _ X1.out]; rfl
  have q6 : w3.cell? ⟨w.heap.size + 1, 6, none⟩ = some (.int .i64 h.key) := by rw [cell_of_row _ _ 6 _ _ _ X1.out]; rfl
  have q7 : w3.cell? ⟨w.heap.size + 1, 7, none⟩ = some (.int .i64 h.kid) := by rw [cell_of_row _ _ 7 _ _ _ X1.out]; rfl
  have q8 : w3.cell? ⟨w.heap.size + 1, 8, none⟩ = some (.int .i64 h.old) := by rw [cell_of_row _ _ 8 _ _ _ X1.out]; rfl
  have q9 : w3.cell? ⟨w.heap.size + 1, 9, none⟩ = some (.int .i64 h.next) := by rw [cell_of_row _ _ 9 _ _ _ X1.out]; rfl
  have q10 : w3.cell? ⟨w.heap.size + 1, 10, none⟩ = some (.int .i64 h.new) := by rw [cell_of_row _ _ 10 _ _ _ X1.out]; rfl
  have q11 : w3.cell? ⟨w.heap.size + 1, 11, none⟩ = some (.slice B n d) := by rw [cell_of_row _ _ 11 _ _ _ X1.out]; rfl
  have q12 : w3.cell? ⟨w.heap.size + 1, 12, none⟩ = some (.int .i64 h.thn) := by rw [cell_of_row _ _ 12 _ _ _ X1.out]; rfl
  have q13 : w3.cell? ⟨w.heap.size + 1, 13, none⟩ = some (.int .i64 h.beg) := by rw [cell_of_row _ _ 13 _ _ _ X1.out]; rfl
  have q14 : w3.cell? ⟨w.heap.size + 1, 14, none⟩ = some (.int .i64 h.rep) := by rw [cell_of_row _ _ 14 _ _ _ X1.out]; rfl
  have q15 : w3.cell? ⟨w.heap.size + 1, 15, none⟩ = some (.int .i64 h.out) := by rw [cell_of_row _ _ 15 _ _ _ X1.out]; rfl
  go_wp2_with fail
  refine (EI.out _ HR.out HR'.out).mono ?_
  rintro e w4 ⟨rfl, b4⟩
  replace X0 := Lib.hid (box_on b4 X0.out)
  replace X1 := Lib.hid (box_on b4 X1.out)
  replace B2 := Lib.hid (B2.out.trans (b4.mono B2.out.size))
  clear b4 p0 q0 p1 q1 p2 q2 p3 q3 p4 q4 p5 q5 p6 q6 p7 q7 p8 q8 p9 q9 p10 q10 p11 q11 p12 q12 p13 q13 p14 q14 p15 q15
  have p0 : w4.cell? ⟨w.heap.size, 0, none⟩ = some (.int .i64 h.pos) := by rw [cell_of_row _ _ 0 _ _ _ X0.out]; rfl
  have p1 : w4.cell? ⟨w.heap.size, 1, none⟩ = some (.int .i64 h.cc) := by rw [cell_of_row _ _ 1 _ _ _ X0.out]; rfl
  have p2 : w4.cell? ⟨w.heap.size, 2, none⟩ = some (.int .i64 h.ck) := by rw [cell_of_row _ _ 2 _ _ _ X0.out]; rfl
  have p3 : w4.cell? ⟨w.heap.size, 3, none⟩ = some (.int .i64 h.cv) := by rw [cell_of_row _ _ 3 _ _ _ X0.out]; rfl
  have p4 : w4.cell? ⟨w.heap.size, 4, none⟩ = some (.int .i64 h.cur) := by rw [cell_of_row _ _ 4 _ _ _ X0.out]; rfl
  have p5 : w4.cell? ⟨w.heap.size, 5, none⟩ = some (.int .i64 h.want) := by rw [cell_of_row _ _ 5 _ _ _ X0.out]; rfl
  have p6 : w4.cell? ⟨w.heap.size, 6, none⟩ = some (.int .i64 h.key) := by rw [cell_of_row _ _ 6 _ _ _ X0.out]; rfl
  have p7 : w4.cell? ⟨w.heap.size, 7, none⟩ = some (.int .i64 h.kid) := by rw [cell_of_row _ _ 7 _ _ _ X0.out]; rfl
  have p8 : w4.cell? ⟨w.heap.size, 8, none⟩ = some (.int .i64 h.old) := by rw [cell_of_row _ _ 8 _ _ _ X0.out]; rfl
  have p9 : w4.cell? ⟨w.heap.size, 9, none⟩ = some (.int .i64 h.next) := by rw [cell_of_row _ _ 9 _ _ _ X0.out]; rfl
  have p10 : w4.cell? ⟨w.heap.size, 10, none⟩ = some (.int .i64 h.new) := by rw [cell_of_row _ _ 10 _ _ _ X0.out]; rfl
  have p11 : w4.cell? ⟨w.heap.size, 11, none⟩ = some (.slice A n c) := by rw [cell_of_row _ _ 11 _ _ _ X0.out]; rfl
  have p12 : w4.cell? ⟨w.heap.size, 12, none⟩ = some (.int .i64 h.thn) := by rw [cell_of_row _ _ 12 _ _ _ X0.out]; rfl
  have p13 : w4.cell? ⟨w.heap.size, 13, none⟩ = some (.int .i64 h.beg) := by rw [cell_of_row _ _ 13 _ _ _ X0.out]; rfl
  have p14 : w4.cell? ⟨w.heap.size, 14, none⟩ = some (.int .i64 h.rep) := by rw [cell_of_row _ _ 14 _ _ _ X0.out]; rfl
  have p15 : w4.cell? ⟨w.heap.size, 15, none⟩ = some (.int .i64 h.out) := by rw [cell_of_row _ _ 15 _ _ _ X0.out]; rfl
  have q0 : w4.cell? ⟨w.heap.size + 1, 0, none⟩ = some (.int .i64 h.pos) := by rw [cell_of_row _ _ 0 _ _ _ X1.out]; rfl
  have q1 : w4.cell? ⟨w.heap.size + 1, 1, none⟩ = some (.int .i64 h.cc) := by rw [cell_of_row _ _ 1 _ _ _ X1.out]; rfl
  have q2 : w4.cell? ⟨w.heap.size + 1, 2, none⟩ = some (.int .i64 h.ck) := by rw [cell_of_row _ _ 2 _ _ _ X1.out]; rfl
  have q3 : w4.cell? ⟨w.heap.size + 1, 3, none⟩ = some (.int .i64 h.cv) := by rw [cell_of_row _ _ 3 _ _ _ X1.out]; rfl
  have q4 : w4.cell? ⟨w.heap.size + 1, 4, none⟩ = some (.int .i64 h.cur) := by rw [cell_of_row _ _ 4 _ _ _ X1.out]; rfl
  have q5 : w4.cell? ⟨w.heap.size + 1, 5, none⟩ = some (.int .i64 h.want) := by rw [cell_of_row _ _ 5 _ _ _ X1.out]; rfl
  have q6 : w4.cell? ⟨w.heap.size + 1, 6, none⟩ = some (.int .i64 h.key) := by rw [cell_of_row _ _ 6 _ _ _ X1.out]; rfl
  have q7 : w4.cell? ⟨w.heap.size + 1, 7, none⟩ = some (.int .i64 h.kid) := by rw [cell_of_row _ _ 7 _ _ _ X1.out]; rfl
  have q8 : w4.cell? ⟨w.heap.size + 1, 8, none⟩ = some (.int .i64 h.old) := by rw [cell_of_row _ _ 8 _ _ _ X1.out]; rfl
  have q9 : w4.cell? ⟨w.heap.size + 1, 9, none⟩ = some (.int .i64 h.next) := by rw [cell_of_row _ _ 9 _ _ _ X1.out]; rfl
  have q10 : w4.cell? ⟨w.heap.size + 1, 10, none⟩ = some (.int .i64 h.new) := by rw [cell_of_row _ _ 10 _ _ _ X1.out]; rfl
  have q11 : w4.cell? ⟨w.heap.size + 1, 11, none⟩ = some (.slice B n d) := by rw [cell_of_row _ _ 11 _ _ _ X1.out]; rfl
  have q12 : w4.cell? ⟨w.heap.size + 1, 12, none⟩ = some (.int .i64 h.thn) := by rw [cell_of_row _ _ 12 _ _ _ X1.out]; rfl
  have q13 : w4.cell? ⟨w.heap.size + 1, 13, none⟩ = some (.int .i64 h.beg) := by rw [cell_of_row _ _ 13 _ _ _ X1.out]; rfl
  have q14 : w4.cell? ⟨w.heap.size + 1, 14, none⟩ = some (.int .i64 h.rep) := by rw [cell_of_row _ _ 14 _ _ _ X1.out]; rfl
  have q15 : w4.cell? ⟨w.heap.size + 1, 15, none⟩ = some (.int .i64 h.out) := by rw [cell_of_row _ _ 15 _ _ _ X1.out]; rfl
  go_wp2
  go_ret
  exact ⟨rfl, B2.out⟩

theorem szH_any (h : Hd) (A : Option Addr) (n c L : Nat) (w : World) (hL : L ≤ 1048576) (hm : n ≤ 9223372036854775807) :
    Calls Try.prog 27 #[hdV h A n c, .int .i64 L] w fun e w' => e = .returned (.int .i64 (leftI L n)) ∧ Below w.heap.size w w' := by
  have hs := fun w => szI_any A n c L w hL hm
  by_cases hn : n ≤ L
  · have e : leftI L n = (L : Int) - n := by unfold leftI; rw [if_pos hn]
    rw [e] at hs ⊢
    have HS := Lib.hid hs
    clear hs e
    unfold hdV
    go_enter Try.func27, Try.ntmps27
    go_wp2_with (go_at_call 50; refine (HS.out _).mono ?_; rintro e w1 ⟨rfl, rfl⟩)
    go_ret
    exact ⟨rfl, (Below.refl _ _).alloc (Nat.le_refl _) _⟩
  · have e : leftI L n = -1 := by unfold leftI; rw [if_neg hn]
    rw [e] at hs ⊢
    have HS := Lib.hid hs
    clear hs e
    unfold hdV
    go_enter Try.func27, Try.ntmps27
    go_wp2_with (go_at_call 50; refine (HS.out _).mono ?_; rintro e w1 ⟨rfl, rfl⟩)
    go_ret
    exact ⟨rfl, (Below.refl _ _).alloc (Nat.le_refl _) _⟩

theorem mkH_any (h : Hd) (A : Option Addr) (n c k : Nat) (F : FP) (w : World) (ho : OwnS w (.slice A n c) h.st F) (hn : n ≤ 1048576) (hk : k ≤ 1125899906842624) :
    Calls Try.prog 30 #[hdV h A n c, .int .i64 k] w fun e w' => e = .returned (.int .i64 ((k + cntS h.st : Nat) : Int)) ∧ OwnS w' (.slice A n c) (mkS k h.st) F ∧ Only F w w' := by
  have hl : h.st.length = n := ho.len
  obtain ⟨w1, hw1⟩ : ∃ w1, w1 = w.alloc (.cells #[.int .i64 h.pos, .int .i64 h.cc, .int .i64 h.ck, .int .i64 h.cv, .int .i64 h.cur, .int .i64 h.want, .int .i64 h.key, .int .i64 h.kid, .int .i64 h.old, .int .i64 h.next, .int .i64 h.new, .slice A n c, .int .i64 h.thn, .int .i64 h.beg, .int .i64 h.rep, .int .i64 h.out] 31) := ⟨_, rfl⟩
  have b1 : Below w.heap.size w w1 := by rw [hw1]; exact (Below.refl _ _).alloc (Nat.le_refl _) _
  have MK := Lib.hid (markI_any (.slice A n c) k h.st F w1 (ho.on b1) (by rw [hl]; exact hn) hk)
  have B1 := Lib.hid b1
  have HW := Lib.hid hw1
  have E : Hid (cntS h.st = h.st.length) := Lib.hid (cntI _)
  clear ho b1 hw1 hl
  unfold hdV
  go_enter Try.func30, Try.ntmps30
  go_wp2_with fail
  rw [← HW.out]
  refine MK.out.mono ?_
  rintro e w2 ⟨rfl, o2, g2⟩
  have O2 := Lib.hid o2
  have G2 := Lib.hid ((Only.of_below (F := F) B1.out).trans g2)
  clear o2 g2
  go_wp2
  go_ret
  exact ⟨rfl, O2.out, G2.out⟩

theorem hdH_any (h : Hd) (A : Option Addr) (n c k : Nat) (w : World) (st : List Int) (hR : RS w w.heap.size A n (mkS k st)) (hn : n ≤ 1048576) (hk : k ≤ 1125899906842624) :
    Calls Try.prog 31 #[hdV h A n c, .int .i64 k] w fun e w' => e = .returned (.int .i64 ((k + cntS st : Nat) : Int)) ∧ Below w.heap.size w w' := by
  obtain ⟨w1, hw1⟩ : ∃ w1, w1 = w.alloc (.cells #[.int .i64 h.pos, .int .i64 h.cc, .int .i64 h.ck, .int .i64 h.cv, .int .i64 h.cur, .int .i64 h.want, .int .i64 h.key, .int .i64 h.kid, .int .i64 h.old, .int .i64 h.next, .int .i64 h.new, .slice A n c, .int .i64 h.thn, .int .i64 h.beg, .int .i64 h.rep, .int .i64 h.out] 31) := ⟨_, rfl⟩
  have b1 : Below w.heap.size w w1 := by rw [hw1]; exact (Below.refl _ _).alloc (Nat.le_refl _) _
  have HD := Lib.hid (heldI_any A n c k st w1 (hR.on b1) hn hk)
  have B1 := Lib.hid b1
  have HW := Lib.hid hw1
  clear hR b1 hw1
  unfold hdV
  go_enter Try.func31, Try.ntmps31
  go_wp2_with fail
  rw [← HW.out]
  refine HD.out.mono ?_
  rintro e w2 ⟨rfl, rfl⟩
  go_wp2
  go_ret
  exact ⟨rfl, B1.out⟩
end Go.Proofs.Ytjookicpmjmdhaa

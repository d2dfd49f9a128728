/- The walk of the model's Called. -/
import Derived.Test.YtjookicpmjmdhaaE13
import Derived.Deep.Cut
namespace Go.Proofs.Ytjookicpmjmdhaa
open Go.RowKit

theorem results_cell_row2 {fn : Func} {p u : Tmp} {ty : TypeId} (h : fn.results = #[.cell p ty, .tmp u]) (tmps : Array Value) (w : World) (g : Nat) (t : TypeId) (cs : Array Value) (fr : Nat × Nat) (fs : Array Field)
    (hp : tmps.getD p undef = .pointer (some ⟨g, 0, none⟩)) (hg : w.heap[g]? = some (.cells cs t fr))
    (hu : Try.prog.underlying ty = some (.struct fs)) (hi : (Try.prog.info? ty).map (·.size) = some cs.size) :
    (results fn tmps).run Try.prog w = .ok (.tuple #[.agg cs, tmps.getD u undef]) w := by
  rw [results_cell_tmp h, hp]
  simp [asAddr, run_loadVar_row w g t ty cs fr _ hg hu rfl hi, Result.andThen]

def GivesHI (w : World) (h : Hd) (k : Int) (e : Ending) (w' : World) : Prop := ∃ A c F, e = .returned (.tuple #[hdV h A h.st.length c, .int .i64 k]) ∧ OwnS w' (.slice A h.st.length c) h.st F ∧ Fresh F w w' ∧ Below w.heap.size w w'

set_option maxRecDepth 100000 in
theorem sCalled_any (h : Hd) (A : Option Addr) (n c : Nat) (cc ck cv : Int) (w : World) (hR : RS w w.heap.size A n h.st) (hn : n ≤ 1048576) :
    Calls Try.prog 16 #[hdV h A n c, .agg #[.int .i64 cc, .int .i64 ck, .int .i64 cv]] w (GivesHI w (calledH h cc ck cv) (calledC h cc ck cv)) := by
  have hk := fun w hR => sHandOk_any h A n c w hR
  have ck' := fun w hR => copyH_any h A n c w hR hn
  have cl := fun w => sCallOk_any cc ck cv w
  have E0 : Hid (handOk h = false → calledH h cc ck cv = zeroH ∧ calledC h cc ck cv = 3) := Lib.hid (fun e => by unfold calledH calledC; rw [e]; exact ⟨rfl, rfl⟩)
  have E1 : Hid (handOk h = true → h.pos ≠ 0 → calledH h cc ck cv = h ∧ calledC h cc ck cv = 1) := Lib.hid (fun e e1 => by unfold calledH calledC; rw [e, if_neg e1, if_neg e1]; exact ⟨rfl, rfl⟩)
  have E2 : Hid (handOk h = true → h.pos = 0 → callOk cc ck cv = false → calledH h cc ck cv = h ∧ calledC h cc ck cv = 2) := Lib.hid (fun e e1 e2 => by unfold calledH calledC; rw [e, if_pos e1, if_pos e1, e2]; exact ⟨rfl, rfl⟩)
  have E3 : Hid (handOk h = true → h.pos = 0 → callOk cc ck cv = true → calledH h cc ck cv = { zeroH with pos := 1, cc := cc, ck := ck, cv := cv, key := ck } ∧ calledC h cc ck cv = 0) := Lib.hid (fun e e1 e2 => by unfold calledH calledC; rw [e, if_pos e1, if_pos e1, e2]; exact ⟨rfl, rfl⟩)
  generalize calledH h cc ck cv = rh at *
  generalize calledC h cc ck cv = rc at *
  generalize handOk h = q1 at *
  generalize callOk cc ck cv = q2 at *
  obtain ⟨w1, hw1⟩ : ∃ w1, w1 = ((w.alloc (.cells #[.int .i64 h.pos, .int .i64 h.cc, .int .i64 h.ck, .int .i64 h.cv, .int .i64 h.cur, .int .i64 h.want, .int .i64 h.key, .int .i64 h.kid, .int .i64 h.old, .int .i64 h.next, .int .i64 h.new, .slice A n c, .int .i64 h.thn, .int .i64 h.beg, .int .i64 h.rep, .int .i64 h.out] 31)).alloc (.cells #[.int .i64 cc, .int .i64 ck, .int .i64 cv] 25)).alloc (.cells #[.int .i64 0, .int .i64 0, .int .i64 0, .int .i64 0, .int .i64 0, .int .i64 0, .int .i64 0, .int .i64 0, .int .i64 0, .int .i64 0, .int .i64 0, .slice none 0 0, .int .i64 0, .int .i64 0, .int .i64 0, .int .i64 0] 31) := ⟨_, rfl⟩
  have b1 : Below w.heap.size w w1 := by rw [hw1]; exact (((Below.refl _ _).alloc (Nat.le_refl _) _).alloc (by simp) _).alloc (by simp; omega) _
  have x0 : w1.heap[w.heap.size]? = some (.cells (hdC h A n c) 31 (0, 0)) := by rw [hw1, Below.heap_alloc _ _ _ (by simp; omega), Below.heap_alloc _ _ _ (by simp)]; exact heap_alloc_new _ _
  have x2 : w1.heap[w.heap.size + 1]? = some (.cells #[.int .i64 cc, .int .i64 ck, .int .i64 cv] 25 (0, 0)) := by
    have hz := heap_alloc_new (w.alloc (.cells #[.int .i64 h.pos, .int .i64 h.cc, .int .i64 h.ck, .int .i64 h.cv, .int .i64 h.cur, .int .i64 h.want, .int .i64 h.key, .int .i64 h.kid, .int .i64 h.old, .int .i64 h.next, .int .i64 h.new, .slice A n c, .int .i64 h.thn, .int .i64 h.beg, .int .i64 h.rep, .int .i64 h.out] 31)) (.cells #[.int .i64 cc, .int .i64 ck, .int .i64 cv] 25)
    rw [hw1, Below.heap_alloc _ _ _ (by simp)]
    rwa [show (w.alloc (.cells #[.int .i64 h.pos, .int .i64 h.cc, .int .i64 h.ck, .int .i64 h.cv, .int .i64 h.cur, .int .i64 h.want, .int .i64 h.key, .int .i64 h.kid, .int .i64 h.old, .int .i64 h.next, .int .i64 h.new, .slice A n c, .int .i64 h.thn, .int .i64 h.beg, .int .i64 h.rep, .int .i64 h.out] 31)).heap.size = w.heap.size + 1 from by simp] at hz
  have x1 : w1.heap[w.heap.size + 1 + 1]? = some (.cells (hdC zeroH none 0 0) 31 (0, 0)) := by
    have hz := heap_alloc_new ((w.alloc (.cells #[.int .i64 h.pos, .int .i64 h.cc, .int .i64 h.ck, .int .i64 h.cv, .int .i64 h.cur, .int .i64 h.want, .int .i64 h.key, .int .i64 h.kid, .int .i64 h.old, .int .i64 h.next, .int .i64 h.new, .slice A n c, .int .i64 h.thn, .int .i64 h.beg, .int .i64 h.rep, .int .i64 h.out] 31)).alloc (.cells #[.int .i64 cc, .int .i64 ck, .int .i64 cv] 25)) (.cells #[.int .i64 0, .int .i64 0, .int .i64 0, .int .i64 0, .int .i64 0, .int .i64 0, .int .i64 0, .int .i64 0, .int .i64 0, .int .i64 0, .int .i64 0, .slice none 0 0, .int .i64 0, .int .i64 0, .int .i64 0, .int .i64 0] 31)
    rw [hw1]
    rwa [show ((w.alloc (.cells #[.int .i64 h.pos, .int .i64 h.cc, .int .i64 h.ck, .int .i64 h.cv, .int .i64 h.cur, .int .i64 h.want, .int .i64 h.key, .int .i64 h.kid, .int .i64 h.old, .int .i64 h.next, .int .i64 h.new, .slice A n c, .int .i64 h.thn, .int .i64 h.beg, .int .i64 h.rep, .int .i64 h.out] 31)).alloc (.cells #[.int .i64 cc, .int .i64 ck, .int .i64 cv] 25)).heap.size = w.heap.size + 1 + 1 from by simp] at hz
  have s1 : w1.heap.size = w.heap.size + 3 := by rw [hw1]; simp
  have HR := Lib.hid (hR.on b1)
  have HK := Lib.hid hk
  have CK := Lib.hid ck'
  have CL := Lib.hid cl
  have X0 := Lib.hid x0
  have X1 := Lib.hid x1
  have X2 := Lib.hid x2
  have B1 := Lib.hid b1
  have S1 := Lib.hid s1
  have HW := Lib.hid hw1
  clear hR hk ck' cl x0 x1 x2 b1 s1 hw1
  unfold hdV at *
  go_enter Try.func16, Try.ntmps16
  go_upto_region 1 with (fail)
  change Code.wp _ _ _ _ (((w.alloc (.cells #[.int .i64 h.pos, .int .i64 h.cc, .int .i64 h.ck, .int .i64 h.cv, .int .i64 h.cur, .int .i64 h.want, .int .i64 h.key, .int .i64 h.kid, .int .i64 h.old, .int .i64 h.next, .int .i64 h.new, .slice A n c, .int .i64 h.thn, .int .i64 h.beg, .int .i64 h.rep, .int .i64 h.out] 31)).alloc (.cells #[.int .i64 cc, .int .i64 ck, .int .i64 cv] 25)).alloc (.cells #[.int .i64 0, .int .i64 0, .int .i64 0, .int .i64 0, .int .i64 0, .int .i64 0, .int .i64 0, .int .i64 0, .int .i64 0, .int .i64 0, .int .i64 0, .slice none 0 0, .int .i64 0, .int .i64 0, .int .i64 0, .int .i64 0] 31))
  rw [← HW.out]
  go_wp2_with (refine wpList_load_row rfl 31 (.tmp 2) rfl w.heap.size rfl 31 (hdC h A n c) (0, 0) _ X0.out Try.underlying31 rfl hand_size ?_)
  refine (HK.out _ HR.out).mono ?_
  rintro e wT ⟨rfl, bT⟩
  have XR := Lib.hid (box_on bT X1.out)
  have XH := Lib.hid (box_on bT X0.out)
  have XC := Lib.hid (box_on bT X2.out)
  have BT := Lib.hid bT
  have HRW := Lib.hid (HR.out.on bT)
  clear bT
  cases q1
  · obtain ⟨rfl, rfl⟩ := E0.out (by trivial)
    go_wp2_with (refine wpList_store_row rfl 31 (.tmp 4) (.tmp 10) rfl (w.heap.size + 1 + 1) (hdC (zeroH) none 0 0) rfl rfl 31 _ XR.out hand_size rfl (hdC_one _ _ _ _) ?_)
    refine bodyPost_ret (results_cell_row2 rfl _ _ (w.heap.size + 1 + 1) 31 (hdC (zeroH) none 0 0) (0, 0) _ rfl (setRow_heap _ _ _ _ _ _ XR.out) Try.underlying31 hand_size) rfl ?_
    have o4 := only_setRow wT (w.heap.size + 1 + 1) (hdC (zeroH) none 0 0)
    refine ⟨none, 0, fun _ => False, rfl, OwnS.nil _ _, fun k hk => absurd hk id, ?_⟩
    exact bel_only (B1.out.trans (BT.out.mono B1.out.size)) o4 (B1.out.trans (BT.out.mono B1.out.size)).size (fun k hk => by omega)
  have d0 : wT.cell? ⟨w.heap.size, 0, none⟩ = some (.int .i64 h.pos) := by rw [cell_of_row _ _ 0 _ _ _ XH.out]; rfl
  by_cases hp : h.pos = 0
  rotate_left
  · obtain ⟨rfl, rfl⟩ := E1.out (by trivial) hp
    have g1 : (rh.pos != 0) = true := by simpa using hp
    clear hp
    go_wp2_with (refine wpList_load_row rfl 31 (.tmp 2) rfl w.heap.size rfl 31 (hdC rh A n c) (0, 0) _ XH.out Try.underlying31 rfl hand_size ?_)
    refine (CK.out _ HRW.out).mono ?_
    rintro e w3 ⟨A3, c3, F3, rfl, o3, f3, b3⟩
    have Z3 := Lib.hid (box_on b3 XR.out)
    have O3 := Lib.hid o3
    have F3' := Lib.hid f3
    have B3 := Lib.hid (bel_on BT.out b3)
    have S3 := Lib.hid BT.out.size
    clear o3 f3 b3
    unfold hdV
    go_wp2_with (refine wpList_store_row rfl 31 (.tmp 4) (.tmp 16) rfl (w.heap.size + 1 + 1) (hdC rh A3 rh.st.length c3) rfl rfl 31 _ Z3.out hand_size rfl (hdC_one _ _ _ _) ?_)
    refine bodyPost_ret (results_cell_row2 rfl _ _ (w.heap.size + 1 + 1) 31 (hdC rh A3 rh.st.length c3) (0, 0) _ rfl (setRow_heap _ _ _ _ _ _ Z3.out) Try.underlying31 hand_size) rfl ?_
    have o4 := only_setRow w3 (w.heap.size + 1 + 1) (hdC rh A3 rh.st.length c3)
    refine ⟨A3, c3, F3, rfl, O3.out.off o4 (fun k hk h => by have := F3'.out k hk; have := S1.out; have := S3.out; omega), fun k hk => ?_, ?_⟩
    · have := F3'.out k hk
      have := o4.size
      have := S1.out
      have := S3.out
      omega
    · exact bel_only (B1.out.trans (B3.out.mono B1.out.size)) o4 (B1.out.trans (B3.out.mono B1.out.size)).size (fun k hk => by omega)
  have g1 : (h.pos != 0) = false := by simp [hp]
  have e0 : wT.cell? ⟨w.heap.size + 1, 0, none⟩ = some (.int .i64 cc) := by rw [cell_of_row _ _ 0 _ _ _ XC.out]; rfl
  have e1 : wT.cell? ⟨w.heap.size + 1, 1, none⟩ = some (.int .i64 ck) := by rw [cell_of_row _ _ 1 _ _ _ XC.out]; rfl
  have e2 : wT.cell? ⟨w.heap.size + 1, 2, none⟩ = some (.int .i64 cv) := by rw [cell_of_row _ _ 2 _ _ _ XC.out]; rfl
  have HP := Lib.hid hp
  clear hp
  go_wp2_with fail
  refine (CL.out _).mono ?_
  rintro e wU ⟨rfl, bU⟩
  replace XR := Lib.hid (box_on bU XR.out)
  replace XH := Lib.hid (box_on bU XH.out)
  replace XC := Lib.hid (box_on bU XC.out)
  replace BT := Lib.hid (bel_on BT.out bU)
  replace HRW := Lib.hid (HRW.out.on bU)
  clear bU d0 e0 e1 e2
  have e0 : wU.cell? ⟨w.heap.size + 1, 0, none⟩ = some (.int .i64 cc) := by rw [cell_of_row _ _ 0 _ _ _ XC.out]; rfl
  have e1 : wU.cell? ⟨w.heap.size + 1, 1, none⟩ = some (.int .i64 ck) := by rw [cell_of_row _ _ 1 _ _ _ XC.out]; rfl
  have e2 : wU.cell? ⟨w.heap.size + 1, 2, none⟩ = some (.int .i64 cv) := by rw [cell_of_row _ _ 2 _ _ _ XC.out]; rfl
  cases q2
  · obtain ⟨rfl, rfl⟩ := E2.out (by trivial) HP.out (by trivial)
    go_wp2_with (refine wpList_load_row rfl 31 (.tmp 2) rfl w.heap.size rfl 31 (hdC rh A n c) (0, 0) _ XH.out Try.underlying31 rfl hand_size ?_)
    refine (CK.out _ HRW.out).mono ?_
    rintro e w3 ⟨A3, c3, F3, rfl, o3, f3, b3⟩
    have Z3 := Lib.hid (box_on b3 XR.out)
    have O3 := Lib.hid o3
    have F3' := Lib.hid f3
    have B3 := Lib.hid (bel_on BT.out b3)
    have S3 := Lib.hid BT.out.size
    clear o3 f3 b3
    unfold hdV
    go_wp2_with (refine wpList_store_row rfl 31 (.tmp 4) (.tmp 22) rfl (w.heap.size + 1 + 1) (hdC rh A3 rh.st.length c3) rfl rfl 31 _ Z3.out hand_size rfl (hdC_one _ _ _ _) ?_)
    refine bodyPost_ret (results_cell_row2 rfl _ _ (w.heap.size + 1 + 1) 31 (hdC rh A3 rh.st.length c3) (0, 0) _ rfl (setRow_heap _ _ _ _ _ _ Z3.out) Try.underlying31 hand_size) rfl ?_
    have o4 := only_setRow w3 (w.heap.size + 1 + 1) (hdC rh A3 rh.st.length c3)
    refine ⟨A3, c3, F3, rfl, O3.out.off o4 (fun k hk h => by have := F3'.out k hk; have := S1.out; have := S3.out; omega), fun k hk => ?_, ?_⟩
    · have := F3'.out k hk
      have := o4.size
      have := S1.out
      have := S3.out
      omega
    · exact bel_only (B1.out.trans (B3.out.mono B1.out.size)) o4 (B1.out.trans (B3.out.mono B1.out.size)).size (fun k hk => by omega)
  · obtain ⟨rfl, rfl⟩ := E3.out (by trivial) HP.out (by trivial)
    go_wp2_with (refine wpList_store_row rfl 31 (.tmp 4) (.tmp 26) rfl (w.heap.size + 1 + 1) (hdC ({ zeroH with pos := 1, cc := cc, ck := ck, cv := cv, key := ck }) none 0 0) rfl rfl 31 _ XR.out hand_size rfl (hdC_one _ _ _ _) ?_)
    refine bodyPost_ret (results_cell_row2 rfl _ _ (w.heap.size + 1 + 1) 31 (hdC ({ zeroH with pos := 1, cc := cc, ck := ck, cv := cv, key := ck }) none 0 0) (0, 0) _ rfl (setRow_heap _ _ _ _ _ _ XR.out) Try.underlying31 hand_size) rfl ?_
    have o4 := only_setRow wU (w.heap.size + 1 + 1) (hdC ({ zeroH with pos := 1, cc := cc, ck := ck, cv := cv, key := ck }) none 0 0)
    refine ⟨none, 0, fun _ => False, rfl, OwnS.nil _ _, fun k hk => absurd hk id, ?_⟩
    exact bel_only (B1.out.trans (BT.out.mono B1.out.size)) o4 (B1.out.trans (BT.out.mono B1.out.size)).size (fun k hk => by omega)
end Go.Proofs.Ytjookicpmjmdhaa

/- The walk of the model's l1Put. -/
import Derived.Test.YtjookicpmjmdhaaQ04
open Go.Value renaming int → jI, slice → jS
open Go.IntKind renaming i64 → jZ
namespace Go.Proofs.Ytjookicpmjmdhaa
open Go.RowKit
set_option linter.unusedVariables false

def insL (zs : List Pr) (k v : Int) : List Pr := zs.take (geIx zs k) ++ [(k, v)] ++ zs.drop (if hitB zs k = true then geIx zs k + 1 else geIx zs k)
def boxed (w : World) (k v : Int) : World := w.alloc (.cells #[jI jZ k, jI jZ v] 86)
theorem boxed_size (w : World) (k v : Int) : (boxed w k v).heap.size = w.heap.size + 1 := by simp [boxed]
theorem boxed_below (w : World) (k v : Int) : Below w.heap.size w (boxed w k v) := (Below.refl _ _).alloc (Nat.le_refl _) _
theorem boxed_fst (w : World) (k v : Int) : (boxed w k v).cell? ⟨w.heap.size, 0, none⟩ = some (jI jZ k) := by simp [boxed]
theorem boxed_snd (w : World) (k v : Int) : (boxed w k v).cell? ⟨w.heap.size, 1, none⟩ = some (jI jZ v) := by simp [boxed]
theorem own_gives {w w' : World} {base n : Nat} {v : Value} {zs : List Pr} (h : w'.ownsRow base 86 2 v n (PL zs)) (hb : w.heap.size ≤ base) (hw : Below w.heap.size w w') : Gives w zs (.returned v) w' := by
 have hl : n = zs.length := by have := h.1; rw [PL_length] at this; omega
 subst hl
 exact ⟨v, rfl, own_base h hb, hw⟩

theorem sPut_end (A : Option Addr) (n c g : Nat) (zs : List Pr) (k v : Int) (w : World) (h : RP w w.heap.size A n zs) (hn : n ≤ 1048576) (hc : n ≤ c) (hc2 : c ≤ 9223372036854775807)
   (hlt : ∀ j, j < g → kAt zs j < k) (hgn : g ≤ n) (hend : n ≤ g) :
   Calls Try.prog 113 #[jS A n c, .agg #[jI jZ k, jI jZ v]] w (Gives w (zs.take g ++ [(k, v)] ++ zs.drop (g))) := by
 have HH := Lib.hid h
 have HB := Lib.hid hlt
 clear h hlt
 have hsl := run_tail A n c (g) ((g : Int)) (by omega) (by omega) hc hc2
 go_enter Try.func113, Try.ntmps113
 go_wp2
 change Code.wp _ _ _ _ (boxed w k v)
 go_loopw [5] (fun i wr => ∃ j : Nat, i = jI jZ j ∧ j ≤ g ∧ Hid (Below (w.heap.size + 1) (boxed w k v) wr)) (fun i _ => n + 1 - (intOf i).toNat)
 case atStart => exact ⟨0, rfl, by omega, Lib.hid (Below.refl _ _)⟩
 case round =>
   obtain ⟨j, rfl, hj, hbw⟩ := hrel
   have d0 := Later.of_cell (w := boxed w k v) (wr := wr) (boxed_fst w k v) (by rw [boxed_size]; exact hbw.out) (by rw [boxed_size]; simp)
   have RB : Hid (Below w.heap.size w wr) := Lib.hid ((boxed_below w k v).trans (hbw.out.mono (by omega)))
   have s0 : w.heap.size + 1 ≤ wr.heap.size := by have := hbw.out.size; rw [boxed_size] at this; exact this
   by_cases hlt : j < g
   · have hjn : j < n := by omega
     obtain ⟨b, off, rfl, hb, hcc⟩ := HH.out.2 (by omega)
     have c0 := Later.of_cell (hcc j hjn).1 RB.out hb
     have g1 : decide (kAt zs j < k) = true := by have := HB.out j hlt; simpa using this
     clear hcc
     go_wp2
     refine wp_region_later (by kernel_rfl) (by kernel_rfl) ?_
     repeat (go_big_quiet_step (fail))
     refine wpQuiet_nil ?_
     intro _ hw'
     obtain ⟨s, rfl⟩ := hw'
     have HS := Lib.hid (hbw.out.trans (s.below.mono s0))
     go_wp2
     go_roundw
     case rel => exact ⟨j + 1, by go_num, by omega, HS⟩
     case measure => simp [intOf]; omega
   · obtain rfl : j = g := by omega
     have hjn' : j ≤ n := by omega
     clear hlt
     have g0 : decide (j < n) = false := by simp; omega
     go_wp2
     refine wp_region_later (by kernel_rfl) (by kernel_rfl) ?_
     repeat (go_big_quiet_step (fail))
     refine wpQuiet_nil ?_
     intro _ hw'
     obtain ⟨s, rfl⟩ := hw'
     have B1 := Lib.hid (hbw.out.trans (s.below.mono s0))
     have s1 : w.heap.size + 1 ≤ s.wd.heap.size := Nat.le_trans s0 s.below.size
     clear hbw RB d0 s0 hj 
     generalize s.wd = w1 at *
     have R1 : Hid (Below w.heap.size w w1) := Lib.hid ((boxed_below w k v).trans (B1.out.mono (by omega)))
     -- list[:k]
     go_wp2_with (at_builtin; refine wpList_app rfl (.tmp 23) (.tmp 26) rfl (w.heap.size + 1) _ 0 [] rfl (own_base (empty_row w1) s1) _ _ j c (zs.take j) rfl (((HH.out.on R1.out).take hjn').below ((Below.refl _ _).alloc (Nat.le_refl _) _)) (by omega) (by simp; omega) ?_)
     intro v2 w2 o2 g2
     have B2 := Lib.hid ((B1.out.alloc s1 (.cells #[] 86)).grown g2 (by simp; omega) (fun b e => by simp [Value.ownBlock] at e; omega))
     have O2 := Lib.hid o2
     have s2 : w.heap.size + 1 ≤ w2.heap.size := by have := g2.size; simp at this; omega
     clear o2 g2 B1 R1
     have d2 : w2.cell? ⟨w.heap.size, 0, none⟩ = some (jI jZ k) := (B2.out.cell (by simp)).trans (boxed_fst w k v)
     have e2 : w2.cell? ⟨w.heap.size, 1, none⟩ = some (jI jZ v) := (B2.out.cell (by simp)).trans (boxed_snd w k v)
     -- p
     go_wp2_with (at_builtin; refine wpList_app rfl (.tmp 28) (.tmp 30) rfl (w.heap.size + 1) v2 _ _ rfl (O2.out.alloc _) _ (some ⟨w2.heap.size, 0, none⟩) 1 1 [(k, v)] rfl (one_row w2 _ k v) (by omega) (by simp; omega) ?_)
     intro v3 w3 o3 g3
     have B3 := Lib.hid ((B2.out.alloc s2 (.cells #[jI jZ k, jI jZ v] 86)).grown g3 (by simp; omega) (fun b e => (O2.out.lt b e).1))
     have O3 := Lib.hid o3
     have s3 : w.heap.size + 1 ≤ w3.heap.size := by have := g3.size; simp at this; omega
     clear o3 g3 B2 O2 d2 e2
     have R3 : Hid (Below w.heap.size w w3) := Lib.hid ((boxed_below w k v).trans (B3.out.mono (by omega)))
     have d3 := Later.of_cell (w := boxed w k v) (wr := w3) (boxed_fst w k v) (by rw [boxed_size]; exact B3.out) (by rw [boxed_size]; simp)
     go_wp2
     refine wp_region_later (by kernel_rfl) (by kernel_rfl) ?_
     repeat (go_big_quiet_step (fail))
     refine wpQuiet_nil ?_
     intro _ hw'
     obtain ⟨s, rfl⟩ := hw'
     have B4 := Lib.hid (B3.out.trans (s.below.mono s3))
     have O4 := Lib.hid (own_on O3.out s.below)
     have s4 : w.heap.size + 1 ≤ s.wd.heap.size := Nat.le_trans s3 s.below.size
     clear B3 O3 R3 d3 s3 hend g0
     generalize s.wd = w4 at *
     have R4 : Hid (Below w.heap.size w w4) := Lib.hid ((boxed_below w k v).trans (B4.out.mono (by omega)))
     go_wp2_with (at_builtin; refine wpList_app rfl (.tmp 48) (.tmp 51) rfl (w.heap.size + 1) v3 _ _ rfl O4.out _ _ _ _ _ rfl ((HH.out.on R4.out).tail (by omega) hc) (by omega) s4 ?_)
     intro v5 w5 o5 g5
     have B5 := Lib.hid (B4.out.grown g5 s4 (fun b e => (O4.out.lt b e).1))
     have O5 := Lib.hid o5
     clear o5 g5 B4 O4
     go_wp2
     go_ret
     exact own_gives (by have := O5.out; simpa using this) (by omega) ((boxed_below w k v).trans (B5.out.mono (by omega)))

theorem sPut_gap (A : Option Addr) (n c g : Nat) (zs : List Pr) (k v : Int) (w : World) (h : RP w w.heap.size A n zs) (hn : n ≤ 1048576) (hc : n ≤ c) (hc2 : c ≤ 9223372036854775807)
   (hlt : ∀ j, j < g → kAt zs j < k) (hgn : g ≤ n) (hjn : g < n) (hge : k < kAt zs g) :
   Calls Try.prog 113 #[jS A n c, .agg #[jI jZ k, jI jZ v]] w (Gives w (zs.take g ++ [(k, v)] ++ zs.drop (g))) := by
 have HH := Lib.hid h
 have HB := Lib.hid hlt
 clear h hlt
 have hsl := run_tail A n c (g) ((g : Int)) (by omega) (by omega) hc hc2
 go_enter Try.func113, Try.ntmps113
 go_wp2
 change Code.wp _ _ _ _ (boxed w k v)
 go_loopw [5] (fun i wr => ∃ j : Nat, i = jI jZ j ∧ j ≤ g ∧ Hid (Below (w.heap.size + 1) (boxed w k v) wr)) (fun i _ => n + 1 - (intOf i).toNat)
 case atStart => exact ⟨0, rfl, by omega, Lib.hid (Below.refl _ _)⟩
 case round =>
   obtain ⟨j, rfl, hj, hbw⟩ := hrel
   have d0 := Later.of_cell (w := boxed w k v) (wr := wr) (boxed_fst w k v) (by rw [boxed_size]; exact hbw.out) (by rw [boxed_size]; simp)
   have RB : Hid (Below w.heap.size w wr) := Lib.hid ((boxed_below w k v).trans (hbw.out.mono (by omega)))
   have s0 : w.heap.size + 1 ≤ wr.heap.size := by have := hbw.out.size; rw [boxed_size] at this; exact this
   by_cases hlt : j < g
   · have hjn : j < n := by omega
     obtain ⟨b, off, rfl, hb, hcc⟩ := HH.out.2 (by omega)
     have c0 := Later.of_cell (hcc j hjn).1 RB.out hb
     have g1 : decide (kAt zs j < k) = true := by have := HB.out j hlt; simpa using this
     clear hcc
     go_wp2
     refine wp_region_later (by kernel_rfl) (by kernel_rfl) ?_
     repeat (go_big_quiet_step (fail))
     refine wpQuiet_nil ?_
     intro _ hw'
     obtain ⟨s, rfl⟩ := hw'
     have HS := Lib.hid (hbw.out.trans (s.below.mono s0))
     go_wp2
     go_roundw
     case rel => exact ⟨j + 1, by go_num, by omega, HS⟩
     case measure => simp [intOf]; omega
   · obtain rfl : j = g := by omega
     have hjn' : j ≤ n := by omega
     clear hlt
     obtain ⟨b, off, rfl, hb, hcc⟩ := HH.out.2 (by omega)
     have c0 := Later.of_cell (hcc j hjn).1 RB.out hb
     have g1 : decide (kAt zs j < k) = false := by simp; omega
     go_wp2
     refine wp_region_later (by kernel_rfl) (by kernel_rfl) ?_
     repeat (go_big_quiet_step (fail))
     refine wpQuiet_nil ?_
     intro _ hw'
     obtain ⟨s, rfl⟩ := hw'
     have B1 := Lib.hid (hbw.out.trans (s.below.mono s0))
     have s1 : w.heap.size + 1 ≤ s.wd.heap.size := Nat.le_trans s0 s.below.size
     clear hbw RB d0 s0 hj c0 g1
     generalize s.wd = w1 at *
     have R1 : Hid (Below w.heap.size w w1) := Lib.hid ((boxed_below w k v).trans (B1.out.mono (by omega)))
     -- list[:k]
     go_wp2_with (at_builtin; refine wpList_app rfl (.tmp 23) (.tmp 26) rfl (w.heap.size + 1) _ 0 [] rfl (own_base (empty_row w1) s1) _ _ j c (zs.take j) rfl (((HH.out.on R1.out).take hjn').below ((Below.refl _ _).alloc (Nat.le_refl _) _)) (by omega) (by simp; omega) ?_)
     intro v2 w2 o2 g2
     have B2 := Lib.hid ((B1.out.alloc s1 (.cells #[] 86)).grown g2 (by simp; omega) (fun b e => by simp [Value.ownBlock] at e; omega))
     have O2 := Lib.hid o2
     have s2 : w.heap.size + 1 ≤ w2.heap.size := by have := g2.size; simp at this; omega
     clear o2 g2 B1 R1
     have d2 : w2.cell? ⟨w.heap.size, 0, none⟩ = some (jI jZ k) := (B2.out.cell (by simp)).trans (boxed_fst w k v)
     have e2 : w2.cell? ⟨w.heap.size, 1, none⟩ = some (jI jZ v) := (B2.out.cell (by simp)).trans (boxed_snd w k v)
     -- p
     go_wp2_with (at_builtin; refine wpList_app rfl (.tmp 28) (.tmp 30) rfl (w.heap.size + 1) v2 _ _ rfl (O2.out.alloc _) _ (some ⟨w2.heap.size, 0, none⟩) 1 1 [(k, v)] rfl (one_row w2 _ k v) (by omega) (by simp; omega) ?_)
     intro v3 w3 o3 g3
     have B3 := Lib.hid ((B2.out.alloc s2 (.cells #[jI jZ k, jI jZ v] 86)).grown g3 (by simp; omega) (fun b e => (O2.out.lt b e).1))
     have O3 := Lib.hid o3
     have s3 : w.heap.size + 1 ≤ w3.heap.size := by have := g3.size; simp at this; omega
     clear o3 g3 B2 O2 d2 e2
     have R3 : Hid (Below w.heap.size w w3) := Lib.hid ((boxed_below w k v).trans (B3.out.mono (by omega)))
     have d3 := Later.of_cell (w := boxed w k v) (wr := w3) (boxed_fst w k v) (by rw [boxed_size]; exact B3.out) (by rw [boxed_size]; simp)
     have c6 := Later.of_cell (hcc j hjn).1 R3.out hb
     clear hcc
     have g2 : (kAt zs j == k) = false := by simp; omega
     go_wp2
     refine wp_region_later (by kernel_rfl) (by kernel_rfl) ?_
     repeat (go_big_quiet_step (fail))
     refine wpQuiet_nil ?_
     intro _ hw'
     obtain ⟨s, rfl⟩ := hw'
     have B4 := Lib.hid (B3.out.trans (s.below.mono s3))
     have O4 := Lib.hid (own_on O3.out s.below)
     have s4 : w.heap.size + 1 ≤ s.wd.heap.size := Nat.le_trans s3 s.below.size
     clear B3 O3 R3 d3 s3 
     generalize s.wd = w4 at *
     have R4 : Hid (Below w.heap.size w w4) := Lib.hid ((boxed_below w k v).trans (B4.out.mono (by omega)))
     go_wp2_with (at_builtin; refine wpList_app rfl (.tmp 48) (.tmp 51) rfl (w.heap.size + 1) v3 _ _ rfl O4.out _ _ _ _ _ rfl ((HH.out.on R4.out).tail (by omega) hc) (by omega) s4 ?_)
     intro v5 w5 o5 g5
     have B5 := Lib.hid (B4.out.grown g5 s4 (fun b e => (O4.out.lt b e).1))
     have O5 := Lib.hid o5
     clear o5 g5 B4 O4
     go_wp2
     go_ret
     exact own_gives (by have := O5.out; simpa using this) (by omega) ((boxed_below w k v).trans (B5.out.mono (by omega)))

theorem sPut_hit (A : Option Addr) (n c g : Nat) (zs : List Pr) (k v : Int) (w : World) (h : RP w w.heap.size A n zs) (hn : n ≤ 1048576) (hc : n ≤ c) (hc2 : c ≤ 9223372036854775807)
   (hlt : ∀ j, j < g → kAt zs j < k) (hgn : g ≤ n) (hjn : g < n) (hge : kAt zs g = k) :
   Calls Try.prog 113 #[jS A n c, .agg #[jI jZ k, jI jZ v]] w (Gives w (zs.take g ++ [(k, v)] ++ zs.drop (g + 1))) := by
 have HH := Lib.hid h
 have HB := Lib.hid hlt
 clear h hlt
 have hsl := run_tail A n c (g + 1) ((g : Int) + 1) (by omega) (by omega) hc hc2
 go_enter Try.func113, Try.ntmps113
 go_wp2
 change Code.wp _ _ _ _ (boxed w k v)
 go_loopw [5] (fun i wr => ∃ j : Nat, i = jI jZ j ∧ j ≤ g ∧ Hid (Below (w.heap.size + 1) (boxed w k v) wr)) (fun i _ => n + 1 - (intOf i).toNat)
 case atStart => exact ⟨0, rfl, by omega, Lib.hid (Below.refl _ _)⟩
 case round =>
   obtain ⟨j, rfl, hj, hbw⟩ := hrel
   have d0 := Later.of_cell (w := boxed w k v) (wr := wr) (boxed_fst w k v) (by rw [boxed_size]; exact hbw.out) (by rw [boxed_size]; simp)
   have RB : Hid (Below w.heap.size w wr) := Lib.hid ((boxed_below w k v).trans (hbw.out.mono (by omega)))
   have s0 : w.heap.size + 1 ≤ wr.heap.size := by have := hbw.out.size; rw [boxed_size] at this; exact this
   by_cases hlt : j < g
   · have hjn : j < n := by omega
     obtain ⟨b, off, rfl, hb, hcc⟩ := HH.out.2 (by omega)
     have c0 := Later.of_cell (hcc j hjn).1 RB.out hb
     have g1 : decide (kAt zs j < k) = true := by have := HB.out j hlt; simpa using this
     clear hcc
     go_wp2
     refine wp_region_later (by kernel_rfl) (by kernel_rfl) ?_
     repeat (go_big_quiet_step (fail))
     refine wpQuiet_nil ?_
     intro _ hw'
     obtain ⟨s, rfl⟩ := hw'
     have HS := Lib.hid (hbw.out.trans (s.below.mono s0))
     go_wp2
     go_roundw
     case rel => exact ⟨j + 1, by go_num, by omega, HS⟩
     case measure => simp [intOf]; omega
   · obtain rfl : j = g := by omega
     have hjn' : j ≤ n := by omega
     clear hlt
     obtain ⟨b, off, rfl, hb, hcc⟩ := HH.out.2 (by omega)
     have c0 := Later.of_cell (hcc j hjn).1 RB.out hb
     have g1 : decide (kAt zs j < k) = false := by simp; omega
     have HGE := Lib.hid hge
     clear hge
     go_wp2
     refine wp_region_later (by kernel_rfl) (by kernel_rfl) ?_
     repeat (go_big_quiet_step (fail))
     refine wpQuiet_nil ?_
     intro _ hw'
     obtain ⟨s, rfl⟩ := hw'
     have B1 := Lib.hid (hbw.out.trans (s.below.mono s0))
     have s1 : w.heap.size + 1 ≤ s.wd.heap.size := Nat.le_trans s0 s.below.size
     clear hbw RB d0 s0 hj c0 g1
     generalize s.wd = w1 at *
     have R1 : Hid (Below w.heap.size w w1) := Lib.hid ((boxed_below w k v).trans (B1.out.mono (by omega)))
     -- list[:k]
     go_wp2_with (at_builtin; refine wpList_app rfl (.tmp 23) (.tmp 26) rfl (w.heap.size + 1) _ 0 [] rfl (own_base (empty_row w1) s1) _ _ j c (zs.take j) rfl (((HH.out.on R1.out).take hjn').below ((Below.refl _ _).alloc (Nat.le_refl _) _)) (by omega) (by simp; omega) ?_)
     intro v2 w2 o2 g2
     have B2 := Lib.hid ((B1.out.alloc s1 (.cells #[] 86)).grown g2 (by simp; omega) (fun b e => by simp [Value.ownBlock] at e; omega))
     have O2 := Lib.hid o2
     have s2 : w.heap.size + 1 ≤ w2.heap.size := by have := g2.size; simp at this; omega
     clear o2 g2 B1 R1
     have d2 : w2.cell? ⟨w.heap.size, 0, none⟩ = some (jI jZ k) := (B2.out.cell (by simp)).trans (boxed_fst w k v)
     have e2 : w2.cell? ⟨w.heap.size, 1, none⟩ = some (jI jZ v) := (B2.out.cell (by simp)).trans (boxed_snd w k v)
     -- p
     go_wp2_with (at_builtin; refine wpList_app rfl (.tmp 28) (.tmp 30) rfl (w.heap.size + 1) v2 _ _ rfl (O2.out.alloc _) _ (some ⟨w2.heap.size, 0, none⟩) 1 1 [(k, v)] rfl (one_row w2 _ k v) (by omega) (by simp; omega) ?_)
     intro v3 w3 o3 g3
     have B3 := Lib.hid ((B2.out.alloc s2 (.cells #[jI jZ k, jI jZ v] 86)).grown g3 (by simp; omega) (fun b e => (O2.out.lt b e).1))
     have O3 := Lib.hid o3
     have s3 : w.heap.size + 1 ≤ w3.heap.size := by have := g3.size; simp at this; omega
     clear o3 g3 B2 O2 d2 e2
     have R3 : Hid (Below w.heap.size w w3) := Lib.hid ((boxed_below w k v).trans (B3.out.mono (by omega)))
     have d3 := Later.of_cell (w := boxed w k v) (wr := w3) (boxed_fst w k v) (by rw [boxed_size]; exact B3.out) (by rw [boxed_size]; simp)
     have c6 := Later.of_cell (hcc j hjn).1 R3.out hb
     clear hcc
     have g2 : (kAt zs j == k) = true := by simpa using HGE.out
     go_wp2
     refine wp_region_later (by kernel_rfl) (by kernel_rfl) ?_
     repeat (go_big_quiet_step (fail))
     refine wpQuiet_nil ?_
     intro _ hw'
     obtain ⟨s, rfl⟩ := hw'
     have B4 := Lib.hid (B3.out.trans (s.below.mono s3))
     have O4 := Lib.hid (own_on O3.out s.below)
     have s4 : w.heap.size + 1 ≤ s.wd.heap.size := Nat.le_trans s3 s.below.size
     clear B3 O3 R3 d3 s3 
     generalize s.wd = w4 at *
     have R4 : Hid (Below w.heap.size w w4) := Lib.hid ((boxed_below w k v).trans (B4.out.mono (by omega)))
     go_wp2_with (at_builtin; refine wpList_app rfl (.tmp 48) (.tmp 51) rfl (w.heap.size + 1) v3 _ _ rfl O4.out _ _ _ _ _ rfl ((HH.out.on R4.out).tail (by omega) hc) (by omega) s4 ?_)
     intro v5 w5 o5 g5
     have B5 := Lib.hid (B4.out.grown g5 s4 (fun b e => (O4.out.lt b e).1))
     have O5 := Lib.hid o5
     clear o5 g5 B4 O4
     go_wp2
     go_ret
     exact own_gives (by have := O5.out; simpa using this) (by omega) ((boxed_below w k v).trans (B5.out.mono (by omega)))

theorem sPut_any (A : Option Addr) (n c : Nat) (zs : List Pr) (k v : Int) (w : World) (h : RP w w.heap.size A n zs) (hn : n ≤ 1048576) (hc : n ≤ c) (hc2 : c ≤ 9223372036854775807) :
   Calls Try.prog 113 #[jS A n c, .agg #[jI jZ k, jI jZ v]] w (Gives w (insL zs k v)) := by
 have hl := h.1
 have hle := geIx_le zs k
 have hlt := geIx_lt zs k
 unfold insL
 by_cases hg : geIx zs k < n
 · have hat := geIx_at zs k (by omega)
   by_cases he : kAt zs (geIx zs k) = k
   · have hh : hitB zs k = true := by unfold hitB; simp [he]; omega
     rw [if_pos hh]
     exact sPut_hit A n c _ zs k v w h hn hc hc2 hlt (by omega) hg he
   · have hh : hitB zs k = false := by unfold hitB; simp [he]
     rw [if_neg (by simp [hh])]
     exact sPut_gap A n c _ zs k v w h hn hc hc2 hlt (by omega) hg (by omega)
 · have hh : hitB zs k = false := by unfold hitB; simp; omega
   rw [if_neg (by simp [hh])]
   exact sPut_end A n c _ zs k v w h hn hc hc2 hlt (by omega) (by omega)
end Go.Proofs.Ytjookicpmjmdhaa
namespace Go.Proofs.Ytjookicpmjmdhaa
open Go.RowKit
set_option linter.unusedVariables false

theorem insL_length (zs : List Pr) (k v : Int) : (insL zs k v).length = if hitB zs k = true then zs.length else zs.length + 1 := by
 have hle := geIx_le zs k
 unfold insL
 by_cases hh : hitB zs k = true
 · have hg : geIx zs k < zs.length := by
     have := hh; unfold hitB at this; simp only [Bool.and_eq_true, decide_eq_true_eq] at this; exact this.1
   rw [if_pos hh, if_pos hh]
   simp; omega
 · rw [if_neg hh, if_neg hh]
   simp; omega
theorem own_form {w : World} {zs : List Pr} {e : Ending} {w' : World} (h : Gives w zs e w') : ∃ A c, e = .returned (jS A zs.length c) ∧ w'.ownsRow w.heap.size 86 2 (jS A zs.length c) zs.length (PL zs) ∧ Below w.heap.size w w' := by
 obtain ⟨v, he, ho, hb⟩ := h
 obtain ⟨A, c, rfl, _⟩ := RP.of_own ho
 exact ⟨A, c, he, ho, hb⟩

end Go.Proofs.Ytjookicpmjmdhaa
namespace Go.Proofs.Ytjookicpmjmdhaa
open Go.RowKit

def leftTo (zs : List Pr) (key : Int) (j : Nat) : List Pr := (zs.take j).filter (fun p => !(p.1 == key))
theorem leftTo_keep (zs : List Pr) (key : Int) (j : Nat) (hj : j < zs.length) (h : kAt zs j ≠ key) : leftTo zs key (j + 1) = leftTo zs key j ++ [(kAt zs j, vAt zs j)] := by
 unfold leftTo
 rw [List.take_succ_eq_append_getElem hj, List.filter_append]
 rw [kAt_eq _ _ hj] at h
 rw [kAt_eq _ _ hj, vAt_eq _ _ hj]
 simp [h]
theorem leftTo_drop (zs : List Pr) (key : Int) (j : Nat) (hj : j < zs.length) (h : kAt zs j = key) : leftTo zs key (j + 1) = leftTo zs key j := by
 unfold leftTo
 rw [List.take_succ_eq_append_getElem hj, List.filter_append]
 rw [kAt_eq _ _ hj] at h
 simp [h]
theorem leftTo_le (zs : List Pr) (key : Int) (j : Nat) : (leftTo zs key j).length ≤ j := by
 unfold leftTo
 exact Nat.le_trans (List.length_filter_le _ _) (by rw [List.length_take]; omega)

theorem sCut_any (A : Option Addr) (n c : Nat) (zs : List Pr) (key : Int) (w : World) (h : RP w w.heap.size A n zs) (hn : n ≤ 1048576) :
   Calls Try.prog 112 #[jS A n c, jI jZ key] w (Gives w (leftTo zs key n)) := by
 have HL := Lib.hid h.1
 have HH := Lib.hid h
 clear h
 go_enter Try.func112, Try.ntmps112
 go_wp2
 go_loopw [5, 6] (fun v i wr => ∃ j : Nat, i = jI jZ j ∧ j ≤ n ∧ Hid (wr.ownsRow w.heap.size 86 2 v (leftTo zs key j).length (PL (leftTo zs key j))) ∧ Hid (Below w.heap.size w wr)) (fun _ i _ => n - (intOf i).toNat)
 case atStart => exact ⟨0, rfl, by omega, Lib.hid (by have := empty_row w; simpa [leftTo] using this), Lib.hid ((Below.refl _ _).alloc (Nat.le_refl _) _)⟩
 case round =>
   obtain ⟨j, rfl, hj, ho, hbw⟩ := hrel
   by_cases hlt : j < n
   · obtain ⟨b, off, rfl, hb, hc⟩ := HH.out.2 (by omega)
     have c1 := (hbw.out.cell (p := ⟨b, off + j * 2, none⟩) hb).trans (hc j hlt).1
     have c2 := (hbw.out.cell (p := ⟨b, off + j * 2 + 1, none⟩) hb).trans (hc j hlt).2
     clear hc
     have hle := leftTo_le zs key j
     by_cases hk : kAt zs j = key
     · have hkb : (kAt zs j != key) = false := by simpa using hk
       have HK := Lib.hid hk
       clear hk
       go_wp2
       go_roundw
       case rel => exact ⟨j + 1, by go_num, by omega, by rw [leftTo_drop zs key j (by have := HL.out; omega) HK.out]; exact ho, hbw⟩
       case measure => simp [intOf]; omega
     · have hkb : (kAt zs j != key) = true := by simpa using hk
       have HK := Lib.hid hk
       clear hk
       go_wp2_with (at_builtin; refine wpList_app rfl (.tmp 21) (.tmp 26) rfl w.heap.size _ _ _ rfl (ho.out.alloc _) _ (some ⟨wr.heap.size, 0, none⟩) 1 1 [(kAt zs j, vAt zs j)] rfl (one_row wr _ _ _) (by omega) (by have := hbw.out.size; simp; omega) ?_)
       intro v2 w2 o2 g2
       have B2 := Lib.hid ((hbw.out.alloc hbw.out.size (.cells #[jI jZ (kAt zs j), jI jZ (vAt zs j)] 86)).grown g2 (by have := hbw.out.size; simp; omega) (fun b e => (ho.out.lt b e).1))
       have O2 := Lib.hid o2
       clear o2 g2
       go_wp2
       go_roundw
       case rel => exact ⟨j + 1, by go_num, by omega, Lib.hid (by rw [leftTo_keep zs key j (by have := HL.out; omega) HK.out]; have := O2.out; simpa using this), B2⟩
       case measure => simp [intOf]; omega
   · obtain rfl : j = n := by omega
     go_wp2
     go_ret
     exact ⟨_, rfl, ho.out, hbw.out⟩

end Go.Proofs.Ytjookicpmjmdhaa
namespace Go.Proofs.Ytjookicpmjmdhaa
open Go.RowKit

def markTo (zs : List Pr) (k : Nat) (j : Nat) : List Pr := ((List.range j).map fun i : Nat => ((k : Int) + 2 * (i : Int), (k : Int) + 2 * (i : Int) + 1)) ++ zs.drop j
theorem grown_trans {a b c : World} {row : Option Nat} (h : a.grownBy b row) (k : b.grownBy c row) : a.grownBy c row :=
 ⟨k.os.trans h.os, k.tape.trans h.tape, k.output.trans h.output, Nat.le_trans h.size k.size, fun i hi hr => (k.block i (Nat.lt_of_lt_of_le hi h.size) hr).trans (h.block i hi hr)⟩

end Go.Proofs.Ytjookicpmjmdhaa

/- The code's own NodeOk, Within and KidFor: what they answer. -/
import Derived.Test.YtpffkhjegpddbaaGreatV49
import Derived.Test.YtpffkhjegpddbaaGreatV04
import Derived.Shelf.Abstract
open Go.Value renaming int → jI, slice → jS
open Go.IntKind renaming i64 → jZ
namespace Go.Proofs.YtpffkhjegpddbaaGreat
open Go.RowKit

theorem iContF_any (x : Nd) (A' : Option Addr) (n' c' : Nat) (A : Option Addr) (n c : Nat) (zs : List Pr) (w : World) (h : RP w w.heap.size A n zs) (hn : n ≤ 1048576) :
   Calls Tryz.prog 58 #[jS A n c, .func (.func 86) #[ndV x A' n' c'] #[]] w fun e w' => e = .returned (.bool (zs.any (refB x))) ∧ Below w.heap.size w w' := by
 have ix := iIdxF_any x A' n' c' A n c zs w h hn
 rw [← refIx_any]
 clear h
 generalize refIx x zs = r at *
 generalize ndV x A' n' c' = xv at *
 go_enter Tryz.func58, Tryz.ntmps58
 go_wp2_with fail
 refine ix.mono ?_
 rintro e w1 ⟨rfl, b1⟩
 go_wp2
 go_ret
 exact ⟨rfl, b1⟩

def okB (x : Nd) : Bool :=
 inB x.lv 0 6 && (inB x.ow 0 6 && (linkB x && (pOk x.ps && (decide (x.ps.length ≤ 4) && ((decide (x.lv = 0) || decide (0 < x.ps.length)) && !x.ps.any (refB x))))))

theorem inside_all {x : Nd} (hp : pOk x.ps = true) : (∀ j, j < x.ps.length → inside x (kAt x.ps j) = true) ↔ (x.hi = -1 ∨ x.ps.length = 0 ∨ lastK x.ps < x.hi) := by
 have hr := pOk_rise hp
 unfold inside lastK
 simp only [Bool.or_eq_true, decide_eq_true_eq]
 refine ⟨fun h => ?_, fun h j hj => ?_⟩
 · by_cases h0 : x.ps.length = 0
   · exact .inr (.inl h0)
   · rcases h (x.ps.length - 1) (by omega) with h1 | h1
     · exact .inl h1
     · exact .inr (.inr h1)
 · rcases h with h | h | h
   · exact .inl h
   · omega
   · rcases Nat.lt_or_ge j (x.ps.length - 1) with h1 | h1
     · have := rise_lt hr (x.ps.length - 1) j h1 (by omega)
       exact .inr (by omega)
     · obtain rfl : j = x.ps.length - 1 := by omega
       exact .inr h

theorem any_refB (x : Nd) : x.ps.any (refB x) = false ↔ ∀ j, j < x.ps.length → (inside x (kAt x.ps j) = true ∧ (0 < x.lv → numB (vAt x.ps j) = true)) := by
 rw [List.any_eq_false]
 refine ⟨fun h j hj => ?_, fun h p hp => ?_⟩
 · have := h _ (List.getElem_mem hj)
   unfold refB at this
   rw [kAt_eq _ _ hj, vAt_eq _ _ hj]
   simp only [Bool.or_eq_true, Bool.not_eq_true', Bool.and_eq_true, decide_eq_true_eq, not_or, not_and, Bool.not_eq_false] at this
   exact this
 · obtain ⟨j, hj, rfl⟩ := List.getElem_of_mem hp
   have := h j hj
   rw [kAt_eq _ _ hj, vAt_eq _ _ hj] at this
   unfold refB
   simp only [Bool.or_eq_true, Bool.not_eq_true', Bool.and_eq_true, decide_eq_true_eq, not_or, not_and, Bool.not_eq_false]
   exact this

theorem okB_eq (x : Nd) : okB x = nodeOk x := by
 rw [Bool.eq_iff_iff]
 unfold okB nodeOk linkB
 simp only [Bool.and_eq_true, Bool.or_eq_true, decide_eq_true_eq, Bool.not_eq_true']
 by_cases hl : inB x.lv 0 6 = true
 · have hlv : 0 ≤ x.lv := by unfold inB at hl; simp at hl; exact hl.1
   by_cases hp : pOk x.ps = true
   · have hin := inside_all hp
     rw [any_refB, kidsB_iff]
     have hsplit : (∀ j, j < x.ps.length → (inside x (kAt x.ps j) = true ∧ (0 < x.lv → numB (vAt x.ps j) = true))) ↔ ((x.hi = -1 ∨ x.ps.length = 0 ∨ lastK x.ps < x.hi) ∧ (0 < x.lv → kidsTo x.ps x.ps.length)) := by
       rw [← hin]
       unfold kidsTo
       exact ⟨fun h => ⟨fun j hj => (h j hj).1, fun h0 j hj => (h j hj).2 h0⟩, fun h j hj => ⟨h.1 j hj, fun h0 => h.2 h0 j hj⟩⟩
     rw [hsplit]
     have e0 : (x.lv = 0) ↔ (x.lv ≤ 0) := by omega
     rw [e0]
     have e1 : 0 < x.lv ↔ ¬ x.lv ≤ 0 := by omega
     rw [e1]
     by_cases hh : x.hi = -1
     · simp only [hl, hp, hh, if_pos]
       simp
       by_cases h0 : x.lv ≤ 0 <;> simp [h0] <;> grind
     · simp only [hl, hp, hh]
       simp
       by_cases h0 : x.lv ≤ 0 <;> simp [h0] <;> grind
   · simp [hp]
 · simp [hl]

theorem iok_any (x : Nd) (A : Option Addr) (n c : Nat) (w : World) (h : RP w w.heap.size A n x.ps) (hn : n ≤ 1048576) :
   Calls Tryz.prog 57 #[ndV x A n c] w fun e w' => e = .returned (.bool (nodeOk x)) ∧ Below w.heap.size w w' := by
 rw [← okB_eq]
 have HL := h.1
 have HH := Lib.hid h
 clear h
 have lk := fun w => iLink_any x A n c w
 have pk : ∀ w, RP w w.heap.size A n x.ps → Calls Tryz.prog 85 #[jS A n c] w fun e w' => e = .returned (.bool (pOk x.ps)) ∧ Below w.heap.size w w' := fun w hR => iOk_any A n c x.ps w hR hn
 have ck : ∀ w, RP w w.heap.size A n x.ps → Calls Tryz.prog 58 #[jS A n c, .func (.func 86) #[ndV x A n c] #[]] w fun e w' => e = .returned (.bool (x.ps.any (refB x))) ∧ Below w.heap.size w w' := fun w hR => iContF_any x A n c A n c x.ps w hR hn
 unfold okB
 generalize x.ps.any (refB x) = a1 at *
 generalize pOk x.ps = p1 at *
 generalize linkB x = k1 at *
 unfold ndV at *
 obtain ⟨lv, zs, hi, ri, ow⟩ := x
 simp only at *
 have LK := Lib.hid lk
 have PK := Lib.hid pk
 have CK := Lib.hid ck
 clear lk pk ck
 rw [HL]
 have B0 : Hid (Below w.heap.size w (w.alloc (.cells #[.int .i64 lv, jS A n c, .int .i64 hi, .int .i64 ri, .int .i64 ow] 53))) := Lib.hid ((Below.refl _ _).alloc (Nat.le_refl _) _)
 by_cases h1 : 0 ≤ lv
 rotate_left
 · have g1 : decide (0 ≤ lv) = false := by simpa using h1
   have e1 : inB lv 0 6 = false := by unfold inB; simp; omega
   rw [e1]
   clear h1 e1
   go_enter Tryz.func57, Tryz.ntmps57
   go_wp2
   go_ret
   exact ⟨rfl, B0.out⟩
 by_cases h2 : lv ≤ 6
 rotate_left
 · have g1 : decide (0 ≤ lv) = true := by simpa using h1
   have g2 : decide (lv ≤ 6) = false := by simpa using h2
   have e1 : inB lv 0 6 = false := by unfold inB; simp; omega
   rw [e1]
   clear h1 h2 e1
   go_enter Tryz.func57, Tryz.ntmps57
   go_wp2
   go_ret
   exact ⟨rfl, B0.out⟩
 have g1 : decide (0 ≤ lv) = true := by simpa using h1
 have g2 : decide (lv ≤ 6) = true := by simpa using h2
 have e1 : inB lv 0 6 = true := by unfold inB; simp; omega
 rw [e1]
 clear e1
 by_cases h3 : 0 ≤ ow
 rotate_left
 · have g3 : decide (0 ≤ ow) = false := by simpa using h3
   have e1 : inB ow 0 6 = false := by unfold inB; simp; omega
   rw [e1]
   clear h1 h2 h3 e1
   go_enter Tryz.func57, Tryz.ntmps57
   go_wp2
   go_ret
   exact ⟨rfl, B0.out⟩
 by_cases h4 : ow ≤ 6
 rotate_left
 · have g3 : decide (0 ≤ ow) = true := by simpa using h3
   have g4 : decide (ow ≤ 6) = false := by simpa using h4
   have e1 : inB ow 0 6 = false := by unfold inB; simp; omega
   rw [e1]
   clear h1 h2 h3 h4 e1
   go_enter Tryz.func57, Tryz.ntmps57
   go_wp2
   go_ret
   exact ⟨rfl, B0.out⟩
 have g3 : decide (0 ≤ ow) = true := by simpa using h3
 have g4 : decide (ow ≤ 6) = true := by simpa using h4
 have e1 : inB ow 0 6 = true := by unfold inB; simp; omega
 rw [e1]
 clear e1 h1 h2 h3 h4
 have g6 : decide ((n : Int) ≤ 4) = decide (n ≤ 4) := by rw [Bool.eq_iff_iff]; simp; omega
 have g7 : (lv == 0) = decide (lv = 0) := by rw [Bool.eq_iff_iff]; simp
 have g8 : decide ((0 : Int) < (n : Int)) = decide (0 < n) := by rw [Bool.eq_iff_iff]; simp
 clear HL
 generalize decide (n ≤ 4) = q6 at *
 generalize decide (lv = 0) = q7 at *
 generalize hq8 : decide (0 < n) = q8 at *
 go_enter Tryz.func57, Tryz.ntmps57
 go_wp2_with fail
 refine (LK.out _).mono ?_
 rintro e w1 ⟨rfl, b1⟩
 have d0 : w1.cell? ⟨w.heap.size, 0, none⟩ = some (.int .i64 lv) := (b1.cell (by simp)).trans (by simp)
 have d1 : w1.cell? ⟨w.heap.size, 1, none⟩ = some (.slice A n c) := (b1.cell (by simp)).trans (by simp)
 have d2 : w1.cell? ⟨w.heap.size, 2, none⟩ = some (.int .i64 hi) := (b1.cell (by simp)).trans (by simp)
 have d3 : w1.cell? ⟨w.heap.size, 3, none⟩ = some (.int .i64 ri) := (b1.cell (by simp)).trans (by simp)
 have d4 : w1.cell? ⟨w.heap.size, 4, none⟩ = some (.int .i64 ow) := (b1.cell (by simp)).trans (by simp)
 have hs : w.heap.size < w1.heap.size := by have := b1.size; simp at this; omega
 have B1 := Lib.hid (B0.out.trans (b1.mono (by simp)))
 clear b1
 cases k1
 · go_wp2
   go_ret
   exact ⟨rfl, B1.out⟩
 go_wp2_with fail
 refine (PK.out _ (HH.out.on B1.out)).mono ?_
 rintro e w2 ⟨rfl, b2⟩
 replace d0 := (b2.cell (p := ⟨w.heap.size, 0, none⟩) hs).trans d0
 replace d1 := (b2.cell (p := ⟨w.heap.size, 1, none⟩) hs).trans d1
 replace d2 := (b2.cell (p := ⟨w.heap.size, 2, none⟩) hs).trans d2
 replace d3 := (b2.cell (p := ⟨w.heap.size, 3, none⟩) hs).trans d3
 replace d4 := (b2.cell (p := ⟨w.heap.size, 4, none⟩) hs).trans d4
 have B2 := Lib.hid (B1.out.trans (b2.mono B1.out.size))
 clear b2
 cases p1
 · go_wp2
   go_ret
   exact ⟨rfl, B2.out⟩
 cases q6
 · go_wp2
   go_ret
   exact ⟨rfl, B2.out⟩
 cases q7
 · cases q8
   · go_wp2
     go_ret
     exact ⟨rfl, B2.out⟩
   · go_wp2_with fail
     refine (CK.out _ (HH.out.on B2.out)).mono ?_
     rintro e w3 ⟨rfl, b3⟩
     have B3 := Lib.hid (B2.out.trans (b3.mono B2.out.size))
     clear b3
     go_wp2
     go_ret
     exact ⟨ret_bool (by simp), B3.out⟩
 · go_wp2_with fail
   refine (CK.out _ (HH.out.on B2.out)).mono ?_
   rintro e w3 ⟨rfl, b3⟩
   have B3 := Lib.hid (B2.out.trans (b3.mono B2.out.size))
   clear b3
   go_wp2
   go_ret
   exact ⟨ret_bool (by simp), B3.out⟩

end Go.Proofs.YtpffkhjegpddbaaGreat
namespace Go.Proofs.YtpffkhjegpddbaaGreat
open Go.RowKit

theorem iHas_any (r : Int) (A : Option Addr) (n c : Nat) (x : Int) (w : World) (_hn : n ≤ 1048576) :
   Calls Tryz.prog 22 #[.agg #[.int .i64 r, jS A n c], .int .i64 x] w fun e w' => e = .returned (.bool (hasB n x)) ∧ Below w.heap.size w w' := by
 by_cases h1 : 0 ≤ x
 · have g1 : decide (0 ≤ x) = true := by simpa using h1
   go_enter Tryz.func22, Tryz.ntmps22
   go_wp2
   go_ret
   exact ⟨ret_bool (by unfold hasB inB; rw [Bool.eq_iff_iff]; simp; omega), (Below.refl _ _).alloc (Nat.le_refl _) _⟩
 · have g1 : decide (0 ≤ x) = false := by simpa using h1
   go_enter Tryz.func22, Tryz.ntmps22
   go_wp2
   go_ret
   exact ⟨ret_bool (by unfold hasB inB; symm; simp; omega), (Below.refl _ _).alloc (Nat.le_refl _) _⟩

theorem iLack_any (r : Int) (A : Option Addr) (n c : Nat) (p : Pr) (w : World) (hn : n ≤ 1048576) :
   Calls Tryz.prog 59 #[.agg #[.int .i64 r, jS A n c], .agg #[.int .i64 p.1, .int .i64 p.2]] w fun e w' => e = .returned (.bool (lackB n p)) ∧ Below w.heap.size w w' := by
 obtain ⟨k, v⟩ := p
 have hk := fun w => iHas_any r A n c v w hn
 unfold lackB
 simp only
 generalize hasB n v = q at *
 have HK := Lib.hid hk
 clear hk
 have B0 : Hid (Below w.heap.size w ((w.alloc (.cells #[.int .i64 r, jS A n c] 26)).alloc (.cells #[.int .i64 k, .int .i64 v] 68))) := Lib.hid (((Below.refl _ _).alloc (Nat.le_refl _) _).alloc (by simp) _)
 go_enter Tryz.func59, Tryz.ntmps59
 go_wp2_with fail
 refine (HK.out _).mono ?_
 rintro e w1 ⟨rfl, b1⟩
 have B1 := Lib.hid (B0.out.trans (b1.mono (by simp; omega)))
 clear b1
 go_wp2
 go_ret
 exact ⟨ret_bool (by simp), B1.out⟩

theorem iIdxK_any (r : Int) (A' : Option Addr) (n' c' : Nat) (hn' : n' ≤ 1048576) (A : Option Addr) (n c : Nat) (zs : List Pr) (w : World) (h : RP w w.heap.size A n zs) (hn : n ≤ 1048576) :
   Calls Tryz.prog 87 #[jS A n c, .func (.func 59) #[.agg #[.int .i64 r, jS A' n' c']] #[]] w fun e w' => e = .returned (.int .i64 (ixOf (lackB n') zs)) ∧ Below w.heap.size w w' := by
 have HL := Lib.hid h.1
 have HH := Lib.hid h
 clear h
 have RK := Lib.hid (fun (p : Pr) w => iLack_any r A' n' c' p w hn')
 have eg : ∀ args w, (callFunc 59 args).run Tryz.prog w = .ok (.enter 59 args) w := enters_of Tryz.func59 (by kernel_rfl) rfl
 have HX : Hid (∀ k, k < zs.length → lackB n' (zs.getD k (0, 0)) = true → (∀ j, j < k → lackB n' (zs.getD j (0, 0)) = false) → ixOf (lackB n') zs = k) := Lib.hid fun k hk h1 h2 => ixOf_at _ _ _ k hk h1 h2
 have HN : Hid ((∀ j, j < zs.length → lackB n' (zs.getD j (0, 0)) = false) → ixOf (lackB n') zs = -1) := Lib.hid fun h1 => ixOf_none _ _ _ h1
 generalize ixOf (lackB n') zs = R at *
 generalize lackB n' = q at *
 clear hn'
 generalize Value.agg #[.int .i64 r, jS A' n' c'] = xv at *
 go_enter Tryz.func87, Tryz.ntmps87
 go_wp2
 go_loopw [8] (fun i wr => ∃ k : Nat, i = .int .i64 k ∧ k ≤ n ∧ Hid (∀ j, j < k → q (zs.getD j (0, 0)) = false) ∧ Hid (Below w.heap.size w wr)) (fun i _ => n - (intOf i).toNat)
 case atStart => exact ⟨0, rfl, by omega, Lib.hid (by intro j hj; omega), Lib.hid (Below.refl _ _)⟩
 case round =>
   obtain ⟨k, rfl, hk, ho, hbw⟩ := hrel
   by_cases hlt : k < n
   · obtain ⟨b, off, rfl, hb, hc⟩ := HH.out.2 (by omega)
     have c1 := (hbw.out.cell (p := ⟨b, off + k * 2, none⟩) hb).trans (hc k hlt).1
     have c2 := (hbw.out.cell (p := ⟨b, off + k * 2 + 1, none⟩) hb).trans (hc k hlt).2
     clear hc
     have rk := RK.out (kAt zs k, vAt zs k) wr
     have e0 : (kAt zs k, vAt zs k) = zs.getD k (0, 0) := rfl
     rw [e0] at rk
     have F1 : Hid (q (zs.getD k (0, 0)) = true → R = k) := Lib.hid fun h => HX.out k (by have := HL.out; omega) h ho.out
     have F2 : Hid (q (zs.getD k (0, 0)) = false → ∀ j, j < k + 1 → q (zs.getD j (0, 0)) = false) := Lib.hid fun h j hj => by
       rcases Nat.lt_or_ge j k with h' | h'
       · exact ho.out j h'
       · obtain rfl : j = k := by omega
         exact h
     generalize q (zs.getD k (0, 0)) = qq at rk F1 F2
     change Calls Tryz.prog _ #[xv, .agg #[.int .i64 (kAt zs k), .int .i64 (vAt zs k)]] _ _ at rk
     clear e0
     cases qq
     · go_wp2_with (go_at_fn 59; refine rk.mono ?_; rintro e w2 ⟨rfl, b2⟩)
       go_roundw
       case rel => exact ⟨k + 1, by go_num, by omega, Lib.hid (F2.out (by trivial)), Lib.hid (hbw.out.trans (b2.mono hbw.out.size))⟩
       case measure => simp [intOf]; omega
     · go_wp2_with (go_at_fn 59; refine rk.mono ?_; rintro e w2 ⟨rfl, b2⟩)
       go_ret
       exact ⟨ret_int (F1.out (by trivial)).symm, hbw.out.trans (b2.mono hbw.out.size)⟩
   · go_wp2
     go_ret
     have hz : zs.length = n := HL.out
     exact ⟨ret_int (HN.out (fun j hj => ho.out j (by omega))).symm, hbw.out⟩

theorem iContK_any (r : Int) (A' : Option Addr) (n' c' : Nat) (hn' : n' ≤ 1048576) (A : Option Addr) (n c : Nat) (zs : List Pr) (w : World) (h : RP w w.heap.size A n zs) (hn : n ≤ 1048576) :
   Calls Tryz.prog 58 #[jS A n c, .func (.func 59) #[.agg #[.int .i64 r, jS A' n' c']] #[]] w fun e w' => e = .returned (.bool (zs.any (lackB n'))) ∧ Below w.heap.size w w' := by
 have ix := iIdxK_any r A' n' c' hn' A n c zs w h hn
 rw [← ixOf_any]
 clear h
 generalize ixOf (lackB n') zs = R at *
 generalize Value.agg #[.int .i64 r, jS A' n' c'] = xv at *
 go_enter Tryz.func58, Tryz.ntmps58
 go_wp2_with fail
 refine ix.mono ?_
 rintro e w1 ⟨rfl, b1⟩
 go_wp2
 go_ret
 exact ⟨rfl, b1⟩

theorem iRefT_any (r : Int) (A' : Option Addr) (n' c' : Nat) (hn' : n' ≤ 1048576) (x : Nd) (A : Option Addr) (n c : Nat) (w : World) (h : RP w w.heap.size A n x.ps) (hn : n ≤ 1048576) :
   Calls Tryz.prog 38 #[.agg #[.int .i64 r, jS A' n' c'], ndV x A n c] w fun e w' => e = .returned (.bool (refT n' x)) ∧ Below w.heap.size w w' := by
 have HH := Lib.hid h
 clear h
 have ok := fun w h => iok_any x A n c w h hn
 have hk := fun x w => iHas_any r A' n' c' x w hn'
 have ck := fun w h => iContK_any r A' n' c' hn' A n c x.ps w h hn
 unfold refT
 generalize nodeOk x = q1 at *
 generalize x.ps.any (lackB n') = q3 at *
 unfold ndV at *
 obtain ⟨lv, zs, hi, ri, ow⟩ := x
 simp only at *
 replace hk := hk ri
 generalize hasB n' ri = q2 at *
 have OK := Lib.hid ok
 have HK := Lib.hid hk
 have CK := Lib.hid ck
 clear ok hk ck
 obtain ⟨w0, hw0⟩ : ∃ w0, w0 = (w.alloc (.cells #[.int .i64 r, jS A' n' c'] 26)).alloc (.cells #[.int .i64 lv, jS A n c, .int .i64 hi, .int .i64 ri, .int .i64 ow] 53) := ⟨_, rfl⟩
 have b0 : Below w.heap.size w w0 := by rw [hw0]; exact ((Below.refl _ _).alloc (Nat.le_refl _) _).alloc (by simp) _
 have x0 : w0.heap[w.heap.size]? = some (.cells #[.int .i64 r, jS A' n' c'] 26 (0, 0)) := by
   rw [hw0, Below.heap_alloc _ _ _ (by simp)]; exact heap_alloc_new _ _
 have x1 : w0.heap[w.heap.size + 1]? = some (.cells #[.int .i64 lv, jS A n c, .int .i64 hi, .int .i64 ri, .int .i64 ow] 53 (0, 0)) := by
   have hz := heap_alloc_new (w.alloc (.cells #[.int .i64 r, jS A' n' c'] 26)) (.cells #[.int .i64 lv, jS A n c, .int .i64 hi, .int .i64 ri, .int .i64 ow] 53)
   rw [hw0]
   rwa [show (w.alloc (.cells #[.int .i64 r, jS A' n' c'] 26)).heap.size = w.heap.size + 1 from by simp] at hz
 have D : Hid (∀ wx, Below w0.heap.size w0 wx → wx.cell? ⟨w.heap.size, 0, none⟩ = some (.int .i64 r) ∧ wx.cell? ⟨w.heap.size, 1, none⟩ = some (.slice A' n' c') ∧ wx.cell? ⟨w.heap.size + 1, 0, none⟩ = some (.int .i64 lv) ∧ wx.cell? ⟨w.heap.size + 1, 1, none⟩ = some (.slice A n c) ∧ wx.cell? ⟨w.heap.size + 1, 3, none⟩ = some (.int .i64 ri)) :=
   Lib.hid (fun wx hb => ⟨by rw [cell_of_row _ _ 0 _ _ _ (box_on hb x0)]; rfl, by rw [cell_of_row _ _ 1 _ _ _ (box_on hb x0)]; rfl, by rw [cell_of_row _ _ 0 _ _ _ (box_on hb x1)]; rfl, by rw [cell_of_row _ _ 1 _ _ _ (box_on hb x1)]; rfl, by rw [cell_of_row _ _ 3 _ _ _ (box_on hb x1)]; rfl⟩)
 have B0 := Lib.hid b0
 have HW := Lib.hid hw0
 have H0 := Lib.hid (HH.out.on b0)
 clear hw0 b0 x0 x1
 go_enter Tryz.func38, Tryz.ntmps38
 go_wp2_with fail
 rw [← HW.out]
 refine (OK.out _ H0.out).mono ?_
 rintro e w1 ⟨rfl, b1⟩
 obtain ⟨d0, d1, d2, d3, d4⟩ := D.out _ b1
 have B1 := Lib.hid b1
 have H1 := Lib.hid (H0.out.on b1)
 clear b1
 cases q1
 · go_wp2
   go_ret
   exact ⟨ret_bool (by simp), B0.out.trans (B1.out.mono B0.out.size)⟩
 by_cases hr : ri = -1
 · have g1 : (ri != -1) = false := by simp [hr]
   have HR := Lib.hid hr
   clear hr
   by_cases hl : 0 < lv
   · have g2 : decide (0 < lv) = true := by simpa using hl
     go_wp2_with fail
     refine (CK.out _ H1.out).mono ?_
     rintro e w2 ⟨rfl, b2⟩
     have B2 := Lib.hid (B0.out.trans ((B1.out.trans (b2.mono B1.out.size)).mono B0.out.size))
     clear b2
     go_wp2
     go_ret
     exact ⟨ret_bool (by rw [g1, g2]; simp), B2.out⟩
   · have g2 : decide (0 < lv) = false := by simpa using hl
     go_wp2
     go_ret
     exact ⟨ret_bool (by rw [g1, g2]; simp), B0.out.trans (B1.out.mono B0.out.size)⟩
 · have g1 : (ri != -1) = true := by simpa using hr
   clear hr
   go_wp2_with fail
   refine (HK.out _).mono ?_
   rintro e w2 ⟨rfl, b2⟩
   have B2 := Lib.hid (B1.out.trans (b2.mono B1.out.size))
   have H2 := Lib.hid (H1.out.on b2)
   clear b2 d0 d1 d2 d3 d4
   obtain ⟨d0, d1, d2, d3, d4⟩ := D.out _ B2.out
   cases q2
   · go_wp2
     go_ret
     exact ⟨ret_bool (by rw [g1]; simp), B0.out.trans (B2.out.mono B0.out.size)⟩
   by_cases hl : 0 < lv
   · have g2 : decide (0 < lv) = true := by simpa using hl
     go_wp2_with fail
     refine (CK.out _ H2.out).mono ?_
     rintro e w3 ⟨rfl, b3⟩
     have B3 := Lib.hid (B0.out.trans ((B2.out.trans (b3.mono B2.out.size)).mono B0.out.size))
     clear b3
     go_wp2
     go_ret
     exact ⟨ret_bool (by rw [g1, g2]; simp), B3.out⟩
   · have g2 : decide (0 < lv) = false := by simpa using hl
     go_wp2
     go_ret
     exact ⟨ret_bool (by rw [g1, g2]; simp), B0.out.trans (B2.out.mono B0.out.size)⟩
end Go.Proofs.YtpffkhjegpddbaaGreat
namespace Go.Proofs.YtpffkhjegpddbaaGreat
open Go.RowKit

set_option maxHeartbeats 1000000 in
theorem iIdxT_any (r : Int) (A' : Option Addr) (n' c' : Nat) (hn' : n' ≤ 1048576) (A : Option Addr) (n c : Nat) (xs : List Nd) (w : World) (h : RS w w.heap.size A n xs) (hn : n ≤ 1048576) (hp : ∀ i, i < n → (ndAt xs i).ps.length ≤ 1048576) :
   Calls Tryz.prog 56 #[jS A n c, .func (.func 38) #[.agg #[.int .i64 r, jS A' n' c']] #[]] w fun e w' => e = .returned (.int .i64 (ixOf (refT n') xs)) ∧ Below w.heap.size w w' := by
 have HL := Lib.hid h.1
 have HH := Lib.hid h
 have HP := Lib.hid hp
 clear h hp
 have RK := Lib.hid (fun (x : Nd) A n c w (h : RP w w.heap.size A n x.ps) (hn : n ≤ 1048576) => iRefT_any r A' n' c' hn' x A n c w h hn)
 have eg : ∀ args w, (callFunc 38 args).run Tryz.prog w = .ok (.enter 38 args) w := enters_of Tryz.func38 (by kernel_rfl) rfl
 have HX : Hid (∀ k, k < xs.length → refT n' (ndAt xs k) = true → (∀ j, j < k → refT n' (ndAt xs j) = false) → ixOf (refT n') xs = k) := Lib.hid fun k hk h1 h2 => ixNd_at (refT n') xs k hk h1 h2
 have HN : Hid ((∀ j, j < xs.length → refT n' (ndAt xs j) = false) → ixOf (refT n') xs = -1) := Lib.hid fun h1 => ixNd_none (refT n') xs h1
 generalize ixOf (refT n') xs = R at *
 generalize refT n' = q at *
 clear hn'
 generalize Value.agg #[.int .i64 r, jS A' n' c'] = xv at *
 go_enter Tryz.func56, Tryz.ntmps56
 go_wp2
 go_loopw [8] (fun i wr => ∃ k : Nat, i = .int .i64 k ∧ k ≤ n ∧ Hid (∀ j, j < k → q (ndAt xs j) = false) ∧ Hid (Below w.heap.size w wr)) (fun i _ => n - (intOf i).toNat)
 case atStart => exact ⟨0, rfl, by omega, Lib.hid (by intro j hj; omega), Lib.hid (Below.refl _ _)⟩
 case round =>
   obtain ⟨k, rfl, hk, ho, hbw⟩ := hrel
   by_cases hlt : k < n
   · obtain ⟨b, off, rfl, hb, hc⟩ := HH.out.nd (by omega)
     obtain ⟨A2, n2, c2, k0, k1, k2, k3, k4, hR, _⟩ := (hc k hlt).keep (w' := wr) hb (fun p hp => hbw.out.cell hp)
     have hps := HP.out k hlt
     have hR2 : RP wr wr.heap.size A2 n2 (ndAt xs k).ps := hR.more hbw.out.size
     have rk := RK.out (ndAt xs k) A2 n2 c2 wr hR2 (by rw [← hR2.1]; exact hps)
     clear hc hR hR2 hps
     have F1 : Hid (q (ndAt xs k) = true → R = k) := Lib.hid fun h => HX.out k (by have := HL.out; omega) h ho.out
     have F2 : Hid (q (ndAt xs k) = false → ∀ j, j < k + 1 → q (ndAt xs j) = false) := Lib.hid fun h j hj => by
       rcases Nat.lt_or_ge j k with h' | h'
       · exact ho.out j h'
       · obtain rfl : j = k := by omega
         exact h
     generalize q (ndAt xs k) = qq at rk F1 F2
     unfold ndV at rk
     generalize (ndAt xs k).lv = e0 at *
     generalize (ndAt xs k).hi = e1 at *
     generalize (ndAt xs k).ri = e2 at *
     generalize (ndAt xs k).ow = e3 at *
     cases qq
     · go_wp2_with (go_at_fn 38; refine rk.mono ?_; rintro e w2 ⟨rfl, b2⟩)
       go_roundw
       case rel => exact ⟨k + 1, by go_num, by omega, Lib.hid (F2.out (by trivial)), Lib.hid (hbw.out.trans (b2.mono hbw.out.size))⟩
       case measure => simp [intOf]; omega
     · go_wp2_with (go_at_fn 38; refine rk.mono ?_; rintro e w2 ⟨rfl, b2⟩)
       go_ret
       exact ⟨ret_int (F1.out (by trivial)).symm, hbw.out.trans (b2.mono hbw.out.size)⟩
   · go_wp2
     go_ret
     have hz : xs.length = n := HL.out
     exact ⟨ret_int (HN.out (fun j hj => ho.out j (by omega))).symm, hbw.out⟩

theorem iContT_any (r : Int) (A' : Option Addr) (n' c' : Nat) (hn' : n' ≤ 1048576) (A : Option Addr) (n c : Nat) (xs : List Nd) (w : World) (h : RS w w.heap.size A n xs) (hn : n ≤ 1048576) (hp : ∀ i, i < n → (ndAt xs i).ps.length ≤ 1048576) :
   Calls Tryz.prog 37 #[jS A n c, .func (.func 38) #[.agg #[.int .i64 r, jS A' n' c']] #[]] w fun e w' => e = .returned (.bool (xs.any (refT n'))) ∧ Below w.heap.size w w' := by
 have ix := iIdxT_any r A' n' c' hn' A n c xs w h hn hp
 rw [← ixOf_any]
 clear h hp
 generalize ixOf (refT n') xs = R at *
 generalize Value.agg #[.int .i64 r, jS A' n' c'] = xv at *
 go_enter Tryz.func37, Tryz.ntmps37
 go_wp2_with fail
 refine ix.mono ?_
 rintro e w1 ⟨rfl, b1⟩
 go_wp2
 go_ret
 exact ⟨rfl, b1⟩

theorem itok_any (r : Int) (xs : List Nd) (A : Option Addr) (n c : Nat) (w : World) (h : RS w w.heap.size A n xs) (hs : Small.sm xs) :
   Calls Tryz.prog 19 #[.agg #[.int .i64 r, jS A n c]] w fun e w' => e = .returned (.bool (treeOk r xs)) ∧ Below w.heap.size w w' := by
 have hl := h.1
 have hn : n ≤ 1048576 := by rw [← hl]; exact hs.1
 rw [← okT_eq]
 unfold okT
 rw [hl]
 have hk := fun w => iHas_any r A n c r w hn
 have ck := fun w h => iContT_any r A n c hn A n c xs w h hn (by rw [← hl]; exact hs.2)
 generalize hasB n r = q2 at *
 generalize xs.any (refT n) = q3 at *
 obtain ⟨w0, hw0⟩ : ∃ w0, w0 = w.alloc (.cells #[.int .i64 r, jS A n c] 26) := ⟨_, rfl⟩
 have b0 : Below w.heap.size w w0 := by rw [hw0]; exact (Below.refl _ _).alloc (Nat.le_refl _) _
 have x0 : w0.heap[w.heap.size]? = some (.cells #[.int .i64 r, jS A n c] 26 (0, 0)) := by rw [hw0]; exact heap_alloc_new _ _
 have D : Hid (∀ wx, Below w0.heap.size w0 wx → wx.cell? ⟨w.heap.size, 0, none⟩ = some (.int .i64 r) ∧ wx.cell? ⟨w.heap.size, 1, none⟩ = some (.slice A n c)) :=
   Lib.hid (fun wx hb => ⟨by rw [cell_of_row _ _ 0 _ _ _ (box_on hb x0)]; rfl, by rw [cell_of_row _ _ 1 _ _ _ (box_on hb x0)]; rfl⟩)
 have H0 := Lib.hid (h.on b0)
 have B0 := Lib.hid b0
 have HW := Lib.hid hw0
 have HK := Lib.hid hk
 have CK := Lib.hid ck
 clear h hs hw0 b0 x0 hk ck hl
 have g6 : decide ((n : Int) ≤ 40) = decide (n ≤ 40) := by rw [Bool.eq_iff_iff]; simp; omega
 generalize decide (n ≤ 40) = q1 at *
 cases q1
 · go_enter Tryz.func19, Tryz.ntmps19
   go_wp2
   go_ret
   exact ⟨ret_bool (by simp), by rw [← HW.out]; exact B0.out⟩
 go_enter Tryz.func19, Tryz.ntmps19
 go_wp2_with fail
 rw [← HW.out]
 refine (HK.out _).mono ?_
 rintro e w1 ⟨rfl, b1⟩
 obtain ⟨d0, d1⟩ := D.out _ b1
 have B1 := Lib.hid b1
 have H1 := Lib.hid (H0.out.on b1)
 clear b1
 cases q2
 · go_wp2
   go_ret
   exact ⟨ret_bool (by simp), B0.out.trans (B1.out.mono B0.out.size)⟩
 go_wp2_with fail
 refine (CK.out _ H1.out).mono ?_
 rintro e w2 ⟨rfl, b2⟩
 have B2 := Lib.hid (B0.out.trans ((B1.out.trans (b2.mono B1.out.size)).mono B0.out.size))
 clear b2
 go_wp2
 go_ret
 exact ⟨ret_bool (by simp), B2.out⟩

end Go.Proofs.YtpffkhjegpddbaaGreat
namespace Go.Proofs.YtpffkhjegpddbaaGreat
open Go.RowKit

theorem lawI : Maps.Keyed Tryz.prog 2 := Maps.int_keyed Tryz.underlying2
theorem zeroI (w : World) : (zeroValue 2).run Tryz.prog w = .ok (.int .i64 0) w := by kernel_rfl
def Held (w : World) (b n : Nat) (o : Int → Int) : Prop := ∃ D : DU, w.ownsMap Tryz.prog 2 (plainElem Tryz.prog 2) b n D ∧ Keeps D o
theorem Held.on {w w' : World} {b n : Nat} {o : Int → Int} (h : Held w b n o) (hb : Below w.heap.size w w') : Held w' b n o := by
 obtain ⟨D, h1, h2⟩ := h
 exact ⟨D, h1.kept (grown_none hb) (by simp), h2⟩
theorem Held.same {w : World} {b n : Nat} {o o' : Int → Int} (h : Held w b n o) (e : ∀ x, o' x = o x) : Held w b n o' := by
 obtain ⟨D, h1, h2⟩ := h
 exact ⟨D, h1, h2.same e⟩
theorem wf_small {x : Int} (h0 : -1 ≤ x) (h1 : x ≤ 4194304) : (Lit.int .i64 x).wf = true := WalkArith.wf_i64 (by omega)

theorem keyI {x : Int} (h0 : -1 ≤ x) (h1 : x ≤ 4194304) : keyOf Tryz.prog 2 (.int .i64 x) = some (.int .i64 x) := Maps.keyOf_int_mk Tryz.underlying2 (wf_small h0 h1)

theorem itask_any (x : Int) (w : World) : Calls Tryz.prog 20 #[.int .i64 x] w fun e w' => e = .returned (.bool (inB x 0 5)) ∧ w = w' := by
 by_cases h1 : 0 ≤ x
 · have g1 : decide (0 ≤ x) = true := by simpa using h1
   go_enter Tryz.func20, Tryz.ntmps20
   go_wp2
   go_ret
   exact ⟨ret_bool (by unfold inB; rw [Bool.eq_iff_iff]; simp; omega), rfl⟩
 · have g1 : decide (0 ≤ x) = false := by simpa using h1
   go_enter Tryz.func20, Tryz.ntmps20
   go_wp2
   go_ret
   exact ⟨ret_bool (by unfold inB; symm; simp; omega), rfl⟩

set_option maxRecDepth 100000 in
theorem ilatches_any (r : Int) (xs : List Nd) (A : Option Addr) (n c : Nat) (w : World) (h : RS w w.heap.size A n xs) (hn : n ≤ 1048576) (hw : ∀ i, i < n → 0 ≤ (ndAt xs i).ow ∧ (ndAt xs i).ow ≤ 6) :
   Calls Tryz.prog 21 #[.agg #[.int .i64 r, jS A n c]] w fun e w' => e = .returned (.map (some (w.heap.size + 1))) ∧ Held w' (w.heap.size + 1) n (ownTo xs n) ∧ Below w.heap.size w w' := by
 obtain ⟨w0, hw0⟩ : ∃ w0, w0 = w.alloc (.cells #[.int .i64 r, jS A n c] 26) := ⟨_, rfl⟩
 have b0 : Below w.heap.size w w0 := by rw [hw0]; exact (Below.refl _ _).alloc (Nat.le_refl _) _
 have x0 : w0.heap[w.heap.size]? = some (.cells #[.int .i64 r, jS A n c] 26 (0, 0)) := by rw [hw0]; exact heap_alloc_new _ _
 have s0 : w0.heap.size = w.heap.size + 1 := by rw [hw0]; simp
 have d0 : ∀ wx, Below w0.heap.size w0 wx → wx.cell? ⟨w.heap.size, 0, none⟩ = some (.int .i64 r) ∧ wx.cell? ⟨w.heap.size, 1, none⟩ = some (.slice A n c) := fun wx hb => ⟨by rw [cell_of_row _ _ 0 _ _ _ (box_on hb x0)]; rfl, by rw [cell_of_row _ _ 1 _ _ _ (box_on hb x0)]; rfl⟩
 have D0 := Lib.hid d0
 have HH := Lib.hid (h.on b0)
 have B0 := Lib.hid b0
 have S0 := Lib.hid s0
 have HW := Lib.hid hw0
 have OW := Lib.hid hw
 have hmm := @run_makeMap Tryz.prog
 obtain ⟨w1, hw1⟩ : ∃ w1, w1 = w0.alloc (.map #[] 0) := ⟨_, rfl⟩
 have b1 : Below w0.heap.size w0 w1 := by rw [hw1]; exact (Below.refl _ _).alloc (Nat.le_refl _) _
 have m1 : Held w1 (w.heap.size + 1) 0 (ownTo xs 0) := by
   rw [← s0, hw1]
   exact ⟨_, World.ownsMap_made _ _ _ _, Keeps.empty.same (ownTo_zero xs)⟩
 have B1 := Lib.hid b1
 have M1 := Lib.hid m1
 have HW1 := Lib.hid hw1
 clear h hw hw0 b0 x0 s0 d0 hw1 b1 m1
 go_enter Tryz.func21, Tryz.ntmps21
 go_wp2
 rw [← HW.out, ← HW1.out]
 go_loopw [10] (fun i wr => ∃ k : Nat, i = .int .i64 k ∧ k ≤ n ∧ Hid (Held wr (w.heap.size + 1) k (ownTo xs k)) ∧ Hid (Below w0.heap.size w0 wr)) (fun i _ => n - (intOf i).toNat)
 case atStart => exact ⟨0, rfl, by omega, M1, B1⟩
 case round =>
   obtain ⟨k, rfl, hk, ho, hbw⟩ := hrel
   by_cases hlt : k < n
   · obtain ⟨b, off, rfl, hb, hc⟩ := HH.out.nd (by omega)
     obtain ⟨A2, n2, c2, c0, c1, c2', c3, c4, _, _⟩ := (hc k hlt).keep (w' := wr) hb (fun p hp => hbw.out.cell hp)
     have hy := OW.out k hlt
     have E1 : Hid ((ndAt xs k).ow = 0 → ∀ x, ownTo xs (k + 1) x = ownTo xs k x) := Lib.hid (ownTo_skip xs k)
     have E2 : Hid (∀ x, ownTo xs (k + 1) x = upd (ownTo xs k) k (ndAt xs k).ow x) := Lib.hid (ownTo_next xs k)
     generalize ndAt xs k = y at *
     clear hc
     obtain ⟨lv, zs, hi, ri, ow⟩ := y
     simp only at *
     obtain ⟨wb, hwb⟩ : ∃ wb, wb = wr.alloc (.cells #[.int .i64 lv, jS A2 n2 c2, .int .i64 hi, .int .i64 ri, .int .i64 ow] 53) := ⟨_, rfl⟩
     have bb : Below wr.heap.size wr wb := by rw [hwb]; exact (Below.refl _ _).alloc (Nat.le_refl _) _
     have OB := Lib.hid (ho.out.on bb)
     have BB := Lib.hid (bel_on hbw.out bb)
     have HB := Lib.hid hwb
     clear hwb bb
     by_cases hz : ow = 0
     · subst hz
       go_wp2
       rw [← HB.out]
       go_roundw
       case rel => exact ⟨k + 1, by go_num, by omega, Lib.hid (((OB.out.same (E1.out rfl))).imp fun D hD => ⟨hD.1.mono (Nat.le_succ _), hD.2⟩), BB⟩
       case measure => simp [intOf]; omega
     · have gz : (ow != 0) = true := by simpa using hz
       have HZ := Lib.hid hz
       clear hz
       obtain ⟨D, hown, hkeep⟩ := OB.out
       have KP := Lib.hid hkeep
       have ON := Lib.hid hown
       clear hown hkeep
       rw [HB.out] at ON
       go_wp2_with (at_mapUpdate; refine wpList_mapUpdate_own _ rfl _ _ _ 44 rfl 2 2 lawI Tryz.underlying44 _ (w.heap.size + 1) k _ rfl ON.out (by unfold maxLen; omega) _ _ _ rfl rfl (keyI (by omega) (by omega)) _ [] (plainElem_int Tryz.underlying2 (wf_small (by omega) (by omega))) ?_; intro w5 hown5 hgrow5; go_frame)
       have B5 := Lib.hid ((BB.out.grown (HB.out ▸ hgrow5) (by have := BB.out.size; omega) (fun j hj => by cases hj; have := S0.out; omega)) : Below w0.heap.size w0 w5)
       have O5 : Hid (Held w5 (w.heap.size + 1) (k + 1) (ownTo xs (k + 1))) := Lib.hid (Held.same ⟨_, hown5, KP.out.put _ _ HZ.out⟩ E2.out)
       clear hown5 hgrow5
       go_roundw
       case rel => exact ⟨k + 1, by go_num, by omega, O5, B5⟩
       case measure => simp [intOf]; omega
   · obtain rfl : k = n := by omega
     go_wp2
     go_ret
     exact ⟨rfl, ho.out, B0.out.trans (hbw.out.mono B0.out.size)⟩
end Go.Proofs.YtpffkhjegpddbaaGreat

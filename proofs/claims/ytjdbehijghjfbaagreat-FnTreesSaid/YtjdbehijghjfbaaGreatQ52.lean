/- The walks of the code's own NodeOk, Within and KidFor: the small ones. -/
import Derived.Test.YtjdbehijghjfbaaGreatQ04
import Derived.Shelf.Abstract
import Derived.Test.YtjdbehijghjfbaaGreatQ51
namespace Go.Proofs.YtjdbehijghjfbaaGreat
open Go.RowKit

theorem inum_is (x : Int) (w : World) :
    Calls Tryz.prog 114 #[.int .i64 x] w fun e w' => e = .returned (.bool (numB x)) ∧ w = w' := by
  by_cases h1 : 0 ≤ x
  · have g1 : decide (0 ≤ x) = true := by simpa using h1
    go_enter Tryz.func114, Tryz.ntmps114
    go_wp2
    go_ret
    exact ⟨ret_bool (by unfold numB inB; rw [Bool.eq_iff_iff]; simp; omega), rfl⟩
  · have g1 : decide (0 ≤ x) = false := by simpa using h1
    go_enter Tryz.func114, Tryz.ntmps114
    go_wp2
    go_ret
    exact ⟨ret_bool (by unfold numB inB; symm; simp; omega), rfl⟩

theorem iReach_any (x : Nd) (key : Int) (A : Option Addr) (n c : Nat) (w : World) :
    Calls Tryz.prog 117 #[ndV x A n c, .int .i64 key] w fun e w' => e = .returned (.bool (inside x key)) ∧ Below w.heap.size w w' := by
  obtain ⟨lv, zs, hi, ri, ow⟩ := x
  unfold ndV inside
  simp only
  by_cases h : hi = -1
  · have hb : (hi == -1) = true := by simpa using h
    have H := Lib.hid h
    clear h
    go_enter Tryz.func117, Tryz.ntmps117
    go_wp2
    go_ret
    exact ⟨ret_bool (by simp [H.out]), (Below.refl _ _).alloc (Nat.le_refl _) _⟩
  · have hb : (hi == -1) = false := by simpa using h
    have H := Lib.hid h
    clear h
    go_enter Tryz.func117, Tryz.ntmps117
    go_wp2
    go_ret
    exact ⟨ret_bool (by simp [H.out]), (Below.refl _ _).alloc (Nat.le_refl _) _⟩

def linkB (x : Nd) : Bool := if x.hi = -1 then decide (x.ri = -1) else inB x.hi 1 100 && numB x.ri
theorem iLink_any (x : Nd) (A : Option Addr) (n c : Nat) (w : World) :
    Calls Tryz.prog 97 #[ndV x A n c] w fun e w' => e = .returned (.bool (linkB x)) ∧ Below w.heap.size w w' := by
  obtain ⟨lv, zs, hi, ri, ow⟩ := x
  unfold ndV linkB
  simp only
  by_cases h : hi = -1
  · have hb : (hi == -1) = true := by simpa using h
    have H := Lib.hid h
    clear h
    go_enter Tryz.func97, Tryz.ntmps97
    go_wp2
    go_ret
    exact ⟨ret_bool (by rw [Bool.eq_iff_iff]; simp), (Below.refl _ _).alloc (Nat.le_refl _) _⟩
  · have hb : (hi == -1) = false := by simpa using h
    rw [if_neg h]
    clear h
    have nk := inum_is ri
    by_cases h1 : 1 ≤ hi
    · have g1 : decide (1 ≤ hi) = true := by simpa using h1
      by_cases h2 : hi ≤ 100
      · have g2 : decide (hi ≤ 100) = true := by simpa using h2
        have e1 : inB hi 1 100 = true := by unfold inB; simp; omega
        rw [e1]
        generalize numB ri = b at *
        clear h1 h2 e1
        go_enter Tryz.func97, Tryz.ntmps97
        go_wp2_with fail
        refine (nk _).mono ?_
        rintro e w1 ⟨rfl, rfl⟩
        go_wp2
        go_ret
        exact ⟨ret_bool (by simp), (Below.refl _ _).alloc (Nat.le_refl _) _⟩
      · have g2 : decide (hi ≤ 100) = false := by simpa using h2
        have e1 : inB hi 1 100 = false := by unfold inB; simp; omega
        rw [e1]
        clear h1 h2 e1 nk
        go_enter Tryz.func97, Tryz.ntmps97
        go_wp2
        go_ret
        exact ⟨ret_bool (by simp), (Below.refl _ _).alloc (Nat.le_refl _) _⟩
    · have g1 : decide (1 ≤ hi) = false := by simpa using h1
      have e1 : inB hi 1 100 = false := by unfold inB; simp; omega
      rw [e1]
      clear h1 e1 nk
      go_enter Tryz.func97, Tryz.ntmps97
      go_wp2
      go_ret
      exact ⟨ret_bool (by simp), (Below.refl _ _).alloc (Nat.le_refl _) _⟩

def refB (x : Nd) (p : Pr) : Bool := !inside x p.1 || (decide (0 < x.lv) && !numB p.2)
theorem iRef_any (x : Nd) (p : Pr) (A : Option Addr) (n c : Nat) (w : World) :
    Calls Tryz.prog 99 #[ndV x A n c, .agg #[.int .i64 p.1, .int .i64 p.2]] w fun e w' => e = .returned (.bool (refB x p)) ∧ Below w.heap.size w w' := by
  obtain ⟨k, v⟩ := p
  have nk := inum_is v
  have rk := fun w => iReach_any x k A n c w
  obtain ⟨lv, zs, hi, ri, ow⟩ := x
  unfold ndV refB at *
  simp only at *
  generalize numB v = nb at *
  generalize inside ⟨lv, zs, hi, ri, ow⟩ k = ib at *
  have NK := Lib.hid nk
  have RK := Lib.hid rk
  clear nk rk
  have a0 := (Below.refl w.heap.size w).alloc (Nat.le_refl _) (.cells #[.int .i64 lv, .slice A n c, .int .i64 hi, .int .i64 ri, .int .i64 ow] 38)
  have B0 := Lib.hid (a0.alloc a0.size (.cells #[.int .i64 k, .int .i64 v] 55))
  clear a0
  go_enter Tryz.func99, Tryz.ntmps99
  go_wp2_with fail
  refine (RK.out _).mono ?_
  rintro e w1 ⟨rfl, b1⟩
  have d0 : w1.cell? ⟨w.heap.size, 0, none⟩ = some (.int .i64 lv) := (b1.cell (by simp; omega)).trans (by simp)
  have d1 : w1.cell? ⟨w.heap.size + 1, 1, none⟩ = some (.int .i64 v) := (b1.cell (by simp)).trans (by simp)
  have B1 := Lib.hid (B0.out.trans (b1.mono (by simp; omega)))
  clear b1
  cases ib
  · go_wp2
    go_ret
    exact ⟨rfl, B1.out⟩
  · by_cases hl : 0 < lv
    · have hl2 : decide (0 < lv) = true := by simpa using hl
      go_wp2_with fail
      refine (NK.out _).mono ?_
      rintro e w2 ⟨rfl, rfl⟩
      go_wp2
      go_ret
      exact ⟨ret_bool (by rw [hl2]; simp), B1.out⟩
    · have hl2 : decide (0 < lv) = false := by simpa using hl
      go_wp2
      go_ret
      exact ⟨ret_bool (by rw [hl2]; simp), B1.out⟩

def refIx (x : Nd) (zs : List Pr) : Int := if zs.findIdx (refB x) < zs.length then (zs.findIdx (refB x) : Int) else -1
theorem refIx_of (x : Nd) (zs : List Pr) (k : Nat) (hk : k < zs.length) (h : refB x (kAt zs k, vAt zs k) = true) (hn : ∀ j, j < k → refB x (kAt zs j, vAt zs j) = false) : refIx x zs = k := by
  have e : zs.findIdx (refB x) = k := by
    rw [List.findIdx_eq hk]
    refine ⟨?_, fun j hj => ?_⟩
    · rw [kAt_eq _ _ hk, vAt_eq _ _ hk] at h; exact h
    · have := hn j hj
      rw [kAt_eq _ _ (by omega), vAt_eq _ _ (by omega)] at this
      simpa using this
  unfold refIx
  rw [e, if_pos hk]
theorem refIx_none (x : Nd) (zs : List Pr) (hn : ∀ j, j < zs.length → refB x (kAt zs j, vAt zs j) = false) : refIx x zs = -1 := by
  have e : zs.findIdx (refB x) = zs.length := by
    rw [List.findIdx_eq_length]
    intro p hp
    obtain ⟨j, hj, rfl⟩ := List.getElem_of_mem hp
    have := hn j hj
    rw [kAt_eq _ _ hj, vAt_eq _ _ hj] at this
    exact this
  unfold refIx
  rw [e, if_neg (by omega)]
theorem refIx_any (x : Nd) (zs : List Pr) : decide (0 ≤ refIx x zs) = zs.any (refB x) := by
  unfold refIx
  by_cases h : zs.findIdx (refB x) < zs.length
  · rw [if_pos h]
    have := List.findIdx_lt_length.1 h
    rw [List.any_eq_true.2 this]
    simp
  · rw [if_neg h]
    have h2 : zs.any (refB x) = false := by
      rw [List.any_eq_false]
      intro p hp hq
      exact h (List.findIdx_lt_length.2 ⟨p, hp, hq⟩)
    rw [h2]
    simp

theorem iIdxF_any (x : Nd) (A' : Option Addr) (n' c' : Nat) (A : Option Addr) (n c : Nat) (zs : List Pr) (w : World) (h : RP w w.heap.size A n zs) (hn : n ≤ 1048576) :
    Calls Tryz.prog 100 #[.slice A n c, .func (.func 99) #[ndV x A' n' c'] #[]] w fun e w' => e = .returned (.int .i64 (refIx x zs)) ∧ Below w.heap.size w w' := by
  have HL := Lib.hid h.1
  have HH := Lib.hid h
  clear h
  have RK := Lib.hid (fun (p : Pr) w => iRef_any x p A' n' c' w)
  have eg : ∀ args w, (callFunc 99 args).run Tryz.prog w = .ok (.enter 99 args) w := enters_of Tryz.func99 (by kernel_rfl) rfl
  generalize ndV x A' n' c' = xv at *
  go_enter Tryz.func100, Tryz.ntmps100
  go_wp2
  go_loopw [8] (fun i wr => ∃ k : Nat, i = .int .i64 k ∧ k ≤ n ∧ Hid (∀ j, j < k → refB x (kAt zs j, vAt zs j) = false) ∧ Hid (Below w.heap.size w wr)) (fun i _ => n - (intOf i).toNat)
  case atStart => exact ⟨0, rfl, by omega, Lib.hid (by intro j hj; omega), Lib.hid (Below.refl _ _)⟩
  case round =>
    obtain ⟨k, rfl, hk, ho, hbw⟩ := hrel
    by_cases hlt : k < n
    · obtain ⟨b, off, rfl, hb, hc⟩ := HH.out.2 (by omega)
      have c1 := (hbw.out.cell (p := ⟨b, off + k * 2, none⟩) hb).trans (hc k hlt).1
      have c2 := (hbw.out.cell (p := ⟨b, off + k * 2 + 1, none⟩) hb).trans (hc k hlt).2
      clear hc
      have rk := RK.out (kAt zs k, vAt zs k) wr
      simp only at rk
      have hz : Hid (refIx x zs = -1 ∨ True) := Lib.hid (.inr trivial)
      have F1 : Hid (refB x (kAt zs k, vAt zs k) = true → refIx x zs = k) := Lib.hid fun h => refIx_of x zs k (by have := HL.out; omega) h ho.out
      have F2 : Hid (refB x (kAt zs k, vAt zs k) = false → ∀ j, j < k + 1 → refB x (kAt zs j, vAt zs j) = false) := Lib.hid fun h j hj => by
        rcases Nat.lt_or_ge j k with h' | h'
        · exact ho.out j h'
        · obtain rfl : j = k := by omega
          exact h
      generalize hq : refB x (kAt zs k, vAt zs k) = q at rk F1 F2
      clear hq hz
      cases q
      · go_wp2_with (go_at_fn 99; refine rk.mono ?_; rintro e w2 ⟨rfl, b2⟩)
        go_roundw
        case rel => exact ⟨k + 1, by go_num, by omega, Lib.hid (F2.out (by trivial)), Lib.hid (hbw.out.trans (b2.mono hbw.out.size))⟩
        case measure => simp [intOf]; omega
      · go_wp2_with (go_at_fn 99; refine rk.mono ?_; rintro e w2 ⟨rfl, b2⟩)
        go_ret
        exact ⟨ret_int (F1.out (by trivial)).symm, hbw.out.trans (b2.mono hbw.out.size)⟩
    · go_wp2
      go_ret
      have hz : zs.length = n := HL.out
      exact ⟨ret_int (refIx_none x zs (fun j hj => ho.out j (by omega))).symm, hbw.out⟩
end Go.Proofs.YtjdbehijghjfbaaGreat
namespace Go.Proofs.YtjdbehijghjfbaaGreat
open Go.RowKit

theorem iContF_any (x : Nd) (A' : Option Addr) (n' c' : Nat) (A : Option Addr) (n c : Nat) (zs : List Pr) (w : World) (h : RP w w.heap.size A n zs) (hn : n ≤ 1048576) :
    Calls Tryz.prog 74 #[.slice A n c, .func (.func 99) #[ndV x A' n' c'] #[]] w fun e w' => e = .returned (.bool (zs.any (refB x))) ∧ Below w.heap.size w w' := by
  have ix := iIdxF_any x A' n' c' A n c zs w h hn
  rw [← refIx_any]
  clear h
  generalize refIx x zs = r at *
  generalize ndV x A' n' c' = xv at *
  go_enter Tryz.func74, Tryz.ntmps74
  go_wp2_with fail
  refine ix.mono ?_
  rintro e w1 ⟨rfl, b1⟩
  go_wp2
  go_ret
  exact ⟨rfl, b1⟩

def okB (x : Nd) : Bool :=
  inB x.lv 0 6 && (inB x.ow 0 6 && (linkB x && (pOk x.ps && (decide (x.ps.length ≤ 4) && ((decide (x.lv = 0) || decide (0 < x.ps.length)) && !x.ps.any (refB x))))))

theorem inside_all {x : Nd} (hp : pOk x.ps = true) : (∀ j, j < x.ps.length → inside x (kAt x.ps j) = true) ↔ (x.hi = -1 ∨ x.ps.length = 0 ∨ lastK x.ps < x.hi) := by
  have hr := pOk_rise hp
  unfold inside lastK
  simp only [Bool.or_eq_true, decide_eq_true_eq]
  refine ⟨fun h => ?_, fun h j hj => ?_⟩
  · by_cases h0 : x.ps.length = 0
    · exact .inr (.inl h0)
    · rcases h (x.ps.length - 1) (by omega) with h1 | h1
      · exact .inl h1
      · exact .inr (.inr h1)
  · rcases h with h | h | h
    · exact .inl h
    · omega
    · rcases Nat.lt_or_ge j (x.ps.length - 1) with h1 | h1
      · have := rise_lt hr (x.ps.length - 1) j h1 (by omega)
        exact .inr (by omega)
      · obtain rfl : j = x.ps.length - 1 := by omega
        exact .inr h

theorem any_refB (x : Nd) : x.ps.any (refB x) = false ↔ ∀ j, j < x.ps.length → (inside x (kAt x.ps j) = true ∧ (0 < x.lv → numB (vAt x.ps j) = true)) := by
  rw [List.any_eq_false]
  refine ⟨fun h j hj => ?_, fun h p hp => ?_⟩
  · have := h _ (List.getElem_mem hj)
    unfold refB at this
    rw [kAt_eq _ _ hj, vAt_eq _ _ hj]
    simp only [Bool.or_eq_true, Bool.not_eq_true', Bool.and_eq_true, decide_eq_true_eq, not_or, not_and, Bool.not_eq_false] at this
    exact this
  · obtain ⟨j, hj, rfl⟩ := List.getElem_of_mem hp
    have := h j hj
    rw [kAt_eq _ _ hj, vAt_eq _ _ hj] at this
    unfold refB
    simp only [Bool.or_eq_true, Bool.not_eq_true', Bool.and_eq_true, decide_eq_true_eq, not_or, not_and, Bool.not_eq_false]
    exact this

theorem okB_eq (x : Nd) : okB x = nodeOk x := by
  rw [Bool.eq_iff_iff]
  unfold okB nodeOk linkB
  simp only [Bool.and_eq_true, Bool.or_eq_true, decide_eq_true_eq, Bool.not_eq_true']
  by_cases hl : inB x.lv 0 6 = true
  · have hlv : 0 ≤ x.lv := by unfold inB at hl; simp at hl; exact hl.1
    by_cases hp : pOk x.ps = true
    · have hin := inside_all hp
      rw [any_refB, kidsB_iff]
      have hsplit : (∀ j, j < x.ps.length → (inside x (kAt x.ps j) = true ∧ (0 < x.lv → numB (vAt x.ps j) = true))) ↔ ((x.hi = -1 ∨ x.ps.length = 0 ∨ lastK x.ps < x.hi) ∧ (0 < x.lv → kidsTo x.ps x.ps.length)) := by
        rw [← hin]
        unfold kidsTo
        exact ⟨fun h => ⟨fun j hj => (h j hj).1, fun h0 j hj => (h j hj).2 h0⟩, fun h j hj => ⟨h.1 j hj, fun h0 => h.2 h0 j hj⟩⟩
      rw [hsplit]
      have e0 : (x.lv = 0) ↔ (x.lv ≤ 0) := by omega
      rw [e0]
      have e1 : 0 < x.lv ↔ ¬ x.lv ≤ 0 := by omega
      rw [e1]
      by_cases hh : x.hi = -1
      · simp only [hl, hp, hh, if_pos]
        simp
        by_cases h0 : x.lv ≤ 0 <;> simp [h0] <;> grind
      · simp only [hl, hp, hh]
        simp
        by_cases h0 : x.lv ≤ 0 <;> simp [h0] <;> grind
    · simp [hp]
  · simp [hl]

theorem iok_any (x : Nd) (A : Option Addr) (n c : Nat) (w : World) (h : RP w w.heap.size A n x.ps) (hn : n ≤ 1048576) :
    Calls Tryz.prog 73 #[ndV x A n c] w fun e w' => e = .returned (.bool (nodeOk x)) ∧ Below w.heap.size w w' := by
  rw [← okB_eq]
  have HL := h.1
  have HH := Lib.hid h
  clear h
  have lk := fun w => iLink_any x A n c w
  have pk : ∀ w, RP w w.heap.size A n x.ps → Calls Tryz.prog 98 #[.slice A n c] w fun e w' => e = .returned (.bool (pOk x.ps)) ∧ Below w.heap.size w w' := fun w hR => iOk_any A n c x.ps w hR hn
  have ck : ∀ w, RP w w.heap.size A n x.ps → Calls Tryz.prog 74 #[.slice A n c, .func (.func 99) #[ndV x A n c] #[]] w fun e w' => e = .returned (.bool (x.ps.any (refB x))) ∧ Below w.heap.size w w' := fun w hR => iContF_any x A n c A n c x.ps w hR hn
  unfold okB
  generalize x.ps.any (refB x) = a1 at *
  generalize pOk x.ps = p1 at *
  generalize linkB x = k1 at *
  unfold ndV at *
  obtain ⟨lv, zs, hi, ri, ow⟩ := x
  simp only at *
  have LK := Lib.hid lk
  have PK := Lib.hid pk
  have CK := Lib.hid ck
  clear lk pk ck
  rw [HL]
  have B0 : Hid (Below w.heap.size w (w.alloc (.cells #[.int .i64 lv, .slice A n c, .int .i64 hi, .int .i64 ri, .int .i64 ow] 38))) := Lib.hid ((Below.refl _ _).alloc (Nat.le_refl _) _)
  by_cases h1 : 0 ≤ lv
  rotate_left
  · have g1 : decide (0 ≤ lv) = false := by simpa using h1
    have e1 : inB lv 0 6 = false := by unfold inB; simp; omega
    rw [e1]
    clear h1 e1
    go_enter Tryz.func73, Tryz.ntmps73
    go_wp2
    go_ret
    exact ⟨rfl, B0.out⟩
  by_cases h2 : lv ≤ 6
  rotate_left
  · have g1 : decide (0 ≤ lv) = true := by simpa using h1
    have g2 : decide (lv ≤ 6) = false := by simpa using h2
    have e1 : inB lv 0 6 = false := by unfold inB; simp; omega
    rw [e1]
    clear h1 h2 e1
    go_enter Tryz.func73, Tryz.ntmps73
    go_wp2
    go_ret
    exact ⟨rfl, B0.out⟩
  have g1 : decide (0 ≤ lv) = true := by simpa using h1
  have g2 : decide (lv ≤ 6) = true := by simpa using h2
  have e1 : inB lv 0 6 = true := by unfold inB; simp; omega
  rw [e1]
  clear e1
  by_cases h3 : 0 ≤ ow
  rotate_left
  · have g3 : decide (0 ≤ ow) = false := by simpa using h3
    have e1 : inB ow 0 6 = false := by unfold inB; simp; omega
    rw [e1]
    clear h1 h2 h3 e1
    go_enter Tryz.func73, Tryz.ntmps73
    go_wp2
    go_ret
    exact ⟨rfl, B0.out⟩
  by_cases h4 : ow ≤ 6
  rotate_left
  · have g3 : decide (0 ≤ ow) = true := by simpa using h3
    have g4 : decide (ow ≤ 6) = false := by simpa using h4
    have e1 : inB ow 0 6 = false := by unfold inB; simp; omega
    rw [e1]
    clear h1 h2 h3 h4 e1
    go_enter Tryz.func73, Tryz.ntmps73
    go_wp2
    go_ret
    exact ⟨rfl, B0.out⟩
  have g3 : decide (0 ≤ ow) = true := by simpa using h3
  have g4 : decide (ow ≤ 6) = true := by simpa using h4
  have e1 : inB ow 0 6 = true := by unfold inB; simp; omega
  rw [e1]
  clear e1 h1 h2 h3 h4
  have g6 : decide ((n : Int) ≤ 4) = decide (n ≤ 4) := by rw [Bool.eq_iff_iff]; simp; omega
  have g7 : (lv == 0) = decide (lv = 0) := by rw [Bool.eq_iff_iff]; simp
  have g8 : decide ((0 : Int) < (n : Int)) = decide (0 < n) := by rw [Bool.eq_iff_iff]; simp
  clear HL
  generalize decide (n ≤ 4) = q6 at *
  generalize decide (lv = 0) = q7 at *
  generalize hq8 : decide (0 < n) = q8 at *
  go_enter Tryz.func73, Tryz.ntmps73
  go_wp2_with fail
  refine (LK.out _).mono ?_
  rintro e w1 ⟨rfl, b1⟩
  have d0 : w1.cell? ⟨w.heap.size, 0, none⟩ = some (.int .i64 lv) := (b1.cell (by simp)).trans (by simp)
  have d1 : w1.cell? ⟨w.heap.size, 1, none⟩ = some (.slice A n c) := (b1.cell (by simp)).trans (by simp)
  have d2 : w1.cell? ⟨w.heap.size, 2, none⟩ = some (.int .i64 hi) := (b1.cell (by simp)).trans (by simp)
  have d3 : w1.cell? ⟨w.heap.size, 3, none⟩ = some (.int .i64 ri) := (b1.cell (by simp)).trans (by simp)
  have d4 : w1.cell? ⟨w.heap.size, 4, none⟩ = some (.int .i64 ow) := (b1.cell (by simp)).trans (by simp)
  have hs : w.heap.size < w1.heap.size := by have := b1.size; simp at this; omega
  have B1 := Lib.hid (B0.out.trans (b1.mono (by simp)))
  clear b1
  cases k1
  · go_wp2
    go_ret
    exact ⟨rfl, B1.out⟩
  go_wp2_with fail
  refine (PK.out _ (HH.out.on B1.out)).mono ?_
  rintro e w2 ⟨rfl, b2⟩
  replace d0 := (b2.cell (p := ⟨w.heap.size, 0, none⟩) hs).trans d0
  replace d1 := (b2.cell (p := ⟨w.heap.size, 1, none⟩) hs).trans d1
  replace d2 := (b2.cell (p := ⟨w.heap.size, 2, none⟩) hs).trans d2
  replace d3 := (b2.cell (p := ⟨w.heap.size, 3, none⟩) hs).trans d3
  replace d4 := (b2.cell (p := ⟨w.heap.size, 4, none⟩) hs).trans d4
  have B2 := Lib.hid (B1.out.trans (b2.mono B1.out.size))
  clear b2
  cases p1
  · go_wp2
    go_ret
    exact ⟨rfl, B2.out⟩
  cases q6
  · go_wp2
    go_ret
    exact ⟨rfl, B2.out⟩
  cases q7
  · cases q8
    · go_wp2
      go_ret
      exact ⟨rfl, B2.out⟩
    · go_wp2_with fail
      refine (CK.out _ (HH.out.on B2.out)).mono ?_
      rintro e w3 ⟨rfl, b3⟩
      have B3 := Lib.hid (B2.out.trans (b3.mono B2.out.size))
      clear b3
      go_wp2
      go_ret
      exact ⟨ret_bool (by simp), B3.out⟩
  · go_wp2_with fail
    refine (CK.out _ (HH.out.on B2.out)).mono ?_
    rintro e w3 ⟨rfl, b3⟩
    have B3 := Lib.hid (B2.out.trans (b3.mono B2.out.size))
    clear b3
    go_wp2
    go_ret
    exact ⟨ret_bool (by simp), B3.out⟩

end Go.Proofs.YtjdbehijghjfbaaGreat
namespace Go.Proofs.YtjdbehijghjfbaaGreat
open Go.RowKit

theorem iHas_any (r : Int) (A : Option Addr) (n c : Nat) (x : Int) (w : World) (_hn : n ≤ 1048576) :
    Calls Tryz.prog 37 #[.agg #[.int .i64 r, .slice A n c], .int .i64 x] w fun e w' => e = .returned (.bool (hasB n x)) ∧ Below w.heap.size w w' := by
  by_cases h1 : 0 ≤ x
  · have g1 : decide (0 ≤ x) = true := by simpa using h1
    go_enter Tryz.func37, Tryz.ntmps37
    go_wp2
    go_ret
    exact ⟨ret_bool (by unfold hasB inB; rw [Bool.eq_iff_iff]; simp; omega), (Below.refl _ _).alloc (Nat.le_refl _) _⟩
  · have g1 : decide (0 ≤ x) = false := by simpa using h1
    go_enter Tryz.func37, Tryz.ntmps37
    go_wp2
    go_ret
    exact ⟨ret_bool (by unfold hasB inB; symm; simp; omega), (Below.refl _ _).alloc (Nat.le_refl _) _⟩

theorem iLack_any (r : Int) (A : Option Addr) (n c : Nat) (p : Pr) (w : World) (hn : n ≤ 1048576) :
    Calls Tryz.prog 75 #[.agg #[.int .i64 r, .slice A n c], .agg #[.int .i64 p.1, .int .i64 p.2]] w fun e w' => e = .returned (.bool (lackB n p)) ∧ Below w.heap.size w w' := by
  obtain ⟨k, v⟩ := p
  have hk := fun w => iHas_any r A n c v w hn
  unfold lackB
  simp only
  generalize hasB n v = q at *
  have HK := Lib.hid hk
  clear hk
  have B0 : Hid (Below w.heap.size w ((w.alloc (.cells #[.int .i64 r, .slice A n c] 26)).alloc (.cells #[.int .i64 k, .int .i64 v] 55))) := Lib.hid (((Below.refl _ _).alloc (Nat.le_refl _) _).alloc (by simp) _)
  go_enter Tryz.func75, Tryz.ntmps75
  go_wp2_with fail
  refine (HK.out _).mono ?_
  rintro e w1 ⟨rfl, b1⟩
  have B1 := Lib.hid (B0.out.trans (b1.mono (by simp; omega)))
  clear b1
  go_wp2
  go_ret
  exact ⟨ret_bool (by simp), B1.out⟩

theorem iIdxK_any (r : Int) (A' : Option Addr) (n' c' : Nat) (hn' : n' ≤ 1048576) (A : Option Addr) (n c : Nat) (zs : List Pr) (w : World) (h : RP w w.heap.size A n zs) (hn : n ≤ 1048576) :
    Calls Tryz.prog 100 #[.slice A n c, .func (.func 75) #[.agg #[.int .i64 r, .slice A' n' c']] #[]] w fun e w' => e = .returned (.int .i64 (ixOf (lackB n') zs)) ∧ Below w.heap.size w w' := by
  have HL := Lib.hid h.1
  have HH := Lib.hid h
  clear h
  have RK := Lib.hid (fun (p : Pr) w => iLack_any r A' n' c' p w hn')
  have eg : ∀ args w, (callFunc 75 args).run Tryz.prog w = .ok (.enter 75 args) w := enters_of Tryz.func75 (by kernel_rfl) rfl
  have HX : Hid (∀ k, k < zs.length → lackB n' (zs.getD k (0, 0)) = true → (∀ j, j < k → lackB n' (zs.getD j (0, 0)) = false) → ixOf (lackB n') zs = k) := Lib.hid fun k hk h1 h2 => ixOf_at _ _ _ k hk h1 h2
  have HN : Hid ((∀ j, j < zs.length → lackB n' (zs.getD j (0, 0)) = false) → ixOf (lackB n') zs = -1) := Lib.hid fun h1 => ixOf_none _ _ _ h1
  generalize ixOf (lackB n') zs = R at *
  generalize lackB n' = q at *
  clear hn'
  generalize Value.agg #[.int .i64 r, .slice A' n' c'] = xv at *
  go_enter Tryz.func100, Tryz.ntmps100
  go_wp2
  go_loopw [8] (fun i wr => ∃ k : Nat, i = .int .i64 k ∧ k ≤ n ∧ Hid (∀ j, j < k → q (zs.getD j (0, 0)) = false) ∧ Hid (Below w.heap.size w wr)) (fun i _ => n - (intOf i).toNat)
  case atStart => exact ⟨0, rfl, by omega, Lib.hid (by intro j hj; omega), Lib.hid (Below.refl _ _)⟩
  case round =>
    obtain ⟨k, rfl, hk, ho, hbw⟩ := hrel
    by_cases hlt : k < n
    · obtain ⟨b, off, rfl, hb, hc⟩ := HH.out.2 (by omega)
      have c1 := (hbw.out.cell (p := ⟨b, off + k * 2, none⟩) hb).trans (hc k hlt).1
      have c2 := (hbw.out.cell (p := ⟨b, off + k * 2 + 1, none⟩) hb).trans (hc k hlt).2
      clear hc
      have rk := RK.out (kAt zs k, vAt zs k) wr
      have e0 : (kAt zs k, vAt zs k) = zs.getD k (0, 0) := rfl
      rw [e0] at rk
      have F1 : Hid (q (zs.getD k (0, 0)) = true → R = k) := Lib.hid fun h => HX.out k (by have := HL.out; omega) h ho.out
      have F2 : Hid (q (zs.getD k (0, 0)) = false → ∀ j, j < k + 1 → q (zs.getD j (0, 0)) = false) := Lib.hid fun h j hj => by
        rcases Nat.lt_or_ge j k with h' | h'
        · exact ho.out j h'
        · obtain rfl : j = k := by omega
          exact h
      generalize q (zs.getD k (0, 0)) = qq at rk F1 F2
      change Calls Tryz.prog _ #[xv, .agg #[.int .i64 (kAt zs k), .int .i64 (vAt zs k)]] _ _ at rk
      clear e0
      cases qq
      · go_wp2_with (go_at_fn 75; refine rk.mono ?_; rintro e w2 ⟨rfl, b2⟩)
        go_roundw
        case rel => exact ⟨k + 1, by go_num, by omega, Lib.hid (F2.out (by trivial)), Lib.hid (hbw.out.trans (b2.mono hbw.out.size))⟩
        case measure => simp [intOf]; omega
      · go_wp2_with (go_at_fn 75; refine rk.mono ?_; rintro e w2 ⟨rfl, b2⟩)
        go_ret
        exact ⟨ret_int (F1.out (by trivial)).symm, hbw.out.trans (b2.mono hbw.out.size)⟩
    · go_wp2
      go_ret
      have hz : zs.length = n := HL.out
      exact ⟨ret_int (HN.out (fun j hj => ho.out j (by omega))).symm, hbw.out⟩

theorem iContK_any (r : Int) (A' : Option Addr) (n' c' : Nat) (hn' : n' ≤ 1048576) (A : Option Addr) (n c : Nat) (zs : List Pr) (w : World) (h : RP w w.heap.size A n zs) (hn : n ≤ 1048576) :
    Calls Tryz.prog 74 #[.slice A n c, .func (.func 75) #[.agg #[.int .i64 r, .slice A' n' c']] #[]] w fun e w' => e = .returned (.bool (zs.any (lackB n'))) ∧ Below w.heap.size w w' := by
  have ix := iIdxK_any r A' n' c' hn' A n c zs w h hn
  rw [← ixOf_any]
  clear h
  generalize ixOf (lackB n') zs = R at *
  generalize Value.agg #[.int .i64 r, .slice A' n' c'] = xv at *
  go_enter Tryz.func74, Tryz.ntmps74
  go_wp2_with fail
  refine ix.mono ?_
  rintro e w1 ⟨rfl, b1⟩
  go_wp2
  go_ret
  exact ⟨rfl, b1⟩

theorem iRefT_any (r : Int) (A' : Option Addr) (n' c' : Nat) (hn' : n' ≤ 1048576) (x : Nd) (A : Option Addr) (n c : Nat) (w : World) (h : RP w w.heap.size A n x.ps) (hn : n ≤ 1048576) :
    Calls Tryz.prog 50 #[.agg #[.int .i64 r, .slice A' n' c'], ndV x A n c] w fun e w' => e = .returned (.bool (refT n' x)) ∧ Below w.heap.size w w' := by
  have HH := Lib.hid h
  clear h
  have ok := fun w h => iok_any x A n c w h hn
  have hk := fun x w => iHas_any r A' n' c' x w hn'
  have ck := fun w h => iContK_any r A' n' c' hn' A n c x.ps w h hn
  unfold refT
  generalize nodeOk x = q1 at *
  generalize x.ps.any (lackB n') = q3 at *
  unfold ndV at *
  obtain ⟨lv, zs, hi, ri, ow⟩ := x
  simp only at *
  replace hk := hk ri
  generalize hasB n' ri = q2 at *
  have OK := Lib.hid ok
  have HK := Lib.hid hk
  have CK := Lib.hid ck
  clear ok hk ck
  obtain ⟨w0, hw0⟩ : ∃ w0, w0 = (w.alloc (.cells #[.int .i64 r, .slice A' n' c'] 26)).alloc (.cells #[.int .i64 lv, .slice A n c, .int .i64 hi, .int .i64 ri, .int .i64 ow] 38) := ⟨_, rfl⟩
  have b0 : Below w.heap.size w w0 := by rw [hw0]; exact ((Below.refl _ _).alloc (Nat.le_refl _) _).alloc (by simp) _
  have x0 : w0.heap[w.heap.size]? = some (.cells #[.int .i64 r, .slice A' n' c'] 26 (0, 0)) := by
    rw [hw0, Below.heap_alloc _ _ _ (by simp)]; exact heap_alloc_new _ _
  have x1 : w0.heap[w.heap.size + 1]? = some (.cells #[.int .i64 lv, .slice A n c, .int .i64 hi, .int .i64 ri, .int .i64 ow] 38 (0, 0)) := by
    have hz := heap_alloc_new (w.alloc (.cells #[.int .i64 r, .slice A' n' c'] 26)) (.cells #[.int .i64 lv, .slice A n c, .int .i64 hi, .int .i64 ri, .int .i64 ow] 38)
    rw [hw0]
    rwa [show (w.alloc (.cells #[.int .i64 r, .slice A' n' c'] 26)).heap.size = w.heap.size + 1 from by simp] at hz
  have D : Hid (∀ wx, Below w0.heap.size w0 wx → wx.cell? ⟨w.heap.size, 0, none⟩ = some (.int .i64 r) ∧ wx.cell? ⟨w.heap.size, 1, none⟩ = some (.slice A' n' c') ∧ wx.cell? ⟨w.heap.size + 1, 0, none⟩ = some (.int .i64 lv) ∧ wx.cell? ⟨w.heap.size + 1, 1, none⟩ = some (.slice A n c) ∧ wx.cell? ⟨w.heap.size + 1, 3, none⟩ = some (.int .i64 ri)) :=
    Lib.hid (fun wx hb => ⟨by rw [cell_of_row _ _ 0 _ _ _ (box_on hb x0)]; rfl, by rw [cell_of_row _ _ 1 _ _ _ (box_on hb x0)]; rfl, by rw [cell_of_row _ _ 0 _ _ _ (box_on hb x1)]; rfl, by rw [cell_of_row _ _ 1 _ _ _ (box_on hb x1)]; rfl, by rw [cell_of_row _ _ 3 _ _ _ (box_on hb x1)]; rfl⟩)
  have B0 := Lib.hid b0
  have HW := Lib.hid hw0
  have H0 := Lib.hid (HH.out.on b0)
  clear hw0 b0 x0 x1
  go_enter Tryz.func50, Tryz.ntmps50
  go_wp2_with fail
  rw [← HW.out]
  refine (OK.out _ H0.out).mono ?_
  rintro e w1 ⟨rfl, b1⟩
  obtain ⟨d0, d1, d2, d3, d4⟩ := D.out _ b1
  have B1 := Lib.hid b1
  have H1 := Lib.hid (H0.out.on b1)
  clear b1
  cases q1
  · go_wp2
    go_ret
    exact ⟨ret_bool (by simp), B0.out.trans (B1.out.mono B0.out.size)⟩
  by_cases hr : ri = -1
  · have g1 : (ri != -1) = false := by simp [hr]
    have HR := Lib.hid hr
    clear hr
    by_cases hl : 0 < lv
    · have g2 : decide (0 < lv) = true := by simpa using hl
      go_wp2_with fail
      refine (CK.out _ H1.out).mono ?_
      rintro e w2 ⟨rfl, b2⟩
      have B2 := Lib.hid (B0.out.trans ((B1.out.trans (b2.mono B1.out.size)).mono B0.out.size))
      clear b2
      go_wp2
      go_ret
      exact ⟨ret_bool (by rw [g1, g2]; simp), B2.out⟩
    · have g2 : decide (0 < lv) = false := by simpa using hl
      go_wp2
      go_ret
      exact ⟨ret_bool (by rw [g1, g2]; simp), B0.out.trans (B1.out.mono B0.out.size)⟩
  · have g1 : (ri != -1) = true := by simpa using hr
    clear hr
    go_wp2_with fail
    refine (HK.out _).mono ?_
    rintro e w2 ⟨rfl, b2⟩
    have B2 := Lib.hid (B1.out.trans (b2.mono B1.out.size))
    have H2 := Lib.hid (H1.out.on b2)
    clear b2 d0 d1 d2 d3 d4
    obtain ⟨d0, d1, d2, d3, d4⟩ := D.out _ B2.out
    cases q2
    · go_wp2
      go_ret
      exact ⟨ret_bool (by rw [g1]; simp), B0.out.trans (B2.out.mono B0.out.size)⟩
    by_cases hl : 0 < lv
    · have g2 : decide (0 < lv) = true := by simpa using hl
      go_wp2_with fail
      refine (CK.out _ H2.out).mono ?_
      rintro e w3 ⟨rfl, b3⟩
      have B3 := Lib.hid (B0.out.trans ((B2.out.trans (b3.mono B2.out.size)).mono B0.out.size))
      clear b3
      go_wp2
      go_ret
      exact ⟨ret_bool (by rw [g1, g2]; simp), B3.out⟩
    · have g2 : decide (0 < lv) = false := by simpa using hl
      go_wp2
      go_ret
      exact ⟨ret_bool (by rw [g1, g2]; simp), B0.out.trans (B2.out.mono B0.out.size)⟩
end Go.Proofs.YtjdbehijghjfbaaGreat

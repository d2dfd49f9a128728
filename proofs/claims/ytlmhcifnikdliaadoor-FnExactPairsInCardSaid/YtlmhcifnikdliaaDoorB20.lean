/- The walks of the code's own NodeOk, Within and KidFor: the small ones. -/
import Derived.Test.YtlmhcifnikdliaaDoorB06
import Derived.Shelf.Abstract
namespace Go.Proofs.YtlmhcifnikdliaaDoor
open Go.RowKit

theorem inum_is (x : Int) (w : World) :
    Calls Tryd.prog 82 #[.int .i64 x] w fun e w' => e = .returned (.bool (numB x)) ∧ w = w' := by
  by_cases h1 : 0 ≤ x
  · have g1 : decide (0 ≤ x) = true := by simpa using h1
    go_enter Tryd.func82, Tryd.ntmps82
    go_wp2
    go_ret
    exact ⟨ret_bool (by unfold numB inB; rw [Bool.eq_iff_iff]; simp; omega), rfl⟩
  · have g1 : decide (0 ≤ x) = false := by simpa using h1
    go_enter Tryd.func82, Tryd.ntmps82
    go_wp2
    go_ret
    exact ⟨ret_bool (by unfold numB inB; symm; simp; omega), rfl⟩

theorem iReach_any (x : Nd) (key : Int) (A : Option Addr) (n c : Nat) (w : World) :
    Calls Tryd.prog 85 #[ndV x A n c, .int .i64 key] w fun e w' => e = .returned (.bool (inside x key)) ∧ Below w.heap.size w w' := by
  obtain ⟨lv, zs, hi, ri, ow⟩ := x
  unfold ndV inside
  simp only
  by_cases h : hi = -1
  · have hb : (hi == -1) = true := by simpa using h
    have H := Lib.hid h
    clear h
    go_enter Tryd.func85, Tryd.ntmps85
    go_wp2
    go_ret
    exact ⟨ret_bool (by simp [H.out]), (Below.refl _ _).alloc (Nat.le_refl _) _⟩
  · have hb : (hi == -1) = false := by simpa using h
    have H := Lib.hid h
    clear h
    go_enter Tryd.func85, Tryd.ntmps85
    go_wp2
    go_ret
    exact ⟨ret_bool (by simp [H.out]), (Below.refl _ _).alloc (Nat.le_refl _) _⟩

def linkB (x : Nd) : Bool := if x.hi = -1 then decide (x.ri = -1) else inB x.hi 1 100 && numB x.ri
theorem iLink_any (x : Nd) (A : Option Addr) (n c : Nat) (w : World) :
    Calls Tryd.prog 78 #[ndV x A n c] w fun e w' => e = .returned (.bool (linkB x)) ∧ Below w.heap.size w w' := by
  obtain ⟨lv, zs, hi, ri, ow⟩ := x
  unfold ndV linkB
  simp only
  by_cases h : hi = -1
  · have hb : (hi == -1) = true := by simpa using h
    have H := Lib.hid h
    clear h
    go_enter Tryd.func78, Tryd.ntmps78
    go_wp2
    go_ret
    exact ⟨ret_bool (by rw [Bool.eq_iff_iff]; simp), (Below.refl _ _).alloc (Nat.le_refl _) _⟩
  · have hb : (hi == -1) = false := by simpa using h
    rw [if_neg h]
    clear h
    have nk := inum_is ri
    by_cases h1 : 1 ≤ hi
    · have g1 : decide (1 ≤ hi) = true := by simpa using h1
      by_cases h2 : hi ≤ 100
      · have g2 : decide (hi ≤ 100) = true := by simpa using h2
        have e1 : inB hi 1 100 = true := by unfold inB; simp; omega
        rw [e1]
        generalize numB ri = b at *
        clear h1 h2 e1
        go_enter Tryd.func78, Tryd.ntmps78
        go_wp2_with fail
        refine (nk _).mono ?_
        rintro e w1 ⟨rfl, rfl⟩
        go_wp2
        go_ret
        exact ⟨ret_bool (by simp), (Below.refl _ _).alloc (Nat.le_refl _) _⟩
      · have g2 : decide (hi ≤ 100) = false := by simpa using h2
        have e1 : inB hi 1 100 = false := by unfold inB; simp; omega
        rw [e1]
        clear h1 h2 e1 nk
        go_enter Tryd.func78, Tryd.ntmps78
        go_wp2
        go_ret
        exact ⟨ret_bool (by simp), (Below.refl _ _).alloc (Nat.le_refl _) _⟩
    · have g1 : decide (1 ≤ hi) = false := by simpa using h1
      have e1 : inB hi 1 100 = false := by unfold inB; simp; omega
      rw [e1]
      clear h1 e1 nk
      go_enter Tryd.func78, Tryd.ntmps78
      go_wp2
      go_ret
      exact ⟨ret_bool (by simp), (Below.refl _ _).alloc (Nat.le_refl _) _⟩

def refB (x : Nd) (p : Pr) : Bool := !inside x p.1 || (decide (0 < x.lv) && !numB p.2)
theorem iRef_any (x : Nd) (p : Pr) (A : Option Addr) (n c : Nat) (w : World) :
    Calls Tryd.prog 80 #[ndV x A n c, .agg #[.int .i64 p.1, .int .i64 p.2]] w fun e w' => e = .returned (.bool (refB x p)) ∧ Below w.heap.size w w' := by
  obtain ⟨k, v⟩ := p
  have nk := inum_is v
  have rk := fun w => iReach_any x k A n c w
  obtain ⟨lv, zs, hi, ri, ow⟩ := x
  unfold ndV refB at *
  simp only at *
  generalize numB v = nb at *
  generalize inside ⟨lv, zs, hi, ri, ow⟩ k = ib at *
  have NK := Lib.hid nk
  have RK := Lib.hid rk
  clear nk rk
  have a0 := (Below.refl w.heap.size w).alloc (Nat.le_refl _) (.cells #[.int .i64 lv, .slice A n c, .int .i64 hi, .int .i64 ri, .int .i64 ow] 40)
  have B0 := Lib.hid (a0.alloc a0.size (.cells #[.int .i64 k, .int .i64 v] 53))
  clear a0
  go_enter Tryd.func80, Tryd.ntmps80
  go_wp2_with fail
  refine (RK.out _).mono ?_
  rintro e w1 ⟨rfl, b1⟩
  have d0 : w1.cell? ⟨w.heap.size, 0, none⟩ = some (.int .i64 lv) := (b1.cell (by simp; omega)).trans (by simp)
  have d1 : w1.cell? ⟨w.heap.size + 1, 1, none⟩ = some (.int .i64 v) := (b1.cell (by simp)).trans (by simp)
  have B1 := Lib.hid (B0.out.trans (b1.mono (by simp; omega)))
  clear b1
  cases ib
  · go_wp2
    go_ret
    exact ⟨rfl, B1.out⟩
  · by_cases hl : 0 < lv
    · have hl2 : decide (0 < lv) = true := by simpa using hl
      go_wp2_with fail
      refine (NK.out _).mono ?_
      rintro e w2 ⟨rfl, rfl⟩
      go_wp2
      go_ret
      exact ⟨ret_bool (by rw [hl2]; simp), B1.out⟩
    · have hl2 : decide (0 < lv) = false := by simpa using hl
      go_wp2
      go_ret
      exact ⟨ret_bool (by rw [hl2]; simp), B1.out⟩

def refIx (x : Nd) (zs : List Pr) : Int := if zs.findIdx (refB x) < zs.length then (zs.findIdx (refB x) : Int) else -1
theorem refIx_of (x : Nd) (zs : List Pr) (k : Nat) (hk : k < zs.length) (h : refB x (kAt zs k, vAt zs k) = true) (hn : ∀ j, j < k → refB x (kAt zs j, vAt zs j) = false) : refIx x zs = k := by
  have e : zs.findIdx (refB x) = k := by
    rw [List.findIdx_eq hk]
    refine ⟨?_, fun j hj => ?_⟩
    · rw [kAt_eq _ _ hk, vAt_eq _ _ hk] at h; exact h
    · have := hn j hj
      rw [kAt_eq _ _ (by omega), vAt_eq _ _ (by omega)] at this
      simpa using this
  unfold refIx
  rw [e, if_pos hk]
theorem refIx_none (x : Nd) (zs : List Pr) (hn : ∀ j, j < zs.length → refB x (kAt zs j, vAt zs j) = false) : refIx x zs = -1 := by
  have e : zs.findIdx (refB x) = zs.length := by
    rw [List.findIdx_eq_length]
    intro p hp
    obtain ⟨j, hj, rfl⟩ := List.getElem_of_mem hp
    have := hn j hj
    rw [kAt_eq _ _ hj, vAt_eq _ _ hj] at this
    exact this
  unfold refIx
  rw [e, if_neg (by omega)]
theorem refIx_any (x : Nd) (zs : List Pr) : decide (0 ≤ refIx x zs) = zs.any (refB x) := by
  unfold refIx
  by_cases h : zs.findIdx (refB x) < zs.length
  · rw [if_pos h]
    have := List.findIdx_lt_length.1 h
    rw [List.any_eq_true.2 this]
    simp
  · rw [if_neg h]
    have h2 : zs.any (refB x) = false := by
      rw [List.any_eq_false]
      intro p hp hq
      exact h (List.findIdx_lt_length.2 ⟨p, hp, hq⟩)
    rw [h2]
    simp

theorem iIdxF_any (x : Nd) (A' : Option Addr) (n' c' : Nat) (A : Option Addr) (n c : Nat) (zs : List Pr) (w : World) (h : RP w w.heap.size A n zs) (hn : n ≤ 1048576) :
    Calls Tryd.prog 81 #[.slice A n c, .func (.func 80) #[ndV x A' n' c'] #[]] w fun e w' => e = .returned (.int .i64 (refIx x zs)) ∧ Below w.heap.size w w' := by
  have HL := Lib.hid h.1
  have HH := Lib.hid h
  clear h
  have RK := Lib.hid (fun (p : Pr) w => iRef_any x p A' n' c' w)
  have eg : ∀ args w, (callFunc 80 args).run Tryd.prog w = .ok (.enter 80 args) w := enters_of Tryd.func80 (by kernel_rfl) rfl
  generalize ndV x A' n' c' = xv at *
  go_enter Tryd.func81, Tryd.ntmps81
  go_wp2
  go_loopw [8] (fun i wr => ∃ k : Nat, i = .int .i64 k ∧ k ≤ n ∧ Hid (∀ j, j < k → refB x (kAt zs j, vAt zs j) = false) ∧ Hid (Below w.heap.size w wr)) (fun i _ => n - (intOf i).toNat)
  case atStart => exact ⟨0, rfl, by omega, Lib.hid (by intro j hj; omega), Lib.hid (Below.refl _ _)⟩
  case round =>
    obtain ⟨k, rfl, hk, ho, hbw⟩ := hrel
    by_cases hlt : k < n
    · obtain ⟨b, off, rfl, hb, hc⟩ := HH.out.2 (by omega)
      have c1 := (hbw.out.cell (p := ⟨b, off + k * 2, none⟩) hb).trans (hc k hlt).1
      have c2 := (hbw.out.cell (p := ⟨b, off + k * 2 + 1, none⟩) hb).trans (hc k hlt).2
      clear hc
      have rk := RK.out (kAt zs k, vAt zs k) wr
      simp only at rk
      have hz : Hid (refIx x zs = -1 ∨ True) := Lib.hid (.inr trivial)
      have F1 : Hid (refB x (kAt zs k, vAt zs k) = true → refIx x zs = k) := Lib.hid fun h => refIx_of x zs k (by have := HL.out; omega) h ho.out
      have F2 : Hid (refB x (kAt zs k, vAt zs k) = false → ∀ j, j < k + 1 → refB x (kAt zs j, vAt zs j) = false) := Lib.hid fun h j hj => by
        rcases Nat.lt_or_ge j k with h' | h'
        · exact ho.out j h'
        · obtain rfl : j = k := by omega
          exact h
      generalize hq : refB x (kAt zs k, vAt zs k) = q at rk F1 F2
      clear hq hz
      cases q
      · go_wp2_with (go_at_fn 80; refine rk.mono ?_; rintro e w2 ⟨rfl, b2⟩)
        go_roundw
        case rel => exact ⟨k + 1, by go_num, by omega, Lib.hid (F2.out (by trivial)), Lib.hid (hbw.out.trans (b2.mono hbw.out.size))⟩
        case measure => simp [intOf]; omega
      · go_wp2_with (go_at_fn 80; refine rk.mono ?_; rintro e w2 ⟨rfl, b2⟩)
        go_ret
        exact ⟨ret_int (F1.out (by trivial)).symm, hbw.out.trans (b2.mono hbw.out.size)⟩
    · go_wp2
      go_ret
      have hz : zs.length = n := HL.out
      exact ⟨ret_int (refIx_none x zs (fun j hj => ho.out j (by omega))).symm, hbw.out⟩
end Go.Proofs.YtlmhcifnikdliaaDoor

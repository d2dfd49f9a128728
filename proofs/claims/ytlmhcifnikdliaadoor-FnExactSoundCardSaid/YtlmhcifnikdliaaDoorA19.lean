/- The code's own NodeOk, Within and KidFor: what they answer. -/
import Derived.Test.YtlmhcifnikdliaaDoorA18
import Derived.Test.YtlmhcifnikdliaaDoorA06
namespace Go.Proofs.YtlmhcifnikdliaaDoor
open Go.RowKit

theorem iContF_any (x : Nd) (A' : Option Addr) (n' c' : Nat) (A : Option Addr) (n c : Nat) (zs : List Pr) (w : World) (h : RP w w.heap.size A n zs) (hn : n ≤ 1048576) :
    Calls Tryd.prog 72 #[.slice A n c, .func (.func 80) #[ndV x A' n' c'] #[]] w fun e w' => e = .returned (.bool (zs.any (refB x))) ∧ Below w.heap.size w w' := by
  have ix := iIdxF_any x A' n' c' A n c zs w h hn
  rw [← refIx_any]
  clear h
  generalize refIx x zs = r at *
  generalize ndV x A' n' c' = xv at *
  go_enter Tryd.func72, Tryd.ntmps72
  go_wp2_with fail
  refine ix.mono ?_
  rintro e w1 ⟨rfl, b1⟩
  go_wp2
  go_ret
  exact ⟨rfl, b1⟩

def okB (x : Nd) : Bool :=
  inB x.lv 0 6 && (inB x.ow 0 6 && (linkB x && (pOk x.ps && (decide (x.ps.length ≤ 4) && ((decide (x.lv = 0) || decide (0 < x.ps.length)) && !x.ps.any (refB x))))))

theorem inside_all {x : Nd} (hp : pOk x.ps = true) : (∀ j, j < x.ps.length → inside x (kAt x.ps j) = true) ↔ (x.hi = -1 ∨ x.ps.length = 0 ∨ lastK x.ps < x.hi) := by
  have hr := pOk_rise hp
  unfold inside lastK
  simp only [Bool.or_eq_true, decide_eq_true_eq]
  refine ⟨fun h => ?_, fun h j hj => ?_⟩
  · by_cases h0 : x.ps.length = 0
    · exact .inr (.inl h0)
    · rcases h (x.ps.length - 1) (by omega) with h1 | h1
      · exact .inl h1
      · exact .inr (.inr h1)
  · rcases h with h | h | h
    · exact .inl h
    · omega
    · rcases Nat.lt_or_ge j (x.ps.length - 1) with h1 | h1
      · have := rise_lt hr (x.ps.length - 1) j h1 (by omega)
        exact .inr (by omega)
      · obtain rfl : j = x.ps.length - 1 := by omega
        exact .inr h

theorem any_refB (x : Nd) : x.ps.any (refB x) = false ↔ ∀ j, j < x.ps.length → (inside x (kAt x.ps j) = true ∧ (0 < x.lv → numB (vAt x.ps j) = true)) := by
  rw [List.any_eq_false]
  refine ⟨fun h j hj => ?_, fun h p hp => ?_⟩
  · have := h _ (List.getElem_mem hj)
    unfold refB at this
    rw [kAt_eq _ _ hj, vAt_eq _ _ hj]
    simp only [Bool.or_eq_true, Bool.not_eq_true', Bool.and_eq_true, decide_eq_true_eq, not_or, not_and, Bool.not_eq_false] at this
    exact this
  · obtain ⟨j, hj, rfl⟩ := List.getElem_of_mem hp
    have := h j hj
    rw [kAt_eq _ _ hj, vAt_eq _ _ hj] at this
    unfold refB
    simp only [Bool.or_eq_true, Bool.not_eq_true', Bool.and_eq_true, decide_eq_true_eq, not_or, not_and, Bool.not_eq_false]
    exact this

theorem okB_eq (x : Nd) : okB x = nodeOk x := by
  rw [Bool.eq_iff_iff]
  unfold okB nodeOk linkB
  simp only [Bool.and_eq_true, Bool.or_eq_true, decide_eq_true_eq, Bool.not_eq_true']
  by_cases hl : inB x.lv 0 6 = true
  · have hlv : 0 ≤ x.lv := by unfold inB at hl; simp at hl; exact hl.1
    by_cases hp : pOk x.ps = true
    · have hin := inside_all hp
      rw [any_refB, kidsB_iff]
      have hsplit : (∀ j, j < x.ps.length → (inside x (kAt x.ps j) = true ∧ (0 < x.lv → numB (vAt x.ps j) = true))) ↔ ((x.hi = -1 ∨ x.ps.length = 0 ∨ lastK x.ps < x.hi) ∧ (0 < x.lv → kidsTo x.ps x.ps.length)) := by
        rw [← hin]
        unfold kidsTo
        exact ⟨fun h => ⟨fun j hj => (h j hj).1, fun h0 j hj => (h j hj).2 h0⟩, fun h j hj => ⟨h.1 j hj, fun h0 => h.2 h0 j hj⟩⟩
      rw [hsplit]
      have e0 : (x.lv = 0) ↔ (x.lv ≤ 0) := by omega
      rw [e0]
      have e1 : 0 < x.lv ↔ ¬ x.lv ≤ 0 := by omega
      rw [e1]
      by_cases hh : x.hi = -1
      · simp only [hl, hp, hh, if_pos]
        simp
        by_cases h0 : x.lv ≤ 0 <;> simp [h0] <;> grind
      · simp only [hl, hp, hh]
        simp
        by_cases h0 : x.lv ≤ 0 <;> simp [h0] <;> grind
    · simp [hp]
  · simp [hl]

theorem iok_any (x : Nd) (A : Option Addr) (n c : Nat) (w : World) (h : RP w w.heap.size A n x.ps) (hn : n ≤ 1048576) :
    Calls Tryd.prog 71 #[ndV x A n c] w fun e w' => e = .returned (.bool (nodeOk x)) ∧ Below w.heap.size w w' := by
  rw [← okB_eq]
  have HL := h.1
  have HH := Lib.hid h
  clear h
  have lk := fun w => iLink_any x A n c w
  have pk : ∀ w, RP w w.heap.size A n x.ps → Calls Tryd.prog 79 #[.slice A n c] w fun e w' => e = .returned (.bool (pOk x.ps)) ∧ Below w.heap.size w w' := fun w hR => iOk_any A n c x.ps w hR hn
  have ck : ∀ w, RP w w.heap.size A n x.ps → Calls Tryd.prog 72 #[.slice A n c, .func (.func 80) #[ndV x A n c] #[]] w fun e w' => e = .returned (.bool (x.ps.any (refB x))) ∧ Below w.heap.size w w' := fun w hR => iContF_any x A n c A n c x.ps w hR hn
  unfold okB
  generalize x.ps.any (refB x) = a1 at *
  generalize pOk x.ps = p1 at *
  generalize linkB x = k1 at *
  unfold ndV at *
  obtain ⟨lv, zs, hi, ri, ow⟩ := x
  simp only at *
  have LK := Lib.hid lk
  have PK := Lib.hid pk
  have CK := Lib.hid ck
  clear lk pk ck
  rw [HL]
  have B0 : Hid (Below w.heap.size w (w.alloc (.cells #[.int .i64 lv, .slice A n c, .int .i64 hi, .int .i64 ri, .int .i64 ow] 40))) := Lib.hid ((Below.refl _ _).alloc (Nat.le_refl _) _)
  by_cases h1 : 0 ≤ lv
  rotate_left
  · have g1 : decide (0 ≤ lv) = false := by simpa using h1
    have e1 : inB lv 0 6 = false := by unfold inB; simp; omega
    rw [e1]
    clear h1 e1
    go_enter Tryd.func71, Tryd.ntmps71
    go_wp2
    go_ret
    exact ⟨rfl, B0.out⟩
  by_cases h2 : lv ≤ 6
  rotate_left
  · have g1 : decide (0 ≤ lv) = true := by simpa using h1
    have g2 : decide (lv ≤ 6) = false := by simpa using h2
    have e1 : inB lv 0 6 = false := by unfold inB; simp; omega
    rw [e1]
    clear h1 h2 e1
    go_enter Tryd.func71, Tryd.ntmps71
    go_wp2
    go_ret
    exact ⟨rfl, B0.out⟩
  have g1 : decide (0 ≤ lv) = true := by simpa using h1
  have g2 : decide (lv ≤ 6) = true := by simpa using h2
  have e1 : inB lv 0 6 = true := by unfold inB; simp; omega
  rw [e1]
  clear e1
  by_cases h3 : 0 ≤ ow
  rotate_left
  · have g3 : decide (0 ≤ ow) = false := by simpa using h3
    have e1 : inB ow 0 6 = false := by unfold inB; simp; omega
    rw [e1]
    clear h1 h2 h3 e1
    go_enter Tryd.func71, Tryd.ntmps71
    go_wp2
    go_ret
    exact ⟨rfl, B0.out⟩
  by_cases h4 : ow ≤ 6
  rotate_left
  · have g3 : decide (0 ≤ ow) = true := by simpa using h3
    have g4 : decide (ow ≤ 6) = false := by simpa using h4
    have e1 : inB ow 0 6 = false := by unfold inB; simp; omega
    rw [e1]
    clear h1 h2 h3 h4 e1
    go_enter Tryd.func71, Tryd.ntmps71
    go_wp2
    go_ret
    exact ⟨rfl, B0.out⟩
  have g3 : decide (0 ≤ ow) = true := by simpa using h3
  have g4 : decide (ow ≤ 6) = true := by simpa using h4
  have e1 : inB ow 0 6 = true := by unfold inB; simp; omega
  rw [e1]
  clear e1 h1 h2 h3 h4
  have g6 : decide ((n : Int) ≤ 4) = decide (n ≤ 4) := by rw [Bool.eq_iff_iff]; simp; omega
  have g7 : (lv == 0) = decide (lv = 0) := by rw [Bool.eq_iff_iff]; simp
  have g8 : decide ((0 : Int) < (n : Int)) = decide (0 < n) := by rw [Bool.eq_iff_iff]; simp
  clear HL
  generalize decide (n ≤ 4) = q6 at *
  generalize decide (lv = 0) = q7 at *
  generalize hq8 : decide (0 < n) = q8 at *
  go_enter Tryd.func71, Tryd.ntmps71
  go_wp2_with fail
  refine (LK.out _).mono ?_
  rintro e w1 ⟨rfl, b1⟩
  have d0 : w1.cell? ⟨w.heap.size, 0, none⟩ = some (.int .i64 lv) := (b1.cell (by simp)).trans (by simp)
  have d1 : w1.cell? ⟨w.heap.size, 1, none⟩ = some (.slice A n c) := (b1.cell (by simp)).trans (by simp)
  have d2 : w1.cell? ⟨w.heap.size, 2, none⟩ = some (.int .i64 hi) := (b1.cell (by simp)).trans (by simp)
  have d3 : w1.cell? ⟨w.heap.size, 3, none⟩ = some (.int .i64 ri) := (b1.cell (by simp)).trans (by simp)
  have d4 : w1.cell? ⟨w.heap.size, 4, none⟩ = some (.int .i64 ow) := (b1.cell (by simp)).trans (by simp)
  have hs : w.heap.size < w1.heap.size := by have := b1.size; simp at this; omega
  have B1 := Lib.hid (B0.out.trans (b1.mono (by simp)))
  clear b1
  cases k1
  · go_wp2
    go_ret
    exact ⟨rfl, B1.out⟩
  go_wp2_with fail
  refine (PK.out _ (HH.out.on B1.out)).mono ?_
  rintro e w2 ⟨rfl, b2⟩
  replace d0 := (b2.cell (p := ⟨w.heap.size, 0, none⟩) hs).trans d0
  replace d1 := (b2.cell (p := ⟨w.heap.size, 1, none⟩) hs).trans d1
  replace d2 := (b2.cell (p := ⟨w.heap.size, 2, none⟩) hs).trans d2
  replace d3 := (b2.cell (p := ⟨w.heap.size, 3, none⟩) hs).trans d3
  replace d4 := (b2.cell (p := ⟨w.heap.size, 4, none⟩) hs).trans d4
  have B2 := Lib.hid (B1.out.trans (b2.mono B1.out.size))
  clear b2
  cases p1
  · go_wp2
    go_ret
    exact ⟨rfl, B2.out⟩
  cases q6
  · go_wp2
    go_ret
    exact ⟨rfl, B2.out⟩
  cases q7
  · cases q8
    · go_wp2
      go_ret
      exact ⟨rfl, B2.out⟩
    · go_wp2_with fail
      refine (CK.out _ (HH.out.on B2.out)).mono ?_
      rintro e w3 ⟨rfl, b3⟩
      have B3 := Lib.hid (B2.out.trans (b3.mono B2.out.size))
      clear b3
      go_wp2
      go_ret
      exact ⟨ret_bool (by simp), B3.out⟩
  · go_wp2_with fail
    refine (CK.out _ (HH.out.on B2.out)).mono ?_
    rintro e w3 ⟨rfl, b3⟩
    have B3 := Lib.hid (B2.out.trans (b3.mono B2.out.size))
    clear b3
    go_wp2
    go_ret
    exact ⟨ret_bool (by simp), B3.out⟩

end Go.Proofs.YtlmhcifnikdliaaDoor

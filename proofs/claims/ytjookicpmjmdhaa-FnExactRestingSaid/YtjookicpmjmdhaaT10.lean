/- The walks of the model's ways: l5Next, NextOf, l5Leaf, LeafOf, Found. -/
import Derived.Test.YtjookicpmjmdhaaT8
namespace Go.Proofs.Ytjookicpmjmdhaa
open Go.RowKit

/-- The next step of a way, and which it is. -/
def nextP (xs : List Nd) (a : Nat) (key want : Int) : Int × Int :=
  if inside (ndAt xs a) key = true then (if want < lvAt xs a ∧ 0 < lvAt xs a then (vAt (ndAt xs a).ps (kidIx (ndAt xs a).ps key), 2) else if lvAt xs a = want then ((a : Int), 3) else (-1, 0)) else (riAt xs a, 1)
theorem kidIx_lt (zs : List Pr) (key : Int) (h : 0 < zs.length) : kidIx zs key < zs.length := by
  unfold kidIx
  have := List.findIdx_le_length (p := fun p : Pr => decide (key < p.1)) (xs := zs.tail)
  rw [List.length_tail] at this
  omega

set_option maxRecDepth 100000 in
set_option maxHeartbeats 1000000 in
theorem next_any (r : Int) (xs : List Nd) (A : Option Addr) (n c : Nat) (a : Nat) (key want : Int) (w : World) (h : RS w w.heap.size A n xs) (hR : Right n r xs) (ha : a < n) :
    Calls Try.prog 107 #[.agg #[.int .i64 r, .slice A n c], .int .i64 a, .int .i64 key, .int .i64 want] w fun e w' => e = .returned (.tuple #[.int .i64 (nextP xs a key want).1, .int .i64 (nextP xs a key want).2]) ∧ Below w.heap.size w w' := by
  have hn40 := hR.most
  obtain ⟨w0, hw0⟩ : ∃ w0, w0 = w.alloc (.cells #[.int .i64 r, .slice A n c] 77) := ⟨_, rfl⟩
  have b0 : Below w.heap.size w w0 := by rw [hw0]; exact (Below.refl _ _).alloc (Nat.le_refl _) _
  have x0 : w0.heap[w.heap.size]? = some (.cells #[.int .i64 r, .slice A n c] 77 (0, 0)) := by rw [hw0]; exact heap_alloc_new _ _
  obtain ⟨b, off, rfl, hb, hc⟩ := (h.on b0).nd (by omega)
  obtain ⟨A2, n2, c2, c0, c1, c2', c3, c4, hP, _⟩ := hc a ha
  have hlv := hR.lv a ha
  have hgood := (hR.good a ha).1
  have hkid := nodeOk_kids hgood
  have hn2 : n2 ≤ 1048576 := by
    have := hgood
    unfold nodeOk at this
    simp only [Bool.and_eq_true, decide_eq_true_eq] at this
    have h4 := this.1.1.1.1.2
    rw [hP.1] at h4
    omega
  have inW : ∀ wx, Calls Try.prog 110 #[ndV (ndAt xs a) A2 n2 c2, .int .i64 key] wx fun e w' => e = .returned (.bool (inside (ndAt xs a) key)) ∧ Below wx.heap.size wx w' := fun wx => sInside_any (ndAt xs a) key A2 n2 c2 wx
  have kdW : 0 < lvAt xs a → ∀ wx, Below w0.heap.size w0 wx → Calls Try.prog 116 #[ndV (ndAt xs a) A2 n2 c2, .int .i64 key] wx fun e w' => e = .returned (.int .i64 (vAt (ndAt xs a).ps (kidIx (ndAt xs a).ps key))) ∧ Below wx.heap.size wx w' := fun hl wx hbx => sKid_any (ndAt xs a) key A2 n2 c2 wx (hP.on hbx) hn2 (by rw [← hP.1]; exact hkid hl)
  have hv : nextP xs a key want = if inside (ndAt xs a) key = true then (if want < lvAt xs a ∧ 0 < lvAt xs a then (vAt (ndAt xs a).ps (kidIx (ndAt xs a).ps key), 2) else if lvAt xs a = want then ((a : Int), 3) else (-1, 0)) else (riAt xs a, 1) := rfl
  rw [hv]
  clear hv hkid hgood
  unfold riAt
  unfold lvAt at *
  generalize vAt (ndAt xs a).ps (kidIx (ndAt xs a).ps key) = kv at *
  generalize inside (ndAt xs a) key = q at *
  unfold ndV at inW kdW
  obtain ⟨w1, hw1⟩ : ∃ w1, w1 = w0.alloc (.cells #[.int .i64 (ndAt xs a).lv, .slice A2 n2 c2, .int .i64 (ndAt xs a).hi, .int .i64 (ndAt xs a).ri, .int .i64 (ndAt xs a).ow] 101) := ⟨_, rfl⟩
  have b1 : Below w0.heap.size w0 w1 := by rw [hw1]; exact (Below.refl _ _).alloc (Nat.le_refl _) _
  have x1 : w1.heap[w0.heap.size]? = some (.cells #[.int .i64 (ndAt xs a).lv, .slice A2 n2 c2, .int .i64 (ndAt xs a).hi, .int .i64 (ndAt xs a).ri, .int .i64 (ndAt xs a).ow] 101 (0, 0)) := by rw [hw1]; exact heap_alloc_new _ _
  have d1 : w0.cell? ⟨w.heap.size, 1, none⟩ = some (.slice (some ⟨b, off, none⟩) n c) := by rw [cell_of_row _ _ 1 _ _ _ x0]; rfl
  have INW := Lib.hid inW
  have KDW := Lib.hid kdW
  have B0 := Lib.hid b0
  have B1 := Lib.hid b1
  have X1 := Lib.hid x1
  have HW := Lib.hid hw0
  have HW1 := Lib.hid hw1
  generalize (ndAt xs a).lv = lv at *
  generalize (ndAt xs a).hi = hi at *
  generalize (ndAt xs a).ri = ri at *
  generalize (ndAt xs a).ow = ow at *
  have hs0 : w0.heap.size = w.heap.size + 1 := by rw [hw0]; simp
  rw [hw0] at d1 c0 c1 c2' c3 c4
  clear inW kdW hw0 hw1 b0 x0 b1 x1 hc hP h hR
  go_enter Try.func107, Try.ntmps107
  go_wp2_with fail
  rw [← HW.out, ← HW1.out]
  refine (INW.out _).mono ?_
  rintro e w2 ⟨rfl, b2⟩
  have B2 := Lib.hid (bel_on B1.out b2)
  have x2 := box_on b2 X1.out
  rw [hs0] at x2
  have e0 : w2.cell? ⟨w.heap.size + 1, 0, none⟩ = some (.int .i64 lv) := by rw [cell_of_row _ _ 0 _ _ _ x2]; rfl
  have e1 : w2.cell? ⟨w.heap.size + 1, 1, none⟩ = some (.slice A2 n2 c2) := by rw [cell_of_row _ _ 1 _ _ _ x2]; rfl
  have e2 : w2.cell? ⟨w.heap.size + 1, 2, none⟩ = some (.int .i64 hi) := by rw [cell_of_row _ _ 2 _ _ _ x2]; rfl
  have e3 : w2.cell? ⟨w.heap.size + 1, 3, none⟩ = some (.int .i64 ri) := by rw [cell_of_row _ _ 3 _ _ _ x2]; rfl
  have e4 : w2.cell? ⟨w.heap.size + 1, 4, none⟩ = some (.int .i64 ow) := by rw [cell_of_row _ _ 4 _ _ _ x2]; rfl
  clear b2 x2 d1 c0 c1 c2' c3 c4
  cases q
  · go_wp2
    go_ret2
    exact ⟨rfl, B0.out.trans (B2.out.mono B0.out.size)⟩
  by_cases h1 : want < lv
  · have g1 : decide (want < lv) = true := by simpa using h1
    by_cases h2 : 0 < lv
    · have g2 : decide (0 < lv) = true := by simpa using h2
      have kd := KDW.out h2 _ B2.out
      go_wp2_with fail
      refine kd.mono ?_
      rintro e w3 ⟨rfl, b3⟩
      have B3 := Lib.hid (bel_on B2.out b3)
      clear b3 e0 e1 e2 e3 e4
      go_wp2
      go_ret2
      exact ⟨by simp, B0.out.trans (B3.out.mono B0.out.size)⟩
    · have g2 : decide (0 < lv) = false := by simpa using h2
      have hne : ¬ lv = want := by omega
      have g3 : (lv == want) = false := by simpa using hne
      go_wp2
      go_ret2
      exact ⟨by simp, B0.out.trans (B2.out.mono B0.out.size)⟩
  · have g1 : decide (want < lv) = false := by simpa using h1
    by_cases h3 : lv = want
    · subst h3
      clear h1 g1
      go_wp2
      all_goals (go_ret2; exact ⟨by simp, B0.out.trans (B2.out.mono B0.out.size)⟩)
    · have g3 : (lv == want) = false := by simpa using h3
      go_wp2
      go_ret2
      exact ⟨by simp, B0.out.trans (B2.out.mono B0.out.size)⟩

/-- What NextOf answers. -/
def nextT (r : Int) (xs : List Nd) (x key want : Int) : Int × Int := if treeOk r xs && hasB xs.length x && inB key 0 99 then nextP xs x.toNat key want else (-1, 0)
def leafF (xs : List Nd) (key : Int) : Nat → Nat → Int
  | 0, _ => -1
  | f + 1, a => if (nextP xs a key 0).2 = 3 ∨ (nextP xs a key 0).2 = 0 then (nextP xs a key 0).1 else leafF xs key f (nextP xs a key 0).1.toNat
def leafP (r : Int) (xs : List Nd) (key : Int) : Int := leafF xs key 80 r.toNat
theorem leafF_end (xs : List Nd) (key : Int) (f a : Nat) (h : (nextP xs a key 0).2 = 3 ∨ (nextP xs a key 0).2 = 0) : leafF xs key (f + 1) a = (nextP xs a key 0).1 := by
  simp only [leafF]; rw [if_pos h]
theorem leafF_go (xs : List Nd) (key : Int) (f a : Nat) (h : ¬ ((nextP xs a key 0).2 = 3 ∨ (nextP xs a key 0).2 = 0)) : leafF xs key (f + 1) a = leafF xs key f (nextP xs a key 0).1.toNat := by
  simp only [leafF]; rw [if_neg h]
/-- Where a way leads to is a node; where it ends is the node itself, or none. -/
theorem nextP_ok {n : Nat} {r : Int} {xs : List Nd} (hR : Right n r xs) (a : Nat) (ha : a < n) (key want : Int) :
    ((nextP xs a key want).2 ≠ 3 ∧ (nextP xs a key want).2 ≠ 0 → 0 ≤ (nextP xs a key want).1 ∧ (nextP xs a key want).1 < n) ∧ -1 ≤ (nextP xs a key want).1 ∧ (nextP xs a key want).1 < n := by
  have hg := hR.good a ha
  unfold nextP
  by_cases h1 : inside (ndAt xs a) key = true
  · rw [if_pos h1]
    by_cases h2 : want < lvAt xs a ∧ 0 < lvAt xs a
    · rw [if_pos h2]
      have hp := nodeOk_kids hg.1 h2.2
      have hk := hg.2.2 h2.2 _ (kidIx_lt _ key hp)
      exact ⟨fun _ => hk, by simp only; omega, hk.2⟩
    · rw [if_neg h2]
      by_cases h3 : lvAt xs a = want
      · rw [if_pos h3]; exact ⟨fun h => absurd rfl h.1, by simp only; omega, by simp only; omega⟩
      · rw [if_neg h3]; exact ⟨fun h => absurd rfl h.2, by simp only; omega, by simp only; omega⟩
  · rw [if_neg h1]
    have hr : 0 ≤ riAt xs a := by
      have ho := hg.1
      unfold inside at h1
      simp only [Bool.or_eq_true, decide_eq_true_eq, not_or] at h1
      unfold nodeOk at ho
      simp only [Bool.and_eq_true] at ho
      have h5 := ho.2
      rw [if_neg h1.1] at h5
      simp only [Bool.and_eq_true] at h5
      have := h5.1.2
      unfold numB inB at this
      simp only [decide_eq_true_eq] at this
      exact this.1
    exact ⟨fun _ => ⟨hr, hg.2.1⟩, by simp only; omega, hg.2.1⟩
theorem leafF_ok {n : Nat} {r : Int} {xs : List Nd} (hR : Right n r xs) (key : Int) : ∀ (f a : Nat), a < n → -1 ≤ leafF xs key f a ∧ leafF xs key f a < n := by
  intro f
  induction f with
  | zero => intro a ha; simp only [leafF]; omega
  | succ f ih =>
    intro a ha
    have h := nextP_ok hR a ha key 0
    by_cases he : (nextP xs a key 0).2 = 3 ∨ (nextP xs a key 0).2 = 0
    · rw [leafF_end xs key f a he]; exact h.2
    · rw [leafF_go xs key f a he]
      have := h.1 ⟨fun h => he (.inl h), fun h => he (.inr h)⟩
      exact ih _ (by omega)

/-- What LeafOf answers. -/
def leafT (r : Int) (xs : List Nd) (key : Int) : Int := if treeOk r xs && inB key 0 99 then leafP r xs key else -1
theorem leafT_ok {r : Int} {xs : List Nd} {key : Int} (h : 0 ≤ leafT r xs key) : treeOk r xs = true ∧ (leafT r xs key).toNat < xs.length := by
  unfold leafT at *
  by_cases ht : treeOk r xs = true
  · refine ⟨ht, ?_⟩
    have hR := right_of ht
    by_cases hk : inB key 0 99 = true
    · rw [ht, hk] at h ⊢
      simp only [Bool.and_self, ↓reduceIte] at h ⊢
      have := leafF_ok hR key 80 r.toNat (by have := hR.root; omega)
      unfold leafP at *
      omega
    · simp [hk] at h
  · simp [ht] at h
/-- What Found answers. -/
def foundV (r : Int) (xs : List Nd) (key : Int) : Int := if 0 ≤ leafT r xs key then valN (ndAt xs (leafT r xs key).toNat).ps key else 0
def foundB (r : Int) (xs : List Nd) (key : Int) : Bool := if 0 ≤ leafT r xs key then valB (ndAt xs (leafT r xs key).toNat).ps key else false
end Go.Proofs.Ytjookicpmjmdhaa

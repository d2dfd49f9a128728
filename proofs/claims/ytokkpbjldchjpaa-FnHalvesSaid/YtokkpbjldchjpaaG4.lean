/- The kinds of values that the laws hand about, each with the same four contracts: made anew, compared, marked, asked for its marks. -/
import Derived.Test.YtokkpbjldchjpaaG3
namespace Go.Proofs.Ytokkpbjldchjpaa
open Go.RowKit

/-! ### Sizes -/

class Small (α : Type) [Mk α] where
  sm : List α → Prop
  cnt_le : ∀ {xs : List α}, sm xs → cntS xs ≤ 17592186044416
  len_le : ∀ {xs : List α}, sm xs → xs.length ≤ 1048576
instance : Small Int where
  sm := fun xs => xs.length ≤ 1048576
  cnt_le := fun {xs} (h : xs.length ≤ 1048576) => by rw [cntI]; omega
  len_le := fun h => h
instance : Small Pr where
  sm := fun xs => xs.length ≤ 1048576
  cnt_le := fun {xs} (h : xs.length ≤ 1048576) => by rw [cntS_pairs]; omega
  len_le := fun h => h
theorem cntNd_le (xs : List Nd) (h : ∀ i, i < xs.length → (ndAt xs i).ps.length ≤ 1048576) : cntS xs ≤ xs.length * 2097156 := by
  have : ∀ k, k ≤ xs.length → cntS (xs.take k) ≤ k * 2097156 := by
    intro k
    induction k with
    | zero => intro _; simp [cntS]
    | succ k ih =>
      intro hk
      have h1 := ih (by omega)
      have h2 := h k (by omega)
      rw [cntNd_take xs k (by omega)]
      omega
  have := this xs.length (Nat.le_refl _)
  rwa [List.take_length] at this
instance : Small Nd where
  sm := fun xs => xs.length ≤ 1048576 ∧ ∀ i, i < xs.length → (ndAt xs i).ps.length ≤ 1048576
  cnt_le := fun {xs} h => by have := cntNd_le xs h.2; have := h.1; omega
  len_le := fun h => h.1

/-- The blocks of a slice of the call's own that holds nothing of its own besides. -/
def blkF (b : Option Nat) : FP := fun k => b = some k
theorem fresh_blk {w w' : World} {base : Nat} {e : TypeId} {size n : Nat} {v : Value} {xs : List Value} (h : w'.ownsRow base e size v n xs) (hb : w.heap.size ≤ base) : Fresh (blkF v.ownBlock) w w' := fun k hk => by
  have := h.lt k hk
  exact ⟨by omega, by omega⟩

/-! ### Trees -/

theorem toN1 (lv hi ri ow : Int) (xs : List Pr) (A : Option Addr) (n c : Nat) (w : World) (h : RS w w.heap.size A n xs) (hs : Small.sm xs) :
    Calls Try.prog 17 #[.agg #[.int .i64 lv, .slice A n c, .int .i64 hi, .int .i64 ri, .int .i64 ow]] w fun e w' => ∃ A' c' F, e = .returned (.agg #[.int .i64 lv, .slice A' n c', .int .i64 hi, .int .i64 ri, .int .i64 ow]) ∧ OwnS w' (.slice A' n c') xs F ∧ Fresh F w w' ∧ Below w.heap.size w w' := by
  have hl := h.1
  refine (toNode_any ⟨lv, xs, hi, ri, ow⟩ A n c w h.pairs (by rw [← hl]; exact hs)).mono ?_
  rintro e w' ⟨b, rfl, ho, hb⟩
  exact ⟨some ⟨b, 0, none⟩, n, _, rfl, OwnS.of_pairs ho (F := blkF _) (fun k hk => hk), fresh_blk ho (Nat.le_refl _), hb⟩
theorem eqN1 (lv hi ri ow : Int) (xs : List Pr) (A B : Option Addr) (n c d : Nat) (w : World) (h : RS w w.heap.size A n xs) (h' : RS w w.heap.size B n xs) (hs : Small.sm xs) :
    Calls Try.prog 19 #[.agg #[.int .i64 lv, .slice A n c, .int .i64 hi, .int .i64 ri, .int .i64 ow], .agg #[.int .i64 lv, .slice B n d, .int .i64 hi, .int .i64 ri, .int .i64 ow]] w fun e w' => e = .returned (.bool true) ∧ Below w.heap.size w w' :=
  eqNode_yes ⟨lv, xs, hi, ri, ow⟩ A B n c d w h.pairs h'.pairs (by rw [← h.1]; exact hs)
theorem mkN1 (lv hi ri ow : Int) (xs : List Pr) (A : Option Addr) (n c k : Nat) (F : FP) (w : World) (h : OwnS w (.slice A n c) xs F) (hl : xs.length = n) (hs : Small.sm xs) (hk : k ≤ 562949953421312) :
    Calls Try.prog 20 #[.agg #[.int .i64 lv, .slice A n c, .int .i64 hi, .int .i64 ri, .int .i64 ow], .int .i64 k] w fun e w' => e = .returned (.int .i64 ((k + cntS xs : Nat) : Int)) ∧ OwnS w' (.slice A n c) (mkS k xs) F ∧ Only F w w' := by
  rw [cntS_pairs, hl, mkS_pairs]
  obtain ⟨w1, hw1⟩ : ∃ w1, w1 = w.alloc (.cells #[.int .i64 lv, .slice A n c, .int .i64 hi, .int .i64 ri, .int .i64 ow] 26) := ⟨_, rfl⟩
  have b1 : Below w.heap.size w w1 := by rw [hw1]; exact (Below.refl _ _).alloc (Nat.le_refl _) _
  obtain ⟨hp, hF⟩ := (h.on b1).pairs
  have hn : n ≤ 1048576 := by rw [← hl]; exact hs
  have MK := Lib.hid (mark_any 0 A n c k xs w1 (by rw [hl] at hp; exact hp) hn (by omega))
  have B1 := Lib.hid b1
  have HW := Lib.hid hw1
  have HF := Lib.hid hF
  have HL := Lib.hid hl
  clear h hp hF b1 hw1 hs hl
  go_enter Try.func20, Try.ntmps20
  go_wp2_with fail
  rw [← HW.out]
  refine MK.out.mono ?_
  rintro e w2 ⟨rfl, o2, g2⟩
  have O2 := Lib.hid o2
  have G2 := Lib.hid ((Only.of_below (F := F) B1.out).trans (Only.of_grown g2 (fun k hk => HF.out k hk)))
  clear o2 g2
  go_wp2
  go_ret
  refine ⟨rfl, OwnS.of_pairs O2.out HF.out |> fun h => ?_, G2.out⟩
  rw [HL.out]
  exact h
theorem hdN1 (lv hi ri ow : Int) (xs : List Pr) (A : Option Addr) (n c k : Nat) (w : World) (h : RS w w.heap.size A n (mkS k xs)) (hs : Small.sm xs) (hk : k ≤ 562949953421312) :
    Calls Try.prog 21 #[.agg #[.int .i64 lv, .slice A n c, .int .i64 hi, .int .i64 ri, .int .i64 ow], .int .i64 k] w fun e w' => e = .returned (.int .i64 ((k + cntS xs : Nat) : Int)) ∧ Below w.heap.size w w' := by
  have hl := h.1
  rw [mkS_length] at hl
  rw [cntS_pairs, hl]
  have hn : n ≤ 1048576 := by rw [← hl]; exact hs
  obtain ⟨w1, hw1⟩ : ∃ w1, w1 = w.alloc (.cells #[.int .i64 lv, .slice A n c, .int .i64 hi, .int .i64 ri, .int .i64 ow] 26) := ⟨_, rfl⟩
  have b1 : Below w.heap.size w w1 := by rw [hw1]; exact (Below.refl _ _).alloc (Nat.le_refl _) _
  have hR := (h.on b1).pairs
  rw [mkS_pairs, hl] at hR
  have HD := Lib.hid (held_any A n c k xs w1 hR hn (by omega))
  have B1 := Lib.hid b1
  have HW := Lib.hid hw1
  clear h hR b1 hw1 hs hl
  go_enter Try.func21, Try.ntmps21
  go_wp2_with fail
  rw [← HW.out]
  refine HD.out.mono ?_
  rintro e w2 ⟨rfl, rfl⟩
  go_wp2
  go_ret
  exact ⟨rfl, B1.out⟩

/-! ### Facts carried on -/

theorem below_alloc {a w : World} (h : Below a.heap.size a w) (o : Obj) : Below a.heap.size a (w.alloc o) := h.alloc h.size o
theorem below_set {a w : World} {p : Addr} (h : Below a.heap.size a w) (hp : a.heap.size ≤ p.block) (u : Value) : Below a.heap.size a (w.setCell p u) := h.setCell hp u

theorem box_on {w w' : World} {b : Nat} {o : Obj} (hb : Below w.heap.size w w') (h : w.heap[b]? = some o) : w'.heap[b]? = some o := (hb.block b (Array.getElem?_eq_some_iff.1 h).1).trans h
theorem box_off {F : FP} {w w' : World} {b : Nat} {o : Obj} (hg : Only F w w') (h : w.heap[b]? = some o) (hn : ¬ F b) : w'.heap[b]? = some o := (hg.block b (Array.getElem?_eq_some_iff.1 h).1 hn).trans h
theorem OwnS.rd {α : Type} [Enc α] {w : World} {A : Option Addr} {n c : Nat} {xs : List α} {F : FP} (h : OwnS w (.slice A n c) xs F) : RS w w.heap.size A n xs := by
  obtain ⟨A', c', e, hR, _⟩ := h.reads
  cases e
  exact hR
theorem OwnS.len {α : Type} [Enc α] {w : World} {A : Option Addr} {n c : Nat} {xs : List α} {F : FP} (h : OwnS w (.slice A n c) xs F) : xs.length = n := h.rd.1
/-- Of a slice that came in: whatever is made later turns it not. -/
theorem RS.ev {α : Type} [Enc α] {w w0 wx : World} {A : Option Addr} {n : Nat} {xs : List α} (h : RS w w.heap.size A n xs) (h0 : Below w.heap.size w w0) (h1 : Below w0.heap.size w0 wx) : RS wx wx.heap.size A n xs := h.on (h0.trans (h1.mono h0.size))
theorem OwnS.cap {α : Type} [Enc α] {w : World} {A : Option Addr} {n c : Nat} {xs : List α} {F : FP} (h : OwnS w (.slice A n c) xs F) : n ≤ c ∧ c ≤ 9223372036854775807 := by
  have hl := h.len
  obtain ⟨A', c', e, hc⟩ := h.form
  cases e
  rwa [hl] at hc

/-! ### Sizes counted -/

theorem left_cases (L m : Nat) : (leftI L m = -1 ∧ L < m) ∨ (leftI L m = ((L - m : Nat) : Int) ∧ m ≤ L) := by
  unfold leftI
  rcases Nat.lt_or_ge L m with h | h
  · exact .inl ⟨if_neg (by omega), h⟩
  · exact .inr ⟨by rw [if_pos h]; omega, h⟩
theorem sm_of_szs {xs : List Nd} (h : szs xs ≤ 1048576) : Small.sm xs := ⟨szs_len h, fun i hi => szs_ps h i hi⟩
theorem szN1 (lv hi ri ow : Int) (xs : List Pr) (A : Option Addr) (n c L : Nat) (hL : L ≤ 1048576) (hm : n ≤ 9223372036854775807) (w : World) (h : RS w w.heap.size A n xs) :
    Calls Try.prog 16 #[.agg #[.int .i64 lv, .slice A n c, .int .i64 hi, .int .i64 ri, .int .i64 ow], .int .i64 L] w fun e w' => e = .returned (.int .i64 (leftI L xs.length)) ∧ Below w.heap.size w w' := by
  rw [h.1]
  exact szN_any ⟨lv, xs, hi, ri, ow⟩ A n c L w hL hm
end Go.Proofs.Ytokkpbjldchjpaa

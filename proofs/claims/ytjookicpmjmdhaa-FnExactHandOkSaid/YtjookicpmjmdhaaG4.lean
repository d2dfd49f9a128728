/- The kinds of values that the laws hand about, each with the same four contracts: made anew, compared, marked, asked for its marks. -/
import Derived.Test.YtjookicpmjmdhaaG3
namespace Go.Proofs.Ytjookicpmjmdhaa
open Go.RowKit

/-! ### Sizes -/

class Small (α : Type) [Mk α] where
  sm : List α → Prop
  cnt_le : ∀ {xs : List α}, sm xs → cntS xs ≤ 17592186044416
  len_le : ∀ {xs : List α}, sm xs → xs.length ≤ 1048576
instance : Small Int where
  sm := fun xs => xs.length ≤ 1048576
  cnt_le := fun {xs} (h : xs.length ≤ 1048576) => by rw [cntI]; omega
  len_le := fun h => h
instance : Small Pr where
  sm := fun xs => xs.length ≤ 1048576
  cnt_le := fun {xs} (h : xs.length ≤ 1048576) => by rw [cntS_pairs]; omega
  len_le := fun h => h
theorem cntNd_le (xs : List Nd) (h : ∀ i, i < xs.length → (ndAt xs i).ps.length ≤ 1048576) : cntS xs ≤ xs.length * 2097156 := by
  have : ∀ k, k ≤ xs.length → cntS (xs.take k) ≤ k * 2097156 := by
    intro k
    induction k with
    | zero => intro _; simp [cntS]
    | succ k ih =>
      intro hk
      have h1 := ih (by omega)
      have h2 := h k (by omega)
      rw [cntNd_take xs k (by omega)]
      omega
  have := this xs.length (Nat.le_refl _)
  rwa [List.take_length] at this
instance : Small Nd where
  sm := fun xs => xs.length ≤ 1048576 ∧ ∀ i, i < xs.length → (ndAt xs i).ps.length ≤ 1048576
  cnt_le := fun {xs} h => by have := cntNd_le xs h.2; have := h.1; omega
  len_le := fun h => h.1

/-- The blocks of a slice of the call's own that holds nothing of its own besides. -/
def blkF (b : Option Nat) : FP := fun k => b = some k
theorem fresh_blk {w w' : World} {base : Nat} {e : TypeId} {size n : Nat} {v : Value} {xs : List Value} (h : w'.ownsRow base e size v n xs) (hb : w.heap.size ≤ base) : Fresh (blkF v.ownBlock) w w' := fun k hk => by
  have := h.lt k hk
  exact ⟨by omega, by omega⟩

/-! ### Trees -/

theorem eqI1 (xs : List Int) (A B : Option Addr) (n c d : Nat) (w : World) (h : RS w w.heap.size A n xs) (h' : RS w w.heap.size B n xs) (hs : Small.sm xs) :
    Calls Try.prog 53 #[.slice A n c, .slice B n d] w fun e w' => e = .returned (.bool true) ∧ Below w.heap.size w w' :=
  eqI_yes A B n c d xs w h h' (by rw [← h.1]; exact hs)
theorem mkI1 (xs : List Int) (A : Option Addr) (n c k : Nat) (F : FP) (w : World) (h : OwnS w (.slice A n c) xs F) (_hl : xs.length = n) (hs : Small.sm xs) (hk : k ≤ 562949953421312) :
    Calls Try.prog 54 #[.slice A n c, .int .i64 k] w fun e w' => e = .returned (.int .i64 ((k + cntS xs : Nat) : Int)) ∧ OwnS w' (.slice A n c) (mkS k xs) F ∧ Only F w w' :=
  markI_any _ k xs F w h hs (by omega)
theorem hdI1 (xs : List Int) (A : Option Addr) (n c k : Nat) (w : World) (h : RS w w.heap.size A n (mkS k xs)) (hs : Small.sm xs) (hk : k ≤ 562949953421312) :
    Calls Try.prog 55 #[.slice A n c, .int .i64 k] w fun e w' => e = .returned (.int .i64 ((k + cntS xs : Nat) : Int)) ∧ Below w.heap.size w w' := by
  have hl := h.1
  rw [mkS_length] at hl
  refine (heldI_any A n c k xs w h (by rw [← hl]; exact hs) (by omega)).mono ?_
  rintro e w' ⟨rfl, rfl⟩
  exact ⟨rfl, Below.refl _ _⟩

/-! ### Nodes -/

theorem below_alloc {a w : World} (h : Below a.heap.size a w) (o : Obj) : Below a.heap.size a (w.alloc o) := h.alloc h.size o
theorem below_set {a w : World} {p : Addr} (h : Below a.heap.size a w) (hp : a.heap.size ≤ p.block) (u : Value) : Below a.heap.size a (w.setCell p u) := h.setCell hp u

theorem box_on {w w' : World} {b : Nat} {o : Obj} (hb : Below w.heap.size w w') (h : w.heap[b]? = some o) : w'.heap[b]? = some o := (hb.block b (Array.getElem?_eq_some_iff.1 h).1).trans h
theorem box_off {F : FP} {w w' : World} {b : Nat} {o : Obj} (hg : Only F w w') (h : w.heap[b]? = some o) (hn : ¬ F b) : w'.heap[b]? = some o := (hg.block b (Array.getElem?_eq_some_iff.1 h).1 hn).trans h
theorem OwnS.rd {α : Type} [Enc α] {w : World} {A : Option Addr} {n c : Nat} {xs : List α} {F : FP} (h : OwnS w (.slice A n c) xs F) : RS w w.heap.size A n xs := by
  obtain ⟨A', c', e, hR, _⟩ := h.reads
  cases e
  exact hR
theorem OwnS.len {α : Type} [Enc α] {w : World} {A : Option Addr} {n c : Nat} {xs : List α} {F : FP} (h : OwnS w (.slice A n c) xs F) : xs.length = n := h.rd.1
/-- Of a slice that came in: whatever is made later turns it not. -/
theorem RS.ev {α : Type} [Enc α] {w w0 wx : World} {A : Option Addr} {n : Nat} {xs : List α} (h : RS w w.heap.size A n xs) (h0 : Below w.heap.size w w0) (h1 : Below w0.heap.size w0 wx) : RS wx wx.heap.size A n xs := h.on (h0.trans (h1.mono h0.size))
theorem OwnS.cap {α : Type} [Enc α] {w : World} {A : Option Addr} {n c : Nat} {xs : List α} {F : FP} (h : OwnS w (.slice A n c) xs F) : n ≤ c ∧ c ≤ 9223372036854775807 := by
  have hl := h.len
  obtain ⟨A', c', e, hc⟩ := h.form
  cases e
  rwa [hl] at hc

/-! ### Sizes counted -/

theorem left_cases (L m : Nat) : (leftI L m = -1 ∧ L < m) ∨ (leftI L m = ((L - m : Nat) : Int) ∧ m ≤ L) := by
  unfold leftI
  rcases Nat.lt_or_ge L m with h | h
  · exact .inl ⟨if_neg (by omega), h⟩
  · exact .inr ⟨by rw [if_pos h]; omega, h⟩
theorem sm_of_szs {xs : List Nd} (h : szs xs ≤ 1048576) : Small.sm xs := ⟨szs_len h, fun i hi => szs_ps h i hi⟩
end Go.Proofs.Ytjookicpmjmdhaa

/- The kinds of values that the laws hand about, each with the same four contracts: made anew, compared, marked, asked for its marks. -/
import Derived.Test.YtjookicpmjmdhaaE09
namespace Go.Proofs.Ytjookicpmjmdhaa
open Go.RowKit


class Small (α : Type) [Mk α] where
  sm : List α → Prop
  cnt_le : ∀ {xs : List α}, sm xs → cntS xs ≤ 17592186044416
  len_le : ∀ {xs : List α}, sm xs → xs.length ≤ 1048576
instance : Small Int where
  sm := fun xs => xs.length ≤ 1048576
  cnt_le := fun {xs} (h : xs.length ≤ 1048576) => by rw [cntI]; omega
  len_le := fun h => h
instance : Small Pr where
  sm := fun xs => xs.length ≤ 1048576
  cnt_le := fun {xs} (h : xs.length ≤ 1048576) => by rw [cntS_pairs]; omega
  len_le := fun h => h
theorem cntNd_le (xs : List Nd) (h : ∀ i, i < xs.length → (ndAt xs i).ps.length ≤ 1048576) : cntS xs ≤ xs.length * 2097156 := by
  have : ∀ k, k ≤ xs.length → cntS (xs.take k) ≤ k * 2097156 := by
    intro k
    induction k with
    | zero => intro _; simp [cntS]
    | succ k ih =>
      intro hk
      have h1 := ih (by omega)
      have h2 := h k (by omega)
      rw [cntNd_take xs k (by omega)]
      omega
  have := this xs.length (Nat.le_refl _)
  rwa [List.take_length] at this
instance : Small Nd where
  sm := fun xs => xs.length ≤ 1048576 ∧ ∀ i, i < xs.length → (ndAt xs i).ps.length ≤ 1048576
  cnt_le := fun {xs} h => by have := cntNd_le xs h.2; have := h.1; omega
  len_le := fun h => h.1

def blkF (b : Option Nat) : FP := fun k => b = some k


theorem box_on {w w' : World} {b : Nat} {o : Obj} (hb : Below w.heap.size w w') (h : w.heap[b]? = some o) : w'.heap[b]? = some o := (hb.block b (Array.getElem?_eq_some_iff.1 h).1).trans h
theorem box_off {F : FP} {w w' : World} {b : Nat} {o : Obj} (hg : Only F w w') (h : w.heap[b]? = some o) (hn : ¬ F b) : w'.heap[b]? = some o := (hg.block b (Array.getElem?_eq_some_iff.1 h).1 hn).trans h
theorem OwnS.rd {α : Type} [Enc α] {w : World} {A : Option Addr} {n c : Nat} {xs : List α} {F : FP} (h : OwnS w (.slice A n c) xs F) : RS w w.heap.size A n xs := by
  obtain ⟨A', c', e, hR, _⟩ := h.reads
  cases e
  exact hR
theorem OwnS.len {α : Type} [Enc α] {w : World} {A : Option Addr} {n c : Nat} {xs : List α} {F : FP} (h : OwnS w (.slice A n c) xs F) : xs.length = n := h.rd.1
theorem OwnS.cap {α : Type} [Enc α] {w : World} {A : Option Addr} {n c : Nat} {xs : List α} {F : FP} (h : OwnS w (.slice A n c) xs F) : n ≤ c ∧ c ≤ 9223372036854775807 := by
  have hl := h.len
  obtain ⟨A', c', e, hc⟩ := h.form
  cases e
  rwa [hl] at hc


theorem left_cases (L m : Nat) : (leftI L m = -1 ∧ L < m) ∨ (leftI L m = ((L - m : Nat) : Int) ∧ m ≤ L) := by
  unfold leftI
  rcases Nat.lt_or_ge L m with h | h
  · exact .inl ⟨if_neg (by omega), h⟩
  · exact .inr ⟨by rw [if_pos h]; omega, h⟩
end Go.Proofs.Ytjookicpmjmdhaa
namespace Go.Proofs.Ytjookicpmjmdhaa
open Go.RowKit


def lvAt (xs : List Nd) (i : Nat) : Int := (ndAt xs i).lv
def kid0 (xs : List Nd) (i : Nat) : Nat := (vAt (ndAt xs i).ps 0).toNat
structure Right (n : Nat) (r : Int) (xs : List Nd) : Prop where
  len : xs.length = n
  pos : 1 ≤ n
  most : n ≤ 40
  root : 0 ≤ r ∧ r < n
  good : ∀ i, i < n → nodeOk (ndAt xs i) = true ∧ (ndAt xs i).ri < n ∧ (0 < (ndAt xs i).lv → ∀ j, j < (ndAt xs i).ps.length → 0 ≤ vAt (ndAt xs i).ps j ∧ vAt (ndAt xs i).ps j < n)
theorem Right.lv {n : Nat} {r : Int} {xs : List Nd} (h : Right n r xs) (i : Nat) (hi : i < n) : 0 ≤ lvAt xs i ∧ lvAt xs i ≤ 6 := by
  have := (h.good i hi).1
  unfold nodeOk inB at this
  simp only [Bool.and_eq_true, decide_eq_true_eq] at this
  exact this.1.1.1.1.1
theorem Right.kid {n : Nat} {r : Int} {xs : List Nd} (h : Right n r xs) (i : Nat) (hi : i < n) (hl : 0 < lvAt xs i) : 0 < (ndAt xs i).ps.length ∧ kid0 xs i < n ∧ vAt (ndAt xs i).ps 0 = (kid0 xs i : Int) := by
  have h1 := h.good i hi
  have h2 := nodeOk_kids h1.1 hl
  have h3 := h1.2.2 hl 0 h2
  unfold kid0
  exact ⟨h2, by omega, by omega⟩
end Go.Proofs.Ytjookicpmjmdhaa

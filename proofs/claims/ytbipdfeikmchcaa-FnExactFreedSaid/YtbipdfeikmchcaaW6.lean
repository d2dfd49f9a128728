/- The walks of find and of both ValueAt. -/
import Derived.Test.YtbipdfeikmchcaaW5
namespace Go.Proofs.Ytbipdfeikmchcaa
open Go.RowKit

/-- The first place whose key is not less; the length, where none. -/
def geIx (zs : List Pr) (key : Int) : Nat := zs.findIdx (fun p => decide (key ≤ p.1))
def hitB (zs : List Pr) (key : Int) : Bool := decide (geIx zs key < zs.length) && (kAt zs (geIx zs key) == key)
theorem geIx_of (zs : List Pr) (key : Int) (k : Nat) (hk : k < zs.length) (h : key ≤ kAt zs k) (hn : ∀ j, j < k → kAt zs j < key) : geIx zs key = k := by
  unfold geIx
  rw [List.findIdx_eq hk]
  refine ⟨by rw [kAt_eq _ _ hk] at h; simpa using h, fun j hj => ?_⟩
  have := hn j hj
  rw [kAt_eq _ _ (by omega)] at this
  simpa using this
theorem geIx_none (zs : List Pr) (key : Int) (hn : ∀ j, j < zs.length → kAt zs j < key) : geIx zs key = zs.length := by
  unfold geIx
  rw [List.findIdx_eq_length]
  intro x hx
  obtain ⟨i, hi, rfl⟩ := List.getElem_of_mem hx
  have := hn i hi
  rw [kAt_eq _ _ hi] at this
  simpa using this
theorem geIx_le (zs : List Pr) (key : Int) : geIx zs key ≤ zs.length := List.findIdx_le_length
theorem geIx_lt (zs : List Pr) (key : Int) (j : Nat) (h : j < geIx zs key) : kAt zs j < key := by
  have hl := geIx_le zs key
  have := List.not_of_lt_findIdx (p := fun p : Pr => decide (key ≤ p.1)) (xs := zs) h
  rw [kAt_eq _ _ (by omega)]
  simpa using this
theorem geIx_at (zs : List Pr) (key : Int) (h : geIx zs key < zs.length) : key ≤ kAt zs (geIx zs key) := by
  have := List.findIdx_getElem (p := fun p : Pr => decide (key ≤ p.1)) (xs := zs) (w := h)
  have e := kAt_eq zs (geIx zs key) h
  rw [e]
  unfold geIx
  simpa using this

/-- Rising keys: of two places the later one's key is more. -/
theorem rise_lt {zs : List Pr} (h : riseTo zs zs.length) : ∀ (j i : Nat), i < j → j < zs.length → kAt zs i < kAt zs j := by
  intro j
  induction j with
  | zero => intro i hi; omega
  | succ j ih =>
    intro i hi hj
    have h1 := h (j + 1) hj (by omega)
    simp only [Nat.add_sub_cancel] at h1
    rcases Nat.lt_or_ge i j with h2 | h2
    · have := ih i h2 (by omega); omega
    · obtain rfl : i = j := by omega
      exact h1
theorem pOk_rise {zs : List Pr} (h : pOk zs = true) : riseTo zs zs.length := fun j hj h0 => (((pOk_iff zs).1 h).1 j hj).2 h0
theorem where_hit (zs : List Pr) (key : Int) (hh : hitB zs key = true) : whereI zs key = geIx zs key := by
  unfold hitB at hh
  simp only [Bool.and_eq_true, decide_eq_true_eq, beq_iff_eq] at hh
  have e : atKey zs key = geIx zs key := atKey_of zs key _ hh.1 hh.2 (fun j hj => by have := geIx_lt zs key j hj; omega)
  unfold whereI
  rw [e, if_pos hh.1]
theorem where_miss (zs : List Pr) (key : Int) (hp : pOk zs = true) (hh : hitB zs key = false) : whereI zs key = -1 := by
  have hr := pOk_rise hp
  have hall : ∀ j, j < zs.length → kAt zs j ≠ key := by
    intro j hj he
    rcases Nat.lt_or_ge j (geIx zs key) with h | h
    · have := geIx_lt zs key j h; omega
    · have hg : geIx zs key < zs.length := by omega
      have h1 := geIx_at zs key hg
      have h2 : kAt zs (geIx zs key) = key := by
        rcases Nat.lt_or_ge (geIx zs key) j with h3 | h3
        · have := rise_lt hr j (geIx zs key) h3 hj; omega
        · have : j = geIx zs key := by omega
          rw [← this]; exact he
      unfold hitB at hh
      rw [h2] at hh
      simp [hg] at hh
  unfold whereI
  rw [atKey_none zs key hall, if_neg (by omega)]

/-- What ValueAt answers. -/
def valN (zs : List Pr) (key : Int) : Int := if pOk zs && hitB zs key then vAt zs (geIx zs key) else 0
def valB (zs : List Pr) (key : Int) : Bool := pOk zs && hitB zs key

end Go.Proofs.Ytbipdfeikmchcaa

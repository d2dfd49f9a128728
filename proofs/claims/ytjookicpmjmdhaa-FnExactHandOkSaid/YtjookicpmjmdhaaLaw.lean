/- Small facts that the laws' walks share. -/
import Derived.Test.YtjookicpmjmdhaaW15
namespace Go.Proofs.Ytjookicpmjmdhaa
open Go.RowKit

theorem RP.own {w : World} {base : Nat} {e : TypeId} {A : Option Addr} {n c : Nat} {zs : List Pr} (h : w.ownsRow base e 2 (.slice A n c) n (PL zs)) : RP w w.heap.size A n zs := by
  obtain ⟨A', c', e, r⟩ := RP.of_own h; cases e; exact r

/-- Of a list of the call's own and a flag: its slice's form. -/
theorem form2 {w : World} {zs : List Pr} {b : Bool} {e : Ending} {w' : World} (h : Gives2 w zs b e w') : ∃ A c, e = .returned (.tuple #[.slice A zs.length c, .bool b]) ∧ w'.ownsRow w.heap.size 86 2 (.slice A zs.length c) zs.length (PL zs) ∧ Below w.heap.size w w' := by
  obtain ⟨v, he, ho, hb⟩ := h
  obtain ⟨A, c, rfl, _⟩ := RP.of_own ho
  exact ⟨A, c, he, ho, hb⟩

theorem own_far {w w' : World} {base : Nat} {e : TypeId} {size n : Nat} {v : Value} {xs : List Value} {row : Option Nat} (h : w.ownsRow base e size v n xs) (hg : w.grownBy w' row) (hf : ∀ b, v.ownBlock = some b → row ≠ some b) : w'.ownsRow base e size v n xs :=
  h.kept hg (by
    cases e : v.ownBlock with
    | none => exact .inl rfl
    | some b => exact .inr (fun h => hf b e h.symm))

theorem putL_le (zs : List Pr) (k v : Int) : (putL zs k v).length ≤ 40 := by
  unfold putL
  by_cases hp : pOk zs = true
  · have h40 := ((pOk_iff zs).1 hp).2
    have hle := geIx_le zs k
    rw [if_pos hp]
    by_cases hr : rightB k v = true
    · rw [if_pos hr]
      by_cases hh : hitB zs k = true
      · have hg : geIx zs k < zs.length := by
          have := hh; unfold hitB at this; simp only [Bool.and_eq_true, decide_eq_true_eq] at this; exact this.1
        rw [if_pos hh]
        simp; omega
      · rw [if_neg hh]
        by_cases hf : zs.length = 40
        · rw [if_pos hf]; omega
        · rw [if_neg hf]
          simp; omega
    · rw [if_neg hr]; exact h40
  · rw [if_neg hp]; simp
theorem cutL_le (zs : List Pr) (k : Int) : (cutL zs k).length ≤ 40 := by
  unfold cutL
  by_cases hp : pOk zs = true
  · have h40 := ((pOk_iff zs).1 hp).2
    have hle := geIx_le zs k
    rw [if_pos hp]
    by_cases hh : hitB zs k = true
    · rw [if_pos hh]
      simp; omega
    · rw [if_neg hh]; exact h40
  · rw [if_neg hp]; simp
end Go.Proofs.Ytjookicpmjmdhaa

/- The walk of the model's Put. -/
import Derived.Test.YtjookicpmjmdhaaW12
namespace Go.Proofs.Ytjookicpmjmdhaa
open Go.RowKit
set_option linter.unusedVariables false

theorem insL_length (zs : List Pr) (k v : Int) : (insL zs k v).length = if hitB zs k = true then zs.length else zs.length + 1 := by
  have hle := geIx_le zs k
  unfold insL
  by_cases hh : hitB zs k = true
  · have hg : geIx zs k < zs.length := by
      have := hh; unfold hitB at this; simp only [Bool.and_eq_true, decide_eq_true_eq] at this; exact this.1
    rw [if_pos hh, if_pos hh]
    simp; omega
  · rw [if_neg hh, if_neg hh]
    simp; omega
theorem own_form {w : World} {zs : List Pr} {e : Ending} {w' : World} (h : Gives w zs e w') : ∃ A c, e = .returned (.slice A zs.length c) ∧ w'.ownsRow w.heap.size 86 2 (.slice A zs.length c) zs.length (PL zs) ∧ Below w.heap.size w w' := by
  obtain ⟨v, he, ho, hb⟩ := h
  obtain ⟨A, c, rfl, _⟩ := RP.of_own ho
  exact ⟨A, c, he, ho, hb⟩

end Go.Proofs.Ytjookicpmjmdhaa

/- The walks of the model's l3Row and RowOf. -/
import Derived.Test.YtjookicpmjmdhaaT5
import Derived.Test.YtjookicpmjmdhaaW12
import Derived.Deep.LoopGhost
namespace Go.Proofs.Ytjookicpmjmdhaa
open Go.RowKit

/-! ### Rows of numbers that grow -/

def IL (xs : List Int) : List Value := xs.map fun x => .int .i64 x
theorem IL_append (a b : List Int) : IL (a ++ b) = IL a ++ IL b := by simp [IL]
theorem IL_flat (xs : List Int) : IL xs = (xs.map fun x => [Value.int .i64 x]).flatten := by
  induction xs with
  | nil => rfl
  | cons x r ih => unfold IL at *; simp [ih]
theorem OwnS.of_ints {w : World} {base : Nat} {v : Value} {n : Nat} {xs : List Int} {F : FP} (h : w.ownsRow base 2 1 v n (IL xs)) (hF : ∀ k, v.ownBlock = some k → F k) : OwnS w v xs F := by
  have hl : xs.length = n := by have := h.1; unfold IL at this; simpa using this
  refine ⟨xs.map fun x => [Value.int .i64 x], fun _ _ => False, by rw [← IL_flat, hl]; exact own_zero h, by simp, fun i hi => ?_, fun i hi k hk => absurd hk id, fun i j hi hj hij k hk => absurd hk id, hF⟩
  show (xs.map fun x => [Value.int .i64 x]).getD i [] = [.int .i64 (xs.getD i 0)]
  simp [hi]
theorem int_info : (Try.prog.info? 2).map (fun i => (i.zero, i.size, i.bytes)) = some (some (.int .i64 0), 1, 8) := by kernel_rfl
/-- One number more behind a row of the call's own. -/
theorem wpList_appI {w : World} {ops : Array Oper} {rest : List Oper} {o : Oper} {a : Act} {Q : Exit → Act → World → Prop} (hgd : o.guard = none) (s x : Operand)
    (ho : o.op = .call { callee := .builtin .append, args := #[s, x], argTypes := #[29, 29] })
    (base : Nat) (v : Value) (n : Nat) (xs : List Int) (hs : a.eval s = v) (hown : w.ownsRow base 2 1 v n (IL xs))
    (g : Nat) (y : Int) (hx : a.eval x = .slice (some ⟨g, 0, none⟩) 1 1) (hc : w.cell? ⟨g, 0, none⟩ = some (.int .i64 y)) (hsz : n ≤ 4194304) (hbase : base ≤ w.heap.size)
    (h : ∀ v' w', w'.ownsRow base 2 1 v' (n + 1) (IL (xs ++ [y])) → w.grownBy w' v.ownBlock → wpList Try.prog ops Q rest (a.put o.dst v') w') : wpList Try.prog ops Q (o :: rest) a w := by
  obtain ⟨i0, hi0, hz0, hz1, hz2⟩ := info_parts int_info
  refine wpList_append_own w hgd s x 29 ho base 2 i0 _ 1 8 Try.underlying29 hi0 hz0 hz1 hz2 rfl (by omega) v n (IL xs) hs hown ⟨g, 0, none⟩ 1 1 [.int .i64 y] hx rfl
    (fun j u hu => by
      match j, hu with
      | 0, hu => cases hu; exact hc
      | j + 1, hu => simp at hu) (by simp [Value.oneCell']) (by unfold maxLen; omega) (by omega) hbase (fun v' w' h1 h2 _ => h v' w' ?_ h2)
  rw [IL_append]
  exact h1

/-! ### A row -/

def riAt (xs : List Nd) (i : Nat) : Int := (ndAt xs i).ri
def rowF (xs : List Nd) : Nat → Int → List Int
  | 0, _ => []
  | f + 1, a => if 0 ≤ a then a :: rowF xs f (riAt xs a.toNat) else []
def rowT (r : Int) (xs : List Nd) (lev : Int) : List Int := rowF xs 40 (firstT r xs lev)
theorem rowF_end (xs : List Nd) (f : Nat) (a : Int) (h : ¬ 0 ≤ a) : rowF xs f a = [] := by
  cases f with
  | zero => rfl
  | succ f => simp only [rowF]; rw [if_neg h]
theorem rowF_go (xs : List Nd) (f a : Nat) : rowF xs (f + 1) a = (a : Int) :: rowF xs f (riAt xs a) := by
  simp only [rowF]; rw [if_pos (by omega), Int.toNat_natCast]
theorem Right.ri {n : Nat} {r : Int} {xs : List Nd} (h : Right n r xs) (i : Nat) (hi : i < n) : riAt xs i < n := (h.good i hi).2.1
theorem firstF_lt {n : Nat} {r : Int} {xs : List Nd} (h : Right n r xs) (lev : Int) : ∀ (f a : Nat), a < n → firstF xs lev f a < n := by
  intro f
  induction f with
  | zero => intro a ha; simp only [firstF]; omega
  | succ f ih =>
    intro a ha
    by_cases hg : lev < lvAt xs a ∧ 0 ≤ lev
    · by_cases hk : lvAt xs (kid0 xs a) = lvAt xs a - 1
      · rw [firstF_down xs lev f a hg hk]
        exact ih _ (h.kid a ha (by omega)).2.1
      · rw [firstF_none xs lev f a hg hk]; omega
    · rw [firstF_here xs lev f a hg]
      split <;> omega
theorem firstT_lt {n : Nat} {r : Int} {xs : List Nd} (h : Right n r xs) (lev : Int) : firstT r xs lev < n := firstF_lt h lev 7 _ (by have := h.root; omega)

/-- What RowOf answers. -/
def rowOfT (r : Int) (xs : List Nd) (lev : Int) : List Int := if treeOk r xs then rowT r xs lev else []
theorem rowF_len (xs : List Nd) : ∀ (f : Nat) (a : Int), (rowF xs f a).length ≤ f := by
  intro f
  induction f with
  | zero => intro a; simp [rowF]
  | succ f ih =>
    intro a
    simp only [rowF]
    split
    · have := ih (riAt xs a.toNat)
      simp; omega
    · simp
theorem rowOfT_sm (r : Int) (xs : List Nd) (lev : Int) : Small.sm (rowOfT r xs lev) := by
  show (rowOfT r xs lev).length ≤ 1048576
  unfold rowOfT
  split
  · have := rowF_len xs 40 (firstT r xs lev)
    unfold rowT
    omega
  · simp

theorem newNd_sm : Small.sm [newNd] := ⟨by simp, fun i hi => by
  obtain rfl : i = 0 := by simpa using hi
  show ([] : List Pr).length ≤ 1048576
  simp⟩
end Go.Proofs.Ytjookicpmjmdhaa

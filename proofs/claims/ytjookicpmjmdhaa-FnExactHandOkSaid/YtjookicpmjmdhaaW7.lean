/- append onto a row of the call's own from a list of pairs, nil let in; the walk of slices.Clone. -/
import Derived.Test.YtjookicpmjmdhaaW6
import Derived.WalkSpells
import Derived.WalkLawsBesides
namespace Go.Proofs.Ytjookicpmjmdhaa
open Go.RowKit

theorem PL_get (ys : List Pr) (j : Nat) (u : Value) (h : (PL ys)[j]? = some u) : ∃ i, i < ys.length ∧ ((j = i * 2 ∧ u = .int .i64 (kAt ys i)) ∨ (j = i * 2 + 1 ∧ u = .int .i64 (vAt ys i))) := by
  have hj : j < (PL ys).length := by
    rcases Nat.lt_or_ge j (PL ys).length with h' | h'
    · exact h'
    · rw [List.getElem?_eq_none h'] at h; cases h
  rw [PL_length] at hj
  have hi : j / 2 < ys.length := by omega
  refine ⟨j / 2, hi, ?_⟩
  have h2 : j = j / 2 * 2 ∨ j = j / 2 * 2 + 1 := by omega
  rcases h2 with h2 | h2
  · left
    rw [h2, PL_fst _ _ hi] at h
    exact ⟨h2, (Option.some.inj h).symm⟩
  · right
    rw [h2, PL_snd _ _ hi] at h
    exact ⟨h2, (Option.some.inj h).symm⟩

theorem RP.take {w : World} {B n : Nat} {A : Option Addr} {zs : List Pr} (h : RP w B A n zs) {k : Nat} (hk : k ≤ n) : RP w B A k (zs.take k) := by
  have hl := h.1
  refine ⟨by rw [List.length_take]; omega, fun h0 => ?_⟩
  obtain ⟨b, off, e, hb, hc⟩ := h.2 (by omega)
  refine ⟨b, off, e, hb, fun i hi => ?_⟩
  have e1 : kAt (zs.take k) i = kAt zs i := by simp [kAt, hi]
  have e2 : vAt (zs.take k) i = vAt zs i := by simp [vAt, hi]
  rw [e1, e2]
  exact hc i (by omega)
theorem RP.drop {w : World} {B n c : Nat} {A : Option Addr} {zs : List Pr} (h : RP w B A n zs) {k : Nat} (hk : k ≤ n) (hc : n ≤ c) :
    RP w B (if c = k then A else A.map (·.add (k * 2))) (n - k) (zs.drop k) := by
  have hl := h.1
  refine ⟨by rw [List.length_drop]; omega, fun h0 => ?_⟩
  obtain ⟨b, off, e, hb, hcell⟩ := h.2 (by omega)
  refine ⟨b, off + k * 2, ?_, hb, fun i hi => ?_⟩
  · rw [if_neg (by omega), e]
    simp only [Option.map_some, Option.some.injEq]
    unfold Addr.add
    split <;> simp_all
  · have e1 : kAt (zs.drop k) i = kAt zs (k + i) := by simp [kAt]
    have e2 : vAt (zs.drop k) i = vAt zs (k + i) := by simp [vAt]
    rw [e1, e2]
    have := hcell (k + i) (by omega)
    rw [show off + k * 2 + i * 2 = off + (k + i) * 2 from by omega]
    exact this

theorem run_app_nil {P : Program} (w : World) (base : Nat) (t ty e : TypeId) (i : TypeInfo) (size : Nat) (ht : P.underlying t = some (.slice e)) (hi : P.info? e = some i)
    (v : Value) (n : Nat) (xs : List Value) (hown : w.ownsRow base e size v n xs) (c : Nat) : (Builtin.append_ #[t, t] ty #[v, .slice none 0 c]).run P w = .ok v w := by
  rcases hown.2 with ⟨rfl, rfl⟩ | ⟨g, cap, cur, rfl, _, _, hnc, _⟩
  · simp [Builtin.append_, run_underlying ht, sizeOf, typeInfo, hi, Builtin.lenOf, Builtin.firstCells]
  · simp [Builtin.append_, run_underlying ht, sizeOf, typeInfo, hi, Builtin.lenOf, Builtin.firstCells, hnc, storeCells]

theorem wpList_app {w : World} {ops : Array Oper} {rest : List Oper} {o : Oper} {a : Act} {Q : Exit → Act → World → Prop} (hgd : o.guard = none) (s x : Operand)
    (ho : o.op = .call { callee := .builtin .append, args := #[s, x], argTypes := #[99, 99] })
    (base : Nat) (v : Value) (n : Nat) (xs : List Pr) (hs : a.eval s = v) (hown : w.ownsRow base 86 2 v n (PL xs))
    (B : Nat) (A : Option Addr) (m c : Nat) (ys : List Pr) (hx : a.eval x = .slice A m c) (hr : RP w B A m ys) (hsz : n + m ≤ 4194304) (hbase : base ≤ w.heap.size)
    (h : ∀ v' w', w'.ownsRow base 86 2 v' (n + m) (PL (xs ++ ys)) → w.grownBy w' v.ownBlock → wpList Try.prog ops Q rest (a.put o.dst v') w') : wpList Try.prog ops Q (o :: rest) a w := by
  obtain ⟨i0, hi0, hz0, hz1, hz2⟩ := info_parts pair_info
  rcases A with _ | ad
  · have hm : m = 0 := by
      rcases Nat.eq_zero_or_pos m with h0 | h0
      · exact h0
      · obtain ⟨_, _, h, _⟩ := hr.2 h0; cases h
    subst hm
    have hy : ys = [] := List.eq_nil_of_length_eq_zero hr.1
    subst hy
    refine wpList_plain hgd fun K hK => ?_
    have hrun := run_app_nil (P := Try.prog) w base 99 o.type 86 i0 2 Try.underlying99 hi0 v n (PL xs) hown c
    unfold Oper.wp
    simp [execOp, ho, resolve, invoke, builtin, hs, hx, hrun, Result.andThen]
    exact hK _ _ (h v w (by simpa using hown) (World.grownBy.refl w _))
  · refine wpList_append_own w hgd s x 99 ho base 86 i0 _ 2 16 Try.underlying99 hi0 hz0 hz1 hz2 rfl (by omega) v n (PL xs) hs hown ad m c (PL ys) hx
      (by rw [PL_length, hr.1]) ?_ (PL_one ys) (by unfold maxLen; omega) (by omega) hbase (fun v' w' h2 h3 _ => h v' w' (by rw [PL_append]; exact h2) h3)
    intro j u hu
    obtain ⟨i, hi, h'⟩ := PL_get ys j u hu
    have hl := hr.1
    obtain ⟨b, off, e, _, hc⟩ := hr.2 (by omega)
    cases e
    have aa : ∀ k, (⟨b, off, none⟩ : Addr).add k = ⟨b, off + k, none⟩ := by intro k; unfold Addr.add; split <;> simp_all
    rcases h' with ⟨rfl, rfl⟩ | ⟨rfl, rfl⟩
    · rw [aa]; exact (hc i (by omega)).1
    · rw [aa]; exact (hc i (by omega)).2

theorem empty_row (w : World) : (w.alloc (.cells #[] 86)).ownsRow w.heap.size 86 2 (.slice (some ⟨w.heap.size, 0, none⟩) 0 0) 0 (PL []) :=
  World.ownsRow_made w #[] 0 (Nat.le_refl _) (by unfold maxLen; omega) (by simp)

/-- What a call hands back that makes a list of its own. -/
def Gives (w : World) (zs : List Pr) (e : Ending) (w' : World) : Prop := ∃ v, e = .returned v ∧ w'.ownsRow w.heap.size 86 2 v zs.length (PL zs) ∧ Below w.heap.size w w'

end Go.Proofs.Ytjookicpmjmdhaa

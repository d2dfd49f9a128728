/- What the model's Halves answers, as plain functions. -/
import Derived.Test.YtokkpbjldchjpaaN2
import Derived.Test.YtokkpbjldchjpaaW14
import Derived.Test.YtokkpbjldchjpaaZo
import Derived.Deep.AppendLies
namespace Go.Proofs.Ytokkpbjldchjpaa
open Go.RowKit

/-! ### Chapter 6 -/

def guardH (x : Nd) (k v at_ : Int) : Bool := nodeOk x && (decide (x.ps.length = 4) && (rightB k v && (!hitB x.ps k && (inside x k && numB at_))))
def upN (x : Nd) (k v : Int) : Nd := ⟨x.lv, (insL x.ps k v).drop 3, x.hi, x.ri, 0⟩
def loN (x : Nd) (k v at_ : Int) : Nd := ⟨x.lv, (insL x.ps k v).take 3, kAt (insL x.ps k v) 3, at_, x.ow⟩
def halfB (x : Nd) (k v at_ : Int) : Bool := guardH x k v at_ && (nodeOk (loN x k v at_) && nodeOk (upN x k v))
def zeroN : Nd := ⟨0, [], 0, 0, 0⟩
def loH (x : Nd) (k v at_ : Int) : Nd := if halfB x k v at_ then loN x k v at_ else zeroN
def upH (x : Nd) (k v at_ : Int) : Nd := if halfB x k v at_ then upN x k v else zeroN
end Go.Proofs.Ytokkpbjldchjpaa

namespace Go.Proofs.Ytokkpbjldchjpaa
open Go.RowKit

section
variable {X : FP} {w0 w : World} {L : List Item} {o : Oper} {a : Act} {K : Act → World → Prop} {Q : Exit → Act → World → Prop}
/-- Pairs that lie somewhere, behind a list of the call's own. -/
theorem op_appP (s x : Operand) (ho : o.op = .call { callee := .builtin .append, args := #[s, x], argTypes := #[24, 24] }) (h : Sep X w0 L w) (p : Nat) {v : Value} {xs : List Pr} {F : FP} (e : L[p]? = some (ow v xs F)) (hs : a.eval s = v)
    {B : Nat} (ad : Addr) (m c : Nat) (ys : List Pr) (hr : RP w B (some ad) m ys) (hm0 : 0 < m) (hx : a.eval x = .slice (some ad) m c) (hsz : xs.length + m ≤ 4194304)
    (hK : ∀ A c' F' w', Sep X w0 (L.set p (ow (.slice A (xs.length + m) c') (xs ++ ys) F')) w' → K (a.put o.dst (.slice A (xs.length + m) c')) w') : o.wp Try.prog a w K Q := by
  obtain ⟨i0, hi0, hz0, hz1, hz2⟩ := info_parts pair_info
  obtain ⟨hrow, hF⟩ := OwnS.pairs (h.get p e)
  have hm : ys.length = m := hr.1
  refine wp_append_lies w s x 24 ho 0 28 i0 _ 2 16 Try.underlying24 hi0 hz0 hz1 hz2 rfl (by omega) v xs.length (PL xs) hs hrow ad m c (PL ys) hx (by rw [PL_length, hm])
    (fun j u hu => by
      obtain ⟨i, hi, h'⟩ := PL_get ys j u hu
      obtain ⟨b, off, hA, hb, hc⟩ := hr.2 hm0
      cases hA
      have aa : (⟨b, off, none⟩ : Addr).add j = ⟨b, off + j, none⟩ := by unfold Addr.add; split <;> simp_all
      rw [aa]
      obtain ⟨h1, h2⟩ := hc i (by omega)
      rcases h' with ⟨rfl, rfl⟩ | ⟨rfl, rfl⟩
      · exact h1
      · rw [show off + (i * 2 + 1) = off + i * 2 + 1 by omega]; exact h2) (PL_one ys) hm0 (by unfold maxLen; omega) (by omega) (Nat.zero_le _) w.heap.size rfl (fun g' cap w' h1 h2 h3 h4 => ?_)
  rw [← PL_append] at h1
  refine hK _ cap (fun k => F k ∨ k = g') w' (h.turn p e (Only.of_grown h2 (fun k hk => hF k hk)) _ ?_ (fun k hk => ?_))
  · have hl : (xs ++ ys).length = xs.length + m := by simp [hm]
    have := OwnS.of_pairs (F := fun k => F k ∨ k = g') h1 (fun k hk => .inr (by simpa [Value.ownBlock] using hk.symm))
    exact this
  · rcases hk with hk | rfl
    · have h5 := h.fresh _ (List.mem_of_getElem? e) k hk
      have := h2.size
      exact ⟨.inl hk, by omega⟩
    · refine ⟨?_, h4⟩
      rcases h3 with h5 | h5
      · exact .inl (hF _ h5)
      · exact .inr (by omega)
/-- An empty literal list of pairs, at a place that waits for it. -/
theorem op_bsP0 (ho : o.op = .buildSlice 24 0 #[]) (h : Sep X w0 L w) (i : Nat) (e : L[i]? = some em)
    (hK : ∀ g w', Sep X w0 (L.set i (ow (.slice (some ⟨g, 0, none⟩) 0 0) ([] : List Pr) (fun k => k = g))) w' → K (a.put o.dst (.slice (some ⟨g, 0, none⟩) 0 0)) w') : o.wp Try.prog a w K Q := by
  have hrun : (execOp a.eval o).run Try.prog w = .ok (.value (.slice (some ⟨w.heap.size, 0, none⟩) 0 0)) (w.alloc (.cells #[] 28)) := by
    simp only [execOp, ho, Sem.run_bind, Array.map_empty]
    kernel_rfl
  unfold Oper.wp
  rw [hrun]
  exact hK _ _ (h.turn i e (Only.of_below ((Below.refl _ _).alloc (Nat.le_refl _) _)) _ (OwnS.of_pairs (zs := []) (empty_row w) (fun k hk => by simpa [Value.ownBlock] using hk.symm)) (fun k hk => by
    have hk : k = w.heap.size := hk
    subst hk
    exact ⟨.inr (Nat.le_refl _), by simp⟩))
/-- A slice from a place on, up to a place. -/
theorem op_slFrom (t e : TypeId) (sz k : Nat) (x : Operand) (ho : o.op = .slice t x (some (.const (.int .i64 k))) none none) (ht : Try.prog.underlying t = some (.slice e)) (hi : ∀ w, (sizeOf e).run Try.prog w = .ok sz w) {b off n c : Nat} (hx : a.eval x = .slice (some ⟨b, off, none⟩) n c) (hkn : k ≤ n) (hkc : k < c) (hnc : n ≤ c)
    (hK : K (a.put o.dst (.slice (some ⟨b, off + k * sz, none⟩) (n - k) (c - k))) w) : o.wp Try.prog a w K Q := by
  refine op_val ?_ hK
  have aa : (⟨b, off, none⟩ : Addr).add (k * sz) = ⟨b, off + k * sz, none⟩ := by unfold Addr.add; split <;> simp_all
  have h1 : (k : Int) ≤ n := by omega
  have h2 : ¬ c = k := by omega
  have h3 : ¬ c - k = 0 := by omega
  generalize hE : a.eval = E at hx ⊢
  have hc : E (.const (.int .i64 k)) = .int .i64 k := by rw [← hE]; rfl
  simp [execOp, ho, hx, hc, go_sem, ht, hi, aa, h1, h2, h3, hkn, hnc]
theorem op_slTo (t e : TypeId) (sz k : Nat) (x : Operand) (ho : o.op = .slice t x none (some (.const (.int .i64 k))) none) (ht : Try.prog.underlying t = some (.slice e)) (hi : ∀ w, (sizeOf e).run Try.prog w = .ok sz w) {b off n c : Nat} (hx : a.eval x = .slice (some ⟨b, off, none⟩) n c) (hkc : k ≤ c) (hk0 : 0 < c)
    (hK : K (a.put o.dst (.slice (some ⟨b, off, none⟩) k c)) w) : o.wp Try.prog a w K Q := by
  refine op_val ?_ hK
  have aa : (⟨b, off, none⟩ : Addr).add (0 * sz) = ⟨b, off, none⟩ := by unfold Addr.add; split <;> simp_all
  have h1 : (k : Int) ≤ c := by omega
  have h2 : ¬ c = 0 := by omega
  generalize hE : a.eval = E at hx ⊢
  have hc : E (.const (.int .i64 k)) = .int .i64 k := by rw [← hE]; rfl
  simp [execOp, ho, hx, hc, go_sem, ht, hi, aa, h1, h2, hkc]
end
end Go.Proofs.Ytokkpbjldchjpaa

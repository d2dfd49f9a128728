/- A region that draws its order and has guards, all of which are wanted: one obligation an operation, whatever the order. -/
import Derived.Test.YtokkpbjldchjpaaZo
namespace Go.Proofs.Ytokkpbjldchjpaa
open Go.RowKit

/-- What an operation waits for is done. -/
theorem after_on {o : Oper} {D : Nat → Bool} (haf : ∀ e ∈ o.after, Region.binds .any e = true → D e.on = true) (q : Nat) (h : (o.after.toList.any fun e => e.on == q && Region.binds .any e) = true) : D q = true := by
  obtain ⟨e, he, h2⟩ := List.any_eq_true.1 h
  simp only [Bool.and_eq_true, beq_iff_eq] at h2
  have := haf e (by simpa using he) h2.2
  rwa [h2.1] at this
/-- Each guard's operation leaves a value. -/
def guardsOk (l : List Oper) : Bool := l.all fun o => match o.guard with | none => true | some (j, _) => ((l[j]?).bind (·.dst)).isSome
theorem wp_region_evg {P : Program} {id : Nat} {Q : Exit → Act → World → Prop} {a0 : Act} {w : World} (hm : P.follows .mixedOrders = true) (l : List Oper) (hlt : afterLt l.toArray = true)
    (hun : guardsOk l = true) (n : Nat) (hn : a0.tmps.size = n) (hd : dstsOk n l = true) (I : (Nat → Bool) → (Nat → Value) → World → Prop)
    (h0 : ∀ D, (∀ i, i < l.length → D i = false) → I D (fun _ => undef) w.drew)
    (hs : ∀ (i : Nat) (o : Oper) (D : Nat → Bool) (V : Nat → Value) (w' : World) (a : Act), l[i]? = some o → I D V w' → D i = false → (∀ e ∈ o.after, Region.binds .any e = true → D e.on = true) → Evs l a0 D V a →
      (∀ j b, o.guard = some (j, b) → D j = true ∧ V j = .bool b) ∧ o.wp P a w' (fun a' w'' => ∃ v, a' = a.put o.dst v ∧ I (updB D i) (updW V i v) w'') Q)
    (he : ∀ V w', I (fun _ => true) V w' → Q .normal (putF V l 0 a0) w') : (Code.region id l.toArray true).wp P Q a0 w := by
  refine wp_region_inv (ops := l.toArray) hm hlt (fun L a w' => ∃ V, a = putD V (fun j => L.getD j true) l 0 a0 ∧ I (fun j => L.getD j true) V w') ?_ ?_ ?_
  · refine ⟨fun _ => undef, ?_, h0 _ (fun i hi => by simp [hi])⟩
    rw [putD_none]
    intro j hj
    simp [hj]
  · rintro L a w' i o hL ⟨V, rfl, hI⟩ ho hLi haf
    have ho' : l[i]? = some o := by simpa using ho
    have hi : i < L.size := by rw [hL]; exact (Array.getElem?_eq_some_iff.1 ho).1
    have hev : Evs l a0 (fun j => L.getD j true) V (putD V (fun j => L.getD j true) l 0 a0) := ⟨fun t ht => putD_other _ _ _ _ _ _ ht, fun j o' t hj hot hD => by
        have := putD_at V (fun j => L.getD j true) l n 0 a0 hn hd j o' t hj hot (by simpa using hD)
        simpa using this⟩
    obtain ⟨hgu, hwp⟩ := hs i o (fun j => L.getD j true) V w' _ ho' hI hLi (fun e he hb => by
      have := haf e he hb
      by_cases hes : e.on < L.size
      · simpa [hes] using this
      · simp [hes]) hev
    have hw : Region.wanted o (yielded l.toArray (putD V (fun j => L.getD j true) l 0 a0).tmps) = true := by
      unfold Region.wanted
      cases hg : o.guard with
      | none => rfl
      | some q =>
        obtain ⟨j, b⟩ := q
        obtain ⟨hD, hV⟩ := hgu j b hg
        have h1 := (List.all_eq_true.1 hun) o (List.mem_of_getElem? ho')
        rw [hg] at h1
        have h1 : ((l[j]?).bind (·.dst)).isSome = true := h1
        cases hj : l[j]? with
        | none => rw [hj] at h1; simp at h1
        | some o' =>
          cases ht : o'.dst with
          | none => rw [hj] at h1; simp [ht] at h1
          | some t =>
            have h2 := hev.new j o' t hj ht hD
            rw [hV] at h2
            generalize putD V (fun j => L.getD j true) l 0 a0 = a at h2 ⊢
            have h2 : a.tmps.getD t undef = .bool b := h2
            unfold yielded
            have h3 : a.tmps[t]? = some (.bool b) := by
              rw [Array.getD_eq_getD_getElem?] at h2
              cases hq : a.tmps[t]? with
              | none => rw [hq] at h2; cases h2
              | some v => rw [hq] at h2; exact congrArg some h2
            simp [hj, ht, h3]
    rw [if_pos hw]
    have hLD : (fun j => (L.setIfInBounds i true).getD j true) = updB (fun j => L.getD j true) i := by
      funext j
      unfold updB
      by_cases e : j = i
      · subst e; simp [hi]
      · rw [if_neg e]
        simp only [Array.getD_eq_getD_getElem?]
        rw [Array.getElem?_setIfInBounds_ne (by omega)]
    refine Oper.wp_mono (fun a' w'' h => ?_) hwp
    obtain ⟨v, rfl, hI'⟩ := h
    refine ⟨updW V i v, ?_, ?_⟩
    · rw [hLD]
      have := putD_step V (fun j => L.getD j true) l n 0 a0 hd i o ho' (by simpa using hLi) v
      simpa using this
    · rw [hLD]; exact hI'
  · rintro a w' ⟨V, rfl, hI⟩
    have e : (fun j => (Array.replicate l.toArray.size true).getD j true) = fun _ => true := by
      funext j
      by_cases hj : j < l.length <;> simp [hj]
    rw [e] at hI ⊢
    rw [putD_all]
    exact he V w' hI
section
variable {w : World} {o : Oper} {a : Act} {K : Act → World → Prop} {Q : Exit → Act → World → Prop}
theorem op_pick (c x y : Operand) (ho : o.op = .pick c x y) {q : Bool} (hc : a.eval c = .bool q) {v : Value} (hv : (if q = true then a.eval x else a.eval y) = v) (hK : K (a.put o.dst v) w) : o.wp Try.prog a w K Q := by
  refine op_val ?_ hK
  generalize a.eval = E at hc hv ⊢
  subst hv
  cases q <;> simp [execOp, ho, hc, asBool]
theorem op_eqlI (ty t : TypeId) (x y : Operand) (ho : o.op = .binOp .eql ty x y t) (hu : ∀ w, (underlying ty).run Try.prog w = .ok (.int .i64) w) {p q : Int} (hx : a.eval x = .int .i64 p) (hy : a.eval y = .int .i64 q) (hK : K (a.put o.dst (.bool (p == q))) w) : o.wp Try.prog a w K Q := by
  refine op_val ?_ hK
  generalize a.eval = E at hx hy ⊢
  simp [execOp, ho, hx, hy, go_sem, hu]
end
end Go.Proofs.Ytokkpbjldchjpaa

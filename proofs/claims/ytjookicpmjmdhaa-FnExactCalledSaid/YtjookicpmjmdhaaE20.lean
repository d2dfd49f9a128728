/- A region that draws its order, by an invariant: one obligation an operation, whatever the order. No program in sight. -/
import Derived.Orders
import Derived.Still
namespace Go.Proofs.Ytjookicpmjmdhaa

variable {P : Program} {ops : Array Oper}

def afterLt (ops : Array Oper) : Bool := (List.range ops.size).all fun i => ((ops[i]?).map fun o => o.after.all fun e => !Region.binds .any e || decide (e.on < i)).getD true

theorem all_true {L : Array Bool} {n : Nat} (hn : L.size = n) (h : ∀ i, i < n → L.getD i true = true) : L = Array.replicate n true := by
  apply Array.ext
  · simp [hn]
  · intro i h1 h2
    have := h i (by omega)
    simp only [Array.getElem_replicate]
    simpa [h1] using this

theorem ready_nil {L : Array Bool} (hlt : afterLt ops = true) (hL : L.size = ops.size) (h : Region.ready .any ops L = []) : ∀ i, i < ops.size → L.getD i true = true := by
  intro i
  induction i using Nat.strongRecOn with
  | ind i ih =>
    intro hi
    rcases hq : L.getD i true with _ | _
    · exfalso
      have hmem : i ∈ Region.ready .any ops L := by
        refine mem_ready.2 ⟨hq, ops[i], by simp [hi], fun e he hbd => ?_⟩
        have hall : (((ops[i]?).map fun o => o.after.all fun e => !Region.binds .any e || decide (e.on < i)).getD true) = true := by
          unfold afterLt at hlt
          exact (List.all_eq_true.1 hlt) i (List.mem_range.2 hi)
        simp [hi] at hall
        have he' : e.on < i := by
          obtain ⟨j, hj, rfl⟩ := Array.getElem_of_mem he
          have := hall j hj
          rw [hbd] at this
          simpa using this
        have := ih e.on he' (by omega)
        have hs : e.on < L.size := by omega
        simpa [hs] using this
      rw [h] at hmem
      cases hmem
    · rfl

theorem wpAny_inv {Q : Exit → Act → World → Prop} (hlt : afterLt ops = true) (I : Array Bool → Act → World → Prop)
    (hs : ∀ L a w i o, L.size = ops.size → I L a w → ops[i]? = some o → L.getD i true = false → (∀ e ∈ o.after, Region.binds .any e = true → L.getD e.on false = true) →
      if Region.wanted o (yielded ops a.tmps) = true then o.wp P a w (I (L.setIfInBounds i true)) Q else I (L.setIfInBounds i true) (a.put o.dst undef) w)
    (he : ∀ a w, I (Array.replicate ops.size true) a w → Q .normal a w) :
    ∀ (fuel : Nat) (L : Array Bool) (a : Act) (w : World), L.size = ops.size → L.toList.count false ≤ fuel → I L a w → wpAny P .any ops Q fuel L a w := by
  intro fuel
  induction fuel with
  | zero =>
    intro L a w hL hc hI
    have hall : ∀ i, i < ops.size → L.getD i true = true := by
      intro i hi
      rcases hq : L.getD i true with _ | _
      · exfalso
        have hi' : i < L.size := by omega
        have hm : false ∈ L.toList := by
          have : L[i] = false := by simpa [hi'] using hq
          rw [← this]
          simp
        have := List.count_pos_iff.2 hm
        omega
      · rfl
    have e := all_true hL hall
    subst e
    refine ⟨?_, he _ _ hI⟩
    apply List.eq_nil_iff_forall_not_mem.2
    intro i hi
    have h1 := (mem_ready.1 hi).1
    by_cases hsz : i < ops.size <;> simp [hsz] at h1
  | succ fuel ih =>
    intro L a w hL hc hI
    refine ⟨fun h => ?_, fun i hi => ?_⟩
    · have e := all_true hL (ready_nil hlt hL h)
      subst e
      exact he _ _ hI
    · obtain ⟨h1, o, ho, hafter⟩ := mem_ready.1 hi
      have hi' : i < ops.size := (Array.getElem?_eq_some_iff.1 ho).1
      have hL' : (L.setIfInBounds i true).size = ops.size := by simp [hL]
      have hc' : (L.setIfInBounds i true).toList.count false ≤ fuel := by
        have hil : i < L.toList.length := by simp; omega
        have hv : L.toList[i] = false := by
          have : i < L.size := by omega
          simpa [this] using h1
        rw [Array.toList_setIfInBounds, List.count_set hil, hv]
        have hpos : 0 < L.toList.count false := List.count_pos_iff.2 (by rw [← hv]; exact List.getElem_mem hil)
        rw [if_pos (by rfl), if_neg (by decide)]
        omega
      have step := hs L a w i o hL hI ho h1 hafter
      unfold wpOp
      simp only [ho]
      by_cases hw : Region.wanted o (yielded ops a.tmps) = true
      · rw [if_pos hw] at step ⊢
        exact .inl (Oper.wp_mono (fun a w h => ih _ a w hL' hc' h) step)
      · rw [if_neg hw] at step ⊢
        exact ih _ _ _ hL' hc' step

theorem wp_region_inv {id : Nat} {Q : Exit → Act → World → Prop} {a : Act} {w : World} (hm : P.follows .mixedOrders = true) (hlt : afterLt ops = true) (I : Array Bool → Act → World → Prop)
    (h0 : I (Array.replicate ops.size false) a { w with drawn := w.drawn + 1 })
    (hs : ∀ L a w i o, L.size = ops.size → I L a w → ops[i]? = some o → L.getD i true = false → (∀ e ∈ o.after, Region.binds .any e = true → L.getD e.on false = true) →
      if Region.wanted o (yielded ops a.tmps) = true then o.wp P a w (I (L.setIfInBounds i true)) Q else I (L.setIfInBounds i true) (a.put o.dst undef) w)
    (he : ∀ a w, I (Array.replicate ops.size true) a w → Q .normal a w) : (Code.region id ops true).wp P Q a w :=
  wp_region_any hm (wpAny_inv hlt I hs he ops.size _ _ _ (by simp) (by have := List.count_le_length (a := false) (l := (Array.replicate ops.size false).toList); simp only [Array.toList_replicate, List.length_replicate] at this ⊢; exact this) h0)
end Go.Proofs.Ytjookicpmjmdhaa

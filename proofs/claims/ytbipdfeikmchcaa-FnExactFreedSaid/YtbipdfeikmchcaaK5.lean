/- A copy of the nodes into which their own lists and the latches are laid, one after the other: plain facts. -/
import Derived.Test.YtbipdfeikmchcaaK4
namespace Go.Proofs.Ytbipdfeikmchcaa
open Go.RowKit

theorem Held.setCell {w : World} {b n : Nat} {o : Int → Int} (h : Held w b n o) {a : Addr} (ha : b ≠ a.block) (u : Value) : Held (w.setCell a u) b n o := by
  obtain ⟨D, h1, h2⟩ := h
  exact ⟨D, h1.setCell ha u, h2⟩
theorem Held.lt {w : World} {b n : Nat} {o : Int → Int} (h : Held w b n o) : b < w.heap.size := by
  obtain ⟨D, h1, _⟩ := h
  exact h1.lt

def heldNd (xs : List Nd) (o : Int → Int) (i : Nat) : Nd := { ndAt xs i with ow := o i }
def heldXs (xs : List Nd) (o : Int → Int) (n : Nat) : List Nd := (List.range n).map (heldNd xs o)
theorem heldXs_len (xs : List Nd) (o : Int → Int) (n : Nat) : (heldXs xs o n).length = n := by simp [heldXs]
theorem heldXs_get (xs : List Nd) (o : Int → Int) (n i : Nat) (hi : i < n) : (heldXs xs o n).getD i encNd.dflt = heldNd xs o i := by simp [heldXs, List.getD, hi]

/-- The first k nodes have their own lists and their latches, the others lie as they came. -/
def HalfA (wr : World) (B g cap n k : Nat) (xs : List Nd) (o : Int → Int) : Prop :=
  B ≤ g ∧ ∃ (css : List (List Value)) (f : Nat → FP), wr.ownsRow 0 48 5 (.slice (some ⟨g, 0, none⟩) n cap) n css.flatten ∧ css.length = n ∧
    (∀ i, i < k → encNd.Own wr (css.getD i []) (heldNd xs o i) (f i)) ∧ (∀ i, i < k → ∀ q, f i q → B ≤ q ∧ q < wr.heap.size ∧ q ≠ g) ∧
    (∀ i j, i < k → j < k → i ≠ j → Apart (f i) (f j)) ∧ (∀ i, k ≤ i → i < n → encNd.Is wr B (css.getD i []) (ndAt xs i))

theorem HalfA.start {w w' : World} {xs : List Nd} {n g cap : Nat} {css : List (List Value)} (o : Int → Int) (hl : css.length = n) (hr : w'.ownsRow w.heap.size 48 5 (.slice (some ⟨g, 0, none⟩) n cap) n css.flatten)
    (hi : ∀ i, i < n → encNd.Is w w.heap.size (css.getD i []) (xs.getD i encNd.dflt)) (hb : Below w.heap.size w w') : HalfA w' w.heap.size g cap n 0 xs o :=
  ⟨(hr.lt g rfl).1, css, fun _ _ => False, own_zero hr, hl, fun i h => absurd h (by omega), fun i h => absurd h (by omega), fun i j h => absurd h (by omega), fun i _ h => encNd.is_keep (hi i h) (fun p hp => hb.cell hp)⟩

theorem HalfA.on {wr wx : World} {B g cap n k : Nat} {xs : List Nd} {o : Int → Int} (h : HalfA wr B g cap n k xs o) (hB : B ≤ wr.heap.size) (hb : Below wr.heap.size wr wx) : HalfA wx B g cap n k xs o := by
  obtain ⟨hg, css, f, h1, h2, h3, h4, h5, h6⟩ := h
  exact ⟨hg, css, f, own_on h1 hb, h2, fun i hi => encNd.own_keep (h3 i hi) (fun q _ hlt => hb.block q hlt), fun i hi q hq => by have := h4 i hi q hq; have := hb.size; exact ⟨by omega, by omega, by omega⟩, h5,
    fun i hk hi => encNd.is_keep (h6 i hk hi) (fun p hp => hb.cell (by omega))⟩

/-- What is read of node k. -/
theorem HalfA.at {wr : World} {B g cap n k : Nat} {xs : List Nd} {o : Int → Int} (h : HalfA wr B g cap n k xs o) (hk : k < n) : g < wr.heap.size ∧ B ≤ g ∧ (∀ i, wr.frozen? ⟨g, i, none⟩ = false) ∧ NdIn wr B g (k * 5) (ndAt xs k) := by
  obtain ⟨hg, css, f, h1, h2, h3, h4, h5, h6⟩ := h
  have hlen : ∀ c ∈ css, c.length = 5 := fun c hc => by
    obtain ⟨i, hi, rfl⟩ := List.getElem_of_mem hc
    have e : css.getD i [] = css[i] := by simp [hi]
    rcases Nat.lt_or_ge i k with hik | hik
    · have := encNd.is_len (encNd.own_is (h3 i hik)); rw [e] at this; exact this
    · have := encNd.is_len (h6 i hik (by omega)); rw [e] at this; exact this
  obtain ⟨A, m, c, hcs, hR, hc1, hc2⟩ := h6 k (Nat.le_refl _) hk
  obtain ⟨e1, e2⟩ := flat_split hlen k (by omega)
  have hcl : (css.getD k []).length = 5 := by rw [hcs]; rfl
  have rd : ∀ j u, (css.getD k [])[j]? = some u → wr.cell? ⟨g, k * 5 + j, none⟩ = some u := fun j u hu => by
    have hj : j < (css.getD k []).length := (List.getElem?_eq_some_iff.1 hu).1
    rw [h1.cellAt _ (by omega), e1, mid_get e2 hj, hu]
  rw [hcs] at rd
  exact ⟨(h1.lt g rfl).2, hg, fun i => h1.frozenAt _, A, m, c, rd 0 _ rfl, rd 1 _ rfl, rd 2 _ rfl, rd 3 _ rfl, rd 4 _ rfl, hR, hc1, hc2⟩

theorem HalfA.next {wr wb : World} {B C g cap n k : Nat} {xs : List Nd} {o : Int → Int} {v : Value} (h : HalfA wr B g cap n k xs o) (_hB : B ≤ wr.heap.size) (hk : k < n) (hb : Below wr.heap.size wr wb) (hC : wr.heap.size ≤ C)
    (hv : wb.ownsRow C 51 2 v (ndAt xs k).ps.length (PL (ndAt xs k).ps)) :
    HalfA ((wb.setCell ⟨g, k * 5 + 1, none⟩ v).setCell ⟨g, k * 5 + 4, none⟩ (.int .i64 (o k))) B g cap n (k + 1) xs o := by
  have hgl := (h.at hk).1
  have hgB := (h.at hk).2.1
  obtain ⟨hg, css, f, h1, h2, h3, h4, h5, h6⟩ := h
  replace h1 := own_on h1 hb
  replace h3 : ∀ i, i < k → encNd.Own wb (css.getD i []) (heldNd xs o i) (f i) := fun i hi => encNd.own_keep (h3 i hi) (fun q _ hlt => hb.block q hlt)
  replace h6 : ∀ i, k ≤ i → i < n → encNd.Is wb B (css.getD i []) (ndAt xs i) := fun i hk hi => encNd.is_keep (h6 i hk hi) (fun p hp => hb.cell (by omega))
  have hbs := hb.size
  have hlen : ∀ c ∈ css, c.length = 5 := fun c hc => by
    obtain ⟨i, hi, rfl⟩ := List.getElem_of_mem hc
    have e : css.getD i [] = css[i] := by simp [hi]
    rcases Nat.lt_or_ge i k with hik | hik
    · have := encNd.is_len (encNd.own_is (h3 i hik)); rw [e] at this; exact this
    · have := encNd.is_len (h6 i hik (by omega)); rw [e] at this; exact this
  obtain ⟨A, m, c, hcs, hR, hc1, hc2⟩ := h6 k (Nat.le_refl _) hk
  obtain ⟨e1, e2⟩ := flat_split hlen k (by omega)
  rw [e1, hcs] at h1
  have r1 := own_mid h1 e2 (j := 1) (by simp) v
  have r4 := own_mid r1 e2 (j := 4) (by simp) (.int .i64 (o k))
  simp only [List.set_cons_succ, List.set_cons_zero] at r4
  rw [← flat_set k (by omega)] at r4
  obtain ⟨w2, hw2⟩ : ∃ w2, w2 = (wb.setCell ⟨g, k * 5 + 1, none⟩ v).setCell ⟨g, k * 5 + 4, none⟩ (.int .i64 (o k)) := ⟨_, rfl⟩
  have hsz : w2.heap.size = wb.heap.size := by rw [hw2]; simp [World.setCell]
  have hblk : ∀ q, q ≠ g → w2.heap[q]? = wb.heap[q]? := fun q hq => by rw [hw2, Below.heap_setCell _ _ _ _ hq, Below.heap_setCell _ _ _ _ hq]
  have hcell : ∀ p : Addr, p.block ≠ g → w2.cell? p = wb.cell? p := fun p hp => World.cell?_of_block (hblk _ hp)
  rw [← hw2] at r4 ⊢
  have hgetC : ∀ (cs : List Value) j, j ≠ k → (css.set k cs).getD j [] = css.getD j [] := fun cs j hne => by
    simp only [List.getD_eq_getElem?_getD]; rw [List.getElem?_set_ne (by omega)]
  have hgetK : ∀ cs : List Value, (css.set k cs).getD k [] = cs := fun cs => by simp [h2, hk]
  have hvb : ∀ q, v.ownBlock = some q → wr.heap.size ≤ q ∧ q < wb.heap.size := fun q hq => by have := hv.lt q hq; exact ⟨by omega, this.2⟩
  refine ⟨hg, css.set k _, fun i => if i = k then blkF v.ownBlock else f i, r4, by simp [h2], fun i hi => ?_, fun i hi q hq => ?_, fun i j hi hj hij => ?_, fun i hki hi => ?_⟩
  · by_cases e : i = k
    · subst e
      rw [hgetK]
      simp only [↓reduceIte]
      exact ⟨v, rfl, own_same (own_zero hv) (fun q hq _ => hblk q (by have := hvb q hq; omega)), fun q hq => hq⟩
    · rw [hgetC _ _ e]
      simp only [if_neg e]
      exact encNd.own_keep (h3 i (by omega)) (fun q hq _ => hblk q (h4 i (by omega) q hq).2.2)
  · replace hq : (if i = k then blkF v.ownBlock else f i) q := hq
    by_cases e : i = k
    · rw [if_pos e] at hq
      have := hvb q hq
      exact ⟨by omega, by omega, by omega⟩
    · rw [if_neg e] at hq
      have := h4 i (by omega) q hq
      exact ⟨by omega, by omega, by omega⟩
  · show Apart (if i = k then blkF v.ownBlock else f i) (if j = k then blkF v.ownBlock else f j)
    have ap : ∀ i, i < k → Apart (f i) (blkF v.ownBlock) := fun i hi q hq hv' => by
      have h7 := hvb q hv'
      have h8 := h4 i hi q hq
      omega
    by_cases ei : i = k
    · by_cases ej : j = k
      · omega
      · rw [if_pos ei, if_neg ej]
        exact (ap j (by omega)).symm
    · by_cases ej : j = k
      · rw [if_neg ei, if_pos ej]
        exact ap i (by omega)
      · rw [if_neg ei, if_neg ej]
        exact h5 i j (by omega) (by omega) hij
  · rw [hgetC _ _ (by omega)]
    exact encNd.is_keep (h6 i (by omega) hi) (fun p hp => hcell p (by omega))

/-- All of them: the copy is the call's own. -/
theorem HalfA.done {wr : World} {B g cap n : Nat} {xs : List Nd} {o : Int → Int} (h : HalfA wr B g cap n n xs o) : OwnS wr (.slice (some ⟨g, 0, none⟩) n cap) (heldXs xs o n) (fun q => B ≤ q ∧ q < wr.heap.size) := by
  obtain ⟨hg, css, f, h1, h2, h3, h4, h5, h6⟩ := h
  have hl := heldXs_len xs o n
  refine ⟨css, f, by rw [hl]; exact h1, by rw [hl]; exact h2, fun i hi => ?_, fun i hi q hq => ?_, fun i j hi hj => h5 i j (by omega) (by omega), fun q hq => ?_⟩
  · rw [heldXs_get xs o n i (by omega)]
    exact h3 i (by omega)
  · have := h4 i (by omega) q hq
    exact ⟨⟨this.1, this.2.1⟩, fun e => this.2.2 (by simpa [Value.ownBlock] using e.symm)⟩
  · have : g = q := by simpa [Value.ownBlock] using hq
    subst this
    exact ⟨hg, (h1.lt g rfl).2⟩
end Go.Proofs.Ytbipdfeikmchcaa

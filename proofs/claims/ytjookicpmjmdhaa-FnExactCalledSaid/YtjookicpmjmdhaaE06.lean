/- Marks upon data, and the first kinds of data: numbers, nodes, trees. -/
import Derived.Test.YtjookicpmjmdhaaE02
import Derived.Test.YtjookicpmjmdhaaE05
namespace Go.Proofs.Ytjookicpmjmdhaa
open Go.RowKit


class Mk (α : Type) where
  cnt : α → Nat
  put : Nat → α → α
section
variable {α : Type} [M : Mk α]
def cntS (xs : List α) : Nat := (xs.map M.cnt).sum
def mkS : Nat → List α → List α
  | _, [] => []
  | k, x :: r => M.put k x :: mkS (k + M.cnt x) r
theorem mkS_length (k : Nat) (xs : List α) : (mkS k xs).length = xs.length := by
  induction xs generalizing k with
  | nil => rfl
  | cons x r ih => simp [mkS, ih]
theorem cntS_take (xs : List α) (j : Nat) (d : α) (hj : j < xs.length) : cntS (xs.take (j + 1)) = cntS (xs.take j) + M.cnt (xs.getD j d) := by
  unfold cntS
  have e : xs.getD j d = xs[j] := by simp [hj]
  rw [List.take_succ_eq_append_getElem hj, List.map_append, List.sum_append, e]
  rfl
theorem mkS_get (k : Nat) (xs : List α) (j : Nat) (d : α) (hj : j < xs.length) : (mkS k xs).getD j d = M.put (k + cntS (xs.take j)) (xs.getD j d) := by
  induction xs generalizing k j with
  | nil => simp at hj
  | cons x r ih =>
    cases j with
    | zero => simp [mkS, cntS]
    | succ j =>
      have := ih (k + M.cnt x) j (by simpa using hj)
      simp only [mkS, List.getD_cons_succ, List.take_succ_cons]
      rw [this]
      congr 1
      unfold cntS
      simp; omega
def mkTo (k : Nat) (xs : List α) (j : Nat) : List α := (mkS k xs).take j ++ xs.drop j
theorem mkTo_zero (k : Nat) (xs : List α) : mkTo k xs 0 = xs := by simp [mkTo]
theorem mkTo_all (k : Nat) (xs : List α) : mkTo k xs xs.length = mkS k xs := by
  unfold mkTo
  rw [List.take_of_length_le (by rw [mkS_length]; omega)]
  simp
theorem mkTo_length (k : Nat) (xs : List α) (j : Nat) : (mkTo k xs j).length = xs.length := by
  unfold mkTo
  simp only [List.length_append, List.length_take, List.length_drop, mkS_length]
  omega
theorem mkTo_next (k : Nat) (xs : List α) (j : Nat) (d : α) (hj : j < xs.length) : (mkTo k xs j).set j (M.put (k + cntS (xs.take j)) (xs.getD j d)) = mkTo k xs (j + 1) := by
  have hm : j < (mkS k xs).length := by rw [mkS_length]; exact hj
  have hl : ((mkS k xs).take j).length = j := by rw [List.length_take]; omega
  have e : (mkS k xs)[j] = M.put (k + cntS (xs.take j)) (xs.getD j d) := by
    rw [← mkS_get k xs j d hj]; simp [hm]
  unfold mkTo
  rw [List.drop_eq_getElem_cons hj, List.set_append_right _ _ (by omega), hl, Nat.sub_self, List.set_cons_zero, List.take_succ_eq_append_getElem hm, e, List.append_assoc]
  rfl
end

instance : Mk Int where
  cnt := fun _ => 1
  put := fun k _ => (k : Int)
instance : Mk Nd where
  cnt := fun x => 4 + 2 * x.ps.length
  put := fun k x => ⟨(k : Int), markTo x.ps (k + 1) x.ps.length, ((k + 1 + 2 * x.ps.length : Nat) : Int), ((k + 1 + 2 * x.ps.length + 1 : Nat) : Int), ((k + 1 + 2 * x.ps.length + 2 : Nat) : Int)⟩


instance encInt : Enc Int where
  ty := 2
  sz := 1
  dflt := 0
  Is := fun _ _ cs x => cs = [.int .i64 x]
  Own := fun _ cs x _ => cs = [.int .i64 x]
  is_len := fun h => by rw [h]; rfl
  is_keep := fun h _ => h
  is_more := fun h _ => h
  own_is := fun h => h
  own_keep := fun h _ => h
  own_more := fun h _ => h


instance encNd : Enc Nd where
  ty := 101
  sz := 5
  dflt := ⟨0, [], 0, 0, 0⟩
  Is := fun w B cs x => ∃ A n c, cs = [.int .i64 x.lv, .slice A n c, .int .i64 x.hi, .int .i64 x.ri, .int .i64 x.ow] ∧ RP w B A n x.ps ∧ n ≤ c ∧ c ≤ 9223372036854775807
  Own := fun w cs x F => ∃ v, cs = [.int .i64 x.lv, v, .int .i64 x.hi, .int .i64 x.ri, .int .i64 x.ow] ∧ w.ownsRow 0 86 2 v x.ps.length (PL x.ps) ∧ ∀ k, v.ownBlock = some k → F k
  is_len := fun ⟨_, _, _, h, _⟩ => by rw [h]; rfl
  is_keep := fun ⟨A, n, c, h, hR, hc⟩ hk => ⟨A, n, c, h, hR.keep hk, hc⟩
  is_more := fun ⟨A, n, c, h, hR, hc⟩ hB => ⟨A, n, c, h, hR.more hB, hc⟩
  own_is := fun ⟨v, h, ho, _⟩ => by
    obtain ⟨A, c, hv, hc, hm⟩ := own_shape ho
    obtain ⟨A', c', hv', hR⟩ := RP.of_own ho
    rw [hv] at hv'
    cases hv'
    exact ⟨A, _, c, by rw [h, hv], hR, hc, by unfold maxLen at hm; omega⟩
  own_keep := fun ⟨v, h, ho, hF⟩ hk => ⟨v, h, own_same ho (fun k e => hk k (hF k e)), hF⟩
  own_more := fun ⟨v, h, ho, hF⟩ hs => ⟨v, h, ho, fun k e => hs k (hF k e)⟩


structure Tr where
  root : Int
  ns : List Nd
def trV (t : Tr) (A : Option Addr) (n c : Nat) : Value := .agg #[.int .i64 t.root, .slice A n c]
def IsT (w : World) (B : Nat) (v : Value) (t : Tr) : Prop := ∃ A n c, v = trV t A n c ∧ RS w B A n t.ns ∧ n ≤ c ∧ c ≤ 9223372036854775807
def OwnT (w : World) (v : Value) (t : Tr) (F : FP) : Prop := ∃ u, v = .agg #[.int .i64 t.root, u] ∧ OwnS w u t.ns F
section
variable {w w' : World} {v : Value} {t : Tr} {F G : FP} {B B' : Nat}
theorem IsT.keep (h : IsT w B v t) (hk : ∀ p : Addr, p.block < B → w'.cell? p = w.cell? p) : IsT w' B v t := by
  obtain ⟨A, n, c, e, hR, hc⟩ := h
  exact ⟨A, n, c, e, hR.keep hk, hc⟩
theorem IsT.more (h : IsT w B v t) (hB : B ≤ B') : IsT w B' v t := by
  obtain ⟨A, n, c, e, hR, hc⟩ := h
  exact ⟨A, n, c, e, hR.more hB, hc⟩
theorem IsT.on (h : IsT w w.heap.size v t) (hb : Below w.heap.size w w') : IsT w' w'.heap.size v t := by
  obtain ⟨A, n, c, e, hR, hc⟩ := h
  exact ⟨A, n, c, e, hR.on hb, hc⟩
theorem OwnT.reads (h : OwnT w v t F) : IsT w w.heap.size v t := by
  obtain ⟨u, e, ho⟩ := h
  obtain ⟨A, c, rfl, hR, hc⟩ := ho.reads
  exact ⟨A, _, c, e, hR, hc⟩
theorem OwnT.more (h : OwnT w v t F) (hs : ∀ k, F k → G k) : OwnT w v t G := by
  obtain ⟨u, e, ho⟩ := h
  exact ⟨u, e, ho.more hs⟩
theorem OwnT.keep (h : OwnT w v t F) (hs : ∀ k, F k → k < w.heap.size → w'.heap[k]? = w.heap[k]?) : OwnT w' v t F := by
  obtain ⟨u, e, ho⟩ := h
  exact ⟨u, e, ho.keep hs⟩
end


def ndAt (xs : List Nd) (i : Nat) : Nd := xs.getD i ⟨0, [], 0, 0, 0⟩
def NdIn (w : World) (B b o : Nat) (x : Nd) : Prop := ∃ (A : Option Addr) (n c : Nat),
  w.cell? ⟨b, o, none⟩ = some (.int .i64 x.lv) ∧ w.cell? ⟨b, o + 1, none⟩ = some (.slice A n c) ∧ w.cell? ⟨b, o + 2, none⟩ = some (.int .i64 x.hi) ∧
  w.cell? ⟨b, o + 3, none⟩ = some (.int .i64 x.ri) ∧ w.cell? ⟨b, o + 4, none⟩ = some (.int .i64 x.ow) ∧ RP w B A n x.ps ∧ n ≤ c ∧ c ≤ 9223372036854775807
theorem NdIn.keep {w w' : World} {B b o : Nat} {x : Nd} (h : NdIn w B b o x) (hb : b < B) (hk : ∀ p : Addr, p.block < B → w'.cell? p = w.cell? p) : NdIn w' B b o x := by
  obtain ⟨A, n, c, h0, h1, h2, h3, h4, hR, hc⟩ := h
  exact ⟨A, n, c, (hk _ hb).trans h0, (hk _ hb).trans h1, (hk _ hb).trans h2, (hk _ hb).trans h3, (hk _ hb).trans h4, hR.keep hk, hc⟩
end Go.Proofs.Ytjookicpmjmdhaa

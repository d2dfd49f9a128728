/- Marks upon data, and the first kinds of data: numbers, nodes, trees. -/
import Derived.Test.YtjookicpmjmdhaaQ01
import Derived.Test.YtjookicpmjmdhaaQ04
import Derived.Test.YtjookicpmjmdhaaQ05
open Go.Value renaming int → jI, slice → jS
open Go.IntKind renaming i64 → jZ
namespace Go.Proofs.Ytjookicpmjmdhaa
open Go.RowKit


class Mk (α : Type) where
 cnt : α → Nat
 put : Nat → α → α
section
variable {α : Type} [M : Mk α]
def cntS (xs : List α) : Nat := (xs.map M.cnt).sum
theorem cntS_take (xs : List α) (j : Nat) (d : α) (hj : j < xs.length) : cntS (xs.take (j + 1)) = cntS (xs.take j) + M.cnt (xs.getD j d) := by
 unfold cntS
 have e : xs.getD j d = xs[j] := by simp [hj]
 rw [List.take_succ_eq_append_getElem hj, List.map_append, List.sum_append, e]
 rfl
end

instance : Mk Int where
 cnt := fun _ => 1
 put := fun k _ => (k : Int)
instance : Mk Nd where
 cnt := fun x => 4 + 2 * x.ps.length
 put := fun k x => ⟨(k : Int), markTo x.ps (k + 1) x.ps.length, ((k + 1 + 2 * x.ps.length : Nat) : Int), ((k + 1 + 2 * x.ps.length + 1 : Nat) : Int), ((k + 1 + 2 * x.ps.length + 2 : Nat) : Int)⟩


instance encInt : Enc Int where
 ty := 2
 sz := 1
 dflt := 0
 Is := fun _ _ cs x => cs = [jI jZ x]
 Own := fun _ cs x _ => cs = [jI jZ x]
 is_len := fun h => by rw [h]; rfl
 is_keep := fun h _ => h
 is_more := fun h _ => h
 own_is := fun h => h
 own_keep := fun h _ => h
 own_more := fun h _ => h


instance encNd : Enc Nd where
 ty := 101
 sz := 5
 dflt := ⟨0, [], 0, 0, 0⟩
 Is := fun w B cs x => ∃ A n c, cs = [jI jZ x.lv, jS A n c, jI jZ x.hi, jI jZ x.ri, jI jZ x.ow] ∧ RP w B A n x.ps ∧ n ≤ c ∧ c ≤ 9223372036854775807
 Own := fun w cs x F => ∃ v, cs = [jI jZ x.lv, v, jI jZ x.hi, jI jZ x.ri, jI jZ x.ow] ∧ w.ownsRow 0 86 2 v x.ps.length (PL x.ps) ∧ ∀ k, v.ownBlock = some k → F k
 is_len := fun ⟨_, _, _, h, _⟩ => by rw [h]; rfl
 is_keep := fun ⟨A, n, c, h, hR, hc⟩ hk => ⟨A, n, c, h, hR.keep hk, hc⟩
 is_more := fun ⟨A, n, c, h, hR, hc⟩ hB => ⟨A, n, c, h, hR.more hB, hc⟩
 own_is := fun ⟨v, h, ho, _⟩ => by
   obtain ⟨A, c, hv, hc, hm⟩ := own_shape ho
   obtain ⟨A', c', hv', hR⟩ := RP.of_own ho
   rw [hv] at hv'
   cases hv'
   exact ⟨A, _, c, by rw [h, hv], hR, hc, by unfold maxLen at hm; omega⟩
 own_keep := fun ⟨v, h, ho, hF⟩ hk => ⟨v, h, own_same ho (fun k e => hk k (hF k e)), hF⟩
 own_more := fun ⟨v, h, ho, hF⟩ hs => ⟨v, h, ho, fun k e => hs k (hF k e)⟩


structure Tr where
 root : Int
 ns : List Nd
def trV (t : Tr) (A : Option Addr) (n c : Nat) : Value := .agg #[jI jZ t.root, jS A n c]
def IsT (w : World) (B : Nat) (v : Value) (t : Tr) : Prop := ∃ A n c, v = trV t A n c ∧ RS w B A n t.ns ∧ n ≤ c ∧ c ≤ 9223372036854775807
def OwnT (w : World) (v : Value) (t : Tr) (F : FP) : Prop := ∃ u, v = .agg #[jI jZ t.root, u] ∧ OwnS w u t.ns F
section
variable {w w' : World} {v : Value} {t : Tr} {F G : FP} {B B' : Nat}
theorem IsT.keep (h : IsT w B v t) (hk : ∀ p : Addr, p.block < B → w'.cell? p = w.cell? p) : IsT w' B v t := by
 obtain ⟨A, n, c, e, hR, hc⟩ := h
 exact ⟨A, n, c, e, hR.keep hk, hc⟩
theorem IsT.more (h : IsT w B v t) (hB : B ≤ B') : IsT w B' v t := by
 obtain ⟨A, n, c, e, hR, hc⟩ := h
 exact ⟨A, n, c, e, hR.more hB, hc⟩
theorem IsT.on (h : IsT w w.heap.size v t) (hb : Below w.heap.size w w') : IsT w' w'.heap.size v t := by
 obtain ⟨A, n, c, e, hR, hc⟩ := h
 exact ⟨A, n, c, e, hR.on hb, hc⟩
theorem OwnT.reads (h : OwnT w v t F) : IsT w w.heap.size v t := by
 obtain ⟨u, e, ho⟩ := h
 obtain ⟨A, c, rfl, hR, hc⟩ := ho.reads
 exact ⟨A, _, c, e, hR, hc⟩
theorem OwnT.more (h : OwnT w v t F) (hs : ∀ k, F k → G k) : OwnT w v t G := by
 obtain ⟨u, e, ho⟩ := h
 exact ⟨u, e, ho.more hs⟩
theorem OwnT.keep (h : OwnT w v t F) (hs : ∀ k, F k → k < w.heap.size → w'.heap[k]? = w.heap[k]?) : OwnT w' v t F := by
 obtain ⟨u, e, ho⟩ := h
 exact ⟨u, e, ho.keep hs⟩
end


def ndAt (xs : List Nd) (i : Nat) : Nd := xs.getD i ⟨0, [], 0, 0, 0⟩
theorem ndAt_eq (xs : List Nd) (i : Nat) (h : i < xs.length) : ndAt xs i = xs[i] := by simp [ndAt, h]
def NdIn (w : World) (B b o : Nat) (x : Nd) : Prop := ∃ (A : Option Addr) (n c : Nat),
 w.cell? ⟨b, o, none⟩ = some (jI jZ x.lv) ∧ w.cell? ⟨b, o + 1, none⟩ = some (.slice A n c) ∧ w.cell? ⟨b, o + 2, none⟩ = some (jI jZ x.hi) ∧
 w.cell? ⟨b, o + 3, none⟩ = some (jI jZ x.ri) ∧ w.cell? ⟨b, o + 4, none⟩ = some (jI jZ x.ow) ∧ RP w B A n x.ps ∧ n ≤ c ∧ c ≤ 9223372036854775807
theorem RS.nd {w : World} {B n : Nat} {A : Option Addr} {xs : List Nd} (h : RS w B A n xs) (hn : 0 < n) :
   ∃ b off, A = some ⟨b, off, none⟩ ∧ b < B ∧ ∀ i, i < n → NdIn w B b (off + i * 5) (ndAt xs i) := by
 obtain ⟨b, off, e, hb, hc⟩ := h.2 hn
 refine ⟨b, off, e, hb, fun i hi => ?_⟩
 obtain ⟨cs, ⟨A', n', c', h1, h2, h3⟩, h4⟩ := hc i hi
 subst h1
 exact ⟨A', n', c', h4 0 _ rfl, h4 1 _ rfl, h4 2 _ rfl, h4 3 _ rfl, h4 4 _ rfl, h2, h3⟩
theorem NdIn.keep {w w' : World} {B b o : Nat} {x : Nd} (h : NdIn w B b o x) (hb : b < B) (hk : ∀ p : Addr, p.block < B → w'.cell? p = w.cell? p) : NdIn w' B b o x := by
 obtain ⟨A, n, c, h0, h1, h2, h3, h4, hR, hc⟩ := h
 exact ⟨A, n, c, (hk _ hb).trans h0, (hk _ hb).trans h1, (hk _ hb).trans h2, (hk _ hb).trans h3, (hk _ hb).trans h4, hR.keep hk, hc⟩
end Go.Proofs.Ytjookicpmjmdhaa
namespace Go.Proofs.Ytjookicpmjmdhaa
open Go.RowKit

theorem node_info : (Try.prog.info? 101).map (fun i => (i.zero, i.size, i.bytes)) = some (some (.agg #[jI jZ 0, jS none 0 0, jI jZ 0, jI jZ 0, jI jZ 0]), 5, 56) := by kernel_rfl

end Go.Proofs.Ytjookicpmjmdhaa
namespace Go.Proofs.Ytjookicpmjmdhaa
open Go.RowKit


def iAt (xs : List Int) (i : Nat) : Int := xs.getD i 0
theorem RS.ints {w : World} {B n : Nat} {A : Option Addr} {xs : List Int} (h : RS w B A n xs) (hn : 0 < n) :
   ∃ b off, A = some ⟨b, off, none⟩ ∧ b < B ∧ ∀ i, i < n → w.cell? ⟨b, off + i, none⟩ = some (jI jZ (iAt xs i)) := by
 obtain ⟨b, off, e, hb, hc⟩ := h.2 hn
 refine ⟨b, off, e, hb, fun i hi => ?_⟩
 obtain ⟨cs, h1, h2⟩ := hc i hi
 have h1' : cs = [jI jZ (xs.getD i 0)] := h1
 subst h1'
 have := h2 0 _ rfl
 rwa [show off + i * encInt.sz + 0 = off + i from by show off + i * 1 + 0 = off + i; omega] at this

theorem cntI (xs : List Int) : cntS xs = xs.length := by
 unfold cntS
 induction xs with
 | nil => rfl
 | cons x r ih =>
   simp only [List.map_cons, List.sum_cons, List.length_cons]
   rw [ih]
   show 1 + _ = _
   omega

theorem cntNd_take (xs : List Nd) (j : Nat) (hj : j < xs.length) : cntS (xs.take (j + 1)) = cntS (xs.take j) + (4 + 2 * (ndAt xs j).ps.length) := cntS_take xs j ⟨0, [], 0, 0, 0⟩ hj

end Go.Proofs.Ytjookicpmjmdhaa
namespace Go.Proofs.Ytjookicpmjmdhaa
open Go.RowKit

theorem RP.own {w : World} {base : Nat} {e : TypeId} {A : Option Addr} {n c : Nat} {zs : List Pr} (h : w.ownsRow base e 2 (jS A n c) n (PL zs)) : RP w w.heap.size A n zs := by
 obtain ⟨A', c', e, r⟩ := RP.of_own h; cases e; exact r

end Go.Proofs.Ytjookicpmjmdhaa
namespace Go.Proofs.Ytjookicpmjmdhaa
open Go.RowKit


instance encPr : Enc Pr where
 ty := 86
 sz := 2
 dflt := (0, 0)
 Is := fun _ _ cs x => cs = [jI jZ x.1, jI jZ x.2]
 Own := fun _ cs x _ => cs = [jI jZ x.1, jI jZ x.2]
 is_len := fun h => by rw [h]; rfl
 is_keep := fun h _ => h
 is_more := fun h _ => h
 own_is := fun h => h
 own_keep := fun h _ => h
 own_more := fun h _ => h
instance : Mk Pr where
 cnt := fun _ => 2
 put := fun k _ => ((k : Int), ((k + 1 : Nat) : Int))

theorem PL_flat (zs : List Pr) : PL zs = (zs.map fun p => [Value.int .i64 p.1, jI jZ p.2]).flatten := by
 induction zs with
 | nil => rfl
 | cons p r ih => simp only [PL, List.map_cons, List.flatten_cons, ih]; rfl
theorem OwnS.of_pairs {w : World} {base : Nat} {v : Value} {n : Nat} {zs : List Pr} {F : FP} (h : w.ownsRow base 86 2 v n (PL zs)) (hF : ∀ k, v.ownBlock = some k → F k) : OwnS w v zs F := by
 have hl : zs.length = n := by have := h.1; rw [PL_length] at this; omega
 refine ⟨zs.map fun p => [Value.int .i64 p.1, jI jZ p.2], fun _ _ => False, by rw [← PL_flat, hl]; exact own_zero h, by simp, fun i hi => ?_, fun i hi k hk => absurd hk id, fun i j hi hj hij k hk => absurd hk id, hF⟩
 show (zs.map fun p => [Value.int .i64 p.1, jI jZ p.2]).getD i [] = [jI jZ (zs.getD i (0, 0)).1, jI jZ (zs.getD i (0, 0)).2]
 simp [hi]
theorem OwnS.pairs {w : World} {v : Value} {zs : List Pr} {F : FP} (h : OwnS w v zs F) : w.ownsRow 0 86 2 v zs.length (PL zs) ∧ ∀ k, v.ownBlock = some k → F k := by
 obtain ⟨css, f, h1, h2, h3, h4, h5, h6⟩ := h
 refine ⟨?_, h6⟩
 have e : css = zs.map fun p => [Value.int .i64 p.1, jI jZ p.2] := by
   apply List.ext_getElem (by simpa using h2)
   intro i hi hi'
   have h : css.getD i [] = [jI jZ (zs.getD i (0, 0)).1, jI jZ (zs.getD i (0, 0)).2] := h3 i (by simpa using hi')
   have hz : i < zs.length := by simpa using hi'
   simpa [hi, hz] using h
 rw [PL_flat, ← e]
 exact h1
theorem RS.of_pairs {w : World} {B n : Nat} {A : Option Addr} {zs : List Pr} (h : RP w B A n zs) : RS w B A n zs :=
 ⟨h.1, fun hn => by
   obtain ⟨b, off, e, hb, hc⟩ := h.2 hn
   refine ⟨b, off, e, hb, fun i hi => ⟨[jI jZ (kAt zs i), jI jZ (vAt zs i)], rfl, fun j u hu => ?_⟩⟩
   match j, hu with
   | 0, hu => cases hu; exact (hc i hi).1
   | 1, hu => cases hu; exact (hc i hi).2
   | j + 2, hu => simp at hu⟩
theorem RS.pairs {w : World} {B n : Nat} {A : Option Addr} {zs : List Pr} (h : RS w B A n zs) : RP w B A n zs :=
 ⟨h.1, fun hn => by
   obtain ⟨b, off, e, hb, hc⟩ := h.2 hn
   refine ⟨b, off, e, hb, fun i hi => ?_⟩
   obtain ⟨cs, h1, h2⟩ := hc i hi
   have h1' : cs = [jI jZ (kAt zs i), jI jZ (vAt zs i)] := h1
   subst h1'
   exact ⟨h2 0 _ rfl, h2 1 _ rfl⟩⟩
theorem cntS_pairs (zs : List Pr) : cntS zs = 2 * zs.length := by
 unfold cntS
 induction zs with
 | nil => rfl
 | cons p r ih =>
   simp only [List.map_cons, List.sum_cons, List.length_cons]
   rw [ih]
   show 2 + _ = _
   omega
end Go.Proofs.Ytjookicpmjmdhaa
namespace Go.Proofs.Ytjookicpmjmdhaa
open Go.RowKit


class Small (α : Type) [Mk α] where
 sm : List α → Prop
 cnt_le : ∀ {xs : List α}, sm xs → cntS xs ≤ 17592186044416
 len_le : ∀ {xs : List α}, sm xs → xs.length ≤ 1048576
instance : Small Int where
 sm := fun xs => xs.length ≤ 1048576
 cnt_le := fun {xs} (h : xs.length ≤ 1048576) => by rw [cntI]; omega
 len_le := fun h => h
instance : Small Pr where
 sm := fun xs => xs.length ≤ 1048576
 cnt_le := fun {xs} (h : xs.length ≤ 1048576) => by rw [cntS_pairs]; omega
 len_le := fun h => h
theorem cntNd_le (xs : List Nd) (h : ∀ i, i < xs.length → (ndAt xs i).ps.length ≤ 1048576) : cntS xs ≤ xs.length * 2097156 := by
 have : ∀ k, k ≤ xs.length → cntS (xs.take k) ≤ k * 2097156 := by
   intro k
   induction k with
   | zero => intro _; simp [cntS]
   | succ k ih =>
     intro hk
     have h1 := ih (by omega)
     have h2 := h k (by omega)
     rw [cntNd_take xs k (by omega)]
     omega
 have := this xs.length (Nat.le_refl _)
 rwa [List.take_length] at this
instance : Small Nd where
 sm := fun xs => xs.length ≤ 1048576 ∧ ∀ i, i < xs.length → (ndAt xs i).ps.length ≤ 1048576
 cnt_le := fun {xs} h => by have := cntNd_le xs h.2; have := h.1; omega
 len_le := fun h => h.1

def blkF (b : Option Nat) : FP := fun k => b = some k
theorem fresh_blk {w w' : World} {base : Nat} {e : TypeId} {size n : Nat} {v : Value} {xs : List Value} (h : w'.ownsRow base e size v n xs) (hb : w.heap.size ≤ base) : Fresh (blkF v.ownBlock) w w' := fun k hk => by
 have := h.lt k hk
 exact ⟨by omega, by omega⟩



theorem box_on {w w' : World} {b : Nat} {o : Obj} (hb : Below w.heap.size w w') (h : w.heap[b]? = some o) : w'.heap[b]? = some o := (hb.block b (Array.getElem?_eq_some_iff.1 h).1).trans h
theorem box_off {F : FP} {w w' : World} {b : Nat} {o : Obj} (hg : Only F w w') (h : w.heap[b]? = some o) (hn : ¬ F b) : w'.heap[b]? = some o := (hg.block b (Array.getElem?_eq_some_iff.1 h).1 hn).trans h
theorem OwnS.rd {α : Type} [Enc α] {w : World} {A : Option Addr} {n c : Nat} {xs : List α} {F : FP} (h : OwnS w (jS A n c) xs F) : RS w w.heap.size A n xs := by
 obtain ⟨A', c', e, hR, _⟩ := h.reads
 cases e
 exact hR
theorem OwnS.len {α : Type} [Enc α] {w : World} {A : Option Addr} {n c : Nat} {xs : List α} {F : FP} (h : OwnS w (jS A n c) xs F) : xs.length = n := h.rd.1
theorem OwnS.cap {α : Type} [Enc α] {w : World} {A : Option Addr} {n c : Nat} {xs : List α} {F : FP} (h : OwnS w (jS A n c) xs F) : n ≤ c ∧ c ≤ 9223372036854775807 := by
 have hl := h.len
 obtain ⟨A', c', e, hc⟩ := h.form
 cases e
 rwa [hl] at hc


end Go.Proofs.Ytjookicpmjmdhaa
namespace Go.Proofs.Ytjookicpmjmdhaa
open Go.RowKit

def hasB (n : Nat) (x : Int) : Bool := inB x 0 ((n : Int) - 1)
def ndGood (n : Nat) (x : Nd) : Bool := nodeOk x && decide (x.ri < (n : Int)) && (decide (x.lv ≤ 0) || (List.range x.ps.length).all (fun j => hasB n (vAt x.ps j)))
def treeOk (r : Int) (xs : List Nd) : Bool := decide (1 ≤ xs.length) && decide (xs.length ≤ 40) && hasB xs.length r && (List.range xs.length).all (fun i => ndGood xs.length (ndAt xs i))

theorem has_any (r : Int) (A : Option Addr) (n c : Nat) (x : Int) (w : World) (hn : n ≤ 1048576) :
   Calls Try.prog 82 #[.agg #[jI jZ r, jS A n c], jI jZ x] w fun e w' => e = .returned (.bool (hasB n x)) ∧ Below w.heap.size w w' := by
 unfold hasB
 go_enter Try.func82, Try.ntmps82
 go_wp2_with (go_at_call 44; refine (in_any _ _ _ _).mono ?_; rintro e w' ⟨rfl, rfl⟩)
 go_ret
 exact ⟨rfl, (Below.refl _ _).alloc (Nat.le_refl _) _⟩

theorem ndGood_no {n : Nat} {x : Nd} (h : nodeOk x = false ∨ (n : Int) ≤ x.ri ∨ (0 < x.lv ∧ ∃ j, j < x.ps.length ∧ hasB n (vAt x.ps j) = false)) : ndGood n x = false := by
 unfold ndGood
 rcases h with h | h | ⟨h, j, hj, hv⟩
 · rw [h]; rfl
 · rw [decide_eq_false (by omega : ¬ x.ri < (n : Int))]; simp
 · have : (List.range x.ps.length).all (fun j => hasB n (vAt x.ps j)) = false := by
     rw [List.all_eq_false]
     exact ⟨j, List.mem_range.2 hj, by simp [hv]⟩
   rw [this, decide_eq_false (by omega : ¬ x.lv ≤ 0)]; simp
theorem ndGood_yes {n : Nat} {x : Nd} (h1 : nodeOk x = true) (h2 : x.ri < (n : Int)) (h3 : 0 < x.lv → ∀ j, j < x.ps.length → hasB n (vAt x.ps j) = true) : ndGood n x = true := by
 unfold ndGood
 rw [h1, decide_eq_true h2]
 by_cases h : 0 < x.lv
 · have : (List.range x.ps.length).all (fun j => hasB n (vAt x.ps j)) = true := by
     rw [List.all_eq_true]
     intro j hj
     exact h3 h j (List.mem_range.1 hj)
   rw [this]; simp
 · rw [decide_eq_true (by omega : x.lv ≤ 0)]; rfl
theorem treeOk_no {r : Int} {xs : List Nd} (h : xs.length < 1 ∨ 40 < xs.length ∨ hasB xs.length r = false ∨ ∃ i, i < xs.length ∧ ndGood xs.length (ndAt xs i) = false) : treeOk r xs = false := by
 unfold treeOk
 rcases h with h | h | h | ⟨i, hi, hv⟩
 · rw [decide_eq_false (by omega : ¬ 1 ≤ xs.length)]; rfl
 · rw [decide_eq_false (by omega : ¬ xs.length ≤ 40)]; simp
 · rw [h]; simp
 · have : (List.range xs.length).all (fun i => ndGood xs.length (ndAt xs i)) = false := by
     rw [List.all_eq_false]
     exact ⟨i, List.mem_range.2 hi, by simp [hv]⟩
   rw [this]; simp
theorem treeOk_iff (r : Int) (xs : List Nd) : treeOk r xs = true ↔ (1 ≤ xs.length ∧ xs.length ≤ 40 ∧ hasB xs.length r = true ∧ ∀ i, i < xs.length → ndGood xs.length (ndAt xs i) = true) := by
 unfold treeOk
 simp only [Bool.and_eq_true, decide_eq_true_eq, List.all_eq_true, List.mem_range]
 exact ⟨fun ⟨⟨⟨a, b⟩, c⟩, d⟩ => ⟨a, b, c, d⟩, fun ⟨a, b, c, d⟩ => ⟨⟨⟨a, b⟩, c⟩, d⟩⟩

set_option maxRecDepth 100000 in
set_option maxHeartbeats 1000000 in
theorem sTreeOk_any (r : Int) (xs : List Nd) (A : Option Addr) (n c : Nat) (w : World) (h : RS w w.heap.size A n xs) (hs : Small.sm xs) :
   Calls Try.prog 79 #[.agg #[jI jZ r, jS A n c]] w fun e w' => e = .returned (.bool (treeOk r xs)) ∧ Below w.heap.size w w' := by
 have hl := h.1
 have HL := Lib.hid hl
 have HS := Lib.hid hs
 have hn : n ≤ 1048576 := by rw [← hl]; exact hs.1
 obtain ⟨w0, hw0⟩ : ∃ w0, w0 = w.alloc (.cells #[jI jZ r, jS A n c] 77) := ⟨_, rfl⟩
 have b0 : Below w.heap.size w w0 := by rw [hw0]; exact (Below.refl _ _).alloc (Nat.le_refl _) _
 have x0 : w0.heap[w.heap.size]? = some (.cells #[jI jZ r, jS A n c] 77 (0, 0)) := by rw [hw0]; exact heap_alloc_new _ _
 have HH := Lib.hid (h.on b0)
 have B0 := Lib.hid b0
 have X0 := Lib.hid x0
 have HW := Lib.hid hw0
 clear h hl hs hw0 b0 x0
 -- too few, too many
 by_cases h1 : n < 1
 · have e1 : treeOk r xs = false := treeOk_no (.inl (by rw [HL.out]; exact h1))
   rw [e1]
   have g1 : decide (n < 1) = true := by simpa using h1
   obtain rfl : n = 0 := by omega
   clear e1 h1 g1
   go_enter Try.func79, Try.ntmps79
   go_wp2
   go_ret
   exact ⟨rfl, by rw [← HW.out]; exact B0.out⟩
 by_cases h2 : 40 < n
 · have e1 : treeOk r xs = false := treeOk_no (.inr (.inl (by rw [HL.out]; exact h2)))
   rw [e1]
   have g1 : decide (n < 1) = false := by simp; omega
   have g2 : decide (40 < n) = true := by simpa using h2
   clear e1
   go_enter Try.func79, Try.ntmps79
   go_wp2
   go_ret
   exact ⟨rfl, by rw [← HW.out]; exact B0.out⟩
 have g1 : decide (n < 1) = false := by simp; omega
 have g2 : decide (40 < n) = false := by simp; omega
 have hr : ∀ w, Calls Try.prog 82 #[.agg #[jI jZ r, jS A n c], jI jZ r] w fun e w' => e = .returned (.bool (hasB n r)) ∧ Below w.heap.size w w' := fun w => has_any r A n c r w hn
 generalize hq : hasB n r = q at hr
 have HQ := Lib.hid hq
 have HR := Lib.hid hr
 clear hq hr
 have d0 : ∀ wx, Below w0.heap.size w0 wx → wx.cell? ⟨w.heap.size, 0, none⟩ = some (jI jZ r) ∧ wx.cell? ⟨w.heap.size, 1, none⟩ = some (.slice A n c) := fun wx hb => ⟨by rw [cell_of_row _ _ 0 _ _ _ (box_on hb X0.out)]; rfl, by rw [cell_of_row _ _ 1 _ _ _ (box_on hb X0.out)]; rfl⟩
 have D0 := Lib.hid d0
 clear d0
 go_enter Try.func79, Try.ntmps79
 go_wp2_with fail
 rw [← HW.out]
 refine (HR.out _).mono ?_
 rintro e w1 ⟨rfl, b1⟩
 have B1 := Lib.hid b1
 obtain ⟨d0, d1⟩ := D0.out _ b1
 clear b1
 cases q
 · go_wp2
   go_ret
   exact ⟨ret_bool (treeOk_no (.inr (.inr (.inl (by rw [HL.out]; exact HQ.out))))).symm, B0.out.trans (B1.out.mono B0.out.size)⟩
 clear d0 d1
 obtain ⟨d0, d1⟩ := D0.out _ B1.out
 go_wp2
 go_loopw [3] (fun i wr => ∃ k : Nat, i = jI jZ k ∧ k ≤ n ∧ Hid (∀ j, j < k → ndGood n (ndAt xs j) = true) ∧ Hid (Below w0.heap.size w0 wr)) (fun i _ => n - (intOf i).toNat)
 case atStart => exact ⟨0, rfl, by omega, Lib.hid (by intro j hj; omega), B1⟩
 case round =>
   obtain ⟨k, rfl, hk, ho, hbw⟩ := hrel
   clear d0 d1
   obtain ⟨d0, d1⟩ := D0.out _ hbw.out
   by_cases hlt : k < n
   · have NO : Hid (ndGood n (ndAt xs k) = false → treeOk r xs = false) := Lib.hid (fun h => treeOk_no (.inr (.inr (.inr ⟨k, by rw [HL.out]; exact hlt, by rw [HL.out]; exact h⟩))))
     have YES : Hid (ndGood n (ndAt xs k) = true → ∀ j, j < k + 1 → ndGood n (ndAt xs j) = true) := Lib.hid (fun h j hj => by
       rcases Nat.lt_or_ge j k with h' | h'
       · exact ho.out j h'
       · obtain rfl : j = k := by omega
         exact h)
     obtain ⟨b, off, rfl, hb, hc⟩ := HH.out.nd (by omega)
     obtain ⟨A2, n2, c2, c0, c1, c2', c3, c4, hR, _⟩ := (hc k hlt).keep (w' := wr) hb (fun p hp => hbw.out.cell hp)
     have hR1 : RP wr wr.heap.size A2 n2 (ndAt xs k).ps := hR.more hbw.out.size
     have hn2 : n2 ≤ 1048576 := by rw [← hR.1]; exact HS.out.2 k (by rw [HL.out]; exact hlt)
     generalize ndAt xs k = y at *
     clear hc hR
     have hN : ∀ w, RP w w.heap.size A2 n2 y.ps → Calls Try.prog 83 #[ndV y A2 n2 c2] w fun e w' => e = .returned (.bool (nodeOk y)) ∧ Below w.heap.size w w' := fun w hR => sNode_any y A2 n2 c2 w hR hn2
     generalize hq : nodeOk y = q at hN
     have HQ2 := Lib.hid hq
     unfold ndV at hN
     have HN := Lib.hid hN
     obtain ⟨w3, hw3⟩ : ∃ w3, w3 = wr.alloc (.cells #[jI jZ y.lv, jS A2 n2 c2, jI jZ y.hi, jI jZ y.ri, jI jZ y.ow] 101) := ⟨_, rfl⟩
     have b3 : Below wr.heap.size wr w3 := by rw [hw3]; exact (Below.refl _ _).alloc (Nat.le_refl _) _
     have x3 : w3.heap[wr.heap.size]? = some (.cells #[jI jZ y.lv, jS A2 n2 c2, jI jZ y.hi, jI jZ y.ri, jI jZ y.ow] 101 (0, 0)) := by rw [hw3]; exact heap_alloc_new _ _
     have D3 : Hid (∀ wx, Below w3.heap.size w3 wx → wx.cell? ⟨wr.heap.size, 0, none⟩ = some (jI jZ y.lv) ∧ wx.cell? ⟨wr.heap.size, 1, none⟩ = some (.slice A2 n2 c2) ∧ wx.cell? ⟨wr.heap.size, 3, none⟩ = some (jI jZ y.ri)) := Lib.hid (fun wx hb => ⟨by rw [cell_of_row _ _ 0 _ _ _ (box_on hb x3)]; rfl, by rw [cell_of_row _ _ 1 _ _ _ (box_on hb x3)]; rfl, by rw [cell_of_row _ _ 3 _ _ _ (box_on hb x3)]; rfl⟩)
     have R3 := Lib.hid (hR1.on b3)
     have B3 := Lib.hid (bel_on hbw.out b3)
     have HW3 := Lib.hid hw3
     clear hq hN hw3 b3 x3 hR1
     obtain ⟨lv, zs, hi, ri, ow⟩ := y
     simp only at *
     go_wp2_with fail
     rw [← HW3.out]
     refine (HN.out _ R3.out).mono ?_
     rintro e w4 ⟨rfl, b4⟩
     have B4 := Lib.hid (bel_on B3.out b4)
     have R4 := Lib.hid (R3.out.on b4)
     have K4 := Lib.hid b4
     obtain ⟨f0, f1, f3⟩ := D3.out _ b4
     clear d0 d1 c0 c1 c2' c3 c4 b4
     obtain ⟨d0, d1⟩ := D0.out _ B4.out
     cases q
     · go_wp2
       go_ret
       exact ⟨ret_bool (NO.out (ndGood_no (.inl HQ2.out))).symm, B0.out.trans (B4.out.mono B0.out.size)⟩
     by_cases hri : (n : Int) ≤ ri
     · have gri : decide ((n : Int) ≤ ri) = true := by simpa using hri
       go_wp2
       go_ret
       exact ⟨ret_bool (NO.out (ndGood_no (.inr (.inl hri)))).symm, B0.out.trans (B4.out.mono B0.out.size)⟩
     have gri : decide ((n : Int) ≤ ri) = false := by simpa using hri
     have HRI : Hid (ri < (n : Int)) := Lib.hid (by omega)
     clear hri
     go_wp2
     clear gri f3
     go_loopw [5] (fun i wx => ∃ k2 : Nat, i = jI jZ k2 ∧ k2 ≤ n2 ∧ Hid (0 < lv → ∀ j, j < k2 → hasB n (vAt zs j) = true) ∧ Hid (Below w4.heap.size w4 wx)) (fun i _ => n2 - (intOf i).toNat)
     case atStart => exact ⟨0, rfl, by omega, Lib.hid (by intro _ j hj; omega), Lib.hid (Below.refl _ _)⟩
     case round =>
       obtain ⟨k2, rfl, hk2, ho2, hbw2⟩ := hrel
       clear d0 d1 f0 f1
       obtain ⟨d0, d1⟩ := D0.out _ (bel_on B4.out hbw2.out)
       obtain ⟨f0, f1, _⟩ := D3.out _ (bel_on K4.out hbw2.out)
       have q0 := Later.of_cell d0 (Below.refl _ _) (World.block_lt_of_cell? _ _ d0)
       have q1 := Later.of_cell d1 (Below.refl _ _) (World.block_lt_of_cell? _ _ d1)
       have q2 := Later.of_cell f0 (Below.refl _ _) (World.block_lt_of_cell? _ _ f0)
       have q3 := Later.of_cell f1 (Below.refl _ _) (World.block_lt_of_cell? _ _ f1)
       by_cases h2 : k2 < n2
       · by_cases hlv : 0 < lv
         · have glv : decide (0 < lv) = true := by simpa using hlv
           obtain ⟨b2, off2, rfl, hb2, hc2⟩ := R4.out.2 (by omega)
           have cv := (hbw2.out.cell (p := ⟨b2, off2 + k2 * 2 + 1, none⟩) hb2).trans (hc2 k2 h2).2
           have q4 := Later.of_cell cv (Below.refl _ _) (World.block_lt_of_cell? _ _ cv)
           clear hc2 cv
           have hH : ∀ w, Calls Try.prog 82 #[.agg #[jI jZ r, jS (some ⟨b, off, none⟩) n c], jI jZ (vAt zs k2)] w fun e w' => e = .returned (.bool (hasB n (vAt zs k2))) ∧ Below w.heap.size w w' := fun w => has_any r _ n c _ w hn
           generalize hv : hasB n (vAt zs k2) = v at hH
           have HV := Lib.hid hv
           have HHas := Lib.hid hH
           clear hv hH
           go_wp2
           refine wp_region_later (by kernel_rfl) (by kernel_rfl) ?_
           repeat (go_big_quiet_step ((go_at_call 82; exact Calls.later (HHas.out _))))
           refine wpQuiet_nil ?_
           intro _ hw'
           obtain ⟨s6, rfl⟩ := hw'
           have B6 := Lib.hid (bel_on hbw2.out s6.2)
           cases v
           · go_wp2
             go_ret
             exact ⟨ret_bool (NO.out (ndGood_no (.inr (.inr ⟨hlv, k2, by have := R4.out.1; simp only; omega, HV.out⟩)))).symm, B0.out.trans ((bel_on B4.out B6.out).mono B0.out.size)⟩
           · go_wp2
             go_roundw
             case rel => exact ⟨k2 + 1, by go_num, by omega, Lib.hid (fun h j hj => by
               rcases Nat.lt_or_ge j k2 with h' | h'
               · exact ho2.out h j h'
               · obtain rfl : j = k2 := by omega
                 exact HV.out), B6⟩
             case measure => simp [intOf]; omega
         · have glv : decide (0 < lv) = false := by simpa using hlv
           go_wp2
           refine wp_region_later (by kernel_rfl) (by kernel_rfl) ?_
           repeat (go_big_quiet_step (fail))
           refine wpQuiet_nil ?_
           intro _ hw'
           obtain ⟨s6, rfl⟩ := hw'
           have B6 := Lib.hid (bel_on hbw2.out s6.2)
           go_wp2
           go_roundw
           case rel => exact ⟨k2 + 1, by go_num, by omega, Lib.hid (fun h => absurd h (by omega)), B6⟩
           case measure => simp [intOf]; omega
       · obtain rfl : k2 = n2 := by omega
         go_wp2
         go_roundw
         case rel => exact ⟨k + 1, by go_num, by omega, Lib.hid (YES.out (ndGood_yes HQ2.out HRI.out (fun h j hj => ho2.out h j (by have := R4.out.1; simp only at hj; omega)))), Lib.hid (bel_on B4.out hbw2.out)⟩
         case measure => simp [intOf]; omega
   · obtain rfl : k = n := by omega
     go_wp2
     go_ret
     exact ⟨ret_bool ((treeOk_iff r xs).2 ⟨by rw [HL.out]; omega, by rw [HL.out]; omega, by rw [HL.out]; exact HQ.out, fun i hi => by rw [HL.out] at hi ⊢; exact ho.out i hi⟩).symm, B0.out.trans (hbw.out.mono B0.out.size)⟩
end Go.Proofs.Ytjookicpmjmdhaa

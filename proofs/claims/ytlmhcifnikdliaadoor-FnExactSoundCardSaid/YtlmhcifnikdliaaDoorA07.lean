/- append onto a row of the call's own from a list of pairs, nil let in; the walk of slices.Clone. -/
import Derived.Test.YtlmhcifnikdliaaDoorA06
import Derived.WalkSpells
import Derived.WalkLawsBesides
import Derived.Lib.AppendZerosOnto
import Derived.StillTailTactics
import Derived.Test.YtlmhcifnikdliaaDoorA02
namespace Go.Proofs.YtlmhcifnikdliaaDoor
open Go.RowKit

theorem RP.take {w : World} {B n : Nat} {A : Option Addr} {zs : List Pr} (h : RP w B A n zs) {k : Nat} (hk : k ≤ n) : RP w B A k (zs.take k) := by
  have hl := h.1
  refine ⟨by rw [List.length_take]; omega, fun h0 => ?_⟩
  obtain ⟨b, off, e, hb, hc⟩ := h.2 (by omega)
  refine ⟨b, off, e, hb, fun i hi => ?_⟩
  have e1 : kAt (zs.take k) i = kAt zs i := by simp [kAt, hi]
  have e2 : vAt (zs.take k) i = vAt zs i := by simp [vAt, hi]
  rw [e1, e2]
  exact hc i (by omega)
theorem RP.drop {w : World} {B n c : Nat} {A : Option Addr} {zs : List Pr} (h : RP w B A n zs) {k : Nat} (hk : k ≤ n) (hc : n ≤ c) :
    RP w B (if c = k then A else A.map (·.add (k * 2))) (n - k) (zs.drop k) := by
  have hl := h.1
  refine ⟨by rw [List.length_drop]; omega, fun h0 => ?_⟩
  obtain ⟨b, off, e, hb, hcell⟩ := h.2 (by omega)
  refine ⟨b, off + k * 2, ?_, hb, fun i hi => ?_⟩
  · rw [if_neg (by omega), e]
    simp only [Option.map_some, Option.some.injEq]
    unfold Addr.add
    split <;> simp_all
  · have e1 : kAt (zs.drop k) i = kAt zs (k + i) := by simp [kAt]
    have e2 : vAt (zs.drop k) i = vAt zs (k + i) := by simp [vAt]
    rw [e1, e2]
    have := hcell (k + i) (by omega)
    rw [show off + k * 2 + i * 2 = off + (k + i) * 2 from by omega]
    exact this

end Go.Proofs.YtlmhcifnikdliaaDoor
namespace Go.Proofs.YtlmhcifnikdliaaDoor
open Go.RowKit
set_option linter.unusedVariables false

theorem own_base {w : World} {base base' : Nat} {e : TypeId} {size n : Nat} {v : Value} {xs : List Value} (h : w.ownsRow base e size v n xs) (hb : base' ≤ base) : w.ownsRow base' e size v n xs := by
  rcases h with ⟨hl, h' | ⟨g, cap, cur, hv, hg, rest⟩⟩
  · exact ⟨hl, .inl h'⟩
  · exact ⟨hl, .inr ⟨g, cap, cur, hv, Nat.le_trans hb hg, rest⟩⟩
end Go.Proofs.YtlmhcifnikdliaaDoor
namespace Go.Proofs.YtlmhcifnikdliaaDoor
open Go.RowKit
set_option linter.unusedVariables false

def dropA (A : Option Addr) (c k : Nat) : Option Addr := if c = k then A else A.map (·.add (k * 2))
theorem RP.tail {w : World} {B n c : Nat} {A : Option Addr} {zs : List Pr} (h : RP w B A n zs) {k : Nat} (hk : k ≤ n) (hc : n ≤ c) : RP w B (dropA A c k) (n - k) (zs.drop k) := h.drop hk hc
end Go.Proofs.YtlmhcifnikdliaaDoor
namespace Go.Proofs.YtlmhcifnikdliaaDoor
open Go.RowKit

def markTo (zs : List Pr) (k : Nat) (j : Nat) : List Pr := ((List.range j).map fun i : Nat => ((k : Int) + 2 * (i : Int), (k : Int) + 2 * (i : Int) + 1)) ++ zs.drop j
end Go.Proofs.YtlmhcifnikdliaaDoor
namespace Go.Proofs.YtlmhcifnikdliaaDoor
open Go.RowKit


class Mk (α : Type) where
  cnt : α → Nat
  put : Nat → α → α
section
variable {α : Type} [M : Mk α]
def cntS (xs : List α) : Nat := (xs.map M.cnt).sum
theorem cntS_take (xs : List α) (j : Nat) (d : α) (hj : j < xs.length) : cntS (xs.take (j + 1)) = cntS (xs.take j) + M.cnt (xs.getD j d) := by
  unfold cntS
  have e : xs.getD j d = xs[j] := by simp [hj]
  rw [List.take_succ_eq_append_getElem hj, List.map_append, List.sum_append, e]
  rfl
end

instance : Mk Int where
  cnt := fun _ => 1
  put := fun k _ => (k : Int)
instance : Mk Nd where
  cnt := fun x => 4 + 2 * x.ps.length
  put := fun k x => ⟨(k : Int), markTo x.ps (k + 1) x.ps.length, ((k + 1 + 2 * x.ps.length : Nat) : Int), ((k + 1 + 2 * x.ps.length + 1 : Nat) : Int), ((k + 1 + 2 * x.ps.length + 2 : Nat) : Int)⟩


instance encInt : Enc Int where
  ty := 2
  sz := 1
  dflt := 0
  Is := fun _ _ cs x => cs = [.int .i64 x]
  Own := fun _ cs x _ => cs = [.int .i64 x]
  is_len := fun h => by rw [h]; rfl
  is_keep := fun h _ => h
  is_more := fun h _ => h
  own_is := fun h => h
  own_keep := fun h _ => h
  own_more := fun h _ => h


instance encNd : Enc Nd where
  ty := 40
  sz := 5
  dflt := ⟨0, [], 0, 0, 0⟩
  Is := fun w B cs x => ∃ A n c, cs = [.int .i64 x.lv, .slice A n c, .int .i64 x.hi, .int .i64 x.ri, .int .i64 x.ow] ∧ RP w B A n x.ps ∧ n ≤ c ∧ c ≤ 9223372036854775807
  Own := fun w cs x F => ∃ v, cs = [.int .i64 x.lv, v, .int .i64 x.hi, .int .i64 x.ri, .int .i64 x.ow] ∧ w.ownsRow 0 53 2 v x.ps.length (PL x.ps) ∧ ∀ k, v.ownBlock = some k → F k
  is_len := fun ⟨_, _, _, h, _⟩ => by rw [h]; rfl
  is_keep := fun ⟨A, n, c, h, hR, hc⟩ hk => ⟨A, n, c, h, hR.keep hk, hc⟩
  is_more := fun ⟨A, n, c, h, hR, hc⟩ hB => ⟨A, n, c, h, hR.more hB, hc⟩
  own_is := fun ⟨v, h, ho, _⟩ => by
    obtain ⟨A, c, hv, hc, hm⟩ := own_shape ho
    obtain ⟨A', c', hv', hR⟩ := RP.of_own ho
    rw [hv] at hv'
    cases hv'
    exact ⟨A, _, c, by rw [h, hv], hR, hc, by unfold maxLen at hm; omega⟩
  own_keep := fun ⟨v, h, ho, hF⟩ hk => ⟨v, h, own_same ho (fun k e => hk k (hF k e)), hF⟩
  own_more := fun ⟨v, h, ho, hF⟩ hs => ⟨v, h, ho, fun k e => hs k (hF k e)⟩


structure Tr where
  root : Int
  ns : List Nd
def trV (t : Tr) (A : Option Addr) (n c : Nat) : Value := .agg #[.int .i64 t.root, .slice A n c]
def IsT (w : World) (B : Nat) (v : Value) (t : Tr) : Prop := ∃ A n c, v = trV t A n c ∧ RS w B A n t.ns ∧ n ≤ c ∧ c ≤ 9223372036854775807
def OwnT (w : World) (v : Value) (t : Tr) (F : FP) : Prop := ∃ u, v = .agg #[.int .i64 t.root, u] ∧ OwnS w u t.ns F
section
variable {w w' : World} {v : Value} {t : Tr} {F G : FP} {B B' : Nat}
theorem IsT.keep (h : IsT w B v t) (hk : ∀ p : Addr, p.block < B → w'.cell? p = w.cell? p) : IsT w' B v t := by
  obtain ⟨A, n, c, e, hR, hc⟩ := h
  exact ⟨A, n, c, e, hR.keep hk, hc⟩
theorem IsT.more (h : IsT w B v t) (hB : B ≤ B') : IsT w B' v t := by
  obtain ⟨A, n, c, e, hR, hc⟩ := h
  exact ⟨A, n, c, e, hR.more hB, hc⟩
theorem IsT.on (h : IsT w w.heap.size v t) (hb : Below w.heap.size w w') : IsT w' w'.heap.size v t := by
  obtain ⟨A, n, c, e, hR, hc⟩ := h
  exact ⟨A, n, c, e, hR.on hb, hc⟩
theorem OwnT.reads (h : OwnT w v t F) : IsT w w.heap.size v t := by
  obtain ⟨u, e, ho⟩ := h
  obtain ⟨A, c, rfl, hR, hc⟩ := ho.reads
  exact ⟨A, _, c, e, hR, hc⟩
theorem OwnT.more (h : OwnT w v t F) (hs : ∀ k, F k → G k) : OwnT w v t G := by
  obtain ⟨u, e, ho⟩ := h
  exact ⟨u, e, ho.more hs⟩
theorem OwnT.keep (h : OwnT w v t F) (hs : ∀ k, F k → k < w.heap.size → w'.heap[k]? = w.heap[k]?) : OwnT w' v t F := by
  obtain ⟨u, e, ho⟩ := h
  exact ⟨u, e, ho.keep hs⟩
end


def ndAt (xs : List Nd) (i : Nat) : Nd := xs.getD i ⟨0, [], 0, 0, 0⟩
theorem ndAt_eq (xs : List Nd) (i : Nat) (h : i < xs.length) : ndAt xs i = xs[i] := by simp [ndAt, h]
def NdIn (w : World) (B b o : Nat) (x : Nd) : Prop := ∃ (A : Option Addr) (n c : Nat),
  w.cell? ⟨b, o, none⟩ = some (.int .i64 x.lv) ∧ w.cell? ⟨b, o + 1, none⟩ = some (.slice A n c) ∧ w.cell? ⟨b, o + 2, none⟩ = some (.int .i64 x.hi) ∧
  w.cell? ⟨b, o + 3, none⟩ = some (.int .i64 x.ri) ∧ w.cell? ⟨b, o + 4, none⟩ = some (.int .i64 x.ow) ∧ RP w B A n x.ps ∧ n ≤ c ∧ c ≤ 9223372036854775807
theorem RS.nd {w : World} {B n : Nat} {A : Option Addr} {xs : List Nd} (h : RS w B A n xs) (hn : 0 < n) :
    ∃ b off, A = some ⟨b, off, none⟩ ∧ b < B ∧ ∀ i, i < n → NdIn w B b (off + i * 5) (ndAt xs i) := by
  obtain ⟨b, off, e, hb, hc⟩ := h.2 hn
  refine ⟨b, off, e, hb, fun i hi => ?_⟩
  obtain ⟨cs, ⟨A', n', c', h1, h2, h3⟩, h4⟩ := hc i hi
  subst h1
  exact ⟨A', n', c', h4 0 _ rfl, h4 1 _ rfl, h4 2 _ rfl, h4 3 _ rfl, h4 4 _ rfl, h2, h3⟩
theorem NdIn.keep {w w' : World} {B b o : Nat} {x : Nd} (h : NdIn w B b o x) (hb : b < B) (hk : ∀ p : Addr, p.block < B → w'.cell? p = w.cell? p) : NdIn w' B b o x := by
  obtain ⟨A, n, c, h0, h1, h2, h3, h4, hR, hc⟩ := h
  exact ⟨A, n, c, (hk _ hb).trans h0, (hk _ hb).trans h1, (hk _ hb).trans h2, (hk _ hb).trans h3, (hk _ hb).trans h4, hR.keep hk, hc⟩
end Go.Proofs.YtlmhcifnikdliaaDoor

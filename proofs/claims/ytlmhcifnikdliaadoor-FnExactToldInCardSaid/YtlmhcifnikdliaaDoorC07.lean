/- The walks of the code's Put and Cut. -/
import Derived.Test.YtlmhcifnikdliaaDoorC06
import Derived.Lib.AppendZerosOnto
import Derived.StillTailTactics
import Derived.Test.YtlmhcifnikdliaaDoorC02
namespace Go.Proofs.YtlmhcifnikdliaaDoor
open Go.RowKit
set_option linter.unusedVariables false

theorem own_base {w : World} {base base' : Nat} {e : TypeId} {size n : Nat} {v : Value} {xs : List Value} (h : w.ownsRow base e size v n xs) (hb : base' ≤ base) : w.ownsRow base' e size v n xs := by
  rcases h with ⟨hl, h' | ⟨g, cap, cur, hv, hg, rest⟩⟩
  · exact ⟨hl, .inl h'⟩
  · exact ⟨hl, .inr ⟨g, cap, cur, hv, Nat.le_trans hb hg, rest⟩⟩
end Go.Proofs.YtlmhcifnikdliaaDoor
namespace Go.Proofs.YtlmhcifnikdliaaDoor
open Go.RowKit
set_option linter.unusedVariables false

def dropA (A : Option Addr) (c k : Nat) : Option Addr := if c = k then A else A.map (·.add (k * 2))
theorem RP.tail {w : World} {B n c : Nat} {A : Option Addr} {zs : List Pr} (h : RP w B A n zs) {k : Nat} (hk : k ≤ n) (hc : n ≤ c) : RP w B (dropA A c k) (n - k) (zs.drop k) := h.drop hk hc
end Go.Proofs.YtlmhcifnikdliaaDoor
namespace Go.Proofs.YtlmhcifnikdliaaDoor
open Go.RowKit

def markTo (zs : List Pr) (k : Nat) (j : Nat) : List Pr := ((List.range j).map fun i : Nat => ((k : Int) + 2 * (i : Int), (k : Int) + 2 * (i : Int) + 1)) ++ zs.drop j
end Go.Proofs.YtlmhcifnikdliaaDoor
namespace Go.Proofs.YtlmhcifnikdliaaDoor
open Go.RowKit


class Mk (α : Type) where
  cnt : α → Nat
  put : Nat → α → α
section
variable {α : Type} [M : Mk α]
def cntS (xs : List α) : Nat := (xs.map M.cnt).sum
theorem cntS_take (xs : List α) (j : Nat) (d : α) (hj : j < xs.length) : cntS (xs.take (j + 1)) = cntS (xs.take j) + M.cnt (xs.getD j d) := by
  unfold cntS
  have e : xs.getD j d = xs[j] := by simp [hj]
  rw [List.take_succ_eq_append_getElem hj, List.map_append, List.sum_append, e]
  rfl
end

instance : Mk Int where
  cnt := fun _ => 1
  put := fun k _ => (k : Int)
instance : Mk Nd where
  cnt := fun x => 4 + 2 * x.ps.length
  put := fun k x => ⟨(k : Int), markTo x.ps (k + 1) x.ps.length, ((k + 1 + 2 * x.ps.length : Nat) : Int), ((k + 1 + 2 * x.ps.length + 1 : Nat) : Int), ((k + 1 + 2 * x.ps.length + 2 : Nat) : Int)⟩


instance encInt : Enc Int where
  ty := 2
  sz := 1
  dflt := 0
  Is := fun _ _ cs x => cs = [.int .i64 x]
  Own := fun _ cs x _ => cs = [.int .i64 x]
  is_len := fun h => by rw [h]; rfl
  is_keep := fun h _ => h
  is_more := fun h _ => h
  own_is := fun h => h
  own_keep := fun h _ => h
  own_more := fun h _ => h


instance encNd : Enc Nd where
  ty := 40
  sz := 5
  dflt := ⟨0, [], 0, 0, 0⟩
  Is := fun w B cs x => ∃ A n c, cs = [.int .i64 x.lv, .slice A n c, .int .i64 x.hi, .int .i64 x.ri, .int .i64 x.ow] ∧ RP w B A n x.ps ∧ n ≤ c ∧ c ≤ 9223372036854775807
  Own := fun w cs x F => ∃ v, cs = [.int .i64 x.lv, v, .int .i64 x.hi, .int .i64 x.ri, .int .i64 x.ow] ∧ w.ownsRow 0 53 2 v x.ps.length (PL x.ps) ∧ ∀ k, v.ownBlock = some k → F k
  is_len := fun ⟨_, _, _, h, _⟩ => by rw [h]; rfl
  is_keep := fun ⟨A, n, c, h, hR, hc⟩ hk => ⟨A, n, c, h, hR.keep hk, hc⟩
  is_more := fun ⟨A, n, c, h, hR, hc⟩ hB => ⟨A, n, c, h, hR.more hB, hc⟩
  own_is := fun ⟨v, h, ho, _⟩ => by
    obtain ⟨A, c, hv, hc, hm⟩ := own_shape ho
    obtain ⟨A', c', hv', hR⟩ := RP.of_own ho
    rw [hv] at hv'
    cases hv'
    exact ⟨A, _, c, by rw [h, hv], hR, hc, by unfold maxLen at hm; omega⟩
  own_keep := fun ⟨v, h, ho, hF⟩ hk => ⟨v, h, own_same ho (fun k e => hk k (hF k e)), hF⟩
  own_more := fun ⟨v, h, ho, hF⟩ hs => ⟨v, h, ho, fun k e => hs k (hF k e)⟩


structure Tr where
  root : Int
  ns : List Nd
def trV (t : Tr) (A : Option Addr) (n c : Nat) : Value := .agg #[.int .i64 t.root, .slice A n c]
def IsT (w : World) (B : Nat) (v : Value) (t : Tr) : Prop := ∃ A n c, v = trV t A n c ∧ RS w B A n t.ns ∧ n ≤ c ∧ c ≤ 9223372036854775807
def OwnT (w : World) (v : Value) (t : Tr) (F : FP) : Prop := ∃ u, v = .agg #[.int .i64 t.root, u] ∧ OwnS w u t.ns F
section
variable {w w' : World} {v : Value} {t : Tr} {F G : FP} {B B' : Nat}
theorem IsT.keep (h : IsT w B v t) (hk : ∀ p : Addr, p.block < B → w'.cell? p = w.cell? p) : IsT w' B v t := by
  obtain ⟨A, n, c, e, hR, hc⟩ := h
  exact ⟨A, n, c, e, hR.keep hk, hc⟩
theorem IsT.more (h : IsT w B v t) (hB : B ≤ B') : IsT w B' v t := by
  obtain ⟨A, n, c, e, hR, hc⟩ := h
  exact ⟨A, n, c, e, hR.more hB, hc⟩
theorem IsT.on (h : IsT w w.heap.size v t) (hb : Below w.heap.size w w') : IsT w' w'.heap.size v t := by
  obtain ⟨A, n, c, e, hR, hc⟩ := h
  exact ⟨A, n, c, e, hR.on hb, hc⟩
theorem OwnT.reads (h : OwnT w v t F) : IsT w w.heap.size v t := by
  obtain ⟨u, e, ho⟩ := h
  obtain ⟨A, c, rfl, hR, hc⟩ := ho.reads
  exact ⟨A, _, c, e, hR, hc⟩
theorem OwnT.more (h : OwnT w v t F) (hs : ∀ k, F k → G k) : OwnT w v t G := by
  obtain ⟨u, e, ho⟩ := h
  exact ⟨u, e, ho.more hs⟩
theorem OwnT.keep (h : OwnT w v t F) (hs : ∀ k, F k → k < w.heap.size → w'.heap[k]? = w.heap[k]?) : OwnT w' v t F := by
  obtain ⟨u, e, ho⟩ := h
  exact ⟨u, e, ho.keep hs⟩
end


def ndAt (xs : List Nd) (i : Nat) : Nd := xs.getD i ⟨0, [], 0, 0, 0⟩
theorem ndAt_eq (xs : List Nd) (i : Nat) (h : i < xs.length) : ndAt xs i = xs[i] := by simp [ndAt, h]
def NdIn (w : World) (B b o : Nat) (x : Nd) : Prop := ∃ (A : Option Addr) (n c : Nat),
  w.cell? ⟨b, o, none⟩ = some (.int .i64 x.lv) ∧ w.cell? ⟨b, o + 1, none⟩ = some (.slice A n c) ∧ w.cell? ⟨b, o + 2, none⟩ = some (.int .i64 x.hi) ∧
  w.cell? ⟨b, o + 3, none⟩ = some (.int .i64 x.ri) ∧ w.cell? ⟨b, o + 4, none⟩ = some (.int .i64 x.ow) ∧ RP w B A n x.ps ∧ n ≤ c ∧ c ≤ 9223372036854775807
theorem RS.nd {w : World} {B n : Nat} {A : Option Addr} {xs : List Nd} (h : RS w B A n xs) (hn : 0 < n) :
    ∃ b off, A = some ⟨b, off, none⟩ ∧ b < B ∧ ∀ i, i < n → NdIn w B b (off + i * 5) (ndAt xs i) := by
  obtain ⟨b, off, e, hb, hc⟩ := h.2 hn
  refine ⟨b, off, e, hb, fun i hi => ?_⟩
  obtain ⟨cs, ⟨A', n', c', h1, h2, h3⟩, h4⟩ := hc i hi
  subst h1
  exact ⟨A', n', c', h4 0 _ rfl, h4 1 _ rfl, h4 2 _ rfl, h4 3 _ rfl, h4 4 _ rfl, h2, h3⟩
theorem NdIn.keep {w w' : World} {B b o : Nat} {x : Nd} (h : NdIn w B b o x) (hb : b < B) (hk : ∀ p : Addr, p.block < B → w'.cell? p = w.cell? p) : NdIn w' B b o x := by
  obtain ⟨A, n, c, h0, h1, h2, h3, h4, hR, hc⟩ := h
  exact ⟨A, n, c, (hk _ hb).trans h0, (hk _ hb).trans h1, (hk _ hb).trans h2, (hk _ hb).trans h3, (hk _ hb).trans h4, hR.keep hk, hc⟩
end Go.Proofs.YtlmhcifnikdliaaDoor
namespace Go.Proofs.YtlmhcifnikdliaaDoor
open Go.RowKit

def psTo (xs : List Nd) : Nat → Nat
  | 0 => 0
  | k + 1 => psTo xs k + (ndAt xs k).ps.length
theorem psTo_mono (xs : List Nd) : ∀ (m k : Nat), k ≤ m → psTo xs k ≤ psTo xs m := by
  intro m
  induction m with
  | zero => intro k hk; obtain rfl : k = 0 := by omega
            exact Nat.le_refl _
  | succ m ih =>
    intro k hk
    rcases Nat.lt_or_ge m k with h | h
    · obtain rfl : k = m + 1 := by omega
      exact Nat.le_refl _
    · exact Nat.le_trans (ih k h) (Nat.le_add_right _ _)
def szs (xs : List Nd) : Nat := xs.length + psTo xs xs.length
theorem szs_len {xs : List Nd} (h : szs xs ≤ 1048576) : xs.length ≤ 1048576 := by unfold szs at h; omega
theorem szs_ps {xs : List Nd} (h : szs xs ≤ 1048576) (i : Nat) (hi : i < xs.length) : (ndAt xs i).ps.length ≤ 1048576 := by
  have := psTo_mono xs xs.length (i + 1) hi
  unfold szs at h
  simp only [psTo] at this
  omega
def leftI (L m : Nat) : Int := if m ≤ L then (L : Int) - m else -1

theorem szP_any (A : Option Addr) (n c L : Nat) (w : World) (hL : L ≤ 1048576) (hm : n ≤ 9223372036854775807) :
    Calls Tryd.prog 54 #[.slice A n c, .int .i64 L] w fun e w' => e = .returned (.int .i64 (leftI L n)) ∧ w = w' := by
  unfold leftI
  by_cases hn : n ≤ L
  · rw [if_pos hn]
    go_enter Tryd.func54, Tryd.ntmps54
    go_wp2
    go_ret
    exact ⟨rfl, rfl⟩
  · rw [if_neg hn]
    go_enter Tryd.func54, Tryd.ntmps54
    go_wp2
    go_ret
    exact ⟨rfl, rfl⟩
theorem szN_any (x : Nd) (A : Option Addr) (n c L : Nat) (w : World) (hL : L ≤ 1048576) (hm : n ≤ 9223372036854775807) :
    Calls Tryd.prog 33 #[ndV x A n c, .int .i64 L] w fun e w' => e = .returned (.int .i64 (leftI L n)) ∧ Below w.heap.size w w' := by
  obtain ⟨lv, zs, hi, ri, ow⟩ := x
  have hs := fun w => szP_any A n c L w hL hm
  by_cases hn : n ≤ L
  · have e : leftI L n = (L : Int) - n := by unfold leftI; rw [if_pos hn]
    rw [e] at hs ⊢
    have HS := Lib.hid hs
    clear hs e
    unfold ndV
    simp only
    go_enter Tryd.func33, Tryd.ntmps33
    go_wp2_with (go_at_call 54; refine (HS.out _).mono ?_; rintro e w1 ⟨rfl, rfl⟩)
    go_ret
    exact ⟨rfl, (Below.refl _ _).alloc (Nat.le_refl _) _⟩
  · have e : leftI L n = -1 := by unfold leftI; rw [if_neg hn]
    rw [e] at hs ⊢
    have HS := Lib.hid hs
    clear hs e
    unfold ndV
    simp only
    go_enter Tryd.func33, Tryd.ntmps33
    go_wp2_with (go_at_call 54; refine (HS.out _).mono ?_; rintro e w1 ⟨rfl, rfl⟩)
    go_ret
    exact ⟨rfl, (Below.refl _ _).alloc (Nat.le_refl _) _⟩

theorem szNS_any (A : Option Addr) (n c : Nat) (xs : List Nd) (w : World) (h : RS w w.heap.size A n xs) (hm : n ≤ 9223372036854775807) (hp : ∀ i, i < n → (ndAt xs i).ps.length ≤ 9223372036854775807) :
    Calls Tryd.prog 19 #[.slice A n c, .int .i64 1048576] w fun e w' => e = .returned (.int .i64 (leftI 1048576 (szs xs))) ∧ Below w.heap.size w w' := by
  have HL := Lib.hid h.1
  have HH := Lib.hid h
  have HP := Lib.hid hp
  clear h hp
  by_cases hn : 1048576 < n
  · have e : leftI 1048576 (szs xs) = -1 := by unfold leftI szs; rw [if_neg (by have := HL.out; omega)]
    rw [e]
    clear e
    go_enter Tryd.func19, Tryd.ntmps19
    go_wp2
    go_ret
    exact ⟨rfl, Below.refl _ _⟩
  have hn : n ≤ 1048576 := by omega
  go_enter Tryd.func19, Tryd.ntmps19
  go_wp2
  go_loopw [1, 5] (fun l i wr => ∃ (k L : Nat), i = .int .i64 k ∧ k ≤ n ∧ l = .int .i64 L ∧ L ≤ 1048576 ∧ Hid (L + n + psTo xs k = 1048576) ∧ Hid (Below w.heap.size w wr)) (fun _ i _ => n - (intOf i).toNat)
  case atStart => exact ⟨0, 1048576 - n, rfl, by omega, by go_num, by omega, Lib.hid (by simp [psTo]; omega), Lib.hid (Below.refl _ _)⟩
  case round =>
    obtain ⟨k, L, rfl, hk, rfl, hL, hS, hbw⟩ := hrel
    by_cases hlt : k < n
    · obtain ⟨b, off, rfl, hb, hc⟩ := HH.out.nd (by omega)
      obtain ⟨A2, n2, c2, h0, h1, h2, h3, h4, hR, _⟩ := (hc k hlt).keep (w' := wr) hb (fun p hp => hbw.out.cell hp)
      have hl2 := hR.1
      have HL2 := Lib.hid hl2
      have hn2 : n2 ≤ 9223372036854775807 := by have := HP.out k hlt; omega
      have sN := fun w => szN_any (ndAt xs k) A2 n2 c2 L w hL hn2
      unfold ndV at sN
      have SN := Lib.hid sN
      clear hc hR hl2 sN
      generalize (ndAt xs k).lv = lv at *
      generalize (ndAt xs k).hi = hi at *
      generalize (ndAt xs k).ri = ri at *
      generalize (ndAt xs k).ow = ow at *
      have hx : psTo xs (k + 1) = psTo xs k + n2 := by simp only [psTo]; rw [HL2.out]
      have HX := Lib.hid hx
      clear hx
      go_wp2_with fail
      refine (SN.out _).mono ?_
      rintro e w1 ⟨rfl, b1⟩
      have B1 := Lib.hid (hbw.out.trans (b1.mono hbw.out.size))
      clear b1
      by_cases hfit : n2 ≤ L
      · have e : leftI L n2 = ((L - n2 : Nat) : Int) := by unfold leftI; rw [if_pos hfit]; omega
        rw [e]
        generalize hL' : L - n2 = L' at *
        have HLL := Lib.hid hL'
        clear e hL'
        go_wp2
        go_roundw
        case rel => exact ⟨k + 1, L', by go_num, by omega, rfl, by have := HLL.out; omega, Lib.hid (by have := HX.out; have := hS.out; have := HLL.out; omega), B1⟩
        case measure => simp [intOf]; omega
      · have e : leftI L n2 = -1 := by unfold leftI; rw [if_neg hfit]
        rw [e]
        clear e
        go_wp2
        go_ret
        refine ⟨ret_int ?_, B1.out⟩
        unfold leftI szs
        have hmono := psTo_mono xs xs.length (k + 1) (by have := HL.out; omega)
        rw [if_neg (by have := HX.out; have := hS.out; have := HL.out; omega)]
    · obtain rfl : k = n := by omega
      go_wp2
      go_ret
      refine ⟨ret_int ?_, hbw.out⟩
      unfold leftI szs
      have h1 := hS.out
      have h2 := HL.out
      rw [h2, if_pos (by omega)]
      omega

theorem szT_any (t : Tr) (A : Option Addr) (n c : Nat) (w : World) (h : RS w w.heap.size A n t.ns) (hm : n ≤ 9223372036854775807) (hp : ∀ i, i < n → (ndAt t.ns i).ps.length ≤ 9223372036854775807) :
    Calls Tryd.prog 6 #[trV t A n c, .int .i64 1048576] w fun e w' => e = .returned (.int .i64 (leftI 1048576 (szs t.ns))) ∧ Below w.heap.size w w' := by
  have sk : ∀ w, RS w w.heap.size A n t.ns → Calls Tryd.prog 19 #[.slice A n c, .int .i64 1048576] w fun e w' => e = .returned (.int .i64 (leftI 1048576 (szs t.ns))) ∧ Below w.heap.size w w' := fun w hR => szNS_any A n c t.ns w hR hm hp
  have hle : leftI 1048576 (szs t.ns) = -1 ∨ 0 ≤ leftI 1048576 (szs t.ns) := by unfold leftI; split <;> omega
  have HH := Lib.hid h
  clear h hp
  generalize leftI 1048576 (szs t.ns) = L at *
  obtain ⟨r, xs⟩ := t
  unfold trV
  simp only at *
  have SK := Lib.hid sk
  have HLE := Lib.hid hle
  clear sk hle
  have B0 : Hid (Below w.heap.size w (w.alloc (.cells #[.int .i64 r, .slice A n c] 24))) := Lib.hid ((Below.refl _ _).alloc (Nat.le_refl _) _)
  rcases HLE.out with rfl | hL
  · go_enter Tryd.func6, Tryd.ntmps6
    go_wp2_with fail
    refine (SK.out _ (HH.out.on B0.out)).mono ?_
    rintro e w1 ⟨rfl, b1⟩
    have B1 := Lib.hid (B0.out.trans (b1.mono (by simp)))
    clear b1
    go_wp2
    go_ret
    exact ⟨rfl, B1.out⟩
  · go_enter Tryd.func6, Tryd.ntmps6
    go_wp2_with fail
    refine (SK.out _ (HH.out.on B0.out)).mono ?_
    rintro e w1 ⟨rfl, b1⟩
    have B1 := Lib.hid (B0.out.trans (b1.mono (by simp)))
    clear b1
    go_wp2
    go_ret
    exact ⟨rfl, B1.out⟩
end Go.Proofs.YtlmhcifnikdliaaDoor

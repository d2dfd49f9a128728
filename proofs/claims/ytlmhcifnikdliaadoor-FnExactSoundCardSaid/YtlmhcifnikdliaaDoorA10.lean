/- The walks of eqInt64S, markInt64S, heldInt64S, markNodeS, heldNodeS, markTree, heldTree. -/
import Derived.Test.YtlmhcifnikdliaaDoorA09
import Derived.Test.YtlmhcifnikdliaaDoorA07
namespace Go.Proofs.YtlmhcifnikdliaaDoor
open Go.RowKit


def iAt (xs : List Int) (i : Nat) : Int := xs.getD i 0
theorem RS.ints {w : World} {B n : Nat} {A : Option Addr} {xs : List Int} (h : RS w B A n xs) (hn : 0 < n) :
    ∃ b off, A = some ⟨b, off, none⟩ ∧ b < B ∧ ∀ i, i < n → w.cell? ⟨b, off + i, none⟩ = some (.int .i64 (iAt xs i)) := by
  obtain ⟨b, off, e, hb, hc⟩ := h.2 hn
  refine ⟨b, off, e, hb, fun i hi => ?_⟩
  obtain ⟨cs, h1, h2⟩ := hc i hi
  have h1' : cs = [.int .i64 (xs.getD i 0)] := h1
  subst h1'
  have := h2 0 _ rfl
  rwa [show off + i * encInt.sz + 0 = off + i from by show off + i * 1 + 0 = off + i; omega] at this

theorem cntI (xs : List Int) : cntS xs = xs.length := by
  unfold cntS
  induction xs with
  | nil => rfl
  | cons x r ih =>
    simp only [List.map_cons, List.sum_cons, List.length_cons]
    rw [ih]
    show 1 + _ = _
    omega
theorem cntNd_take (xs : List Nd) (j : Nat) (hj : j < xs.length) : cntS (xs.take (j + 1)) = cntS (xs.take j) + (4 + 2 * (ndAt xs j).ps.length) := cntS_take xs j ⟨0, [], 0, 0, 0⟩ hj

end Go.Proofs.YtlmhcifnikdliaaDoor
namespace Go.Proofs.YtlmhcifnikdliaaDoor
open Go.RowKit

theorem RP.own {w : World} {base : Nat} {e : TypeId} {A : Option Addr} {n c : Nat} {zs : List Pr} (h : w.ownsRow base e 2 (.slice A n c) n (PL zs)) : RP w w.heap.size A n zs := by
  obtain ⟨A', c', e, r⟩ := RP.of_own h; cases e; exact r

end Go.Proofs.YtlmhcifnikdliaaDoor
namespace Go.Proofs.YtlmhcifnikdliaaDoor
open Go.RowKit


instance encPr : Enc Pr where
  ty := 53
  sz := 2
  dflt := (0, 0)
  Is := fun _ _ cs x => cs = [.int .i64 x.1, .int .i64 x.2]
  Own := fun _ cs x _ => cs = [.int .i64 x.1, .int .i64 x.2]
  is_len := fun h => by rw [h]; rfl
  is_keep := fun h _ => h
  is_more := fun h _ => h
  own_is := fun h => h
  own_keep := fun h _ => h
  own_more := fun h _ => h
instance : Mk Pr where
  cnt := fun _ => 2
  put := fun k _ => ((k : Int), ((k + 1 : Nat) : Int))

theorem PL_flat (zs : List Pr) : PL zs = (zs.map fun p => [Value.int .i64 p.1, .int .i64 p.2]).flatten := by
  induction zs with
  | nil => rfl
  | cons p r ih => simp only [PL, List.map_cons, List.flatten_cons, ih]; rfl
theorem OwnS.pairs {w : World} {v : Value} {zs : List Pr} {F : FP} (h : OwnS w v zs F) : w.ownsRow 0 53 2 v zs.length (PL zs) ∧ ∀ k, v.ownBlock = some k → F k := by
  obtain ⟨css, f, h1, h2, h3, h4, h5, h6⟩ := h
  refine ⟨?_, h6⟩
  have e : css = zs.map fun p => [Value.int .i64 p.1, .int .i64 p.2] := by
    apply List.ext_getElem (by simpa using h2)
    intro i hi hi'
    have h : css.getD i [] = [.int .i64 (zs.getD i (0, 0)).1, .int .i64 (zs.getD i (0, 0)).2] := h3 i (by simpa using hi')
    have hz : i < zs.length := by simpa using hi'
    simpa [hi, hz] using h
  rw [PL_flat, ← e]
  exact h1
theorem RS.pairs {w : World} {B n : Nat} {A : Option Addr} {zs : List Pr} (h : RS w B A n zs) : RP w B A n zs :=
  ⟨h.1, fun hn => by
    obtain ⟨b, off, e, hb, hc⟩ := h.2 hn
    refine ⟨b, off, e, hb, fun i hi => ?_⟩
    obtain ⟨cs, h1, h2⟩ := hc i hi
    have h1' : cs = [.int .i64 (kAt zs i), .int .i64 (vAt zs i)] := h1
    subst h1'
    exact ⟨h2 0 _ rfl, h2 1 _ rfl⟩⟩
theorem cntS_pairs (zs : List Pr) : cntS zs = 2 * zs.length := by
  unfold cntS
  induction zs with
  | nil => rfl
  | cons p r ih =>
    simp only [List.map_cons, List.sum_cons, List.length_cons]
    rw [ih]
    show 2 + _ = _
    omega
end Go.Proofs.YtlmhcifnikdliaaDoor
namespace Go.Proofs.YtlmhcifnikdliaaDoor
open Go.RowKit


class Small (α : Type) [Mk α] where
  sm : List α → Prop
  cnt_le : ∀ {xs : List α}, sm xs → cntS xs ≤ 17592186044416
  len_le : ∀ {xs : List α}, sm xs → xs.length ≤ 1048576
instance : Small Int where
  sm := fun xs => xs.length ≤ 1048576
  cnt_le := fun {xs} (h : xs.length ≤ 1048576) => by rw [cntI]; omega
  len_le := fun h => h
instance : Small Pr where
  sm := fun xs => xs.length ≤ 1048576
  cnt_le := fun {xs} (h : xs.length ≤ 1048576) => by rw [cntS_pairs]; omega
  len_le := fun h => h
theorem cntNd_le (xs : List Nd) (h : ∀ i, i < xs.length → (ndAt xs i).ps.length ≤ 1048576) : cntS xs ≤ xs.length * 2097156 := by
  have : ∀ k, k ≤ xs.length → cntS (xs.take k) ≤ k * 2097156 := by
    intro k
    induction k with
    | zero => intro _; simp [cntS]
    | succ k ih =>
      intro hk
      have h1 := ih (by omega)
      have h2 := h k (by omega)
      rw [cntNd_take xs k (by omega)]
      omega
  have := this xs.length (Nat.le_refl _)
  rwa [List.take_length] at this
instance : Small Nd where
  sm := fun xs => xs.length ≤ 1048576 ∧ ∀ i, i < xs.length → (ndAt xs i).ps.length ≤ 1048576
  cnt_le := fun {xs} h => by have := cntNd_le xs h.2; have := h.1; omega
  len_le := fun h => h.1

def blkF (b : Option Nat) : FP := fun k => b = some k
theorem fresh_blk {w w' : World} {base : Nat} {e : TypeId} {size n : Nat} {v : Value} {xs : List Value} (h : w'.ownsRow base e size v n xs) (hb : w.heap.size ≤ base) : Fresh (blkF v.ownBlock) w w' := fun k hk => by
  have := h.lt k hk
  exact ⟨by omega, by omega⟩


theorem toT1 (r : Int) (xs : List Nd) (A : Option Addr) (n c : Nat) (w : World) (h : RS w w.heap.size A n xs) (hs : Small.sm xs) :
    Calls Tryd.prog 8 #[.agg #[.int .i64 r, .slice A n c]] w fun e w' => ∃ A' c' F, e = .returned (.agg #[.int .i64 r, .slice A' n c']) ∧ OwnS w' (.slice A' n c') xs F ∧ Fresh F w w' ∧ Below w.heap.size w w' := by
  have hl := h.1
  refine (toT_any ⟨r, xs⟩ A n c w h (by rw [← hl]; exact hs.1) (by rw [← hl]; exact hs.2)).mono ?_
  rintro e w' ⟨v, F, rfl, ⟨u, rfl, ho⟩, hf, hb⟩
  obtain ⟨A', c', rfl, _, _⟩ := ho.form
  simp only at *
  rw [hl] at ho ⊢
  exact ⟨A', c', F, rfl, ho, hf, hb⟩
theorem eqT1 (r : Int) (xs : List Nd) (A B : Option Addr) (n c d : Nat) (w : World) (h : RS w w.heap.size A n xs) (h' : RS w w.heap.size B n xs) (hs : Small.sm xs) :
    Calls Tryd.prog 10 #[.agg #[.int .i64 r, .slice A n c], .agg #[.int .i64 r, .slice B n d]] w fun e w' => e = .returned (.bool true) ∧ Below w.heap.size w w' := by
  have hl := h.1
  exact eqT_yes ⟨r, xs⟩ A B n c d w h h' (by rw [← hl]; exact hs.2) (by rw [← hl]; exact hs.1)
theorem below_alloc {a w : World} (h : Below a.heap.size a w) (o : Obj) : Below a.heap.size a (w.alloc o) := h.alloc h.size o
theorem box_on {w w' : World} {b : Nat} {o : Obj} (hb : Below w.heap.size w w') (h : w.heap[b]? = some o) : w'.heap[b]? = some o := (hb.block b (Array.getElem?_eq_some_iff.1 h).1).trans h
theorem OwnS.rd {α : Type} [Enc α] {w : World} {A : Option Addr} {n c : Nat} {xs : List α} {F : FP} (h : OwnS w (.slice A n c) xs F) : RS w w.heap.size A n xs := by
  obtain ⟨A', c', e, hR, _⟩ := h.reads
  cases e
  exact hR
theorem OwnS.len {α : Type} [Enc α] {w : World} {A : Option Addr} {n c : Nat} {xs : List α} {F : FP} (h : OwnS w (.slice A n c) xs F) : xs.length = n := h.rd.1
theorem RS.ev {α : Type} [Enc α] {w w0 wx : World} {A : Option Addr} {n : Nat} {xs : List α} (h : RS w w.heap.size A n xs) (h0 : Below w.heap.size w w0) (h1 : Below w0.heap.size w0 wx) : RS wx wx.heap.size A n xs := h.on (h0.trans (h1.mono h0.size))
theorem OwnS.cap {α : Type} [Enc α] {w : World} {A : Option Addr} {n c : Nat} {xs : List α} {F : FP} (h : OwnS w (.slice A n c) xs F) : n ≤ c ∧ c ≤ 9223372036854775807 := by
  have hl := h.len
  obtain ⟨A', c', e, hc⟩ := h.form
  cases e
  rwa [hl] at hc


theorem left_cases (L m : Nat) : (leftI L m = -1 ∧ L < m) ∨ (leftI L m = ((L - m : Nat) : Int) ∧ m ≤ L) := by
  unfold leftI
  rcases Nat.lt_or_ge L m with h | h
  · exact .inl ⟨if_neg (by omega), h⟩
  · exact .inr ⟨by rw [if_pos h]; omega, h⟩
theorem sm_of_szs {xs : List Nd} (h : szs xs ≤ 1048576) : Small.sm xs := ⟨szs_len h, fun i hi => szs_ps h i hi⟩
theorem szT1 (r : Int) (xs : List Nd) (A : Option Addr) (n c : Nat) (hm : n ≤ 9223372036854775807) (hp : ∀ i, i < n → (ndAt xs i).ps.length ≤ 9223372036854775807) (w : World) (h : RS w w.heap.size A n xs) :
    Calls Tryd.prog 6 #[.agg #[.int .i64 r, .slice A n c], .int .i64 1048576] w fun e w' => e = .returned (.int .i64 (leftI 1048576 (szs xs))) ∧ Below w.heap.size w w' := szT_any ⟨r, xs⟩ A n c w h hm hp
end Go.Proofs.YtlmhcifnikdliaaDoor

/- Lists of pairs of numbers, and the cells that hold them: plain facts, no program in sight. -/
import Derived.Below
import Derived.Laws.OwnMore
import Derived.Deep.Draws
import Derived.Deep.AppendLies
import Derived.Deep.QuietTactic
import Derived.BigQuiet
import Derived.Lib.Hide
import Derived.WalkKit
open Go.Value renaming int → jI, slice → jS
open Go.IntKind renaming i64 → jZ
namespace Go.Proofs.Ytjookicpmjmdhaa
open Go.RowKit

abbrev Pr := Int × Int
def kAt (zs : List Pr) (i : Nat) : Int := (zs.getD i (0, 0)).1
def vAt (zs : List Pr) (i : Nat) : Int := (zs.getD i (0, 0)).2
theorem kAt_eq (zs : List Pr) (i : Nat) (h : i < zs.length) : kAt zs i = (zs[i]).1 := by simp [kAt, h]
theorem vAt_eq (zs : List Pr) (i : Nat) (h : i < zs.length) : vAt zs i = (zs[i]).2 := by simp [vAt, h]

def PL : List Pr → List Value
 | [] => []
 | p :: r => jI jZ p.1 :: jI jZ p.2 :: PL r

theorem PL_length (zs : List Pr) : (PL zs).length = zs.length * 2 := by
 induction zs with
 | nil => rfl
 | cons p r ih => simp only [PL, List.length_cons, ih]; omega
theorem PL_append (a b : List Pr) : PL (a ++ b) = PL a ++ PL b := by
 induction a with
 | nil => rfl
 | cons p r ih => simp [PL, ih]
theorem PL_fst (zs : List Pr) (i : Nat) (h : i < zs.length) : (PL zs)[i * 2]? = some (jI jZ (kAt zs i)) := by
 induction zs generalizing i with
 | nil => simp at h
 | cons p r ih =>
   cases i with
   | zero => simp [PL, kAt]
   | succ i =>
     rw [show (i + 1) * 2 = i * 2 + 1 + 1 from by omega]
     simp only [PL, List.getElem?_cons_succ]
     rw [ih i (by simpa using h)]
     simp [kAt]
theorem PL_snd (zs : List Pr) (i : Nat) (h : i < zs.length) : (PL zs)[i * 2 + 1]? = some (jI jZ (vAt zs i)) := by
 induction zs generalizing i with
 | nil => simp at h
 | cons p r ih =>
   cases i with
   | zero => simp [PL, vAt]
   | succ i =>
     rw [show (i + 1) * 2 + 1 = i * 2 + 1 + 1 + 1 from by omega]
     simp only [PL, List.getElem?_cons_succ]
     rw [ih i (by simpa using h)]
     simp [vAt]
theorem PL_one (zs : List Pr) : ∀ u ∈ PL zs, u.oneCell' = true := by
 induction zs with
 | nil => simp [PL]
 | cons p r ih =>
   intro u hu
   simp only [PL, List.mem_cons] at hu
   rcases hu with rfl | rfl | hu
   · rfl
   · rfl
   · exact ih u hu

def RP (w : World) (B : Nat) (A : Option Addr) (n : Nat) (zs : List Pr) : Prop :=
 zs.length = n ∧ (0 < n → ∃ b off, A = some ⟨b, off, none⟩ ∧ b < B ∧ ∀ i, i < n → w.cell? ⟨b, off + i * 2, none⟩ = some (jI jZ (kAt zs i)) ∧ w.cell? ⟨b, off + i * 2 + 1, none⟩ = some (jI jZ (vAt zs i)))

section
variable {w w' : World} {B B' n : Nat} {A : Option Addr} {zs : List Pr}
theorem RP.nil (w : World) (B : Nat) (A : Option Addr) : RP w B A 0 [] := ⟨rfl, fun h => absurd h (by omega)⟩
theorem RP.keep (h : RP w B A n zs) (hk : ∀ p : Addr, p.block < B → w'.cell? p = w.cell? p) : RP w' B A n zs :=
 ⟨h.1, fun hn => by
   obtain ⟨b, off, e, hb, hc⟩ := h.2 hn
   exact ⟨b, off, e, hb, fun i hi => ⟨(hk _ hb).trans (hc i hi).1, (hk _ hb).trans (hc i hi).2⟩⟩⟩
theorem RP.below (h : RP w B A n zs) (hb : Below B w w') : RP w' B A n zs := h.keep fun _ hp => hb.cell hp
theorem RP.more (h : RP w B A n zs) (hB : B ≤ B') : RP w B' A n zs :=
 ⟨h.1, fun hn => by
   obtain ⟨b, off, e, hb, hc⟩ := h.2 hn
   exact ⟨b, off, e, by omega, hc⟩⟩
theorem RP.on (h : RP w w.heap.size A n zs) (hb : Below w.heap.size w w') : RP w' w'.heap.size A n zs := (h.below hb).more hb.size
theorem bel_on {w0 wa wb : World} (h : Below w0.heap.size w0 wa) (k : Below wa.heap.size wa wb) : Below w0.heap.size w0 wb := h.trans (k.mono h.size)
theorem bel_drew {w0 wb : World} (k : Below w0.drew.heap.size w0.drew wb) : Below w0.heap.size w0 wb := (Below.refl _ _).drew.trans k
theorem grown_none (hb : Below w.heap.size w w') : w.grownBy w' none := ⟨hb.os, hb.tape, hb.output, hb.size, fun k hk _ => hb.block k hk⟩
theorem own_on {base : Nat} {e : TypeId} {size m : Nat} {v : Value} {xs : List Value} (h : w.ownsRow base e size v m xs) (hb : Below w.heap.size w w') : w'.ownsRow base e size v m xs :=
 h.kept (grown_none hb) (by cases e : v.ownBlock with | none => exact .inl rfl | some k => exact .inr (by simp))
theorem RP.of_own {base : Nat} {e : TypeId} {v : Value} (h : w.ownsRow base e 2 v n (PL zs)) : ∃ A c, v = jS A n c ∧ RP w w.heap.size A n zs := by
 have hl : zs.length = n := by have := h.1; rw [PL_length] at this; omega
 rcases h.2 with ⟨rfl, rfl⟩ | ⟨g, cap, cur, rfl, hb, hg, hnc, _⟩
 · obtain rfl : zs = [] := List.eq_nil_of_length_eq_zero hl
   exact ⟨none, 0, rfl, RP.nil _ _ _⟩
 · refine ⟨_, _, rfl, hl, fun hn => ⟨g, 0, rfl, ?_, fun i hi => ?_⟩⟩
   · exact (h.lt g rfl).2
   · have h1 := h.cellAt (g := g) (i * 2) (by omega)
     have h2 := h.cellAt (g := g) (i * 2 + 1) (by omega)
     rw [PL_fst _ _ (by omega)] at h1
     rw [PL_snd _ _ (by omega)] at h2
     exact ⟨by simpa using h1, by simpa using h2⟩
end
end Go.Proofs.Ytjookicpmjmdhaa
namespace Go.Proofs.Ytjookicpmjmdhaa
open Go.RowKit


theorem flat_len {s : Nat} {css : List (List Value)} (h : ∀ c ∈ css, c.length = s) : css.flatten.length = css.length * s := by
 induction css with
 | nil => simp
 | cons c r ih =>
   simp only [List.flatten_cons, List.length_append, List.length_cons]
   rw [h c (by simp), ih (fun c hc => h c (by simp [hc])), Nat.succ_mul]
   omega
theorem flat_split {s : Nat} {css : List (List Value)} (h : ∀ c ∈ css, c.length = s) (i : Nat) (hi : i < css.length) :
   css.flatten = (css.take i).flatten ++ css.getD i [] ++ (css.drop (i + 1)).flatten ∧ (css.take i).flatten.length = i * s := by
 refine ⟨?_, ?_⟩
 · have e : css = css.take i ++ css[i] :: css.drop (i + 1) := by simp
   conv => lhs; rw [e]
   rw [List.flatten_append, List.flatten_cons, List.append_assoc]
   simp [hi]
 · rw [flat_len (s := s) (fun c hc => h c (List.mem_of_mem_take hc)), List.length_take, Nat.min_eq_left (by omega)]
theorem flat_set {css : List (List Value)} (i : Nat) (hi : i < css.length) (c : List Value) :
   (css.set i c).flatten = (css.take i).flatten ++ c ++ (css.drop (i + 1)).flatten := by
 rw [List.set_eq_take_append_cons_drop, if_pos hi]
 simp
theorem mid_get {pre cs post : List Value} {a j : Nat} (hp : pre.length = a) (hj : j < cs.length) : (pre ++ cs ++ post)[a + j]? = cs[j]? := by
 rw [List.append_assoc, List.getElem?_append_right (by omega), List.getElem?_append_left (by omega)]
 congr 1; omega
theorem mid_set {pre cs post : List Value} {a j : Nat} (hp : pre.length = a) (hj : j < cs.length) (u : Value) : (pre ++ cs ++ post).set (a + j) u = pre ++ cs.set j u ++ post := by
 rw [List.append_assoc, List.set_append_right _ _ (by omega), List.set_append_left _ _ (by omega), List.append_assoc]
 congr 3; omega


abbrev FP := Nat → Prop
structure Only (F : FP) (w w' : World) : Prop where
 os : w'.os = w.os
 tape : w'.tape = w.tape
 output : w'.output = w.output
 size : w.heap.size ≤ w'.heap.size
 block : ∀ k, k < w.heap.size → ¬ F k → w'.heap[k]? = w.heap[k]?
def Fresh (F : FP) (w w' : World) : Prop := ∀ k, F k → w.heap.size ≤ k ∧ k < w'.heap.size
def Apart (F G : FP) : Prop := ∀ k, F k → ¬ G k

section
variable {F G : FP} {a w w' w'' : World} {B : Nat}
theorem Only.refl (F : FP) (w : World) : Only F w w := ⟨rfl, rfl, rfl, Nat.le_refl _, fun _ _ _ => rfl⟩
theorem Only.trans (h : Only F w w') (k : Only F w' w'') : Only F w w'' :=
 ⟨k.os.trans h.os, k.tape.trans h.tape, k.output.trans h.output, Nat.le_trans h.size k.size, fun i hi hF => (k.block i (Nat.lt_of_lt_of_le hi h.size) hF).trans (h.block i hi hF)⟩
theorem Only.more (h : Only F w w') (hs : ∀ k, F k → G k) : Only G w w' := ⟨h.os, h.tape, h.output, h.size, fun k hk hG => h.block k hk (fun hf => hG (hs k hf))⟩
theorem Only.of_below (h : Below w.heap.size w w') : Only F w w' := ⟨h.os, h.tape, h.output, h.size, fun k hk _ => h.block k hk⟩
theorem Only.of_grown {row : Option Nat} (h : w.grownBy w' row) (hF : ∀ k, row = some k → F k) : Only F w w' :=
 ⟨h.os, h.tape, h.output, h.size, fun k hk hn => h.block k hk (fun e => hn (hF k e.symm))⟩
theorem Only.setCell (h : Only F w w') {p : Addr} (hp : F p.block) (u : Value) : Only F w (w'.setCell p u) :=
 h.trans ⟨rfl, rfl, rfl, by simp [World.setCell], fun k _ hn => Below.heap_setCell _ _ _ _ (fun e => hn (e ▸ hp))⟩
theorem bel_only (h : Below B a w) (k : Only F w w') (hB : B ≤ w.heap.size) (hF : ∀ k, F k → B ≤ k) : Below B a w' :=
 h.trans ⟨k.os, k.tape, k.output, k.size, fun i hi => k.block i (by omega) (fun hf => by have := hF i hf; omega)⟩
theorem Fresh.more {x y : World} (h : Fresh F w w') (hx : x.heap.size ≤ w.heap.size) (hy : w'.heap.size ≤ y.heap.size) : Fresh F x y := fun k hk => by
 have := h k hk
 exact ⟨by omega, by omega⟩
theorem Fresh.apart {x y : World} (h : Fresh F w w') (k : Fresh G x y) (hx : w'.heap.size ≤ x.heap.size) : Apart F G := fun i hF hG => by
 have h1 := h i hF
 have h2 := k i hG
 omega
theorem Apart.symm (h : Apart F G) : Apart G F := fun k hG hF => h k hF hG
end


class Enc (α : Type) where
 ty : TypeId
 sz : Nat
 dflt : α
 Is : World → Nat → List Value → α → Prop
 Own : World → List Value → α → FP → Prop
 is_len : ∀ {w B cs x}, Is w B cs x → cs.length = sz
 is_keep : ∀ {w w' B cs x}, Is w B cs x → (∀ p : Addr, p.block < B → w'.cell? p = w.cell? p) → Is w' B cs x
 is_more : ∀ {w B B' cs x}, Is w B cs x → B ≤ B' → Is w B' cs x
 own_is : ∀ {w cs x F}, Own w cs x F → Is w w.heap.size cs x
 own_keep : ∀ {w w' cs x F}, Own w cs x F → (∀ k, F k → k < w.heap.size → w'.heap[k]? = w.heap[k]?) → Own w' cs x F
 own_more : ∀ {w cs x F} {G : FP}, Own w cs x F → (∀ k, F k → G k) → Own w cs x G

theorem own_same {w w' : World} {base : Nat} {e : TypeId} {size n : Nat} {v : Value} {xs : List Value} (h : w.ownsRow base e size v n xs) (hs : ∀ k, v.ownBlock = some k → k < w.heap.size → w'.heap[k]? = w.heap[k]?) : w'.ownsRow base e size v n xs := by
 rcases h with ⟨hl, h' | ⟨g, cap, cur, rfl, hb, hg, rest⟩⟩
 · exact ⟨hl, .inl h'⟩
 · exact ⟨hl, .inr ⟨g, cap, cur, rfl, hb, (hs g rfl (Array.getElem?_eq_some_iff.1 hg).1).trans hg, rest⟩⟩
theorem own_zero {w : World} {base : Nat} {e : TypeId} {size n : Nat} {v : Value} {xs : List Value} (h : w.ownsRow base e size v n xs) : w.ownsRow 0 e size v n xs := by
 rcases h with ⟨hl, h' | ⟨g, cap, cur, hv, _, rest⟩⟩
 · exact ⟨hl, .inl h'⟩
 · exact ⟨hl, .inr ⟨g, cap, cur, hv, Nat.zero_le _, rest⟩⟩
theorem own_shape {w : World} {base : Nat} {e : TypeId} {size n : Nat} {v : Value} {xs : List Value} (h : w.ownsRow base e size v n xs) : ∃ A c, v = jS A n c ∧ n ≤ c ∧ c ≤ maxLen := by
 rcases h with ⟨hl, ⟨rfl, rfl⟩ | ⟨g, cap, cur, rfl, hb, hg, h1, h2, _⟩⟩
 · exact ⟨none, 0, rfl, Nat.le_refl _, Nat.zero_le _⟩
 · exact ⟨_, _, rfl, h1, h2⟩

section
variable {α : Type} [E : Enc α] {w w' : World} {B B' n : Nat} {A : Option Addr} {xs : List α}

def RS (w : World) (B : Nat) (A : Option Addr) (n : Nat) (xs : List α) : Prop :=
 xs.length = n ∧ (0 < n → ∃ b off, A = some ⟨b, off, none⟩ ∧ b < B ∧ ∀ i, i < n → ∃ cs, E.Is w B cs (xs.getD i E.dflt) ∧ ∀ j u, cs[j]? = some u → w.cell? ⟨b, off + i * E.sz + j, none⟩ = some u)
theorem RS.nil (w : World) (B : Nat) (A : Option Addr) : RS w B A 0 ([] : List α) := ⟨rfl, fun h => absurd h (by omega)⟩
theorem RS.keep (h : RS w B A n xs) (hk : ∀ p : Addr, p.block < B → w'.cell? p = w.cell? p) : RS w' B A n xs :=
 ⟨h.1, fun hn => by
   obtain ⟨b, off, e, hb, hc⟩ := h.2 hn
   refine ⟨b, off, e, hb, fun i hi => ?_⟩
   obtain ⟨cs, h1, h2⟩ := hc i hi
   exact ⟨cs, E.is_keep h1 hk, fun j u hu => (hk _ hb).trans (h2 j u hu)⟩⟩
theorem RS.below (h : RS w B A n xs) (hb : Below B w w') : RS w' B A n xs := h.keep fun _ hp => hb.cell hp
theorem RS.more (h : RS w B A n xs) (hB : B ≤ B') : RS w B' A n xs :=
 ⟨h.1, fun hn => by
   obtain ⟨b, off, e, hb, hc⟩ := h.2 hn
   refine ⟨b, off, e, by omega, fun i hi => ?_⟩
   obtain ⟨cs, h1, h2⟩ := hc i hi
   exact ⟨cs, E.is_more h1 hB, h2⟩⟩
theorem RS.on (h : RS w w.heap.size A n xs) (hb : Below w.heap.size w w') : RS w' w'.heap.size A n xs := (h.below hb).more hb.size

def OwnS (w : World) (v : Value) (xs : List α) (F : FP) : Prop :=
 ∃ (css : List (List Value)) (f : Nat → FP), w.ownsRow 0 E.ty E.sz v xs.length css.flatten ∧ css.length = xs.length ∧
   (∀ i, i < xs.length → E.Own w (css.getD i []) (xs.getD i E.dflt) (f i)) ∧
   (∀ i, i < xs.length → ∀ k, f i k → F k ∧ v.ownBlock ≠ some k) ∧
   (∀ i j, i < xs.length → j < xs.length → i ≠ j → Apart (f i) (f j)) ∧
   (∀ k, v.ownBlock = some k → F k)

variable {v : Value} {F G : FP}
theorem OwnS.nil (w : World) (F : FP) : OwnS w (jS none 0 0) ([] : List α) F :=
 ⟨[], fun _ _ => False, World.ownsRow_nil _ _ _ _, rfl, fun i hi => absurd hi (by simp), fun i hi => absurd hi (by simp), fun i j hi => absurd hi (by simp), fun k hk => by simp [Value.ownBlock] at hk⟩
theorem OwnS.more (h : OwnS w v xs F) (hs : ∀ k, F k → G k) : OwnS w v xs G := by
 obtain ⟨css, f, h1, h2, h3, h4, h5, h6⟩ := h
 exact ⟨css, f, h1, h2, h3, fun i hi k hk => ⟨hs k (h4 i hi k hk).1, (h4 i hi k hk).2⟩, h5, fun k hk => hs k (h6 k hk)⟩
theorem OwnS.keep (h : OwnS w v xs F) (hs : ∀ k, F k → k < w.heap.size → w'.heap[k]? = w.heap[k]?) : OwnS w' v xs F := by
 obtain ⟨css, f, h1, h2, h3, h4, h5, h6⟩ := h
 exact ⟨css, f, own_same h1 (fun k hk => hs k (h6 k hk)), h2, fun i hi => E.own_keep (h3 i hi) (fun k hk => hs k (h4 i hi k hk).1), h4, h5, h6⟩
theorem OwnS.on (h : OwnS w v xs F) (hb : Below w.heap.size w w') : OwnS w' v xs F := h.keep fun k _ hk => hb.block k hk
theorem OwnS.off (h : OwnS w v xs F) (hg : Only G w w') (ha : Apart F G) : OwnS w' v xs F := h.keep fun k hF hk => hg.block k hk (ha k hF)

theorem OwnS.css_len {css : List (List Value)} {f : Nat → FP} (h2 : css.length = xs.length) (h3 : ∀ i, i < xs.length → E.Own w (css.getD i []) (xs.getD i E.dflt) (f i)) : ∀ c ∈ css, c.length = E.sz := by
 intro c hc
 obtain ⟨i, hi, rfl⟩ := List.getElem_of_mem hc
 have := E.is_len (E.own_is (h3 i (by omega)))
 simpa [hi] using this

theorem OwnS.form (h : OwnS w v xs F) : ∃ A c, v = jS A xs.length c ∧ xs.length ≤ c ∧ c ≤ 9223372036854775807 := by
 obtain ⟨css, f, h1, _⟩ := h
 obtain ⟨A, c, e, h2, h3⟩ := own_shape h1
 exact ⟨A, c, e, h2, by unfold maxLen at h3; omega⟩

theorem OwnS.reads (h : OwnS w v xs F) : ∃ A c, v = jS A xs.length c ∧ RS w w.heap.size A xs.length xs ∧ xs.length ≤ c ∧ c ≤ 9223372036854775807 := by
 obtain ⟨A, c, rfl, hc, hm⟩ := h.form
 refine ⟨A, c, rfl, ⟨rfl, fun hn => ?_⟩, hc, hm⟩
 obtain ⟨css, f, h1, h2, h3, h4, h5, h6⟩ := h
 obtain ⟨g, cap, hv, _, hlt⟩ := h1.form hn
 obtain ⟨rfl, rfl⟩ : A = some ⟨g, 0, none⟩ ∧ c = cap := by simpa using hv
 refine ⟨g, 0, rfl, hlt, fun i hi => ⟨css.getD i [], E.own_is (h3 i hi), fun j u hu => ?_⟩⟩
 have hl := OwnS.css_len h2 h3
 have hcl : (css.getD i []).length = E.sz := E.is_len (E.own_is (h3 i hi))
 have hj : j < (css.getD i []).length := (List.getElem?_eq_some_iff.1 hu).1
 obtain ⟨e1, e2⟩ := flat_split hl i (by omega)
 have hle : i * E.sz + E.sz ≤ xs.length * E.sz := by rw [← Nat.succ_mul]; exact Nat.mul_le_mul_right _ hi
 rw [Nat.zero_add, h1.cellAt _ (by omega), e1, mid_get e2 hj, hu]

theorem OwnS.open (h : OwnS w v xs F) (i : Nat) (hi : i < xs.length) :
   ∃ g cap pre cs post Fi, v = jS (some ⟨g, 0, none⟩) xs.length cap ∧ F g ∧ g < w.heap.size ∧ w.ownsRow 0 E.ty E.sz v xs.length (pre ++ cs ++ post) ∧ pre.length = i * E.sz ∧ cs.length = E.sz ∧
     E.Own w cs (xs.getD i E.dflt) Fi ∧ (∀ k, Fi k → F k ∧ k ≠ g) ∧
     ∀ (w' : World) (cs' : List Value) (x' : α) (Fi' : FP), w'.ownsRow 0 E.ty E.sz v xs.length (pre ++ cs' ++ post) → E.Own w' cs' x' Fi' →
       (∀ k, F k → k ≠ g → ¬ Fi k → k < w.heap.size → w'.heap[k]? = w.heap[k]?) → (∀ k, Fi' k → k ≠ g ∧ (F k → Fi k)) → OwnS w' v (xs.set i x') (fun k => F k ∨ Fi' k) := by
 obtain ⟨css, f, h1, h2, h3, h4, h5, h6⟩ := h
 obtain ⟨g, cap, rfl, _, hlt⟩ := h1.form (by omega)
 have hl := OwnS.css_len h2 h3
 obtain ⟨e1, e2⟩ := flat_split hl i (by omega)
 have hcl : (css.getD i []).length = E.sz := E.is_len (E.own_is (h3 i hi))
 refine ⟨g, cap, (css.take i).flatten, css.getD i [], (css.drop (i + 1)).flatten, f i, rfl, h6 g rfl, hlt, by rw [← e1]; exact h1, e2, hcl, h3 i hi, fun k hk => ?_, ?_⟩
 · have := h4 i hi k hk
   exact ⟨this.1, fun e => this.2 (by rw [e]; rfl)⟩
 · intro w' cs' x' Fi' r1 r2 r3 r4
   have hgetS : ∀ j, j < xs.length → j ≠ i → (xs.set i x').getD j E.dflt = xs.getD j E.dflt := fun j hj hne => by
     simp only [List.getD_eq_getElem?_getD]; rw [List.getElem?_set_ne (by omega)]
   have hgetC : ∀ j, j ≠ i → (css.set i cs').getD j [] = css.getD j [] := fun j hne => by
     simp only [List.getD_eq_getElem?_getD]; rw [List.getElem?_set_ne (by omega)]
   have hne : ∀ j, j < xs.length → ∀ k, f j k → k ≠ g := fun j hj k hk e => (h4 j hj k hk).2 (by rw [e]; rfl)
   refine ⟨css.set i cs', fun j => if j = i then Fi' else f j, ?_, by simp [h2], ?_, ?_, ?_, ?_⟩
   · rw [List.length_set, flat_set i (by omega)]; exact r1
   · intro j hj
     rw [List.length_set] at hj
     by_cases hji : j = i
     · subst hji
       simp only [↓reduceIte]
       have e3 : (css.set j cs').getD j [] = cs' := by simp [h2, hj]
       have e4 : (xs.set j x').getD j E.dflt = x' := by simp [hj]
       rw [e3, e4]; exact r2
     · simp only [if_neg hji]
       rw [hgetC j hji, hgetS j hj hji]
       exact E.own_keep (h3 j hj) (fun k hk => r3 k (h4 j hj k hk).1 (hne j hj k hk) (h5 j i hj hi hji k hk))
   · intro j hj k hk
     rw [List.length_set] at hj
     by_cases hji : j = i
     · rw [if_pos hji] at hk
       exact ⟨.inr hk, fun e => (r4 k hk).1 (by simpa [Value.ownBlock] using e.symm)⟩
     · rw [if_neg hji] at hk
       exact ⟨.inl (h4 j hj k hk).1, (h4 j hj k hk).2⟩
   · intro a b ha hb hab k hk1 hk2
     rw [List.length_set] at ha hb
     by_cases hai : a = i
     · by_cases hbi : b = i
       · omega
       · rw [if_pos hai] at hk1
         rw [if_neg hbi] at hk2
         exact h5 b i hb hi hbi k hk2 ((r4 k hk1).2 (h4 b hb k hk2).1)
     · by_cases hbi : b = i
       · rw [if_neg hai] at hk1
         rw [if_pos hbi] at hk2
         exact h5 a i ha hi hai k hk1 ((r4 k hk2).2 (h4 a ha k hk1).1)
       · rw [if_neg hai] at hk1
         rw [if_neg hbi] at hk2
         exact h5 a b ha hb hab k hk1 hk2
   · intro k hk; exact .inl (h6 k hk)

theorem OwnS.snoc (h : OwnS w v xs F) : ∃ ys, w.ownsRow 0 E.ty E.sz v xs.length ys ∧
   ∀ (w' : World) (v' : Value) (cs : List Value) (x : α) (Fx : FP), w'.ownsRow 0 E.ty E.sz v' (xs.length + 1) (ys ++ cs) → E.Own w' cs x Fx →
     (∀ k, F k → v.ownBlock ≠ some k → k < w.heap.size → w'.heap[k]? = w.heap[k]?) → (∀ k, v'.ownBlock = some k → ¬ Fx k ∧ (F k → v.ownBlock = some k)) → (∀ k, Fx k → ¬ F k) →
     OwnS w' v' (xs ++ [x]) (fun k => F k ∨ Fx k ∨ v'.ownBlock = some k) := by
 obtain ⟨css, f, h1, h2, h3, h4, h5, h6⟩ := h
 refine ⟨css.flatten, h1, ?_⟩
 intro w' v' cs x Fx r1 r2 r3 r4 r5
 have hgl : ∀ j, j < xs.length → (xs ++ [x]).getD j E.dflt = xs.getD j E.dflt := fun j hj => by
   simp only [List.getD_eq_getElem?_getD]; rw [List.getElem?_append_left hj]
 have hgc : ∀ j, j < xs.length → (css ++ [cs]).getD j [] = css.getD j [] := fun j hj => by
   simp only [List.getD_eq_getElem?_getD]; rw [List.getElem?_append_left (by omega)]
 refine ⟨css ++ [cs], fun j => if j = xs.length then Fx else f j, ?_, by simp [h2], ?_, ?_, ?_, ?_⟩
 · simpa using r1
 · intro j hj
   simp only [List.length_append, List.length_cons, List.length_nil] at hj
   by_cases hji : j = xs.length
   · subst hji
     simp only [↓reduceIte]
     have e3 : (css ++ [cs]).getD xs.length [] = cs := by simp [← h2]
     have e4 : (xs ++ [x]).getD xs.length E.dflt = x := by simp
     rw [e3, e4]; exact r2
   · simp only [if_neg hji]
     rw [hgc j (by omega), hgl j (by omega)]
     exact E.own_keep (h3 j (by omega)) (fun k hk => r3 k (h4 j (by omega) k hk).1 (h4 j (by omega) k hk).2)
 · intro j hj k hk
   simp only [List.length_append, List.length_cons, List.length_nil] at hj
   by_cases hji : j = xs.length
   · rw [if_pos hji] at hk
     exact ⟨.inr (.inl hk), fun e => (r4 k e).1 hk⟩
   · rw [if_neg hji] at hk
     have := h4 j (by omega) k hk
     exact ⟨.inl this.1, fun e => this.2 ((r4 k e).2 this.1)⟩
 · intro a b ha hb hab k hk1 hk2
   simp only [List.length_append, List.length_cons, List.length_nil] at ha hb
   by_cases hai : a = xs.length
   · by_cases hbi : b = xs.length
     · omega
     · rw [if_pos hai] at hk1
       rw [if_neg hbi] at hk2
       exact r5 k hk1 (h4 b (by omega) k hk2).1
   · by_cases hbi : b = xs.length
     · rw [if_neg hai] at hk1
       rw [if_pos hbi] at hk2
       exact r5 k hk2 (h4 a (by omega) k hk1).1
     · rw [if_neg hai] at hk1
       rw [if_neg hbi] at hk2
       exact h5 a b (by omega) (by omega) hab k hk1 hk2
 · intro k hk; exact .inr (.inr hk)
end

theorem own_mid {w : World} {e : TypeId} {s n cap g a j : Nat} {pre cs post : List Value} (h : w.ownsRow 0 e s (jS (some ⟨g, 0, none⟩) n cap) n (pre ++ cs ++ post)) (hp : pre.length = a) (hj : j < cs.length) (u : Value) :
   (w.setCell ⟨g, a + j, none⟩ u).ownsRow 0 e s (jS (some ⟨g, 0, none⟩) n cap) n (pre ++ cs.set j u ++ post) := by
 have := (h.stored (a + j) u).1
 rwa [mid_set hp hj] at this
end Go.Proofs.Ytjookicpmjmdhaa
namespace Go.Proofs.Ytjookicpmjmdhaa
open Go.RowKit

def Later (W : World) : Type := { w : World // Below W.heap.size W w }
instance Later.inhab (W : World) : Nonempty (Later W) := ⟨⟨W, Below.refl _ _⟩⟩
def Later.wd {W : World} (s : Later W) : World := s.1
theorem Later.below {W : World} (s : Later W) : Below W.heap.size W s.wd := s.2
theorem Later.cell {W : World} (s : Later W) {p : Addr} (h : p.block < W.heap.size) : s.wd.cell? p = W.cell? p := s.2.cell h
theorem Later.of_cell {w wr : World} {p : Addr} {v : Value} (hc : w.cell? p = some v) (hb : Below w.heap.size w wr) (hp : p.block < w.heap.size) : ∀ s : Later wr, s.wd.cell? p = some v := fun s => by
 rw [s.cell (Nat.lt_of_lt_of_le hp hb.size), hb.cell hp, hc]
theorem Later.below_of {w wr : World} (hb : Below w.heap.size w wr) (s : Later wr) : Below w.heap.size w s.wd := hb.trans (s.2.mono hb.size)

theorem Calls.later {P : Program} {f : FuncId} {args : Array Value} {W : World} {s : Later W} {v : Value}
   (h : Calls P f args s.wd fun e w' => e = .returned v ∧ Below s.wd.heap.size s.wd w') : Calls P f args s.wd fun e w'' => e = .returned v ∧ ∃ s' : Later W, w'' = s'.wd :=
 h.mono fun _ w'' ⟨he, hb⟩ => ⟨he, ⟨w'', s.2.trans (hb.mono s.2.size)⟩, rfl⟩

theorem wp_region_later {P : Program} {id : Nat} {Q : Exit → Act → World → Prop} {a : Act} {W : World} {l : List Oper} (hm : P.follows .mixedOrders = true) (hB : Region.lexB .any l.toArray = true)
   (h : wpQuiet P l.toArray (fun w' => ∃ s : Later W, w' = s.wd) (fun a' => ∀ w', (∃ s : Later W, w' = s.wd) → Q .normal a' w') l a) : (Code.region id l.toArray true).wp P Q a W :=
 wp_region_quiet (C := fun w' => ∃ s : Later W, w' = s.wd) hm hB ⟨⟨_, (Below.refl _ W).drew⟩, rfl⟩ (by simpa using h)

end Go.Proofs.Ytjookicpmjmdhaa

/- Lists of pairs of numbers, and the cells that hold them: plain facts, no program in sight. -/
import Derived.Below
import Derived.Laws.OwnMore
import Derived.Deep.Draws
namespace Go.Proofs.Ytjookicpmjmdhaa
open Go.RowKit

abbrev Pr := Int × Int
def kAt (zs : List Pr) (i : Nat) : Int := (zs.getD i (0, 0)).1
def vAt (zs : List Pr) (i : Nat) : Int := (zs.getD i (0, 0)).2
theorem kAt_eq (zs : List Pr) (i : Nat) (h : i < zs.length) : kAt zs i = (zs[i]).1 := by simp [kAt, h]
theorem vAt_eq (zs : List Pr) (i : Nat) (h : i < zs.length) : vAt zs i = (zs[i]).2 := by simp [vAt, h]

/-- The cells of a list of pairs. -/
def PL : List Pr → List Value
  | [] => []
  | p :: r => .int .i64 p.1 :: .int .i64 p.2 :: PL r

theorem PL_length (zs : List Pr) : (PL zs).length = zs.length * 2 := by
  induction zs with
  | nil => rfl
  | cons p r ih => simp only [PL, List.length_cons, ih]; omega
theorem PL_append (a b : List Pr) : PL (a ++ b) = PL a ++ PL b := by
  induction a with
  | nil => rfl
  | cons p r ih => simp [PL, ih]
theorem PL_take (zs : List Pr) (k : Nat) : (PL zs).take (k * 2) = PL (zs.take k) := by
  induction zs generalizing k with
  | nil => simp [PL]
  | cons p r ih =>
    cases k with
    | zero => simp [PL]
    | succ k =>
      rw [show (k + 1) * 2 = k * 2 + 1 + 1 from by omega]
      simp [PL, ih]
theorem PL_drop (zs : List Pr) (k : Nat) : (PL zs).drop (k * 2) = PL (zs.drop k) := by
  induction zs generalizing k with
  | nil => simp [PL]
  | cons p r ih =>
    cases k with
    | zero => simp
    | succ k =>
      rw [show (k + 1) * 2 = k * 2 + 1 + 1 from by omega]
      simp [PL, ih]
theorem PL_fst (zs : List Pr) (i : Nat) (h : i < zs.length) : (PL zs)[i * 2]? = some (.int .i64 (kAt zs i)) := by
  induction zs generalizing i with
  | nil => simp at h
  | cons p r ih =>
    cases i with
    | zero => simp [PL, kAt]
    | succ i =>
      rw [show (i + 1) * 2 = i * 2 + 1 + 1 from by omega]
      simp only [PL, List.getElem?_cons_succ]
      rw [ih i (by simpa using h)]
      simp [kAt]
theorem PL_snd (zs : List Pr) (i : Nat) (h : i < zs.length) : (PL zs)[i * 2 + 1]? = some (.int .i64 (vAt zs i)) := by
  induction zs generalizing i with
  | nil => simp at h
  | cons p r ih =>
    cases i with
    | zero => simp [PL, vAt]
    | succ i =>
      rw [show (i + 1) * 2 + 1 = i * 2 + 1 + 1 + 1 from by omega]
      simp only [PL, List.getElem?_cons_succ]
      rw [ih i (by simpa using h)]
      simp [vAt]
theorem PL_one (zs : List Pr) : ∀ u ∈ PL zs, u.oneCell' = true := by
  induction zs with
  | nil => simp [PL]
  | cons p r ih =>
    intro u hu
    simp only [PL, List.mem_cons] at hu
    rcases hu with rfl | rfl | hu
    · rfl
    · rfl
    · exact ih u hu

theorem PL_set (zs : List Pr) (i : Nat) (a b : Int) : ((PL zs).set (i * 2) (.int .i64 a)).set (i * 2 + 1) (.int .i64 b) = PL (zs.set i (a, b)) := by
  induction zs generalizing i with
  | nil => simp [PL]
  | cons p r ih =>
    cases i with
    | zero => simp [PL]
    | succ i =>
      rw [show (i + 1) * 2 = i * 2 + 1 + 1 from by omega]
      simp only [PL, List.set_cons_succ]
      rw [ih i]
theorem PL_rep (n : Nat) : PL (List.replicate n (0, 0)) = List.replicate (n * 2) (.int .i64 0) := by
  induction n with
  | zero => rfl
  | succ n ih =>
    rw [List.replicate_succ, show (n + 1) * 2 = n * 2 + 1 + 1 from by omega]
    simp [PL, ih, List.replicate_succ]
theorem made_noughts (n : Nat) : (madeCells #[Value.int .i64 0, Value.int .i64 0] (n * 2)).toList = PL (List.replicate n (0, 0)) := by
  rw [PL_rep]
  apply List.ext_getElem?
  intro j
  by_cases hj : j < n * 2
  · have h2 : j % 2 = 0 ∨ j % 2 = 1 := by omega
    rcases h2 with h2 | h2 <;> simp [madeCells, hj, h2]
  · simp [madeCells, hj]

/-- k pairs of zs, the rest noughts: what a copy has laid after k rounds. -/
def madeTo (zs : List Pr) (n k : Nat) : List Pr := zs.take k ++ List.replicate (n - k) (0, 0)
theorem madeTo_zero (zs : List Pr) (n : Nat) : madeTo zs n 0 = List.replicate n (0, 0) := by simp [madeTo]
theorem madeTo_all (zs : List Pr) (n : Nat) (h : zs.length = n) : madeTo zs n n = zs := by subst h; simp [madeTo]
theorem madeTo_length (zs : List Pr) (n k : Nat) (h : zs.length = n) (hk : k ≤ n) : (madeTo zs n k).length = n := by simp [madeTo]; omega
theorem madeTo_next (zs : List Pr) (n k : Nat) (h : zs.length = n) (hk : k < n) : (madeTo zs n k).set k (kAt zs k, vAt zs k) = madeTo zs n (k + 1) := by
  unfold madeTo
  have e : zs.take (k + 1) = zs.take k ++ [(kAt zs k, vAt zs k)] := by
    rw [kAt_eq _ _ (by omega), vAt_eq _ _ (by omega), List.take_succ_eq_append_getElem (by omega)]
  rw [e, List.set_append_right _ _ (by simp; omega), List.length_take, Nat.min_eq_left (by omega), Nat.sub_self,
    show n - k = n - (k + 1) + 1 from by omega, List.replicate_succ, List.set_cons_zero, List.append_assoc]
  rfl

/-- A slice's value that reads as a list of pairs, its cells below block B. -/
def RP (w : World) (B : Nat) (A : Option Addr) (n : Nat) (zs : List Pr) : Prop :=
  zs.length = n ∧ (0 < n → ∃ b off, A = some ⟨b, off, none⟩ ∧ b < B ∧ ∀ i, i < n → w.cell? ⟨b, off + i * 2, none⟩ = some (.int .i64 (kAt zs i)) ∧ w.cell? ⟨b, off + i * 2 + 1, none⟩ = some (.int .i64 (vAt zs i)))

section
variable {w w' : World} {B B' n : Nat} {A : Option Addr} {zs : List Pr}
theorem RP.nil (w : World) (B : Nat) (A : Option Addr) : RP w B A 0 [] := ⟨rfl, fun h => absurd h (by omega)⟩
theorem RP.keep (h : RP w B A n zs) (hk : ∀ p : Addr, p.block < B → w'.cell? p = w.cell? p) : RP w' B A n zs :=
  ⟨h.1, fun hn => by
    obtain ⟨b, off, e, hb, hc⟩ := h.2 hn
    exact ⟨b, off, e, hb, fun i hi => ⟨(hk _ hb).trans (hc i hi).1, (hk _ hb).trans (hc i hi).2⟩⟩⟩
theorem RP.below (h : RP w B A n zs) (hb : Below B w w') : RP w' B A n zs := h.keep fun _ hp => hb.cell hp
theorem RP.more (h : RP w B A n zs) (hB : B ≤ B') : RP w B' A n zs :=
  ⟨h.1, fun hn => by
    obtain ⟨b, off, e, hb, hc⟩ := h.2 hn
    exact ⟨b, off, e, by omega, hc⟩⟩
/-- Over a step of a call's own: what was there reads on, at the new world's own bound. -/
theorem RP.on (h : RP w w.heap.size A n zs) (hb : Below w.heap.size w w') : RP w' w'.heap.size A n zs := (h.below hb).more hb.size
theorem bel_on {w0 wa wb : World} (h : Below w0.heap.size w0 wa) (k : Below wa.heap.size wa wb) : Below w0.heap.size w0 wb := h.trans (k.mono h.size)
theorem bel_drew {w0 wb : World} (k : Below w0.drew.heap.size w0.drew wb) : Below w0.heap.size w0 wb := (Below.refl _ _).drew.trans k
theorem grown_none (hb : Below w.heap.size w w') : w.grownBy w' none := ⟨hb.os, hb.tape, hb.output, hb.size, fun k hk _ => hb.block k hk⟩
theorem own_on {base : Nat} {e : TypeId} {size m : Nat} {v : Value} {xs : List Value} (h : w.ownsRow base e size v m xs) (hb : Below w.heap.size w w') : w'.ownsRow base e size v m xs :=
  h.kept (grown_none hb) (by cases e : v.ownBlock with | none => exact .inl rfl | some k => exact .inr (by simp))
theorem RP.of_own {base : Nat} {e : TypeId} {v : Value} (h : w.ownsRow base e 2 v n (PL zs)) : ∃ A c, v = .slice A n c ∧ RP w w.heap.size A n zs := by
  have hl : zs.length = n := by have := h.1; rw [PL_length] at this; omega
  rcases h.2 with ⟨rfl, rfl⟩ | ⟨g, cap, cur, rfl, hb, hg, hnc, _⟩
  · obtain rfl : zs = [] := List.eq_nil_of_length_eq_zero hl
    exact ⟨none, 0, rfl, RP.nil _ _ _⟩
  · refine ⟨_, _, rfl, hl, fun hn => ⟨g, 0, rfl, ?_, fun i hi => ?_⟩⟩
    · exact (h.lt g rfl).2
    · have h1 := h.cellAt (g := g) (i * 2) (by omega)
      have h2 := h.cellAt (g := g) (i * 2 + 1) (by omega)
      rw [PL_fst _ _ (by omega)] at h1
      rw [PL_snd _ _ (by omega)] at h2
      exact ⟨by simpa using h1, by simpa using h2⟩
end
end Go.Proofs.Ytjookicpmjmdhaa

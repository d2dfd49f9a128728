/- Lists of pairs of numbers, and the cells that hold them: plain facts, no program in sight. -/
import Derived.Below
import Derived.Laws.OwnMore
import Derived.Deep.Draws
namespace Go.Proofs.Ytjookicpmjmdhaa
open Go.RowKit

abbrev Pr := Int × Int
def kAt (zs : List Pr) (i : Nat) : Int := (zs.getD i (0, 0)).1
def vAt (zs : List Pr) (i : Nat) : Int := (zs.getD i (0, 0)).2
def PL : List Pr → List Value
  | [] => []
  | p :: r => .int .i64 p.1 :: .int .i64 p.2 :: PL r

theorem PL_length (zs : List Pr) : (PL zs).length = zs.length * 2 := by
  induction zs with
  | nil => rfl
  | cons p r ih => simp only [PL, List.length_cons, ih]; omega
theorem PL_fst (zs : List Pr) (i : Nat) (h : i < zs.length) : (PL zs)[i * 2]? = some (.int .i64 (kAt zs i)) := by
  induction zs generalizing i with
  | nil => simp at h
  | cons p r ih =>
    cases i with
    | zero => simp [PL, kAt]
    | succ i =>
      rw [show (i + 1) * 2 = i * 2 + 1 + 1 from by omega]
      simp only [PL, List.getElem?_cons_succ]
      rw [ih i (by simpa using h)]
      simp [kAt]
theorem PL_snd (zs : List Pr) (i : Nat) (h : i < zs.length) : (PL zs)[i * 2 + 1]? = some (.int .i64 (vAt zs i)) := by
  induction zs generalizing i with
  | nil => simp at h
  | cons p r ih =>
    cases i with
    | zero => simp [PL, vAt]
    | succ i =>
      rw [show (i + 1) * 2 + 1 = i * 2 + 1 + 1 + 1 from by omega]
      simp only [PL, List.getElem?_cons_succ]
      rw [ih i (by simpa using h)]
      simp [vAt]
def RP (w : World) (B : Nat) (A : Option Addr) (n : Nat) (zs : List Pr) : Prop :=
  zs.length = n ∧ (0 < n → ∃ b off, A = some ⟨b, off, none⟩ ∧ b < B ∧ ∀ i, i < n → w.cell? ⟨b, off + i * 2, none⟩ = some (.int .i64 (kAt zs i)) ∧ w.cell? ⟨b, off + i * 2 + 1, none⟩ = some (.int .i64 (vAt zs i)))

section
variable {w w' : World} {B B' n : Nat} {A : Option Addr} {zs : List Pr}
theorem RP.nil (w : World) (B : Nat) (A : Option Addr) : RP w B A 0 [] := ⟨rfl, fun h => absurd h (by omega)⟩
theorem RP.keep (h : RP w B A n zs) (hk : ∀ p : Addr, p.block < B → w'.cell? p = w.cell? p) : RP w' B A n zs :=
  ⟨h.1, fun hn => by
    obtain ⟨b, off, e, hb, hc⟩ := h.2 hn
    exact ⟨b, off, e, hb, fun i hi => ⟨(hk _ hb).trans (hc i hi).1, (hk _ hb).trans (hc i hi).2⟩⟩⟩
theorem RP.below (h : RP w B A n zs) (hb : Below B w w') : RP w' B A n zs := h.keep fun _ hp => hb.cell hp
theorem RP.more (h : RP w B A n zs) (hB : B ≤ B') : RP w B' A n zs :=
  ⟨h.1, fun hn => by
    obtain ⟨b, off, e, hb, hc⟩ := h.2 hn
    exact ⟨b, off, e, by omega, hc⟩⟩
theorem RP.on (h : RP w w.heap.size A n zs) (hb : Below w.heap.size w w') : RP w' w'.heap.size A n zs := (h.below hb).more hb.size
theorem bel_on {w0 wa wb : World} (h : Below w0.heap.size w0 wa) (k : Below wa.heap.size wa wb) : Below w0.heap.size w0 wb := h.trans (k.mono h.size)
theorem RP.of_own {base : Nat} {e : TypeId} {v : Value} (h : w.ownsRow base e 2 v n (PL zs)) : ∃ A c, v = .slice A n c ∧ RP w w.heap.size A n zs := by
  have hl : zs.length = n := by have := h.1; rw [PL_length] at this; omega
  rcases h.2 with ⟨rfl, rfl⟩ | ⟨g, cap, cur, rfl, hb, hg, hnc, _⟩
  · obtain rfl : zs = [] := List.eq_nil_of_length_eq_zero hl
    exact ⟨none, 0, rfl, RP.nil _ _ _⟩
  · refine ⟨_, _, rfl, hl, fun hn => ⟨g, 0, rfl, ?_, fun i hi => ?_⟩⟩
    · exact (h.lt g rfl).2
    · have h1 := h.cellAt (g := g) (i * 2) (by omega)
      have h2 := h.cellAt (g := g) (i * 2 + 1) (by omega)
      rw [PL_fst _ _ (by omega)] at h1
      rw [PL_snd _ _ (by omega)] at h2
      exact ⟨by simpa using h1, by simpa using h2⟩
end
end Go.Proofs.Ytjookicpmjmdhaa

/- The walks of slices.Grow from nil, slices.Concat over three lists, and spliced. -/
import Derived.Test.YtokkpbjldchjpaaW7
import Derived.Lib.AppendZerosOnto
namespace Go.Proofs.Ytokkpbjldchjpaa
open Go.RowKit

def GrownNil (w : World) (e : Ending) (w' : World) : Prop := ∃ v, e = .returned v ∧ w'.ownsRow w.heap.size 28 2 v 0 (PL []) ∧ Below w.heap.size w w'

theorem grow_nil (k : Nat) (w : World) (hk : k ≤ 4194304) :
    Calls Try.prog 68 #[.slice none 0 0, .int .i64 k] w (GrownNil w) := by
  obtain ⟨i0, hi0, hz0, hz1, hz2⟩ := info_parts pair_info
  rcases Nat.eq_zero_or_pos k with h0 | h0
  · subst h0
    go_enter Try.func68, Try.ntmps68
    go_wp2
    go_ret
    exact ⟨_, rfl, World.ownsRow_nil _ _ _ _, Below.refl _ _⟩
  · have hold : (Builtin.firstCells i0.size 0 (.slice none 0 0)).run Try.prog w.drew = .ok #[] w.drew := run_firstCells_none w.drew i0.size 0 0 0
    have hge := grownCap_ge w k 0 28
    have hle := grownCap_le_maxLen w k 0 28 (by unfold maxLen; omega)
    have hrz : ∀ ty, (Builtin.append_ #[24, 3] ty #[.slice none 0 0, .int .i64 (k : Int)]).run Try.prog w =
        .ok (.slice (some ⟨w.heap.size, 0, none⟩) k (grownCap w k 0 28)) (w.drew.alloc (.cells (#[] ++ Builtin.zeroCells (Value.agg #[.int .i64 0, .int .i64 0]).cells k ++ Builtin.zeroCells (Value.agg #[.int .i64 0, .int .i64 0]).cells (grownCap w k 0 28 - k)) 28)) := fun ty => by
      have h := Lib.run_append_grow_zeros w 24 3 ty 28 i0 _ .i64 .i64 Try.underlying24 Try.underlying3 hi0 hz0 none 0 0 [] hold k (by omega) (by omega) (by omega) (by omega) (by rw [hz2]; omega) (by rw [hz2]; exact growslice_fits (by omega) (by omega))
      simpa using h
    go_enter Try.func68, Try.ntmps68
    generalize grownCap w k 0 28 = G at *
    have HGE := Lib.hid hge
    have HLE := Lib.hid hle
    have hG : (G : Int) ≤ 9223372036854775807 := by unfold maxLen at hle; omega
    clear hge hle hold
    go_wp2_with (at_builtin; refine Lib.wpList_append_run _ rfl _ _ _ _ rfl _ _ rfl rfl _ _ (hrz _) ?_)
    go_ret
    refine ⟨_, rfl, ?_, ?_⟩
    · exact World.ownsRow_made w.drew _ G (Nat.le_refl _) HLE.out (by have := HGE.out; simp [size_zeroCells]; omega)
    · exact (Below.refl _ _).drew.alloc (Nat.le_refl _) _
/-- The first k lists' lengths, summed; the first k lists, one behind the other. -/
def sumTo (n : Nat → Nat) : Nat → Nat
  | 0 => 0
  | k + 1 => sumTo n k + n k
def catTo (Z : Nat → List Pr) : Nat → List Pr
  | 0 => []
  | k + 1 => catTo Z k ++ Z k
theorem sumTo_mono (n : Nat → Nat) : ∀ (m k : Nat), k ≤ m → sumTo n k ≤ sumTo n m := by
  intro m
  induction m with
  | zero => intro k hk; have : k = 0 := by omega
            subst this; exact Nat.le_refl _
  | succ m ih =>
    intro k hk
    rcases Nat.lt_or_ge m k with h | h
    · have : k = m + 1 := by omega
      subst this; exact Nat.le_refl _
    · exact Nat.le_trans (ih k h) (Nat.le_add_right _ _)
theorem catTo_length (n : Nat → Nat) (Z : Nat → List Pr) (m : Nat) (h : ∀ i, i < m → (Z i).length = n i) : ∀ k, k ≤ m → (catTo Z k).length = sumTo n k := by
  intro k
  induction k with
  | zero => intro _; rfl
  | succ k ih => intro hk; simp [catTo, sumTo, ih (by omega), h k (by omega)]

theorem concat_any (g off m c : Nat) (A : Nat → Option Addr) (n cs : Nat → Nat) (Z : Nat → List Pr) (w : World) (hg : g < w.heap.size) (hm : m ≤ 64)
    (hcell : ∀ i, i < m → w.cell? ⟨g, off + i, none⟩ = some (.slice (A i) (n i) (cs i))) (hr : ∀ i, i < m → RP w w.heap.size (A i) (n i) (Z i)) (hsum : sumTo n m ≤ 4194304) :
    Calls Try.prog 62 #[.slice (some ⟨g, off, none⟩) m c] w (Gives w (catTo Z m)) := by
  have HC := Lib.hid hcell
  have HR := Lib.hid hr
  have HS := Lib.hid hsum
  clear hcell hr hsum
  go_enter Try.func62, Try.ntmps62
  go_wp2
  go_loopw [3, 11] (fun s i wr => ∃ k : Nat, i = .int .i64 k ∧ k ≤ m ∧ s = .int .i64 (sumTo n k) ∧ Hid (w = wr)) (fun _ i _ => m - (intOf i).toNat)
  case atStart => exact ⟨0, rfl, by omega, rfl, Lib.hid rfl⟩
  case round =>
    obtain ⟨k, rfl, hk, rfl, hw⟩ := hrel
    obtain rfl := hw.out
    clear hw
    by_cases hlt : k < m
    · have c1 := HC.out k hlt
      have hs1 : sumTo n k + n k ≤ 4194304 := Nat.le_trans (sumTo_mono n m (k + 1) hlt) HS.out
      go_wp2
      go_roundw
      case rel => exact ⟨k + 1, by go_num, by omega, by simp [sumTo], Lib.hid trivial⟩
      case measure => simp [intOf]; omega
    · have hkm : k = m := by omega
      subst hkm
      have hs1 := HS.out
      go_wp2_with (go_at_call 68; refine (grow_nil _ _ hs1).mono ?_)
      rintro e w1 ⟨v, rfl, hown, hb⟩
      have HO := Lib.hid hown
      have HB := Lib.hid hb
      clear hown hb
      go_wp2
      go_loopw [6, 27] (fun v i wr => ∃ j : Nat, i = .int .i64 j ∧ j ≤ k ∧ Hid (wr.ownsRow w.heap.size 28 2 v (sumTo n j) (PL (catTo Z j))) ∧ Hid (Below w.heap.size w wr)) (fun _ i _ => k - (intOf i).toNat)
      case atStart => exact ⟨0, rfl, by omega, HO, HB⟩
      case round =>
        obtain ⟨j, rfl, hj, ho, hbw⟩ := hrel
        clear HO HB
        by_cases hlt2 : j < k
        · have c1 := (hbw.out.cell (p := ⟨g, off + j, none⟩) hg).trans (HC.out j hlt2)
          have hs2 : sumTo n j + n j ≤ 4194304 := Nat.le_trans (sumTo_mono n k (j + 1) hlt2) HS.out
          go_wp2_with (at_builtin; refine wpList_app rfl (.tmp 31) (.tmp 32) rfl w.heap.size _ _ _ rfl ho.out w.heap.size (A j) (n j) (cs j) (Z j) rfl ((HR.out j hlt2).below hbw.out) hs2 hbw.out.size ?_)
          intro v' w' hown hg'
          have hb2 := hbw.out.grown hg' hbw.out.size (fun b e => (ho.out.lt b e).1)
          have HO2 := Lib.hid hown
          have HB2 := Lib.hid hb2
          clear hown hb2 hg'
          go_wp2
          go_roundw
          case rel => exact ⟨j + 1, by go_num, by omega, HO2, HB2⟩
          case measure => simp [intOf]; omega
        · have hjk : j = k := by omega
          subst hjk
          go_wp2
          go_ret
          have hl := catTo_length n Z j (fun i hi => (HR.out i hi).1) j (Nat.le_refl _)
          exact ⟨_, rfl, by rw [hl]; exact ho.out, hbw.out⟩
end Go.Proofs.Ytokkpbjldchjpaa

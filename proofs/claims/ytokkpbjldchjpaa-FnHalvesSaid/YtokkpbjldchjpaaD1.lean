/- The walks of the draws' cursor: a byte, a number below, once in some. -/
import Derived.Test.YtokkpbjldchjpaaLaw
namespace Go.Proofs.Ytokkpbjldchjpaa
open Go.RowKit

theorem andMask (x : Int) (M : Nat) (hM : M < 2147483648) : 0 ≤ bits .and .i64 x M ∧ bits .and .i64 x M ≤ M := by
  unfold bits
  have hle : ∀ m : Nat, m &&& M ≤ M := fun m => Nat.and_le_right
  have h64 : IntKind.i64.bits = 64 := rfl
  have hw : ∀ m : Nat, m ≤ M → IntKind.i64.wrap (m : Int) = m := fun m h => by rw [IntKind.wrap_i64]; omega
  simp only [BitVec.toNat_and, BitVec.toNat_ofInt, h64]
  have e : (((M : Int) % ((2 ^ 64 : Nat) : Int)).toNat) = M := by omega
  rw [e, hw _ (hle _)]
  have := hle ((x % ((2 ^ 64 : Nat) : Int)).toNat)
  omega
theorem and255 (x : Int) : 0 ≤ bits .and .i64 x 255 ∧ bits .and .i64 x 255 ≤ 255 := andMask x 255 (by omega)

/-- The bytes of a draw: a slice of bytes below block B. -/
def Bys (w : World) (B : Nat) (A : Option Addr) (n : Nat) : Prop :=
  0 < n → ∃ b off, A = some ⟨b, off, none⟩ ∧ b < B ∧ ∀ i, i < n → ∃ x : Int, w.cell? ⟨b, off + i, none⟩ = some (.int .u8 x) ∧ 0 ≤ x ∧ x ≤ 255
/-- Block g holds a cursor over these bytes. -/
def Cur (w : World) (g : Nat) (A : Option Addr) (n c : Nat) : Prop :=
  (∃ (i : Nat) (h : Int), w.heap[g]? = some (.cells #[.slice A n c, .int .i64 i, .int .i64 h] 72 (0, 0)) ∧ i ≤ n) ∧ n ≤ 4096 ∧ Bys w g A n
/-- What a draw of a number leaves: a number of which P holds, a cursor still, all other blocks as they were. -/
def Drawn (g : Nat) (A : Option Addr) (n c : Nat) (P : Int → Prop) (w : World) (e : Ending) (w' : World) : Prop :=
  ∃ r : Int, e = .returned (.int .i64 r) ∧ P r ∧ Cur w' g A n c ∧ w.grownBy w' (some g)

section
variable {w w' : World} {g n c : Nat} {A : Option Addr}
theorem Bys.grown (h : Bys w g A n) (hg : w.grownBy w' (some g)) (hl : g ≤ w.heap.size) : Bys w' g A n := fun h0 => by
  obtain ⟨b, off, e, hb, hc⟩ := h h0
  refine ⟨b, off, e, hb, fun i hi => ?_⟩
  obtain ⟨x, hx, h1, h2⟩ := hc i hi
  refine ⟨x, ?_, h1, h2⟩
  rw [← hx]
  exact World.cell?_of_block (hg.block b (by omega) (by simp; omega))
theorem Cur.lt (h : Cur w g A n c) : g < w.heap.size := by
  obtain ⟨⟨i, x, hg, _⟩, _⟩ := h
  rcases Nat.lt_or_ge g w.heap.size with hlt | hge
  · exact hlt
  · rw [Array.getElem?_eq_none hge] at hg; cases hg
/-- A cursor is kept over whatever leaves its block and the older ones alone. -/
theorem Cur.keep (h : Cur w g A n c) (hk : ∀ k, k ≤ g → w'.heap[k]? = w.heap[k]?) : Cur w' g A n c := by
  obtain ⟨⟨i, x, hg, hi⟩, hn, hb⟩ := h
  refine ⟨⟨i, x, (hk g (Nat.le_refl _)).trans hg, hi⟩, hn, fun h0 => ?_⟩
  obtain ⟨b, off, e, hb', hc⟩ := hb h0
  refine ⟨b, off, e, hb', fun i hi => ?_⟩
  obtain ⟨x, hx, h1, h2⟩ := hc i hi
  exact ⟨x, by rw [← hx]; exact World.cell?_of_block (hk b (by omega)), h1, h2⟩
theorem Cur.below (h : Cur w g A n c) (hb : Below w.heap.size w w') : Cur w' g A n c := h.keep fun k hk => hb.block k (by have := h.lt; omega)
theorem Cur.grown (h : Cur w g A n c) {row : Option Nat} (hg : w.grownBy w' row) (hr : ∀ k, row = some k → g < k) : Cur w' g A n c := h.keep fun k hk => hg.block k (by have := h.lt; omega) (fun e => by have := hr k e.symm; omega)
theorem Drawn.mono {P Q : Int → Prop} (h : ∀ r, P r → Q r) {e : Ending} (hd : Drawn g A n c P w e w') : Drawn g A n c Q w e w' := by
  obtain ⟨r, he, hp, hc, hg⟩ := hd
  exact ⟨r, he, h r hp, hc, hg⟩
end

theorem grown_drewN {w w' : World} {row : Option Nat} (h : w.grownBy w' row) (n : Nat) : w.grownBy (w'.drewN n) row := ⟨h.os, h.tape, h.output, h.size, h.block⟩
theorem byte_any (g : Nat) (A : Option Addr) (n c : Nat) (w : World) (hC : Cur w g A n c) :
    Calls Try.prog 48 #[.pointer (some ⟨g, 0, none⟩)] w (Drawn g A n c (fun r => 0 ≤ r ∧ r ≤ 255) w) := by
  have hlt := hC.lt
  obtain ⟨⟨i, h, hg, hi⟩, hn, hb⟩ := hC
  have c0 : w.cell? ⟨g, 0, none⟩ = some (.slice A n c) := by rw [cell_of_row w g 0 _ _ _ hg]; rfl
  have c1 : w.cell? ⟨g, 1, none⟩ = some (.int .i64 i) := by rw [cell_of_row w g 1 _ _ _ hg]; rfl
  have c2 : w.cell? ⟨g, 2, none⟩ = some (.int .i64 h) := by rw [cell_of_row w g 2 _ _ _ hg]; rfl
  have f1 : w.frozen? ⟨g, 1, none⟩ = false := frozen_of_row w g 1 _ _ hg
  have f2 : w.frozen? ⟨g, 2, none⟩ = false := frozen_of_row w g 2 _ _ hg
  have HG := Lib.hid hg
  have HB := Lib.hid hb
  clear hg hb
  go_enter Try.func48, Try.ntmps48
  go_wp2
  generalize wrap64 (h * 6364136223846793005) = h1
  generalize wrap64 (h1 + 1442695040888963407) = h2
  obtain ⟨w1, hw1⟩ : ∃ w1, w1 = w.setCell ⟨g, 2, none⟩ (.int .i64 h2) := ⟨_, rfl⟩
  rw [← hw1]
  have hg1 : w1.heap[g]? = some (.cells #[.slice A n c, .int .i64 i, .int .i64 h2] 72 (0, 0)) := by rw [hw1, heap_setCell_same w g 2 _ _ _ HG.out]; rfl
  have g1 : w.grownBy w1 (some g) := by
    rw [hw1]
    exact ⟨rfl, rfl, rfl, by simp, fun k _ hk => heap_setCell_other w ⟨g, 2, none⟩ k _ (fun e => hk (by simp [e]))⟩
  have b1 : Bys w1 g A n := HB.out.grown g1 (by omega)
  clear hw1 c0 c1 c2 f1 f2
  have c0 : w1.cell? ⟨g, 0, none⟩ = some (.slice A n c) := by rw [cell_of_row w1 g 0 _ _ _ hg1]; rfl
  have c1 : w1.cell? ⟨g, 1, none⟩ = some (.int .i64 i) := by rw [cell_of_row w1 g 1 _ _ _ hg1]; rfl
  have c2 : w1.cell? ⟨g, 2, none⟩ = some (.int .i64 h2) := by rw [cell_of_row w1 g 2 _ _ _ hg1]; rfl
  have f1 : w1.frozen? ⟨g, 1, none⟩ = false := frozen_of_row w1 g 1 _ _ hg1
  have HG1 := Lib.hid hg1
  have G1 := Lib.hid g1
  have HB1 := Lib.hid b1
  have HBW := HB
  clear hg1 g1 b1 HG HB
  go_quiet (fail)
  have M0 := and255 (bits BinOp.xor IntKind.i64 (h2 / 8589934592) (h2 / 35184372088832))
  generalize bits BinOp.and IntKind.i64 (bits BinOp.xor IntKind.i64 (h2 / 8589934592) (h2 / 35184372088832)) 255 = x at *
  obtain ⟨m1, m2⟩ := M0
  by_cases hin : i < n
  · obtain ⟨b, off, rfl, hbg, hcc⟩ := HB1.out (by omega)
    obtain ⟨y, cy, y1, y2⟩ := hcc i hin
    clear hcc
    go_wp2_with fail
    go_quiet (fail)
    go_wp2_with fail
    go_quiet (fail)
    have M1 := and255 (x + y)
    generalize bits BinOp.and IntKind.i64 (x + y) 255 = z at *
    obtain ⟨z1, z2⟩ := M1
    go_wp2
    go_ret
    have hset : ∀ W : World, W.heap = w1.heap → (W.setCell ⟨g, 1, none⟩ (.int .i64 (↑i + 1))).heap[g]? = some (.cells #[.slice (some ⟨b, off, none⟩) n c, .int .i64 ((i + 1 : Nat) : Int), .int .i64 h2] 72 (0, 0)) := fun W hW => by
      rw [heap_setCell_same W g 1 _ _ _ (by rw [hW]; exact HG1.out)]; rfl
    have hgr : ∀ W : World, w.grownBy W (some g) → w.grownBy (W.setCell ⟨g, 1, none⟩ (.int .i64 (↑i + 1))) (some g) := fun W hW => grown_trans hW
      ⟨rfl, rfl, rfl, by simp, fun k _ hk => heap_setCell_other W ⟨g, 1, none⟩ k _ (fun e => hk (by simp [e]))⟩
    refine ⟨z, rfl, ⟨z1, z2⟩, ⟨⟨i + 1, h2, hset _ rfl, by omega⟩, hn, HBW.out.grown ?_ (by omega)⟩, ?_⟩
    all_goals exact hgr _ (grown_drewN G1.out _)
  · go_wp2_with fail
    go_quiet (fail)
    go_wp2
    go_ret
    exact ⟨x, rfl, ⟨m1, m2⟩, ⟨⟨i, h2, HG1.out, hi⟩, hn, HB1.out⟩, grown_drewN (grown_drewN G1.out _) _⟩
end Go.Proofs.Ytokkpbjldchjpaa

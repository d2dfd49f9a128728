/- The walks of the draws' cursor: a byte, a number below, once in some. -/
import Derived.Test.YtjookicpmjmdhaaQ06
import Derived.Test.YtjookicpmjmdhaaQ04
import Derived.Deep.RegionWith
import Derived.Test.YtjookicpmjmdhaaQ15
import Derived.Test.YtjookicpmjmdhaaQ24
open Go.Value renaming int → jI, slice → jS
open Go.IntKind renaming i64 → jZ
namespace Go.Proofs.Ytjookicpmjmdhaa
open Go.RowKit

theorem andMask (x : Int) (M : Nat) (hM : M < 2147483648) : 0 ≤ bits .and .i64 x M ∧ bits .and .i64 x M ≤ M := by
 unfold bits
 have hle : ∀ m : Nat, m &&& M ≤ M := fun m => Nat.and_le_right
 have h64 : IntKind.i64.bits = 64 := rfl
 have hw : ∀ m : Nat, m ≤ M → IntKind.i64.wrap (m : Int) = m := fun m h => by rw [IntKind.wrap_i64]; omega
 simp only [BitVec.toNat_and, BitVec.toNat_ofInt, h64]
 have e : (((M : Int) % ((2 ^ 64 : Nat) : Int)).toNat) = M := by omega
 rw [e, hw _ (hle _)]
 have := hle ((x % ((2 ^ 64 : Nat) : Int)).toNat)
 omega
theorem and255 (x : Int) : 0 ≤ bits .and .i64 x 255 ∧ bits .and .i64 x 255 ≤ 255 := andMask x 255 (by omega)

def Bys (w : World) (B : Nat) (A : Option Addr) (n : Nat) : Prop :=
 0 < n → ∃ b off, A = some ⟨b, off, none⟩ ∧ b < B ∧ ∀ i, i < n → ∃ x : Int, w.cell? ⟨b, off + i, none⟩ = some (.int .u8 x) ∧ 0 ≤ x ∧ x ≤ 255
def Cur (w : World) (g : Nat) (A : Option Addr) (n c : Nat) : Prop :=
 (∃ (i : Nat) (h : Int), w.heap[g]? = some (.cells #[jS A n c, jI jZ i, jI jZ h] 74 (0, 0)) ∧ i ≤ n) ∧ n ≤ 4096 ∧ Bys w g A n
def Drawn (g : Nat) (A : Option Addr) (n c : Nat) (P : Int → Prop) (w : World) (e : Ending) (w' : World) : Prop :=
 ∃ r : Int, e = .returned (jI jZ r) ∧ P r ∧ Cur w' g A n c ∧ w.grownBy w' (some g)

section
variable {w w' : World} {g n c : Nat} {A : Option Addr}
theorem Bys.grown (h : Bys w g A n) (hg : w.grownBy w' (some g)) (hl : g ≤ w.heap.size) : Bys w' g A n := fun h0 => by
 obtain ⟨b, off, e, hb, hc⟩ := h h0
 refine ⟨b, off, e, hb, fun i hi => ?_⟩
 obtain ⟨x, hx, h1, h2⟩ := hc i hi
 refine ⟨x, ?_, h1, h2⟩
 rw [← hx]
 exact World.cell?_of_block (hg.block b (by omega) (by simp; omega))
theorem Cur.lt (h : Cur w g A n c) : g < w.heap.size := by
 obtain ⟨⟨i, x, hg, _⟩, _⟩ := h
 rcases Nat.lt_or_ge g w.heap.size with hlt | hge
 · exact hlt
 · rw [Array.getElem?_eq_none hge] at hg; cases hg
theorem Cur.keep (h : Cur w g A n c) (hk : ∀ k, k ≤ g → w'.heap[k]? = w.heap[k]?) : Cur w' g A n c := by
 obtain ⟨⟨i, x, hg, hi⟩, hn, hb⟩ := h
 refine ⟨⟨i, x, (hk g (Nat.le_refl _)).trans hg, hi⟩, hn, fun h0 => ?_⟩
 obtain ⟨b, off, e, hb', hc⟩ := hb h0
 refine ⟨b, off, e, hb', fun i hi => ?_⟩
 obtain ⟨x, hx, h1, h2⟩ := hc i hi
 exact ⟨x, by rw [← hx]; exact World.cell?_of_block (hk b (by omega)), h1, h2⟩
theorem Cur.below (h : Cur w g A n c) (hb : Below w.heap.size w w') : Cur w' g A n c := h.keep fun k hk => hb.block k (by have := h.lt; omega)
theorem Cur.grown (h : Cur w g A n c) {row : Option Nat} (hg : w.grownBy w' row) (hr : ∀ k, row = some k → g < k) : Cur w' g A n c := h.keep fun k hk => hg.block k (by have := h.lt; omega) (fun e => by have := hr k e.symm; omega)
theorem Drawn.mono {P Q : Int → Prop} (h : ∀ r, P r → Q r) {e : Ending} (hd : Drawn g A n c P w e w') : Drawn g A n c Q w e w' := by
 obtain ⟨r, he, hp, hc, hg⟩ := hd
 exact ⟨r, he, h r hp, hc, hg⟩
end

theorem grown_drewN {w w' : World} {row : Option Nat} (h : w.grownBy w' row) (n : Nat) : w.grownBy (w'.drewN n) row := ⟨h.os, h.tape, h.output, h.size, h.block⟩
theorem byte_any (g : Nat) (A : Option Addr) (n c : Nat) (w : World) (hC : Cur w g A n c) :
   Calls Try.prog 60 #[.pointer (some ⟨g, 0, none⟩)] w (Drawn g A n c (fun r => 0 ≤ r ∧ r ≤ 255) w) := by
 have hlt := hC.lt
 obtain ⟨⟨i, h, hg, hi⟩, hn, hb⟩ := hC
 have c0 : w.cell? ⟨g, 0, none⟩ = some (.slice A n c) := by rw [cell_of_row w g 0 _ _ _ hg]; rfl
 have c1 : w.cell? ⟨g, 1, none⟩ = some (jI jZ i) := by rw [cell_of_row w g 1 _ _ _ hg]; rfl
 have c2 : w.cell? ⟨g, 2, none⟩ = some (jI jZ h) := by rw [cell_of_row w g 2 _ _ _ hg]; rfl
 have f1 : w.frozen? ⟨g, 1, none⟩ = false := frozen_of_row w g 1 _ _ hg
 have f2 : w.frozen? ⟨g, 2, none⟩ = false := frozen_of_row w g 2 _ _ hg
 have HG := Lib.hid hg
 have HB := Lib.hid hb
 clear hg hb
 go_enter Try.func60, Try.ntmps60
 go_wp2
 generalize wrap64 (h * 6364136223846793005) = h1
 generalize wrap64 (h1 + 1442695040888963407) = h2
 obtain ⟨w1, hw1⟩ : ∃ w1, w1 = w.setCell ⟨g, 2, none⟩ (jI jZ h2) := ⟨_, rfl⟩
 rw [← hw1]
 have hg1 : w1.heap[g]? = some (.cells #[jS A n c, jI jZ i, jI jZ h2] 74 (0, 0)) := by rw [hw1, heap_setCell_same w g 2 _ _ _ HG.out]; rfl
 have g1 : w.grownBy w1 (some g) := by
   rw [hw1]
   exact ⟨rfl, rfl, rfl, by simp, fun k _ hk => heap_setCell_other w ⟨g, 2, none⟩ k _ (fun e => hk (by simp [e]))⟩
 have b1 : Bys w1 g A n := HB.out.grown g1 (by omega)
 clear hw1 c0 c1 c2 f1 f2
 have c0 : w1.cell? ⟨g, 0, none⟩ = some (.slice A n c) := by rw [cell_of_row w1 g 0 _ _ _ hg1]; rfl
 have c1 : w1.cell? ⟨g, 1, none⟩ = some (jI jZ i) := by rw [cell_of_row w1 g 1 _ _ _ hg1]; rfl
 have c2 : w1.cell? ⟨g, 2, none⟩ = some (jI jZ h2) := by rw [cell_of_row w1 g 2 _ _ _ hg1]; rfl
 have f1 : w1.frozen? ⟨g, 1, none⟩ = false := frozen_of_row w1 g 1 _ _ hg1
 have HG1 := Lib.hid hg1
 have G1 := Lib.hid g1
 have HB1 := Lib.hid b1
 have HBW := HB
 clear hg1 g1 b1 HG HB
 go_quiet (fail)
 have M0 := and255 (bits BinOp.xor IntKind.i64 (h2 / 8589934592) (h2 / 35184372088832))
 generalize bits BinOp.and IntKind.i64 (bits BinOp.xor IntKind.i64 (h2 / 8589934592) (h2 / 35184372088832)) 255 = x at *
 obtain ⟨m1, m2⟩ := M0
 by_cases hin : i < n
 · obtain ⟨b, off, rfl, hbg, hcc⟩ := HB1.out (by omega)
   obtain ⟨y, cy, y1, y2⟩ := hcc i hin
   clear hcc
   go_wp2_with fail
   go_quiet (fail)
   go_wp2_with fail
   go_quiet (fail)
   have M1 := and255 (x + y)
   generalize bits BinOp.and IntKind.i64 (x + y) 255 = z at *
   obtain ⟨z1, z2⟩ := M1
   go_wp2
   go_ret
   have hset : ∀ W : World, W.heap = w1.heap → (W.setCell ⟨g, 1, none⟩ (jI jZ (↑i + 1))).heap[g]? = some (.cells #[jS (some ⟨b, off, none⟩) n c, jI jZ ((i + 1 : Nat) : Int), jI jZ h2] 74 (0, 0)) := fun W hW => by
     rw [heap_setCell_same W g 1 _ _ _ (by rw [hW]; exact HG1.out)]; rfl
   have hgr : ∀ W : World, w.grownBy W (some g) → w.grownBy (W.setCell ⟨g, 1, none⟩ (jI jZ (↑i + 1))) (some g) := fun W hW => grown_trans hW
     ⟨rfl, rfl, rfl, by simp, fun k _ hk => heap_setCell_other W ⟨g, 1, none⟩ k _ (fun e => hk (by simp [e]))⟩
   refine ⟨z, rfl, ⟨z1, z2⟩, ⟨⟨i + 1, h2, hset _ rfl, by omega⟩, hn, HBW.out.grown ?_ (by omega)⟩, ?_⟩
   all_goals exact hgr _ (grown_drewN G1.out _)
 · go_wp2_with fail
   go_quiet (fail)
   go_wp2
   go_ret
   exact ⟨x, rfl, ⟨m1, m2⟩, ⟨⟨i, h2, HG1.out, hi⟩, hn, HB1.out⟩, grown_drewN (grown_drewN G1.out _) _⟩
end Go.Proofs.Ytjookicpmjmdhaa
namespace Go.Proofs.Ytjookicpmjmdhaa
open Go.RowKit

def BelowP (m r : Int) : Prop := (m ≤ 0 → r = 0) ∧ (0 < m → 0 ≤ r ∧ r < m)

theorem below_any (g : Nat) (A : Option Addr) (n c : Nat) (m : Int) (w : World) (hC : Cur w g A n c) :
   Calls Try.prog 36 #[.pointer (some ⟨g, 0, none⟩), jI jZ m] w (Drawn g A n c (BelowP m) w) := by
 have HC := Lib.hid hC
 clear hC
 by_cases h0 : m ≤ 0
 · go_enter Try.func36, Try.ntmps36
   go_wp2
   go_ret
   exact ⟨0, rfl, ⟨fun _ => rfl, fun h => by omega⟩, HC.out, World.grownBy.refl _ _⟩
 · have h0 : 0 < m := by omega
   by_cases h1 : m ≤ 256
   · go_enter Try.func36, Try.ntmps36
     go_wp2_with fail
     refine (byte_any g A n c _ HC.out).mono ?_
     rintro e w1 ⟨r, rfl, ⟨r1, r2⟩, hc, hg⟩
     have HC1 := Lib.hid hc
     have HG1 := Lib.hid hg
     clear hc hg
     go_wp2
     go_ret
     exact ⟨r % m, rfl, ⟨fun h => by omega, fun _ => ⟨Int.emod_nonneg _ (by omega), Int.emod_lt_of_pos _ h0⟩⟩, HC1.out, HG1.out⟩
   · go_enter Try.func36, Try.ntmps36
     go_wp2_with fail
     refine (byte_any g A n c _ HC.out).mono ?_
     rintro e w1 ⟨x1, rfl, ⟨a1, b1⟩, hc1, hg1⟩
     have HC1 := Lib.hid hc1
     have HG1 := Lib.hid hg1
     clear hc1 hg1
     go_wp2_with fail
     refine (byte_any g A n c _ HC1.out).mono ?_
     rintro e w2 ⟨x2, rfl, ⟨a2, b2⟩, hc2, hg2⟩
     have HC2 := Lib.hid hc2
     have HG2 := Lib.hid (grown_trans HG1.out hg2)
     clear hc2 hg2 HC1 HG1
     go_wp2_with fail
     refine (byte_any g A n c _ HC2.out).mono ?_
     rintro e w3 ⟨x3, rfl, ⟨a3, b3⟩, hc3, hg3⟩
     have HC3 := Lib.hid hc3
     have HG3 := Lib.hid (grown_trans HG2.out hg3)
     clear hc3 hg3 HC2 HG2
     go_wp2_with fail
     refine (byte_any g A n c _ HC3.out).mono ?_
     rintro e w4 ⟨x4, rfl, ⟨a4, b4⟩, hc4, hg4⟩
     have HC4 := Lib.hid hc4
     have HG4 := Lib.hid (grown_trans HG3.out hg4)
     clear hc4 hg4 HC3 HG3
     go_wp2
     go_ret
     exact ⟨(x1 * 16777216 + x2 * 65536 + x3 * 256 + x4) % m, rfl, ⟨fun h => by omega, fun _ => ⟨Int.emod_nonneg _ (by omega), Int.emod_lt_of_pos _ h0⟩⟩, HC4.out, HG4.out⟩

def DrawnB (g : Nat) (A : Option Addr) (n c : Nat) (w : World) (e : Ending) (w' : World) : Prop := ∃ b : Bool, e = .returned (.bool b) ∧ Cur w' g A n c ∧ w.grownBy w' (some g)

theorem once_any (g : Nat) (A : Option Addr) (n c : Nat) (m : Int) (w : World) (hC : Cur w g A n c) :
   Calls Try.prog 37 #[.pointer (some ⟨g, 0, none⟩), jI jZ m] w (DrawnB g A n c w) := by
 have HC := Lib.hid hC
 clear hC
 go_enter Try.func37, Try.ntmps37
 go_wp2_with fail
 refine (below_any g A n c m _ HC.out).mono ?_
 rintro e w1 ⟨r, rfl, _, hc, hg⟩
 have HC1 := Lib.hid hc
 have HG1 := Lib.hid hg
 clear hc hg
 go_wp2
 go_ret
 exact ⟨r == 0, rfl, HC1.out, HG1.out⟩
end Go.Proofs.Ytjookicpmjmdhaa
namespace Go.Proofs.Ytjookicpmjmdhaa
open Go.RowKit

theorem ints_at {w : World} {b : Nat} {cs : Array Value} {t : TypeId} {fr : Nat × Nat} (hg : w.heap[b]? = some (.cells cs t fr)) (hall : ∀ v ∈ cs.toList, ∃ x : Int, v = jI jZ x) (j : Nat) (hj : j < cs.size) : ∃ x : Int, w.cell? ⟨b, j, none⟩ = some (jI jZ x) := by
 have h1 := cell_of_row w b j cs t fr hg
 rw [Array.getElem?_eq_getElem hj] at h1
 obtain ⟨x, hx⟩ := hall cs[j] (by simp)
 exact ⟨x, by rw [h1, hx]⟩

theorem odd_any (g : Nat) (A : Option Addr) (n c : Nat) (w : World) (hC : Cur w g A n c) :
   Calls Try.prog 67 #[.pointer (some ⟨g, 0, none⟩)] w (Drawn g A n c (fun _ => True) w) := by
 have HC := Lib.hid hC
 have hlt := hC.lt
 clear hC
 go_enter Try.func67, Try.ntmps67
 go_wp2_with fail
 refine (below_any g A n c 10 _ (HC.out.below ((Below.refl _ _).alloc (Nat.le_refl _) _))).mono ?_
 rintro e w1 ⟨r, rfl, ⟨_, hr⟩, hc, hg⟩
 obtain ⟨hr1, hr2⟩ := hr (by omega)
 obtain ⟨j, rfl⟩ := Int.eq_ofNat_of_zero_le hr1
 have hb := (hg.block w.heap.size (by simp) (by simp; omega)).trans (heap_alloc_new w _)
 obtain ⟨x, hx⟩ := ints_at hb (by simp) j (by simp; omega)
 have HC1 := Lib.hid hc
 have HG1 := Lib.hid (grown_trans (World.grownBy_alloc w _ (some g)) hg)
 clear hc hg hb hr
 go_wp2
 go_ret
 exact ⟨x, rfl, trivial, HC1.out, HG1.out⟩

theorem min_any (a b : Int) (w : World) :
   Calls Try.prog 68 #[jI jZ a, jI jZ b] w fun e w' => e = .returned (jI jZ (if a < b then a else b)) ∧ w = w' := by
 by_cases h : a < b
 · rw [if_pos h]
   go_enter Try.func68, Try.ntmps68
   go_wp2
   go_ret
   exact ⟨rfl, rfl⟩
 · rw [if_neg h]
   go_enter Try.func68, Try.ntmps68
   go_wp2
   go_ret
   exact ⟨rfl, rfl⟩

theorem num_any (g : Nat) (A : Option Addr) (n c : Nat) (m : Int) (w : World) (hC : Cur w g A n c) (h0 : 0 ≤ m) (h1 : m ≤ 1000000000) :
   Calls Try.prog 57 #[.pointer (some ⟨g, 0, none⟩), jI jZ m] w (Drawn g A n c (fun _ => True) w) := by
 have HC := Lib.hid hC
 have hlt := hC.lt
 have hmin : ∃ q : Int, 0 ≤ q ∧ q ≤ 4 ∧ ∀ w, Calls Try.prog 68 #[jI jZ m, jI jZ 4] w fun e w' => e = .returned (jI jZ q) ∧ w = w' :=
   ⟨if m < 4 then m else 4, by split <;> omega, by split <;> omega, fun w => min_any m 4 w⟩
 obtain ⟨q, q0, q1, hq⟩ := hmin
 have HQ := Lib.hid hq
 clear hC hq
 go_enter Try.func57, Try.ntmps57
 go_wp2_with fail
 refine (once_any g A n c 10 _ HC.out).mono ?_
 rintro e w1 ⟨b, rfl, hc, hg⟩
 have HC1 := Lib.hid hc
 have HG1 := Lib.hid hg
 have hlt1 : g < w1.heap.size := hc.lt
 clear hc hg
 rcases Bool.eq_false_or_eq_true b with hb | hb
 · subst hb
   go_wp2_with fail
   refine (odd_any g A n c _ HC1.out).mono ?_
   rintro e w2 ⟨o, rfl, _, hc, hg⟩
   have HC2 := Lib.hid hc
   have HG2 := Lib.hid (grown_trans HG1.out hg)
   have hlt2 : g < w2.heap.size := hc.lt
   clear hc hg HC1 HG1
   go_wp2_with fail
   refine (below_any g A n c 4 _ (HC2.out.below ((Below.refl _ _).alloc (Nat.le_refl _) _))).mono ?_
   rintro e w3 ⟨r, rfl, ⟨_, hr⟩, hc, hg⟩
   obtain ⟨hr1, hr2⟩ := hr (by omega)
   obtain ⟨j, rfl⟩ := Int.eq_ofNat_of_zero_le hr1
   have hb := (hg.block w2.heap.size (by simp) (by simp; omega)).trans (heap_alloc_new w2 _)
   obtain ⟨x, hx⟩ := ints_at hb (by simp) j (by simp; omega)
   have HC3 := Lib.hid hc
   have HG3 := Lib.hid (grown_trans HG2.out (grown_trans (World.grownBy_alloc w2 _ (some g)) hg))
   clear hc hg hb hr
   go_wp2
   go_ret
   exact ⟨x, rfl, trivial, HC3.out, HG3.out⟩
 · subst hb
   go_wp2_with fail
   refine (once_any g A n c 2 _ HC1.out).mono ?_
   rintro e w2 ⟨b, rfl, hc, hg⟩
   have HC2 := Lib.hid hc
   have HG2 := Lib.hid (grown_trans HG1.out hg)
   clear hc hg HC1 HG1
   rcases Bool.eq_false_or_eq_true b with hb | hb
   · subst hb
     go_wp2_with fail
     refine (HQ.out _).mono ?_
     rintro e w3 ⟨rfl, rfl⟩
     go_wp2_with fail
     refine (below_any g A n c (q + 1) _ HC2.out).mono ?_
     rintro e w4 ⟨r, rfl, _, hc, hg⟩
     have HC4 := Lib.hid hc
     have HG4 := Lib.hid (grown_trans HG2.out hg)
     clear hc hg
     go_wp2
     go_ret
     exact ⟨r, rfl, trivial, HC4.out, HG4.out⟩
   · subst hb
     go_wp2_with fail
     refine (below_any g A n c (m + 1) _ HC2.out).mono ?_
     rintro e w4 ⟨r, rfl, _, hc, hg⟩
     have HC4 := Lib.hid hc
     have HG4 := Lib.hid (grown_trans HG2.out hg)
     clear hc hg
     go_wp2
     go_ret
     exact ⟨r, rfl, trivial, HC4.out, HG4.out⟩
end Go.Proofs.Ytjookicpmjmdhaa
namespace Go.Proofs.Ytjookicpmjmdhaa
open Go.RowKit

theorem and30 (x : Int) : 0 ≤ bits .and .i64 x 1073741823 ∧ bits .and .i64 x 1073741823 ≤ 1073741823 := andMask x 1073741823 (by omega)
theorem new_any (A : Option Addr) (n c : Nat) (w : World) (hb : Bys w w.heap.size A n) (hn : n ≤ 4096) :
   Calls Try.prog 32 #[jS A n c] w fun e w' => ∃ g, e = .returned (.pointer (some ⟨g, 0, none⟩)) ∧ w.heap.size ≤ g ∧ Cur w' g A n c ∧ Below w.heap.size w w' := by
 have HB := Lib.hid hb
 clear hb
 go_enter Try.func32, Try.ntmps32
 go_wp2
 go_loopw [3, 4] (fun h i wr => ∃ (k : Nat) (x : Int), i = jI jZ k ∧ k ≤ n ∧ h = jI jZ x ∧ 0 ≤ x ∧ x ≤ 1073741823 ∧ Hid (Below w.heap.size w wr) ∧ Hid (wr.heap.size = w.heap.size)) (fun _ i _ => n - (intOf i).toNat)
 case atStart => exact ⟨0, 510047 + n, rfl, by omega, by go_num, by omega, by omega, Lib.hid (Below.refl _ _), Lib.hid rfl⟩
 case round =>
   obtain ⟨k, x, rfl, hk, rfl, x0, x1, hbw, hs⟩ := hrel
   by_cases hlt : k < n
   · obtain ⟨b, off, rfl, hbl, hc⟩ := HB.out (by omega)
     obtain ⟨y, cy, y0, y1⟩ := hc k hlt
     have cy2 := (hbw.out.cell (p := ⟨b, off + k, none⟩) hbl).trans cy
     clear hc cy
     go_wp2
     have M := and30 (x * 281 + y + 11)
     go_roundw
     case rel => exact ⟨k + 1, _, by go_num, by omega, rfl, M.1, M.2, hbw, hs⟩
     case measure => simp [intOf]; omega
   · go_wp2
     go_ret
     refine ⟨wr.heap.size, rfl, hbw.out.size, ⟨⟨0, x, heap_alloc_new wr _, by omega⟩, hn, fun h0 => ?_⟩, hbw.out.alloc hbw.out.size _⟩
     obtain ⟨b, off, e, hbl, hc⟩ := HB.out h0
     refine ⟨b, off, e, Nat.lt_of_lt_of_le hbl hbw.out.size, fun i hi => ?_⟩
     obtain ⟨y, cy, y0, y1⟩ := hc i hi
     exact ⟨y, by rw [← cy]; exact (hbw.out.alloc hbw.out.size _).cell hbl, y0, y1⟩

end Go.Proofs.Ytjookicpmjmdhaa
namespace Go.Proofs.Ytjookicpmjmdhaa
open Go.RowKit

theorem big_any (A : Option Addr) (n c : Nat) (w : World) (hn : n ≤ 9223372036854775807) :
   Calls Try.prog 9 #[jS A n c] w fun e w' => e = .returned (.bool (decide (4096 < n))) ∧ w = w' := by
 by_cases h : 4096 < n
 · rw [decide_eq_true h]
   go_enter Try.func9, Try.ntmps9
   go_wp2
   go_ret
   exact ⟨ret_bool (by simp; omega), rfl⟩
 · rw [decide_eq_false h]
   go_enter Try.func9, Try.ntmps9
   go_wp2
   go_ret
   exact ⟨ret_bool (by simp; omega), rfl⟩

end Go.Proofs.Ytjookicpmjmdhaa
namespace Go.Proofs.Ytjookicpmjmdhaa
open Go.RowKit

theorem bys_on {w w' : World} {A : Option Addr} {n : Nat} (h : Bys w w.heap.size A n) (hb : Below w.heap.size w w') : Bys w' w'.heap.size A n := fun h0 => by
 obtain ⟨b, off, e, hbl, hc⟩ := h h0
 refine ⟨b, off, e, Nat.lt_of_lt_of_le hbl hb.size, fun i hi => ?_⟩
 obtain ⟨x, hx, h1, h2⟩ := hc i hi
 exact ⟨x, (hb.cell hbl).trans hx, h1, h2⟩
end Go.Proofs.Ytjookicpmjmdhaa
namespace Go.Proofs.Ytjookicpmjmdhaa
open Go.RowKit

def cuI (g : Nat) (A : Option Addr) (n c : Nat) : Item where
 F := fun k => k = g
 P := fun w => ∃ (i : Nat) (h : Int), w.heap[g]? = some (.cells #[jS A n c, jI jZ i, jI jZ h] 74 (0, 0)) ∧ i ≤ n
 keep := fun _ _ ⟨i, h, hg, hi⟩ hk => ⟨i, h, (hk g rfl (Array.getElem?_eq_some_iff.1 hg).1).trans hg, hi⟩
def cuX (g : Nat) : FP := fun k => k = g
section
variable {w0 w w' : World} {g n c : Nat} {A : Option Addr} {L : List Item}
theorem Sep.startCur (hC : Cur w0 g A n c) : Sep (cuX g) w0 [cuI g A n c] w0 where
 only := Only.refl _ _
 holds := fun i hi => by
   obtain rfl := List.mem_singleton.1 hi
   exact hC.1
 fresh := fun i hi k hk => by
   obtain rfl := List.mem_singleton.1 hi
   have hk : k = g := hk
   subst hk
   exact ⟨.inl rfl, hC.lt⟩
 apart := List.pairwise_singleton _ _
theorem Sep.cur (h : Sep (cuX g) w0 L w) (p : Nat) (e : L[p]? = some (cuI g A n c)) (hC : Cur w0 g A n c) : Cur w g A n c := by
 refine ⟨h.get p e, hC.2.1, fun h0 => ?_⟩
 obtain ⟨b, off, eA, hb, hc⟩ := hC.2.2 h0
 refine ⟨b, off, eA, hb, fun i hi => ?_⟩
 obtain ⟨x, hx, h1, h2⟩ := hc i hi
 refine ⟨x, ?_, h1, h2⟩
 rw [← hx]
 exact World.cell?_of_block (h.only.block b (by have := hC.lt; omega) (fun e9 => by have e9 : b = g := e9; omega))
theorem Sep.drawn (h : Sep (cuX g) w0 L w) (p : Nat) (e : L[p]? = some (cuI g A n c)) (hc : Cur w' g A n c) (hg : w.grownBy w' (some g)) : Sep (cuX g) w0 (L.set p (cuI g A n c)) w' := by
 refine h.turn p e (Only.of_grown hg (fun k hk => ?_)) (cuI g A n c) hc.1 (fun k hk => ⟨.inl hk, ?_⟩)
 · have h9 : g = k := by simpa using hk
   exact h9.symm
 · have hk : k = g := hk
   subst hk
   exact hc.lt
theorem Sep.grown (h : Sep (cuX g) w0 L w) : w0.grownBy w (some g) := by
 refine ⟨h.only.os, h.only.tape, h.only.output, h.only.size, fun k hk hn => h.only.block k hk (fun e => hn ?_)⟩
 have e : k = g := e
 rw [e]
end

section
variable {X : FP} {w0 w w' : World} {g n c : Nat} {A : Option Addr} {L : List Item}
theorem Sep.perm {L' : List Item} (h : Sep X w0 L w) (hp : L.Perm L') : Sep X w0 L' w :=
 ⟨h.only, fun i hi => h.holds i (hp.mem_iff.2 hi), fun i hi => h.fresh i (hp.mem_iff.2 hi), (hp.pairwise_iff (fun {_ _} h => h.symm)).1 h.apart⟩
theorem Sep.bys (h : Sep noX w0 L w) (p : Nat) {I : Item} (e : L[p]? = some I) (hI : I.F g) (hB : Bys w0 w0.heap.size A n) : Bys w g A n := fun h0 => by
 obtain ⟨b, off, eA, hb, hc⟩ := hB h0
 have hf := (h.fresh _ (List.mem_of_getElem? e) g hI).1
 have hg : w0.heap.size ≤ g := by
   rcases hf with h1 | h1
   · exact absurd h1 id
   · exact h1
 refine ⟨b, off, eA, by omega, fun i hi => ?_⟩
 obtain ⟨x, hx, h1, h2⟩ := hc i hi
 exact ⟨x, (h.below.cell (p := ⟨b, off + i, none⟩) hb).trans hx, h1, h2⟩
theorem Sep.curA (h : Sep noX w0 L w) (p : Nat) (e : L[p]? = some (cuI g A n c)) (hB : Bys w0 w0.heap.size A n) (hn : n ≤ 4096) : Cur w g A n c :=
 ⟨h.get p e, hn, h.bys p e rfl hB⟩
theorem Sep.newCur (h : Sep X w0 L w) (hc : Cur w' g A n c) (hs : w.heap.size ≤ g) (b : Below w.heap.size w w') : Sep X w0 (cuI g A n c :: L) w' :=
 h.gain b _ hc.1 (fun k hk => by
   have hk : k = g := hk
   subst hk
   exact ⟨hs, hc.lt⟩)
theorem Sep.drawnA (h : Sep X w0 L w) (p : Nat) (e : L[p]? = some (cuI g A n c)) (hc : Cur w' g A n c) (hg : w.grownBy w' (some g)) : Sep X w0 L w' := by
 have h2 := h.turn p e (Only.of_grown hg (fun k hk => by
   have h9 : g = k := by simpa using hk
   exact h9.symm)) (cuI g A n c) hc.1 (fun k hk => ⟨.inl hk, by
   have hk : k = g := hk
   subst hk
   exact hc.lt⟩)
 have hL : L.set p (cuI g A n c) = L := by
   apply List.ext_getElem?
   intro i
   by_cases hi : p = i
   · subst hi
     rw [List.getElem?_set_self (List.getElem?_eq_some_iff.1 e).1, e]
   · rw [List.getElem?_set_ne hi]
 rw [hL] at h2
 exact h2
theorem Sep.drawnGainA (h : Sep X w0 L w) (p : Nat) (e : L[p]? = some (cuI g A n c)) (hc : Cur w' g A n c) (hg : w.grownBy w' (some g)) (I : Item) (pI : I.P w') (f : ∀ k, I.F k → w.heap.size ≤ k ∧ k < w'.heap.size) : Sep X w0 (I :: L) w' := by
 have h2 := h.drawnA p e hc hg
 refine ⟨h2.only, fun i hi => ?_, fun i hi k hk => ?_, List.pairwise_cons.2 ⟨fun j hj => ?_, h2.apart⟩⟩
 · rcases List.mem_cons.1 hi with rfl | hi
   · exact pI
   · exact h2.holds i hi
 · rcases List.mem_cons.1 hi with rfl | hi
   · have := f k hk; have := h.size; exact ⟨.inr (by omega), by omega⟩
   · exact h2.fresh i hi k hk
 · exact fun k hk hk2 => by have := f k hk; have := (h.fresh j hj k hk2).2; omega
end
end Go.Proofs.Ytjookicpmjmdhaa
namespace Go.Proofs.Ytjookicpmjmdhaa
open Go.RowKit

theorem codes_cell (q : Nat) (hq : q < 5) : (IL [1, 2, 2, 2, 3]).toArray[0 + q * 1]? = some (jI jZ (iAt [1, 2, 2, 2, 3] q)) := by
 rcases q with _ | _ | _ | _ | _ | q <;> first | rfl | omega
theorem codes_in (q : Nat) (hq : q < 5) : 1 ≤ iAt [1, 2, 2, 2, 3] q ∧ iAt [1, 2, 2, 2, 3] q ≤ 3 := by
 rcases q with _ | _ | _ | _ | _ | q <;> first | decide | omega
def DrawnC (g : Nat) (A : Option Addr) (n c : Nat) (w : World) (e : Ending) (w' : World) : Prop :=
 ∃ cc ck cv : Int, e = .returned (.agg #[jI jZ cc, jI jZ ck, jI jZ cv]) ∧ (1 ≤ cc ∧ cc ≤ 3) ∧ (0 ≤ ck ∧ ck < 30) ∧ (0 ≤ cv ∧ cv < 100) ∧ Cur w' g A n c ∧ w.grownBy w' (some g)
end Go.Proofs.Ytjookicpmjmdhaa

/- The walks of the draws' cursor: a byte, a number below, once in some. -/
import Derived.Test.YtpffkhjegpddbaaGreatV06
open Go.Value renaming int → jI, slice → jS
open Go.IntKind renaming i64 → jZ
namespace Go.Proofs.YtpffkhjegpddbaaGreat
open Go.RowKit

theorem andMask (x : Int) (M : Nat) (hM : M < 2147483648) : 0 ≤ bits .and .i64 x M ∧ bits .and .i64 x M ≤ M := by
 unfold bits
 have hle : ∀ m : Nat, m &&& M ≤ M := fun m => Nat.and_le_right
 have h64 : IntKind.i64.bits = 64 := rfl
 have hw : ∀ m : Nat, m ≤ M → IntKind.i64.wrap (m : Int) = m := fun m h => by rw [IntKind.wrap_i64]; omega
 simp only [BitVec.toNat_and, BitVec.toNat_ofInt, h64]
 have e : (((M : Int) % ((2 ^ 64 : Nat) : Int)).toNat) = M := by omega
 rw [e, hw _ (hle _)]
 have := hle ((x % ((2 ^ 64 : Nat) : Int)).toNat)
 omega
theorem and255 (x : Int) : 0 ≤ bits .and .i64 x 255 ∧ bits .and .i64 x 255 ≤ 255 := andMask x 255 (by omega)

def Bys (w : World) (B : Nat) (A : Option Addr) (n : Nat) : Prop :=
 0 < n → ∃ b off, A = some ⟨b, off, none⟩ ∧ b < B ∧ ∀ i, i < n → ∃ x : Int, w.cell? ⟨b, off + i, none⟩ = some (.int .u8 x) ∧ 0 ≤ x ∧ x ≤ 255
def Cur (w : World) (g : Nat) (A : Option Addr) (n c : Nat) : Prop :=
 (∃ (i : Nat) (h : Int), w.heap[g]? = some (.cells #[jS A n c, jI jZ i, jI jZ h] 58 (0, 0)) ∧ i ≤ n) ∧ n ≤ 4096 ∧ Bys w g A n
def Drawn (g : Nat) (A : Option Addr) (n c : Nat) (P : Int → Prop) (w : World) (e : Ending) (w' : World) : Prop :=
 ∃ r : Int, e = .returned (jI jZ r) ∧ P r ∧ Cur w' g A n c ∧ w.grownBy w' (some g)

section
variable {w w' : World} {g n c : Nat} {A : Option Addr}
theorem Bys.grown (h : Bys w g A n) (hg : w.grownBy w' (some g)) (hl : g ≤ w.heap.size) : Bys w' g A n := fun h0 => by
 obtain ⟨b, off, e, hb, hc⟩ := h h0
 refine ⟨b, off, e, hb, fun i hi => ?_⟩
 obtain ⟨x, hx, h1, h2⟩ := hc i hi
 refine ⟨x, ?_, h1, h2⟩
 rw [← hx]
 exact World.cell?_of_block (hg.block b (by omega) (by simp; omega))
theorem Cur.lt (h : Cur w g A n c) : g < w.heap.size := by
 obtain ⟨⟨i, x, hg, _⟩, _⟩ := h
 rcases Nat.lt_or_ge g w.heap.size with hlt | hge
 · exact hlt
 · rw [Array.getElem?_eq_none hge] at hg; cases hg
theorem Cur.keep (h : Cur w g A n c) (hk : ∀ k, k ≤ g → w'.heap[k]? = w.heap[k]?) : Cur w' g A n c := by
 obtain ⟨⟨i, x, hg, hi⟩, hn, hb⟩ := h
 refine ⟨⟨i, x, (hk g (Nat.le_refl _)).trans hg, hi⟩, hn, fun h0 => ?_⟩
 obtain ⟨b, off, e, hb', hc⟩ := hb h0
 refine ⟨b, off, e, hb', fun i hi => ?_⟩
 obtain ⟨x, hx, h1, h2⟩ := hc i hi
 exact ⟨x, by rw [← hx]; exact World.cell?_of_block (hk b (by omega)), h1, h2⟩
theorem Cur.below (h : Cur w g A n c) (hb : Below w.heap.size w w') : Cur w' g A n c := h.keep fun k hk => hb.block k (by have := h.lt; omega)
theorem Cur.grown (h : Cur w g A n c) {row : Option Nat} (hg : w.grownBy w' row) (hr : ∀ k, row = some k → g < k) : Cur w' g A n c := h.keep fun k hk => hg.block k (by have := h.lt; omega) (fun e => by have := hr k e.symm; omega)
theorem Drawn.mono {P Q : Int → Prop} (h : ∀ r, P r → Q r) {e : Ending} (hd : Drawn g A n c P w e w') : Drawn g A n c Q w e w' := by
 obtain ⟨r, he, hp, hc, hg⟩ := hd
 exact ⟨r, he, h r hp, hc, hg⟩
end

theorem grown_drewN {w w' : World} {row : Option Nat} (h : w.grownBy w' row) (n : Nat) : w.grownBy (w'.drewN n) row := ⟨h.os, h.tape, h.output, h.size, h.block⟩
theorem byte_any (g : Nat) (A : Option Addr) (n c : Nat) (w : World) (hC : Cur w g A n c) :
   Calls Tryz.prog 52 #[.pointer (some ⟨g, 0, none⟩)] w (Drawn g A n c (fun r => 0 ≤ r ∧ r ≤ 255) w) := by
 have hlt := hC.lt
 obtain ⟨⟨i, h, hg, hi⟩, hn, hb⟩ := hC
 have c0 : w.cell? ⟨g, 0, none⟩ = some (.slice A n c) := by rw [cell_of_row w g 0 _ _ _ hg]; rfl
 have c1 : w.cell? ⟨g, 1, none⟩ = some (jI jZ i) := by rw [cell_of_row w g 1 _ _ _ hg]; rfl
 have c2 : w.cell? ⟨g, 2, none⟩ = some (jI jZ h) := by rw [cell_of_row w g 2 _ _ _ hg]; rfl
 have f1 : w.frozen? ⟨g, 1, none⟩ = false := frozen_of_row w g 1 _ _ hg
 have f2 : w.frozen? ⟨g, 2, none⟩ = false := frozen_of_row w g 2 _ _ hg
 have HG := Lib.hid hg
 have HB := Lib.hid hb
 clear hg hb
 go_enter Tryz.func52, Tryz.ntmps52
 go_wp2
 generalize wrap64 (h * 6364136223846793005) = h1
 generalize wrap64 (h1 + 1442695040888963407) = h2
 obtain ⟨w1, hw1⟩ : ∃ w1, w1 = w.setCell ⟨g, 2, none⟩ (jI jZ h2) := ⟨_, rfl⟩
 rw [← hw1]
 have hg1 : w1.heap[g]? = some (.cells #[jS A n c, jI jZ i, jI jZ h2] 58 (0, 0)) := by rw [hw1, heap_setCell_same w g 2 _ _ _ HG.out]; rfl
 have g1 : w.grownBy w1 (some g) := by
   rw [hw1]
   exact ⟨rfl, rfl, rfl, by simp, fun k _ hk => heap_setCell_other w ⟨g, 2, none⟩ k _ (fun e => hk (by simp [e]))⟩
 have b1 : Bys w1 g A n := HB.out.grown g1 (by omega)
 clear hw1 c0 c1 c2 f1 f2
 have c0 : w1.cell? ⟨g, 0, none⟩ = some (.slice A n c) := by rw [cell_of_row w1 g 0 _ _ _ hg1]; rfl
 have c1 : w1.cell? ⟨g, 1, none⟩ = some (jI jZ i) := by rw [cell_of_row w1 g 1 _ _ _ hg1]; rfl
 have c2 : w1.cell? ⟨g, 2, none⟩ = some (jI jZ h2) := by rw [cell_of_row w1 g 2 _ _ _ hg1]; rfl
 have f1 : w1.frozen? ⟨g, 1, none⟩ = false := frozen_of_row w1 g 1 _ _ hg1
 have HG1 := Lib.hid hg1
 have G1 := Lib.hid g1
 have HB1 := Lib.hid b1
 have HBW := HB
 clear hg1 g1 b1 HG HB
 go_quiet (fail)
 have M0 := and255 (bits BinOp.xor IntKind.i64 (h2 / 8589934592) (h2 / 35184372088832))
 generalize bits BinOp.and IntKind.i64 (bits BinOp.xor IntKind.i64 (h2 / 8589934592) (h2 / 35184372088832)) 255 = x at *
 obtain ⟨m1, m2⟩ := M0
 by_cases hin : i < n
 · obtain ⟨b, off, rfl, hbg, hcc⟩ := HB1.out (by omega)
   obtain ⟨y, cy, y1, y2⟩ := hcc i hin
   clear hcc
   go_wp2_with fail
   go_quiet (fail)
   go_wp2_with fail
   go_quiet (fail)
   have M1 := and255 (x + y)
   generalize bits BinOp.and IntKind.i64 (x + y) 255 = z at *
   obtain ⟨z1, z2⟩ := M1
   go_wp2
   go_ret
   have hset : ∀ W : World, W.heap = w1.heap → (W.setCell ⟨g, 1, none⟩ (jI jZ (↑i + 1))).heap[g]? = some (.cells #[jS (some ⟨b, off, none⟩) n c, jI jZ ((i + 1 : Nat) : Int), jI jZ h2] 58 (0, 0)) := fun W hW => by
     rw [heap_setCell_same W g 1 _ _ _ (by rw [hW]; exact HG1.out)]; rfl
   have hgr : ∀ W : World, w.grownBy W (some g) → w.grownBy (W.setCell ⟨g, 1, none⟩ (jI jZ (↑i + 1))) (some g) := fun W hW => grown_trans hW
     ⟨rfl, rfl, rfl, by simp, fun k _ hk => heap_setCell_other W ⟨g, 1, none⟩ k _ (fun e => hk (by simp [e]))⟩
   refine ⟨z, rfl, ⟨z1, z2⟩, ⟨⟨i + 1, h2, hset _ rfl, by omega⟩, hn, HBW.out.grown ?_ (by omega)⟩, ?_⟩
   all_goals exact hgr _ (grown_drewN G1.out _)
 · go_wp2_with fail
   go_quiet (fail)
   go_wp2
   go_ret
   exact ⟨x, rfl, ⟨m1, m2⟩, ⟨⟨i, h2, HG1.out, hi⟩, hn, HB1.out⟩, grown_drewN (grown_drewN G1.out _) _⟩
end Go.Proofs.YtpffkhjegpddbaaGreat
namespace Go.Proofs.YtpffkhjegpddbaaGreat
open Go.RowKit

def BelowP (m r : Int) : Prop := (m ≤ 0 → r = 0) ∧ (0 < m → 0 ≤ r ∧ r < m)

theorem below_any (g : Nat) (A : Option Addr) (n c : Nat) (m : Int) (w : World) (hC : Cur w g A n c) :
   Calls Tryz.prog 34 #[.pointer (some ⟨g, 0, none⟩), jI jZ m] w (Drawn g A n c (BelowP m) w) := by
 have HC := Lib.hid hC
 clear hC
 by_cases h0 : m ≤ 0
 · go_enter Tryz.func34, Tryz.ntmps34
   go_wp2
   go_ret
   exact ⟨0, rfl, ⟨fun _ => rfl, fun h => by omega⟩, HC.out, World.grownBy.refl _ _⟩
 · have h0 : 0 < m := by omega
   by_cases h1 : m ≤ 256
   · go_enter Tryz.func34, Tryz.ntmps34
     go_wp2_with fail
     refine (byte_any g A n c _ HC.out).mono ?_
     rintro e w1 ⟨r, rfl, ⟨r1, r2⟩, hc, hg⟩
     have HC1 := Lib.hid hc
     have HG1 := Lib.hid hg
     clear hc hg
     go_wp2
     go_ret
     exact ⟨r % m, rfl, ⟨fun h => by omega, fun _ => ⟨Int.emod_nonneg _ (by omega), Int.emod_lt_of_pos _ h0⟩⟩, HC1.out, HG1.out⟩
   · go_enter Tryz.func34, Tryz.ntmps34
     go_wp2_with fail
     refine (byte_any g A n c _ HC.out).mono ?_
     rintro e w1 ⟨x1, rfl, ⟨a1, b1⟩, hc1, hg1⟩
     have HC1 := Lib.hid hc1
     have HG1 := Lib.hid hg1
     clear hc1 hg1
     go_wp2_with fail
     refine (byte_any g A n c _ HC1.out).mono ?_
     rintro e w2 ⟨x2, rfl, ⟨a2, b2⟩, hc2, hg2⟩
     have HC2 := Lib.hid hc2
     have HG2 := Lib.hid (grown_trans HG1.out hg2)
     clear hc2 hg2 HC1 HG1
     go_wp2_with fail
     refine (byte_any g A n c _ HC2.out).mono ?_
     rintro e w3 ⟨x3, rfl, ⟨a3, b3⟩, hc3, hg3⟩
     have HC3 := Lib.hid hc3
     have HG3 := Lib.hid (grown_trans HG2.out hg3)
     clear hc3 hg3 HC2 HG2
     go_wp2_with fail
     refine (byte_any g A n c _ HC3.out).mono ?_
     rintro e w4 ⟨x4, rfl, ⟨a4, b4⟩, hc4, hg4⟩
     have HC4 := Lib.hid hc4
     have HG4 := Lib.hid (grown_trans HG3.out hg4)
     clear hc4 hg4 HC3 HG3
     go_wp2
     go_ret
     exact ⟨(x1 * 16777216 + x2 * 65536 + x3 * 256 + x4) % m, rfl, ⟨fun h => by omega, fun _ => ⟨Int.emod_nonneg _ (by omega), Int.emod_lt_of_pos _ h0⟩⟩, HC4.out, HG4.out⟩

def DrawnB (g : Nat) (A : Option Addr) (n c : Nat) (w : World) (e : Ending) (w' : World) : Prop := ∃ b : Bool, e = .returned (.bool b) ∧ Cur w' g A n c ∧ w.grownBy w' (some g)

theorem once_any (g : Nat) (A : Option Addr) (n c : Nat) (m : Int) (w : World) (hC : Cur w g A n c) :
   Calls Tryz.prog 29 #[.pointer (some ⟨g, 0, none⟩), jI jZ m] w (DrawnB g A n c w) := by
 have HC := Lib.hid hC
 clear hC
 go_enter Tryz.func29, Tryz.ntmps29
 go_wp2_with fail
 refine (below_any g A n c m _ HC.out).mono ?_
 rintro e w1 ⟨r, rfl, _, hc, hg⟩
 have HC1 := Lib.hid hc
 have HG1 := Lib.hid hg
 clear hc hg
 go_wp2
 go_ret
 exact ⟨r == 0, rfl, HC1.out, HG1.out⟩
end Go.Proofs.YtpffkhjegpddbaaGreat
namespace Go.Proofs.YtpffkhjegpddbaaGreat
open Go.RowKit

theorem ints_at {w : World} {b : Nat} {cs : Array Value} {t : TypeId} {fr : Nat × Nat} (hg : w.heap[b]? = some (.cells cs t fr)) (hall : ∀ v ∈ cs.toList, ∃ x : Int, v = jI jZ x) (j : Nat) (hj : j < cs.size) : ∃ x : Int, w.cell? ⟨b, j, none⟩ = some (jI jZ x) := by
 have h1 := cell_of_row w b j cs t fr hg
 rw [Array.getElem?_eq_getElem hj] at h1
 obtain ⟨x, hx⟩ := hall cs[j] (by simp)
 exact ⟨x, by rw [h1, hx]⟩

theorem odd_any (g : Nat) (A : Option Addr) (n c : Nat) (w : World) (hC : Cur w g A n c) :
   Calls Tryz.prog 82 #[.pointer (some ⟨g, 0, none⟩)] w (Drawn g A n c (fun _ => True) w) := by
 have HC := Lib.hid hC
 have hlt := hC.lt
 clear hC
 go_enter Tryz.func82, Tryz.ntmps82
 go_wp2_with fail
 refine (below_any g A n c 10 _ (HC.out.below ((Below.refl _ _).alloc (Nat.le_refl _) _))).mono ?_
 rintro e w1 ⟨r, rfl, ⟨_, hr⟩, hc, hg⟩
 obtain ⟨hr1, hr2⟩ := hr (by omega)
 obtain ⟨j, rfl⟩ := Int.eq_ofNat_of_zero_le hr1
 have hb := (hg.block w.heap.size (by simp) (by simp; omega)).trans (heap_alloc_new w _)
 obtain ⟨x, hx⟩ := ints_at hb (by simp) j (by simp; omega)
 have HC1 := Lib.hid hc
 have HG1 := Lib.hid (grown_trans (World.grownBy_alloc w _ (some g)) hg)
 clear hc hg hb hr
 go_wp2
 go_ret
 exact ⟨x, rfl, trivial, HC1.out, HG1.out⟩

theorem min_any (a b : Int) (w : World) :
   Calls Tryz.prog 50 #[jI jZ a, jI jZ b] w fun e w' => e = .returned (jI jZ (if a < b then a else b)) ∧ w = w' := by
 by_cases h : a < b
 · rw [if_pos h]
   go_enter Tryz.func50, Tryz.ntmps50
   go_wp2
   go_ret
   exact ⟨rfl, rfl⟩
 · rw [if_neg h]
   go_enter Tryz.func50, Tryz.ntmps50
   go_wp2
   go_ret
   exact ⟨rfl, rfl⟩

theorem num_any (g : Nat) (A : Option Addr) (n c : Nat) (m : Int) (w : World) (hC : Cur w g A n c) (h0 : 0 ≤ m) (h1 : m ≤ 1000000000) :
   Calls Tryz.prog 54 #[.pointer (some ⟨g, 0, none⟩), jI jZ m] w (Drawn g A n c (fun _ => True) w) := by
 have HC := Lib.hid hC
 have hlt := hC.lt
 have hmin : ∃ q : Int, 0 ≤ q ∧ q ≤ 4 ∧ ∀ w, Calls Tryz.prog 50 #[jI jZ m, jI jZ 4] w fun e w' => e = .returned (jI jZ q) ∧ w = w' :=
   ⟨if m < 4 then m else 4, by split <;> omega, by split <;> omega, fun w => min_any m 4 w⟩
 obtain ⟨q, q0, q1, hq⟩ := hmin
 have HQ := Lib.hid hq
 clear hC hq
 go_enter Tryz.func54, Tryz.ntmps54
 go_wp2_with fail
 refine (once_any g A n c 10 _ HC.out).mono ?_
 rintro e w1 ⟨b, rfl, hc, hg⟩
 have HC1 := Lib.hid hc
 have HG1 := Lib.hid hg
 have hlt1 : g < w1.heap.size := hc.lt
 clear hc hg
 rcases Bool.eq_false_or_eq_true b with hb | hb
 · subst hb
   go_wp2_with fail
   refine (odd_any g A n c _ HC1.out).mono ?_
   rintro e w2 ⟨o, rfl, _, hc, hg⟩
   have HC2 := Lib.hid hc
   have HG2 := Lib.hid (grown_trans HG1.out hg)
   have hlt2 : g < w2.heap.size := hc.lt
   clear hc hg HC1 HG1
   go_wp2_with fail
   refine (below_any g A n c 4 _ (HC2.out.below ((Below.refl _ _).alloc (Nat.le_refl _) _))).mono ?_
   rintro e w3 ⟨r, rfl, ⟨_, hr⟩, hc, hg⟩
   obtain ⟨hr1, hr2⟩ := hr (by omega)
   obtain ⟨j, rfl⟩ := Int.eq_ofNat_of_zero_le hr1
   have hb := (hg.block w2.heap.size (by simp) (by simp; omega)).trans (heap_alloc_new w2 _)
   obtain ⟨x, hx⟩ := ints_at hb (by simp) j (by simp; omega)
   have HC3 := Lib.hid hc
   have HG3 := Lib.hid (grown_trans HG2.out (grown_trans (World.grownBy_alloc w2 _ (some g)) hg))
   clear hc hg hb hr
   go_wp2
   go_ret
   exact ⟨x, rfl, trivial, HC3.out, HG3.out⟩
 · subst hb
   go_wp2_with fail
   refine (once_any g A n c 2 _ HC1.out).mono ?_
   rintro e w2 ⟨b, rfl, hc, hg⟩
   have HC2 := Lib.hid hc
   have HG2 := Lib.hid (grown_trans HG1.out hg)
   clear hc hg HC1 HG1
   rcases Bool.eq_false_or_eq_true b with hb | hb
   · subst hb
     go_wp2_with fail
     refine (HQ.out _).mono ?_
     rintro e w3 ⟨rfl, rfl⟩
     go_wp2_with fail
     refine (below_any g A n c (q + 1) _ HC2.out).mono ?_
     rintro e w4 ⟨r, rfl, _, hc, hg⟩
     have HC4 := Lib.hid hc
     have HG4 := Lib.hid (grown_trans HG2.out hg)
     clear hc hg
     go_wp2
     go_ret
     exact ⟨r, rfl, trivial, HC4.out, HG4.out⟩
   · subst hb
     go_wp2_with fail
     refine (below_any g A n c (m + 1) _ HC2.out).mono ?_
     rintro e w4 ⟨r, rfl, _, hc, hg⟩
     have HC4 := Lib.hid hc
     have HG4 := Lib.hid (grown_trans HG2.out hg)
     clear hc hg
     go_wp2
     go_ret
     exact ⟨r, rfl, trivial, HC4.out, HG4.out⟩
end Go.Proofs.YtpffkhjegpddbaaGreat
namespace Go.Proofs.YtpffkhjegpddbaaGreat
open Go.RowKit

theorem grown_below {w w' : World} {row : Option Nat} (hb : Below w.heap.size w w') : w.grownBy w' row := ⟨hb.os, hb.tape, hb.output, hb.size, fun k hk _ => hb.block k hk⟩
theorem own_cap {w : World} {base : Nat} {e : TypeId} {size n c : Nat} {A : Option Addr} {xs : List Value} (h : w.ownsRow base e size (jS A n c) n xs) : n ≤ c ∧ c ≤ 9223372036854775807 := by
 rcases h.2 with ⟨h', h0⟩ | ⟨g, cap, cur, h', _, _, hnc, hcm, _⟩
 · simp at h'; omega
 · simp at h'; unfold maxLen at hcm; omega

def DrawnL (g : Nat) (A : Option Addr) (n c m : Nat) (w : World) (e : Ending) (w' : World) : Prop :=
 ∃ (A' : Option Addr) (c' : Nat) (zs : List Pr), e = .returned (jS A' zs.length c') ∧ w'.ownsRow w.heap.size 68 2 (jS A' zs.length c') zs.length (PL zs) ∧ zs.length ≤ m ∧ Cur w' g A n c ∧ w.grownBy w' (some g)

theorem and30 (x : Int) : 0 ≤ bits .and .i64 x 1073741823 ∧ bits .and .i64 x 1073741823 ≤ 1073741823 := andMask x 1073741823 (by omega)
theorem new_any (A : Option Addr) (n c : Nat) (w : World) (hb : Bys w w.heap.size A n) (hn : n ≤ 4096) :
   Calls Tryz.prog 16 #[jS A n c] w fun e w' => ∃ g, e = .returned (.pointer (some ⟨g, 0, none⟩)) ∧ w.heap.size ≤ g ∧ Cur w' g A n c ∧ Below w.heap.size w w' := by
 have HB := Lib.hid hb
 clear hb
 go_enter Tryz.func16, Tryz.ntmps16
 go_wp2
 go_loopw [3, 4] (fun h i wr => ∃ (k : Nat) (x : Int), i = jI jZ k ∧ k ≤ n ∧ h = jI jZ x ∧ 0 ≤ x ∧ x ≤ 1073741823 ∧ Hid (Below w.heap.size w wr) ∧ Hid (wr.heap.size = w.heap.size)) (fun _ i _ => n - (intOf i).toNat)
 case atStart => exact ⟨0, 510047 + n, rfl, by omega, by go_num, by omega, by omega, Lib.hid (Below.refl _ _), Lib.hid rfl⟩
 case round =>
   obtain ⟨k, x, rfl, hk, rfl, x0, x1, hbw, hs⟩ := hrel
   by_cases hlt : k < n
   · obtain ⟨b, off, rfl, hbl, hc⟩ := HB.out (by omega)
     obtain ⟨y, cy, y0, y1⟩ := hc k hlt
     have cy2 := (hbw.out.cell (p := ⟨b, off + k, none⟩) hbl).trans cy
     clear hc cy
     go_wp2
     have M := and30 (x * 281 + y + 11)
     go_roundw
     case rel => exact ⟨k + 1, _, by go_num, by omega, rfl, M.1, M.2, hbw, hs⟩
     case measure => simp [intOf]; omega
   · go_wp2
     go_ret
     refine ⟨wr.heap.size, rfl, hbw.out.size, ⟨⟨0, x, heap_alloc_new wr _, by omega⟩, hn, fun h0 => ?_⟩, hbw.out.alloc hbw.out.size _⟩
     obtain ⟨b, off, e, hbl, hc⟩ := HB.out h0
     refine ⟨b, off, e, Nat.lt_of_lt_of_le hbl hbw.out.size, fun i hi => ?_⟩
     obtain ⟨y, cy, y0, y1⟩ := hc i hi
     exact ⟨y, by rw [← cy]; exact (hbw.out.alloc hbw.out.size _).cell hbl, y0, y1⟩

theorem draw_any (g : Nat) (A : Option Addr) (n c : Nat) (w : World) (hC : Cur w g A n c) :
   Calls Tryz.prog 83 #[.pointer (some ⟨g, 0, none⟩)] w (DrawnL g A n c 40 w) := by
 have HC := Lib.hid hC
 have hlt := hC.lt
 clear hC
 go_enter Tryz.func83, Tryz.ntmps83
 go_wp2_with fail
 refine (below_any g A n c 7 _ (HC.out.below ((Below.refl _ _).alloc (Nat.le_refl _) _))).mono ?_
 rintro e w1 ⟨r, rfl, ⟨_, hr⟩, hc, hg⟩
 obtain ⟨r0, r1⟩ := hr (by omega)
 have HC1 := Lib.hid hc
 have HG1 := Lib.hid (grown_trans (World.grownBy_alloc w (.cells #[] 68) (some g)) hg)
 have HO1 := Lib.hid (own_far (empty_row w) hg (fun b e => by simp [Value.ownBlock] at e; simp; omega))
 clear hc hg hr
 go_wp2_with fail
 go_loopw [3, 4] (fun v i wr => ∃ (A' : Option Addr) (c' : Nat) (zs : List Pr) (q : Int), i = jI jZ q ∧ q ≤ 6 ∧ v = jS A' zs.length c' ∧ Hid (wr.ownsRow w.heap.size 68 2 (jS A' zs.length c') zs.length (PL zs)) ∧ zs.length ≤ 40 ∧ Hid (Cur wr g A n c) ∧ Hid (w.grownBy wr (some g))) (fun _ i _ => (intOf i).toNat)
 case atStart => exact ⟨_, _, [], r, rfl, by omega, rfl, HO1, by simp, HC1, HG1⟩
 case round =>
   obtain ⟨A', c', zs, q, rfl, hq, rfl, ho, hz, hcu, hgr⟩ := hrel
   clear HO1 HC1 HG1
   generalize hl : zs.length = l at *
   have HLL := Lib.hid hl
   clear hl
   by_cases hq0 : 0 < q
   · go_wp2_with fail
     refine (below_any g A n c 20 _ hcu.out).mono ?_
     rintro e w2 ⟨x, rfl, _, hc2, hg2⟩
     have C2 := Lib.hid hc2
     have G2 := Lib.hid (grown_trans hgr.out hg2)
     have O2 := Lib.hid (own_far ho.out hg2 (fun b e => by have := (ho.out.lt b e).1; simp; omega))
     clear hc2 hg2 hcu hgr ho
     go_wp2_with fail
     refine (below_any g A n c 100 _ C2.out).mono ?_
     rintro e w3 ⟨y, rfl, _, hc3, hg3⟩
     have C3 := Lib.hid hc3
     have G3 := Lib.hid (grown_trans G2.out hg3)
     have O3 := Lib.hid (own_far O2.out hg3 (fun b e => by have := (O2.out.lt b e).1; simp; omega))
     clear hc3 hg3 C2 G2 O2
     go_wp2_with fail
     refine (spPut_any _ _ _ zs x y _ (RP.own O3.out) (by omega) (own_cap O3.out).1 (own_cap O3.out).2).mono ?_
     intro e w4 hP
     obtain ⟨A4, c4, rfl, o4, b4⟩ := form2 hP
     have O4 := Lib.hid (own_base o4 G3.out.size)
     have C4 := Lib.hid (C3.out.below b4)
     have G4 := Lib.hid (grown_trans G3.out (grown_below b4))
     have L4 := putL_le zs x y
     clear o4 b4 hP C3 G3 O3
     generalize putL zs x y = z2 at *
     generalize putB zs x y = b2 at *
     go_wp2_with fail
     go_roundw
     case rel => exact ⟨A4, c4, z2, q - 1, by go_num, by omega, rfl, O4, L4, C4, G4⟩
     case measure => simp [intOf]; omega
   · go_wp2
     go_ret
     exact ⟨A', c', zs, by rw [HLL.out]; rfl, by rw [HLL.out]; exact ho.out, by rw [HLL.out]; exact hz, hcu.out, hgr.out⟩
end Go.Proofs.YtpffkhjegpddbaaGreat
namespace Go.Proofs.YtpffkhjegpddbaaGreat
open Go.RowKit

theorem PL_set_fst (zs : List Pr) (i : Nat) (a : Int) (h : i < zs.length) : (PL zs).set (i * 2) (jI jZ a) = PL (zs.set i (a, vAt zs i)) := by
 have h1 := PL_set zs i a (vAt zs i)
 rw [← h1]
 have h2 := PL_snd zs i h
 apply List.ext_getElem?
 intro j
 rw [List.getElem?_set (i := i * 2 + 1)]
 split
 · rename_i e
   subst e
   rw [List.getElem?_set_ne (by omega), h2]
   simp [PL_length]
   omega
 · rfl
theorem PL_set_snd (zs : List Pr) (i : Nat) (b : Int) (h : i < zs.length) : (PL zs).set (i * 2 + 1) (jI jZ b) = PL (zs.set i (kAt zs i, b)) := by
 have h1 := PL_set zs i (kAt zs i) b
 rw [← h1]
 have h2 := PL_fst zs i h
 congr 1
 apply List.ext_getElem?
 intro j
 rw [List.getElem?_set (i := i * 2)]
 split
 · rename_i e
   subst e
   rw [h2]
   simp [PL_length, h]
 · rfl

theorem own_at {w : World} {base : Nat} {e : TypeId} {n c : Nat} {A : Option Addr} {xs : List Value} (h : w.ownsRow base e 2 (jS A n c) n xs) (h0 : 0 < n) : ∃ b, A = some ⟨b, 0, none⟩ ∧ base ≤ b ∧ b < w.heap.size := by
 obtain ⟨b, cap, hv, hb, hlt⟩ := h.form h0
 simp at hv
 exact ⟨b, hv.1, hb, hlt⟩

theorem grown_past {a b c : World} {g : Nat} {row : Option Nat} (h : a.grownBy b (some g)) (k : b.grownBy c row) (hr : ∀ k, row = some k → a.heap.size ≤ k) : a.grownBy c (some g) :=
 ⟨k.os.trans h.os, k.tape.trans h.tape, k.output.trans h.output, Nat.le_trans h.size k.size, fun i hi hne => (k.block i (Nat.lt_of_lt_of_le hi h.size) (fun e => by have := hr i e.symm; omega)).trans (h.block i hi hne)⟩

set_option maxRecDepth 100000 in
set_option maxHeartbeats 1000000 in
theorem drawAny_any (g : Nat) (A : Option Addr) (n c : Nat) (w : World) (hC : Cur w g A n c) :
   Calls Tryz.prog 55 #[.pointer (some ⟨g, 0, none⟩)] w (DrawnL g A n c 41 w) := by
 have HC := Lib.hid hC
 have hlt := hC.lt
 clear hC
 go_enter Tryz.func55, Tryz.ntmps55
 go_wp2_with fail
 refine (draw_any g A n c _ HC.out).mono ?_
 rintro e w1 ⟨A1, c1, zs, rfl, ho, hz, hc, hg⟩
 have HC1 := Lib.hid hc
 have HG1 := Lib.hid hg
 have HO1 := Lib.hid ho
 generalize hl : zs.length = l at *
 have HLL := Lib.hid hl
 clear hc hg ho hl
 go_wp2_with fail
 refine (once_any g A n c 6 _ HC1.out).mono ?_
 rintro e w2 ⟨b, rfl, hc, hg⟩
 have HC2 := Lib.hid hc
 have HG2 := Lib.hid (grown_trans HG1.out hg)
 have HO2 := Lib.hid (own_far HO1.out hg (fun b e => by have := (HO1.out.lt b e).1; simp; omega))
 clear hc hg HC1 HG1 HO1
 by_cases hgo : b = true ∧ 0 < l
 · obtain ⟨rfl, hl0⟩ := hgo
   obtain ⟨bb, rfl, hbb, hbl⟩ := own_at HO2.out hl0
   go_wp2_with fail
   refine (below_any g A n c l _ HC2.out).mono ?_
   rintro e w3 ⟨r, rfl, ⟨_, hr⟩, hc, hg⟩
   obtain ⟨hr1, hr2⟩ := hr (by omega)
   obtain ⟨i, rfl⟩ := Int.eq_ofNat_of_zero_le hr1
   have hil : i < l := by omega
   have HC3 := Lib.hid hc
   have HG3 := Lib.hid (grown_trans HG2.out hg)
   have HO3 := Lib.hid (own_far HO2.out hg (fun b e => by have := (HO2.out.lt b e).1; simp; omega))
   clear hc hg HC2 HG2 HO2 hr hr1 hr2 hbl
   go_wp2_with fail
   refine (below_any g A n c 4 _ HC3.out).mono ?_
   rintro e w4 ⟨r, rfl, ⟨_, hr⟩, hc, hg⟩
   obtain ⟨hr1, hr2⟩ := hr (by omega)
   have HC4 := Lib.hid hc
   have HG4 := Lib.hid (grown_trans HG3.out hg)
   have HO4 := Lib.hid (own_far HO3.out hg (fun b e => by have := (HO3.out.lt b e).1; simp; omega))
   clear hc hg HC3 HG3 HO3 hr
   have hcase : r = 0 ∨ r = 1 ∨ r = 2 ∨ r = 3 := by omega
   clear hr1 hr2
   rcases hcase with rfl | rfl | rfl | rfl
   · go_wp2_with fail
     refine (num_any g A n c 99 _ HC4.out (by omega) (by omega)).mono ?_
     rintro e w5 ⟨x, rfl, _, hc, hg⟩
     have HC5 := Lib.hid hc
     have HG5 := Lib.hid (grown_trans HG4.out hg)
     have ho := own_far HO4.out hg (fun b e => by have := (HO4.out.lt b e).1; simp; omega)
     have f1 : w5.frozen? ⟨bb, i * 2, none⟩ = false := ho.frozenAt _
     have d1 : w5.cell? ⟨bb, i * 2, none⟩ = some (jI jZ (kAt zs i)) := (ho.cellAt (i * 2) (by omega)).trans (PL_fst _ _ (by have := HLL.out; omega))
     have HO5 := Lib.hid ho
     clear hc hg HC4 HG4 HO4 ho
     go_wp2
     go_ret
     have hs := HO5.out.stored (i * 2) (jI jZ x)
     rw [PL_set_fst _ _ _ (by have := HLL.out; omega)] at hs
     have hll : (zs.set i (x, vAt zs i)).length = l := by have := HLL.out; simp; omega
     exact ⟨some ⟨bb, 0, none⟩, c1, zs.set i (x, vAt zs i), by rw [hll]; rfl, by rw [hll]; exact hs.1, by omega, HC5.out.grown hs.2 (fun k e => by simp at e; omega), grown_past HG5.out hs.2 (fun k e => by simp at e; omega)⟩
   · go_wp2_with fail
     refine (num_any g A n c 999 _ HC4.out (by omega) (by omega)).mono ?_
     rintro e w5 ⟨x, rfl, _, hc, hg⟩
     have HC5 := Lib.hid hc
     have HG5 := Lib.hid (grown_trans HG4.out hg)
     have ho := own_far HO4.out hg (fun b e => by have := (HO4.out.lt b e).1; simp; omega)
     have f1 : w5.frozen? ⟨bb, i * 2 + 1, none⟩ = false := ho.frozenAt _
     have d1 : w5.cell? ⟨bb, i * 2 + 1, none⟩ = some (jI jZ (vAt zs i)) := (ho.cellAt (i * 2 + 1) (by omega)).trans (PL_snd _ _ (by have := HLL.out; omega))
     have HO5 := Lib.hid ho
     clear hc hg HC4 HG4 HO4 ho
     go_wp2
     go_ret
     have hs := HO5.out.stored (i * 2 + 1) (jI jZ x)
     rw [PL_set_snd _ _ _ (by have := HLL.out; omega)] at hs
     have hll : (zs.set i (kAt zs i, x)).length = l := by have := HLL.out; simp; omega
     exact ⟨some ⟨bb, 0, none⟩, c1, zs.set i (kAt zs i, x), by rw [hll]; rfl, by rw [hll]; exact hs.1, by omega, HC5.out.grown hs.2 (fun k e => by simp at e; omega), grown_past HG5.out hs.2 (fun k e => by simp at e; omega)⟩
   · have d1 : w4.cell? ⟨bb, i * 2, none⟩ = some (jI jZ (kAt zs i)) := (HO4.out.cellAt (i * 2) (by omega)).trans (PL_fst _ _ (by have := HLL.out; omega))
     have d2 : w4.cell? ⟨bb, i * 2 + 1, none⟩ = some (jI jZ (vAt zs i)) := (HO4.out.cellAt (i * 2 + 1) (by omega)).trans (PL_snd _ _ (by have := HLL.out; omega))
     have hs4 : w.heap.size ≤ w4.heap.size := HG4.out.size
     go_wp2_with (at_builtin; refine wpList_app rfl (.tmp 39) (.tmp 44) rfl w.heap.size _ _ _ rfl (HO4.out.alloc _) _ (some ⟨w4.heap.size, 0, none⟩) 1 1 [(kAt zs i, vAt zs i)] rfl (one_row w4 _ _ _) (by omega) (by simp; omega) ?_)
     intro v5 w5 o5 g5
     obtain ⟨A5, c5, rfl, _⟩ := RP.of_own o5
     have hg6 : w4.grownBy w5 (some bb) := grown_trans (World.grownBy_alloc w4 _ (some bb)) g5
     have HC5 := Lib.hid (HC4.out.grown hg6 (fun k e => by simp at e; omega))
     have HG5 := Lib.hid (grown_past HG4.out hg6 (fun k e => by simp at e; omega))
     have HO5 := Lib.hid o5
     have hll : (zs ++ [(kAt zs i, vAt zs i)]).length = l + 1 := by have := HLL.out; simp; omega
     have HLE := Lib.hid hll
     clear o5 g5 hg6 HC4 HG4 HO4 hll
     generalize zs ++ [(kAt zs i, vAt zs i)] = z2 at *
     go_wp2
     go_ret
     exact ⟨A5, c5, z2, by rw [HLE.out]; rfl, by rw [HLE.out]; exact HO5.out, by have := HLE.out; omega, HC5.out, HG5.out⟩
   · have hs4 : w.heap.size ≤ w4.heap.size := HG4.out.size
     have O5 := Lib.hid (own_base (empty_row w4) hs4)
     have C5 := Lib.hid (HC4.out.below ((Below.refl w4.heap.size w4).alloc (Nat.le_refl _) (.cells #[] 68)))
     have G5 := Lib.hid (grown_trans HG4.out (World.grownBy_alloc w4 (.cells #[] 68) (some g)))
     clear HC4 HG4 HO4 HLL
     go_wp2_with fail
     go_loopw [3, 5] (fun v i wr => ∃ (A' : Option Addr) (c' k : Nat) (z2 : List Pr), i = jI jZ k ∧ k ≤ 41 ∧ v = jS A' k c' ∧ Hid (z2.length = k) ∧ Hid (wr.ownsRow w.heap.size 68 2 (jS A' k c') k (PL z2)) ∧ Hid (Cur wr g A n c) ∧ Hid (w.grownBy wr (some g))) (fun _ i _ => 42 - (intOf i).toNat)
     case atStart => exact ⟨_, _, 0, [], rfl, by omega, rfl, Lib.hid rfl, O5, C5, G5⟩
     case round =>
       obtain ⟨A', c', k, z2, rfl, hk, rfl, hz2, ho, hcu, hgr⟩ := hrel
       clear O5 C5 G5
       go_wp2_with fail
       refine (below_any g A n c 2 _ hcu.out).mono ?_
       rintro e w5 ⟨q, rfl, ⟨_, hq⟩, hc5, hg5⟩
       obtain ⟨q0, q1⟩ := hq (by omega)
       have C6 := Lib.hid hc5
       have G6 := Lib.hid (grown_trans hgr.out hg5)
       have O6 := Lib.hid (own_far ho.out hg5 (fun b e => by have := (ho.out.lt b e).1; simp; omega))
       have hs5 : w.heap.size ≤ w5.heap.size := G6.out.size
       clear hc5 hg5 hcu hgr ho hq
       by_cases hlt2 : (k : Int) < 40 + q
       · have hk40 : k ≤ 40 := by omega
         go_wp2_with (at_builtin; refine wpList_app rfl (.tmp 56) (.tmp 60) rfl w.heap.size _ _ _ rfl (O6.out.alloc _) _ (some ⟨w5.heap.size, 0, none⟩) 1 1 [(2 * (k : Int), 0)] rfl (one_row w5 _ _ _) (by omega) (by simp; omega) ?_)
         intro v7 w7 o7 g7
         obtain ⟨A7, c7, rfl, _⟩ := RP.of_own o7
         have hrow : ∀ b, (Value.slice A' k c').ownBlock = some b → w.heap.size ≤ b := fun b e => (O6.out.lt b e).1
         have hg8 := grown_trans (World.grownBy_alloc w5 (.cells #[jI jZ (2 * (k : Int)), jI jZ 0] 68) (Value.slice A' k c').ownBlock) g7
         have C8 := Lib.hid (C6.out.grown hg8 (fun b e => by have := hrow b e; omega))
         have G8 := Lib.hid (grown_past G6.out hg8 hrow)
         have O8 := Lib.hid o7
         have L8 : Hid ((z2 ++ [(2 * (k : Int), 0)]).length = k + 1) := Lib.hid (by have := hz2.out; simp; omega)
         clear o7 g7 hg8 hrow C6 G6 O6
         go_wp2
         go_roundw
         case rel => exact ⟨A7, c7, k + 1, _, by go_num, by omega, rfl, L8, O8, C8, G8⟩
         case measure => simp [intOf]; omega
       · go_wp2
         go_ret
         exact ⟨A', c', z2, by rw [hz2.out]; rfl, by rw [hz2.out]; exact O6.out, by have := hz2.out; omega, C6.out, G6.out⟩
 · rcases Bool.eq_false_or_eq_true b with hb | hb
   · subst hb
     have hl0 : l = 0 := by
       rcases Nat.eq_zero_or_pos l with h | h
       · exact h
       · exact absurd ⟨rfl, h⟩ hgo
     have HL0 := Lib.hid hl0
     have g1 : decide (0 < l) = false := by simp [hl0]
     clear hl0 hgo
     go_wp2
     go_ret
     exact ⟨A1, c1, zs, by rw [HLL.out]; rfl, by rw [HLL.out]; exact HO2.out, by have := HLL.out; omega, HC2.out, HG2.out⟩
   · subst hb
     clear hgo
     go_wp2
     go_ret
     exact ⟨A1, c1, zs, by rw [HLL.out]; rfl, by rw [HLL.out]; exact HO2.out, by have := HLL.out; omega, HC2.out, HG2.out⟩
end Go.Proofs.YtpffkhjegpddbaaGreat
namespace Go.Proofs.YtpffkhjegpddbaaGreat
open Go.RowKit

theorem big_any (A : Option Addr) (n c : Nat) (w : World) (hn : n ≤ 9223372036854775807) :
   Calls Tryz.prog 4 #[jS A n c] w fun e w' => e = .returned (.bool (decide (4096 < n))) ∧ w = w' := by
 by_cases h : 4096 < n
 · rw [decide_eq_true h]
   go_enter Tryz.func4, Tryz.ntmps4
   go_wp2
   go_ret
   exact ⟨ret_bool (by simp; omega), rfl⟩
 · rw [decide_eq_false h]
   go_enter Tryz.func4, Tryz.ntmps4
   go_wp2
   go_ret
   exact ⟨ret_bool (by simp; omega), rfl⟩

theorem like_yes (A B : Option Addr) (n c d : Nat) (zs : List Pr) (w : World) (h : RP w w.heap.size A n zs) (h' : RP w w.heap.size B n zs) (hn : n ≤ 1048576) :
   Calls Tryz.prog 44 #[jS A n c, jS B n d] w fun e w' => e = .returned (.bool true) ∧ Below w.heap.size w w' := by
 have HH := Lib.hid h
 have HH' := Lib.hid h'
 clear h h'
 go_enter Tryz.func44, Tryz.ntmps44
 go_wp2
 go_loopw [5] (fun i wr => ∃ k : Nat, i = jI jZ k ∧ k ≤ n ∧ Hid (Below w.heap.size w wr)) (fun i _ => n - (intOf i).toNat)
 case atStart => exact ⟨0, rfl, by omega, Lib.hid (Below.refl _ _)⟩
 case round =>
   obtain ⟨k, rfl, hk, hbw⟩ := hrel
   by_cases hlt : k < n
   · obtain ⟨b, off, rfl, hb, hc⟩ := HH.out.2 (by omega)
     obtain ⟨b', off', rfl, hb', hc'⟩ := HH'.out.2 (by omega)
     have c1 := Later.of_cell (hc k hlt).1 hbw.out hb
     have c2 := Later.of_cell (hc k hlt).2 hbw.out hb
     have c3 := Later.of_cell (hc' k hlt).1 hbw.out hb'
     have c4 := Later.of_cell (hc' k hlt).2 hbw.out hb'
     clear hc hc'
     go_wp2
     refine wp_region_later (by kernel_rfl) (by kernel_rfl) ?_
     repeat (go_big_quiet_step (fail))
     refine wpQuiet_nil ?_
     intro _ hw'
     obtain ⟨s, rfl⟩ := hw'
     go_wp2
     go_roundw
     case rel => exact ⟨k + 1, by go_num, by omega, Lib.hid (s.below_of hbw.out)⟩
     case measure => simp [intOf]; omega
   · go_wp2
     go_ret
     exact ⟨rfl, hbw.out⟩
end Go.Proofs.YtpffkhjegpddbaaGreat

/- The walks of the model's NewTree, l3First, l3Row, RowOf. -/
import Derived.Test.YtjookicpmjmdhaaQ06
import Derived.Test.YtjookicpmjmdhaaQ05
import Derived.Deep.LoopGhost
open Go.Value renaming int → jI, slice → jS
open Go.IntKind renaming i64 → jZ
namespace Go.Proofs.Ytjookicpmjmdhaa
open Go.RowKit

def newNd : Nd := ⟨0, [], -1, -1, 0⟩

theorem sNewTree_any (w : World) :
   Calls Try.prog 73 #[] w fun e w' => ∃ A c F, e = .returned (.agg #[jI jZ 0, jS A [newNd].length c]) ∧ OwnS w' (jS A [newNd].length c) [newNd] F ∧ Fresh F w w' ∧ Below w.heap.size w w' := by
 go_enter Try.func73, Try.ntmps73
 go_wp2
 have hb : Below w.heap.size w ((w.alloc (Obj.cells #[jI jZ 0, jS (some ⟨w.heap.size + 1, 0, none⟩) 1 1] 77)).alloc (Obj.cells #[jI jZ 0, jS none 0 0, jI jZ (-1), jI jZ (-1), jI jZ 0] 101)) := ((Below.refl _ _).alloc (Nat.le_refl _) _).alloc (by simp) _
 have ho := World.ownsRow_lit (base := 0) (e := 101) (size := 5) (w.alloc (Obj.cells #[jI jZ 0, jS (some ⟨w.heap.size + 1, 0, none⟩) 1 1] 77)) #[jI jZ 0, jS none 0 0, jI jZ (-1), jI jZ (-1), jI jZ 0] 1 (Nat.zero_le _) (by unfold maxLen; omega) rfl
 have hs : (w.alloc (Obj.cells #[jI jZ 0, jS (some ⟨w.heap.size + 1, 0, none⟩) 1 1] 77)).heap.size = w.heap.size + 1 := by simp
 rw [hs] at ho
 refine bodyPost_ret (v := .agg #[jI jZ 0, jS (some ⟨w.heap.size + 1, 0, none⟩) 1 1]) (by simp [results, Try.results73, go_sem]) rfl ⟨some ⟨w.heap.size + 1, 0, none⟩, 1, fun k => k = w.heap.size + 1, rfl, ?_, ?_, hb⟩
 · refine ⟨[[jI jZ 0, jS none 0 0, jI jZ (-1), jI jZ (-1), jI jZ 0]], fun _ _ => False, ho, rfl, fun i hi => ?_, fun i hi k hk => absurd hk id, fun i j hi hj hij k hk => absurd hk id, fun k hk => by simpa [Value.ownBlock] using hk.symm⟩
   obtain rfl : i = 0 := by simpa using hi
   exact ⟨jS none 0 0, rfl, World.ownsRow_nil _ _ _ _, fun k hk => by simp [Value.ownBlock] at hk⟩
 · intro k hk
   subst hk
   exact ⟨by omega, by simp⟩


def lvAt (xs : List Nd) (i : Nat) : Int := (ndAt xs i).lv
def kid0 (xs : List Nd) (i : Nat) : Nat := (vAt (ndAt xs i).ps 0).toNat
structure Right (n : Nat) (r : Int) (xs : List Nd) : Prop where
 len : xs.length = n
 pos : 1 ≤ n
 most : n ≤ 40
 root : 0 ≤ r ∧ r < n
 good : ∀ i, i < n → nodeOk (ndAt xs i) = true ∧ (ndAt xs i).ri < n ∧ (0 < (ndAt xs i).lv → ∀ j, j < (ndAt xs i).ps.length → 0 ≤ vAt (ndAt xs i).ps j ∧ vAt (ndAt xs i).ps j < n)
theorem hasB_iff (n : Nat) (x : Int) : hasB n x = true ↔ (0 ≤ x ∧ x < n) := by
 unfold hasB inB
 simp only [decide_eq_true_eq]
 omega
theorem right_of {r : Int} {xs : List Nd} (h : treeOk r xs = true) : Right xs.length r xs := by
 obtain ⟨h1, h2, h3, h4⟩ := (treeOk_iff r xs).1 h
 refine ⟨rfl, h1, h2, (hasB_iff _ _).1 h3, fun i hi => ?_⟩
 have hg := h4 i hi
 unfold ndGood at hg
 simp only [Bool.and_eq_true, Bool.or_eq_true, decide_eq_true_eq, List.all_eq_true, List.mem_range] at hg
 refine ⟨hg.1.1, hg.1.2, fun hl j hj => ?_⟩
 rcases hg.2 with h' | h'
 · omega
 · exact (hasB_iff _ _).1 (h' j hj)
theorem Right.lv {n : Nat} {r : Int} {xs : List Nd} (h : Right n r xs) (i : Nat) (hi : i < n) : 0 ≤ lvAt xs i ∧ lvAt xs i ≤ 6 := by
 have := (h.good i hi).1
 unfold nodeOk inB at this
 simp only [Bool.and_eq_true, decide_eq_true_eq] at this
 exact this.1.1.1.1.1
theorem Right.kid {n : Nat} {r : Int} {xs : List Nd} (h : Right n r xs) (i : Nat) (hi : i < n) (hl : 0 < lvAt xs i) : 0 < (ndAt xs i).ps.length ∧ kid0 xs i < n ∧ vAt (ndAt xs i).ps 0 = (kid0 xs i : Int) := by
 have h1 := h.good i hi
 have h2 := nodeOk_kids h1.1 hl
 have h3 := h1.2.2 hl 0 h2
 unfold kid0
 exact ⟨h2, by omega, by omega⟩
end Go.Proofs.Ytjookicpmjmdhaa
namespace Go.Proofs.Ytjookicpmjmdhaa
open Go.RowKit


def IL (xs : List Int) : List Value := xs.map fun x => jI jZ x
theorem IL_append (a b : List Int) : IL (a ++ b) = IL a ++ IL b := by simp [IL]
theorem IL_flat (xs : List Int) : IL xs = (xs.map fun x => [Value.int .i64 x]).flatten := by
 induction xs with
 | nil => rfl
 | cons x r ih => unfold IL at *; simp [ih]
theorem OwnS.of_ints {w : World} {base : Nat} {v : Value} {n : Nat} {xs : List Int} {F : FP} (h : w.ownsRow base 2 1 v n (IL xs)) (hF : ∀ k, v.ownBlock = some k → F k) : OwnS w v xs F := by
 have hl : xs.length = n := by have := h.1; unfold IL at this; simpa using this
 refine ⟨xs.map fun x => [Value.int .i64 x], fun _ _ => False, by rw [← IL_flat, hl]; exact own_zero h, by simp, fun i hi => ?_, fun i hi k hk => absurd hk id, fun i j hi hj hij k hk => absurd hk id, hF⟩
 show (xs.map fun x => [Value.int .i64 x]).getD i [] = [jI jZ (xs.getD i 0)]
 simp [hi]
theorem int_info : (Try.prog.info? 2).map (fun i => (i.zero, i.size, i.bytes)) = some (some (jI jZ 0), 1, 8) := by kernel_rfl

def riAt (xs : List Nd) (i : Nat) : Int := (ndAt xs i).ri
theorem Right.ri {n : Nat} {r : Int} {xs : List Nd} (h : Right n r xs) (i : Nat) (hi : i < n) : riAt xs i < n := (h.good i hi).2.1
end Go.Proofs.Ytjookicpmjmdhaa
namespace Go.Proofs.Ytjookicpmjmdhaa
open Go.RowKit


theorem task_is (x : Int) (w : World) : Calls Try.prog 106 #[jI jZ x] w fun e w' => e = .returned (.bool (inB x 0 5)) ∧ w = w' := by
 go_enter Try.func106, Try.ntmps106
 go_wp2_with (go_at_call 44; refine (in_any _ _ _ _).mono ?_; rintro e w' ⟨rfl, rfl⟩)
 go_ret
 exact ⟨rfl, rfl⟩

set_option maxHeartbeats 1000000 in
theorem copyN_any (x : Nd) (A : Option Addr) (n c : Nat) (w : World) (h : RP w w.heap.size A n x.ps) (hn : n ≤ 1048576) :
   Calls Try.prog 84 #[ndV x A n c] w fun e w' => ∃ v, e = .returned (.agg #[jI jZ x.lv, v, jI jZ x.hi, jI jZ x.ri, jI jZ x.ow]) ∧ w'.ownsRow w.heap.size 86 2 v n (PL x.ps) ∧ Below w.heap.size w w' := by
 obtain ⟨lv, zs, hi, ri, ow⟩ := x
 unfold ndV
 simp only at *
 obtain ⟨w0, hw0⟩ : ∃ w0, w0 = w.alloc (.cells #[jI jZ lv, jS A n c, jI jZ hi, jI jZ ri, jI jZ ow] 101) := ⟨_, rfl⟩
 have b0 : Below w.heap.size w w0 := by rw [hw0]; exact (Below.refl _ _).alloc (Nat.le_refl _) _
 have x0 : w0.heap[w.heap.size]? = some (.cells #[jI jZ lv, jS A n c, jI jZ hi, jI jZ ri, jI jZ ow] 101 (0, 0)) := by rw [hw0]; exact heap_alloc_new _ _
 have HH := Lib.hid (h.on b0)
 have B0 := Lib.hid b0
 have X0 := Lib.hid x0
 have HW := Lib.hid hw0
 clear h hw0 b0 x0
 obtain ⟨w1, hw1⟩ : ∃ w1, w1 = w0.alloc (.cells #[jI jZ 0, jS none 0 0, jI jZ 0, jI jZ 0, jI jZ 0] 101) := ⟨_, rfl⟩
 obtain ⟨w2, hw2⟩ : ∃ w2, w2 = w1.alloc (.cells #[] 86) := ⟨_, rfl⟩
 have b1 : Below w0.heap.size w0 w1 := by rw [hw1]; exact (Below.refl _ _).alloc (Nat.le_refl _) _
 have b2 : Below w1.heap.size w1 w2 := by rw [hw2]; exact (Below.refl _ _).alloc (Nat.le_refl _) _
 have hs0 : w0.heap.size = w.heap.size + 1 := by rw [HW.out]; simp
 have hs1 : w1.heap.size = w.heap.size + 1 + 1 := by rw [hw1]; simp; omega
 have x1 : w1.heap[w.heap.size + 1]? = some (.cells #[jI jZ 0, jS none 0 0, jI jZ 0, jI jZ 0, jI jZ 0] 101 (0, 0)) := by rw [hw1, ← hs0]; exact heap_alloc_new _ _
 have o2 : w2.ownsRow (w.heap.size + 1 + 1) 86 2 (jS (some ⟨w.heap.size + 1 + 1, 0, none⟩) 0 0) 0 (PL []) := by
   rw [hw2, ← hs1]; exact empty_row w1
 have HH2 := Lib.hid ((HH.out.on (bel_on b1 b2)))
 have X02 := Lib.hid (box_on b2 (box_on b1 X0.out))
 have X12 := Lib.hid (box_on b2 x1)
 have O2 := Lib.hid o2
 have S2 : Hid (w.heap.size + 1 + 1 ≤ w2.heap.size) := Lib.hid (by have := b2.size; omega)
 have B2 := Lib.hid (bel_on B0.out (bel_on b1 b2))
 have E2 : Hid (w2 = ((w.alloc (.cells #[jI jZ lv, jS A n c, jI jZ hi, jI jZ ri, jI jZ ow] 101)).alloc (.cells #[jI jZ 0, jS none 0 0, jI jZ 0, jI jZ 0, jI jZ 0] 101)).alloc (.cells #[] 86)) := Lib.hid (by rw [hw2, hw1, HW.out])
 clear hw1 hw2 b1 b2 hs0 hs1 x1 o2 HH X0
 go_enter Try.func84, Try.ntmps84
 go_wp2_with (at_builtin; rw [← E2.out]; refine wpList_app rfl (.tmp 3) (.tmp 5) rfl (w.heap.size + 1 + 1) _ 0 [] rfl O2.out _ A n c zs rfl HH2.out (by omega) S2.out ?_)
 intro v3 w3 o3 g3
 obtain ⟨A3, cc, rfl, _, _⟩ := own_shape o3
 have hl0 : w.heap.size < w2.heap.size := by have := S2.out; omega
 have hl1 : w.heap.size + 1 < w2.heap.size := by have := S2.out; omega
 have k0 := (g3.block _ hl0 (by simp [Value.ownBlock]; omega)).trans X02.out
 have k1 := (g3.block _ hl1 (by simp [Value.ownBlock])).trans X12.out
 have p0 : w3.cell? ⟨w.heap.size, 0, none⟩ = some (jI jZ lv) := by rw [cell_of_row w3 _ 0 _ _ _ k0]; rfl
 have p1 : w3.cell? ⟨w.heap.size, 1, none⟩ = some (.slice A n c) := by rw [cell_of_row w3 _ 1 _ _ _ k0]; rfl
 have p2 : w3.cell? ⟨w.heap.size, 2, none⟩ = some (jI jZ hi) := by rw [cell_of_row w3 _ 2 _ _ _ k0]; rfl
 have p3 : w3.cell? ⟨w.heap.size, 3, none⟩ = some (jI jZ ri) := by rw [cell_of_row w3 _ 3 _ _ _ k0]; rfl
 have p4 : w3.cell? ⟨w.heap.size, 4, none⟩ = some (jI jZ ow) := by rw [cell_of_row w3 _ 4 _ _ _ k0]; rfl
 have q0 : w3.cell? ⟨w.heap.size + 1, 0, none⟩ = some (jI jZ 0) := by rw [cell_of_row w3 _ 0 _ _ _ k1]; rfl
 have q1 : w3.cell? ⟨w.heap.size + 1, 1, none⟩ = some (.slice none 0 0) := by rw [cell_of_row w3 _ 1 _ _ _ k1]; rfl
 have q2 : w3.cell? ⟨w.heap.size + 1, 2, none⟩ = some (jI jZ 0) := by rw [cell_of_row w3 _ 2 _ _ _ k1]; rfl
 have q3 : w3.cell? ⟨w.heap.size + 1, 3, none⟩ = some (jI jZ 0) := by rw [cell_of_row w3 _ 3 _ _ _ k1]; rfl
 have q4 : w3.cell? ⟨w.heap.size + 1, 4, none⟩ = some (jI jZ 0) := by rw [cell_of_row w3 _ 4 _ _ _ k1]; rfl
 have f0 : ∀ i, w3.frozen? ⟨w.heap.size, i, none⟩ = false := fun i => frozen_of_row w3 _ i _ _ k0
 have f1 : ∀ i, w3.frozen? ⟨w.heap.size + 1, i, none⟩ = false := fun i => frozen_of_row w3 _ i _ _ k1
 have O3 := Lib.hid o3
 have B3 := Lib.hid (B2.out.grown g3 B2.out.size (fun k hk => by simp [Value.ownBlock] at hk; omega))
 have K1 := Lib.hid k1
 clear o3 g3 k0 k1 hl0 hl1
 go_wp2
 have kz := (Below.heap_setCell w3 ⟨w.heap.size, 1, none⟩ (jS A3 n cc) (w.heap.size + 1) (by simp)).trans K1.out
 have s0 := heap_setCell_same _ (w.heap.size + 1) 0 _ _ (jI jZ lv) kz
 have s1 := heap_setCell_same _ (w.heap.size + 1) 1 _ _ (jS A3 n cc) s0
 have s2 := heap_setCell_same _ (w.heap.size + 1) 2 _ _ (jI jZ hi) s1
 have s3 := heap_setCell_same _ (w.heap.size + 1) 3 _ _ (jI jZ ri) s2
 have s4 := heap_setCell_same _ (w.heap.size + 1) 4 _ _ (jI jZ ow) s3
 have B5 : Below w.heap.size w ((((((w3.setCell ⟨w.heap.size, 1, none⟩ (jS A3 n cc)).setCell ⟨w.heap.size + 1, 0, none⟩ (jI jZ lv)).setCell ⟨w.heap.size + 1, 1, none⟩ (jS A3 n cc)).setCell ⟨w.heap.size + 1, 2, none⟩ (jI jZ hi)).setCell ⟨w.heap.size + 1, 3, none⟩ (jI jZ ri)).setCell ⟨w.heap.size + 1, 4, none⟩ (jI jZ ow)) := by
   repeat (refine Below.setCell ?_ (by simp; try omega) _)
   exact B3.out
 have O5 : World.ownsRow ((((((w3.setCell ⟨w.heap.size, 1, none⟩ (jS A3 n cc)).setCell ⟨w.heap.size + 1, 0, none⟩ (jI jZ lv)).setCell ⟨w.heap.size + 1, 1, none⟩ (jS A3 n cc)).setCell ⟨w.heap.size + 1, 2, none⟩ (jI jZ hi)).setCell ⟨w.heap.size + 1, 3, none⟩ (jI jZ ri)).setCell ⟨w.heap.size + 1, 4, none⟩ (jI jZ ow)) (w.heap.size + 1 + 1) 86 2 (jS A3 n cc) n (PL zs) := by
   repeat (refine ownsRow_setCell_below ?_ (by simp; try omega) _)
   exact O3.out
 generalize (((((w3.setCell ⟨w.heap.size, 1, none⟩ (jS A3 n cc)).setCell ⟨w.heap.size + 1, 0, none⟩ (jI jZ lv)).setCell ⟨w.heap.size + 1, 1, none⟩ (jS A3 n cc)).setCell ⟨w.heap.size + 1, 2, none⟩ (jI jZ hi)).setCell ⟨w.heap.size + 1, 3, none⟩ (jI jZ ri)).setCell ⟨w.heap.size + 1, 4, none⟩ (jI jZ ow) = w9 at *
 have c0 : w9.cell? ⟨w.heap.size + 1, 0, none⟩ = some (jI jZ lv) := by rw [cell_of_row w9 _ 0 _ _ _ s4]; rfl
 have c1 : w9.cell? ⟨w.heap.size + 1, 1, none⟩ = some (.slice A3 n cc) := by rw [cell_of_row w9 _ 1 _ _ _ s4]; rfl
 have c2 : w9.cell? ⟨w.heap.size + 1, 2, none⟩ = some (jI jZ hi) := by rw [cell_of_row w9 _ 2 _ _ _ s4]; rfl
 have c3 : w9.cell? ⟨w.heap.size + 1, 3, none⟩ = some (jI jZ ri) := by rw [cell_of_row w9 _ 3 _ _ _ s4]; rfl
 have c4 : w9.cell? ⟨w.heap.size + 1, 4, none⟩ = some (jI jZ ow) := by rw [cell_of_row w9 _ 4 _ _ _ s4]; rfl
 refine bodyPost_ret (v := .agg #[jI jZ lv, jS A3 n cc, jI jZ hi, jI jZ ri, jI jZ ow]) (by simp [results, Try.results84, go_sem, c0, c1, c2, c3, c4]) rfl ⟨_, rfl, own_base O5 (by omega), B5⟩
end Go.Proofs.Ytjookicpmjmdhaa

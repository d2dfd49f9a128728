/- The walks of the model's NewTree, l3First, l3Row, RowOf. -/
import Derived.Test.YtjookicpmjmdhaaT4
namespace Go.Proofs.Ytjookicpmjmdhaa
open Go.RowKit

def newNd : Nd := ⟨0, [], -1, -1, 0⟩

theorem sNewTree_any (w : World) :
    Calls Try.prog 73 #[] w fun e w' => ∃ A c F, e = .returned (.agg #[.int .i64 0, .slice A [newNd].length c]) ∧ OwnS w' (.slice A [newNd].length c) [newNd] F ∧ Fresh F w w' ∧ Below w.heap.size w w' := by
  go_enter Try.func73, Try.ntmps73
  go_wp2
  have hb : Below w.heap.size w ((w.alloc (Obj.cells #[.int .i64 0, .slice (some ⟨w.heap.size + 1, 0, none⟩) 1 1] 77)).alloc (Obj.cells #[.int .i64 0, .slice none 0 0, .int .i64 (-1), .int .i64 (-1), .int .i64 0] 101)) := ((Below.refl _ _).alloc (Nat.le_refl _) _).alloc (by simp) _
  have ho := World.ownsRow_lit (base := 0) (e := 101) (size := 5) (w.alloc (Obj.cells #[.int .i64 0, .slice (some ⟨w.heap.size + 1, 0, none⟩) 1 1] 77)) #[.int .i64 0, .slice none 0 0, .int .i64 (-1), .int .i64 (-1), .int .i64 0] 1 (Nat.zero_le _) (by unfold maxLen; omega) rfl
  have hs : (w.alloc (Obj.cells #[.int .i64 0, .slice (some ⟨w.heap.size + 1, 0, none⟩) 1 1] 77)).heap.size = w.heap.size + 1 := by simp
  rw [hs] at ho
  refine bodyPost_ret (v := .agg #[.int .i64 0, .slice (some ⟨w.heap.size + 1, 0, none⟩) 1 1]) (by simp [results, Try.results73, go_sem]) rfl ⟨some ⟨w.heap.size + 1, 0, none⟩, 1, fun k => k = w.heap.size + 1, rfl, ?_, ?_, hb⟩
  · refine ⟨[[.int .i64 0, .slice none 0 0, .int .i64 (-1), .int .i64 (-1), .int .i64 0]], fun _ _ => False, ho, rfl, fun i hi => ?_, fun i hi k hk => absurd hk id, fun i j hi hj hij k hk => absurd hk id, fun k hk => by simpa [Value.ownBlock] using hk.symm⟩
    obtain rfl : i = 0 := by simpa using hi
    exact ⟨.slice none 0 0, rfl, World.ownsRow_nil _ _ _ _, fun k hk => by simp [Value.ownBlock] at hk⟩
  · intro k hk
    subst hk
    exact ⟨by omega, by simp⟩

/-! ### The first node of a level -/

def lvAt (xs : List Nd) (i : Nat) : Int := (ndAt xs i).lv
/-- Where the first pair of a node leads to. -/
def kid0 (xs : List Nd) (i : Nat) : Nat := (vAt (ndAt xs i).ps 0).toNat
def firstF (xs : List Nd) (lev : Int) : Nat → Nat → Int
  | 0, _ => -1
  | f + 1, a => if lev < lvAt xs a ∧ 0 ≤ lev then (if lvAt xs (kid0 xs a) = lvAt xs a - 1 then firstF xs lev f (kid0 xs a) else -1) else (if lvAt xs a = lev then (a : Int) else -1)
def firstT (r : Int) (xs : List Nd) (lev : Int) : Int := firstF xs lev 7 r.toNat

/-- Of a right tree: its nodes are right, what they lead to is there. -/
structure Right (n : Nat) (r : Int) (xs : List Nd) : Prop where
  len : xs.length = n
  pos : 1 ≤ n
  most : n ≤ 40
  root : 0 ≤ r ∧ r < n
  good : ∀ i, i < n → nodeOk (ndAt xs i) = true ∧ (ndAt xs i).ri < n ∧ (0 < (ndAt xs i).lv → ∀ j, j < (ndAt xs i).ps.length → 0 ≤ vAt (ndAt xs i).ps j ∧ vAt (ndAt xs i).ps j < n)
theorem hasB_iff (n : Nat) (x : Int) : hasB n x = true ↔ (0 ≤ x ∧ x < n) := by
  unfold hasB inB
  simp only [decide_eq_true_eq]
  omega
theorem right_of {r : Int} {xs : List Nd} (h : treeOk r xs = true) : Right xs.length r xs := by
  obtain ⟨h1, h2, h3, h4⟩ := (treeOk_iff r xs).1 h
  refine ⟨rfl, h1, h2, (hasB_iff _ _).1 h3, fun i hi => ?_⟩
  have hg := h4 i hi
  unfold ndGood at hg
  simp only [Bool.and_eq_true, Bool.or_eq_true, decide_eq_true_eq, List.all_eq_true, List.mem_range] at hg
  refine ⟨hg.1.1, hg.1.2, fun hl j hj => ?_⟩
  rcases hg.2 with h' | h'
  · omega
  · exact (hasB_iff _ _).1 (h' j hj)
theorem Right.lv {n : Nat} {r : Int} {xs : List Nd} (h : Right n r xs) (i : Nat) (hi : i < n) : 0 ≤ lvAt xs i ∧ lvAt xs i ≤ 6 := by
  have := (h.good i hi).1
  unfold nodeOk inB at this
  simp only [Bool.and_eq_true, decide_eq_true_eq] at this
  exact this.1.1.1.1.1
theorem Right.kid {n : Nat} {r : Int} {xs : List Nd} (h : Right n r xs) (i : Nat) (hi : i < n) (hl : 0 < lvAt xs i) : 0 < (ndAt xs i).ps.length ∧ kid0 xs i < n ∧ vAt (ndAt xs i).ps 0 = (kid0 xs i : Int) := by
  have h1 := h.good i hi
  have h2 := nodeOk_kids h1.1 hl
  have h3 := h1.2.2 hl 0 h2
  unfold kid0
  exact ⟨h2, by omega, by omega⟩
theorem firstF_none (xs : List Nd) (lev : Int) (f a : Nat) (h : lev < lvAt xs a ∧ 0 ≤ lev) (hk : lvAt xs (kid0 xs a) ≠ lvAt xs a - 1) : firstF xs lev (f + 1) a = -1 := by
  simp only [firstF]; rw [if_pos h, if_neg hk]
theorem firstF_down (xs : List Nd) (lev : Int) (f a : Nat) (h : lev < lvAt xs a ∧ 0 ≤ lev) (hk : lvAt xs (kid0 xs a) = lvAt xs a - 1) : firstF xs lev (f + 1) a = firstF xs lev f (kid0 xs a) := by
  simp only [firstF]; rw [if_pos h, if_pos hk]
theorem firstF_here (xs : List Nd) (lev : Int) (f a : Nat) (h : ¬ (lev < lvAt xs a ∧ 0 ≤ lev)) : firstF xs lev (f + 1) a = if lvAt xs a = lev then (a : Int) else -1 := by
  simp only [firstF]; rw [if_neg h]

end Go.Proofs.Ytjookicpmjmdhaa

/- The walks of toNodeS, toTree, eqNodeS, eqTree. -/
import Derived.Test.YtjookicpmjmdhaaT1
namespace Go.Proofs.Ytjookicpmjmdhaa
open Go.RowKit

theorem node_info : (Try.prog.info? 101).map (fun i => (i.zero, i.size, i.bytes)) = some (some (.agg #[.int .i64 0, .slice none 0 0, .int .i64 0, .int .i64 0, .int .i64 0]), 5, 56) := by kernel_rfl

def zNd : Nd := ⟨0, [], 0, 0, 0⟩
/-- k nodes of xs, the rest noughts. -/
def ndTo (xs : List Nd) (k : Nat) : List Nd := xs.take k ++ List.replicate (xs.length - k) zNd
theorem ndTo_zero (xs : List Nd) : ndTo xs 0 = List.replicate xs.length zNd := by simp [ndTo]
theorem ndTo_all (xs : List Nd) : ndTo xs xs.length = xs := by simp [ndTo]
theorem ndTo_length (xs : List Nd) (k : Nat) : (ndTo xs k).length = xs.length := by unfold ndTo; simp; omega
theorem ndTo_next (xs : List Nd) (k : Nat) (hk : k < xs.length) : (ndTo xs k).set k (ndAt xs k) = ndTo xs (k + 1) := by
  unfold ndTo
  have e : xs.take (k + 1) = xs.take k ++ [ndAt xs k] := by
    rw [ndAt_eq _ _ hk, List.take_succ_eq_append_getElem hk]
  rw [e, List.set_append_right _ _ (by simp; omega), List.length_take, Nat.min_eq_left (by omega), Nat.sub_self,
    show xs.length - k = xs.length - (k + 1) + 1 from by omega, List.replicate_succ, List.set_cons_zero, List.append_assoc]
  rfl

theorem made_nodes (n : Nat) : (madeCells #[Value.int .i64 0, .slice none 0 0, .int .i64 0, .int .i64 0, .int .i64 0] (n * 5)).toList = (List.replicate n [Value.int .i64 0, .slice none 0 0, .int .i64 0, .int .i64 0, .int .i64 0]).flatten := by
  apply List.ext_getElem?
  intro j
  by_cases hj : j < n * 5
  · obtain ⟨q, r, hr, rfl⟩ : ∃ q r, r < 5 ∧ j = q * 5 + r := ⟨j / 5, j % 5, by omega, by omega⟩
    have hq : q < n := by omega
    obtain ⟨e1, e2⟩ := flat_split (s := 5) (css := List.replicate n [Value.int .i64 0, .slice none 0 0, .int .i64 0, .int .i64 0, .int .i64 0]) (by
      intro c hc
      rw [List.eq_of_mem_replicate hc]; rfl) q (by simpa using hq)
    have hc : (List.replicate n [Value.int .i64 0, .slice none 0 0, .int .i64 0, .int .i64 0, .int .i64 0]).getD q [] = [Value.int .i64 0, .slice none 0 0, .int .i64 0, .int .i64 0, .int .i64 0] := by
      simp [hq]
    have hm := mid_get (post := (List.drop (q + 1) (List.replicate n [Value.int .i64 0, .slice none 0 0, .int .i64 0, .int .i64 0, .int .i64 0])).flatten) (cs := [Value.int .i64 0, .slice none 0 0, .int .i64 0, .int .i64 0, .int .i64 0]) e2 (j := r) (by simpa using hr)
    rw [e1, hc, hm]
    have h5 : (q * 5 + r) % 5 = r := by omega
    have hr2 : (List.range (n * 5))[q * 5 + r]? = some (q * 5 + r) := by simp [hj]
    have h2 : r = 0 ∨ r = 1 ∨ r = 2 ∨ r = 3 ∨ r = 4 := by omega
    simp only [madeCells, Array.toList_map, Array.toList_range, List.getElem?_map, hr2, Option.map_some, List.size_toArray, List.length_cons, List.length_nil, h5]
    rcases h2 with rfl | rfl | rfl | rfl | rfl <;> rfl
  · have hl : (List.replicate n [Value.int .i64 0, .slice none 0 0, .int .i64 0, .int .i64 0, .int .i64 0]).flatten.length = n * 5 := by
      rw [flat_len (s := 5) (by intro c hc; rw [List.eq_of_mem_replicate hc]; rfl)]; simp
    rw [List.getElem?_eq_none (by simp [madeCells]; omega), List.getElem?_eq_none (by omega)]

/-- A row of noughts. -/
theorem OwnS.noughts {w : World} {v : Value} {n : Nat} {F : FP} (h : w.ownsRow 0 101 5 v n (List.replicate n [Value.int .i64 0, .slice none 0 0, .int .i64 0, .int .i64 0, .int .i64 0]).flatten) (hF : ∀ k, v.ownBlock = some k → F k) : OwnS w v (List.replicate n zNd) F := by
  refine ⟨List.replicate n [Value.int .i64 0, .slice none 0 0, .int .i64 0, .int .i64 0, .int .i64 0], fun _ _ => False, by rw [List.length_replicate]; exact h, by simp, fun i hi => ?_, fun i hi k hk => absurd hk id, fun i j hi hj hij k hk => absurd hk id, hF⟩
  have hi' : i < n := by simpa using hi
  have e1 : (List.replicate n [Value.int .i64 0, .slice none 0 0, .int .i64 0, .int .i64 0, .int .i64 0]).getD i [] = [Value.int .i64 0, .slice none 0 0, .int .i64 0, .int .i64 0, .int .i64 0] := by simp [hi']
  have e2 : (List.replicate n zNd).getD i encNd.dflt = zNd := by simp [hi']
  rw [e1, e2]
  exact ⟨.slice none 0 0, rfl, World.ownsRow_nil _ _ _ _, fun k hk => by simp [Value.ownBlock] at hk⟩

/-- What a call hands back that makes a list of nodes of its own. -/
def GivesNS (w : World) (xs : List Nd) (e : Ending) (w' : World) : Prop :=
  ∃ b F, e = .returned (.slice (some ⟨b, 0, none⟩) xs.length xs.length) ∧ OwnS w' (.slice (some ⟨b, 0, none⟩) xs.length xs.length) xs F ∧ Fresh F w w' ∧ Below w.heap.size w w'

/-- What a call hands back that makes a tree of its own. -/
def GivesT (w : World) (t : Tr) (e : Ending) (w' : World) : Prop := ∃ v F, e = .returned v ∧ OwnT w' v t F ∧ Fresh F w w' ∧ Below w.heap.size w w'

end Go.Proofs.Ytjookicpmjmdhaa

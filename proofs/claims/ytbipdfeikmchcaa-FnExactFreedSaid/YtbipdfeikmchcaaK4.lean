/- The walk of the library's Clone at nodes; what a copy of the nodes holds while their own lists are laid in. -/
import Derived.Test.YtbipdfeikmchcaaK3
namespace Go.Proofs.Ytbipdfeikmchcaa
open Go.RowKit

/-- The cells of a list of nodes that came in. -/
theorem RS.cells {w : World} {B n : Nat} {A : Option Addr} {xs : List Nd} (h : RS w B A n xs) (hn : 0 < n) :
    ∃ (css : List (List Value)) (b off : Nat), css.length = n ∧ (∀ i, i < n → encNd.Is w B (css.getD i []) (xs.getD i encNd.dflt)) ∧ A = some ⟨b, off, none⟩ ∧ b < B ∧ ∀ j u, css.flatten[j]? = some u → w.cell? ⟨b, off + j, none⟩ = some u := by
  obtain ⟨b, off, e, hb, hc⟩ := h.2 hn
  have hch : ∀ i : Fin n, ∃ cs, encNd.Is w B cs (xs.getD i encNd.dflt) ∧ ∀ j u, cs[j]? = some u → w.cell? ⟨b, off + i * 5 + j, none⟩ = some u := fun i => hc i i.2
  obtain ⟨F, hF⟩ := Classical.axiomOfChoice hch
  have hget : ∀ i (hi : i < n), (List.ofFn F).getD i [] = F ⟨i, hi⟩ := fun i hi => by
    simp [List.getD, hi]
  have hlen : ∀ c ∈ List.ofFn F, c.length = 5 := fun c hc => by
    rw [List.mem_ofFn] at hc
    obtain ⟨i, rfl⟩ := hc
    exact encNd.is_len (hF i).1
  refine ⟨List.ofFn F, b, off, by simp, fun i hi => by rw [hget i hi]; exact (hF ⟨i, hi⟩).1, e, hb, fun j u hu => ?_⟩
  have hj : j < (List.ofFn F).flatten.length := (List.getElem?_eq_some_iff.1 hu).1
  rw [flat_len hlen, List.length_ofFn] at hj
  have hi : j / 5 < n := by omega
  obtain ⟨e1, e2⟩ := flat_split hlen (j / 5) (by simpa using hi)
  have hcl : ((List.ofFn F).getD (j / 5) []).length = 5 := by rw [hget _ hi]; exact encNd.is_len (hF _).1
  have h3 : j / 5 * 5 + j % 5 = j := by omega
  have hm := mid_get (pre := ((List.ofFn F).take (j / 5)).flatten) (cs := (List.ofFn F).getD (j / 5) []) (post := ((List.ofFn F).drop (j / 5 + 1)).flatten) e2 (j := j % 5) (by rw [hcl]; omega)
  rw [← e1, h3] at hm
  rw [hm, hget _ hi] at hu
  have := (hF ⟨j / 5, hi⟩).2 (j % 5) u hu
  rwa [show off + j / 5 * 5 + j % 5 = off + j from by omega] at this

theorem cells_one {w : World} {B : Nat} {css : List (List Value)} {xs : List Nd} (h : ∀ i, i < css.length → encNd.Is w B (css.getD i []) (xs.getD i encNd.dflt)) : ∀ u ∈ css.flatten, u.oneCell' = true := by
  intro u hu
  obtain ⟨c, hc, hu⟩ := List.mem_flatten.1 hu
  obtain ⟨i, hi, rfl⟩ := List.getElem_of_mem hc
  obtain ⟨A, n, c, e, _⟩ := h i hi
  rw [show css.getD i [] = css[i] from by simp [hi]] at e
  rw [e] at hu
  simp only [List.mem_cons, List.not_mem_nil, or_false] at hu
  rcases hu with rfl | rfl | rfl | rfl | rfl <;> rfl

/-- A call that hands back the nodes in a row of its own, their lists as they lay. -/
def GivesN (w : World) (xs : List Nd) (n : Nat) (e : Ending) (w' : World) : Prop := ∃ (g cap : Nat) (css : List (List Value)), e = .returned (.slice (some ⟨g, 0, none⟩) n cap) ∧ css.length = n ∧ w'.ownsRow w.heap.size 48 5 (.slice (some ⟨g, 0, none⟩) n cap) n css.flatten ∧
  (∀ i, i < n → encNd.Is w w.heap.size (css.getD i []) (xs.getD i encNd.dflt)) ∧ Below w.heap.size w w'

theorem empty_rowN (w : World) : (w.alloc (.cells #[] 48)).ownsRow w.heap.size 48 5 (.slice (some ⟨w.heap.size, 0, none⟩) 0 0) 0 [] :=
  World.ownsRow_made w #[] 0 (Nat.le_refl _) (by unfold maxLen; omega) (by simp)

theorem cloneN_any (A : Option Addr) (n c : Nat) (xs : List Nd) (w : World) (h : RS w w.heap.size A n xs) (hn1 : 1 ≤ n) (hn : n ≤ 1048576) :
    Calls Try.prog 65 #[.slice A n c] w (GivesN w xs n) := by
  obtain ⟨css, b, off, hl, hi, rfl, hb, hc⟩ := h.cells hn1
  have HL := Lib.hid hl
  have HI := Lib.hid hi
  have HC := Lib.hid hc
  have HB := Lib.hid hb
  have H1 := Lib.hid (cells_one (fun i hi' => hi i (by omega)) : ∀ u ∈ css.flatten, u.oneCell' = true)
  have HF := Lib.hid (show css.flatten.length = n * 5 from by rw [flat_len (s := 5) (fun c hc' => by obtain ⟨i, hi', rfl⟩ := List.getElem_of_mem hc'; have h5 := encNd.is_len (hi i (by omega)); rw [show css.getD i [] = css[i] from by simp [hi']] at h5; exact h5), hl])
  clear h hl hi hc hb
  have hnil := fun (A : Option Addr) (w : World) => Lib.run_eql_slice_nil (P := Try.prog) w 27 48 A n c 0 0 Try.underlying27
  obtain ⟨i0, hi0, hz0, hz1, hz2⟩ := info_parts node_info
  have I0 := Lib.hid hi0
  have Z0 := Lib.hid hz0
  have Z1 := Lib.hid hz1
  have Z2 := Lib.hid hz2
  clear hi0 hz0 hz1 hz2
  have aa : Hid (∀ k, (⟨b, off, none⟩ : Addr).add k = ⟨b, off + k, none⟩) := Lib.hid (by intro k; unfold Addr.add; split <;> simp_all)
  go_enter Try.func65, Try.ntmps65
  go_wp2_with (at_builtin; refine wpList_append_own _ rfl (.tmp 5) (.tmp 6) 27 rfl w.heap.size 48 i0 _ 5 56 Try.underlying27 I0.out Z0.out Z1.out Z2.out rfl (by omega) (.slice (some ⟨w.heap.size, 0, none⟩) 0 0) 0 [] rfl (empty_rowN w) ⟨b, off, none⟩ n c css.flatten rfl HF.out (fun j u hu => by rw [aa.out, ((Below.refl _ _).alloc (Nat.le_refl _) _ : Below w.heap.size w _).cell HB.out]; exact HC.out j u hu) H1.out (by unfold maxLen; omega) (by omega) (by simp) ?_)
  intro v' w' hown hg _
  have HO := Lib.hid hown
  have HG := Lib.hid hg
  clear hown hg
  go_wp2
  go_ret
  have HO2 := HO.out
  obtain ⟨g, cap, rfl, _, hlt⟩ := HO2.form (by omega)
  refine ⟨g, cap, css, rfl, HL.out, HO2, HI.out, ?_⟩
  exact ((Below.refl _ _).alloc (Nat.le_refl _) _).grown HG.out (by simp) (by intro k hk; simp [Value.ownBlock] at hk; omega)
end Go.Proofs.Ytbipdfeikmchcaa

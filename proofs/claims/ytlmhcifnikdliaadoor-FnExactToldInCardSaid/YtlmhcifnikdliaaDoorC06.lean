/- The walks of the model's NodeOk as a whole, of Within and KidFor. -/
import Derived.Test.YtlmhcifnikdliaaDoorC05
import Derived.Test.YtlmhcifnikdliaaDoorC04
import Derived.WalkSpells
import Derived.WalkLawsBesides
namespace Go.Proofs.YtlmhcifnikdliaaDoor
open Go.RowKit

def ndV (x : Nd) (A : Option Addr) (n c : Nat) : Value := .agg #[.int .i64 x.lv, .slice A n c, .int .i64 x.hi, .int .i64 x.ri, .int .i64 x.ow]
theorem to_bool {P : Program} {f : FuncId} {args : Array Value} {w : World} {b b' : Bool} (e : b = b') (h : Calls P f args w fun e w' => e = .returned (.bool b) ∧ Below w.heap.size w w') : Calls P f args w fun e w' => e = .returned (.bool b') ∧ Below w.heap.size w w' := by subst e; exact h

theorem sNode_any (x : Nd) (A : Option Addr) (n c : Nat) (w : World) (h : RP w w.heap.size A n x.ps) (hn : n ≤ 1048576) :
    Calls Tryd.prog 35 #[ndV x A n c] w fun e w' => e = .returned (.bool (nodeOk x)) ∧ Below w.heap.size w w' := by
  have hl := h.1
  obtain ⟨lv, zs, hi, ri, ow⟩ := x
  simp only at h hl
  unfold ndV nodeOk
  simp only
  rcases Bool.eq_false_or_eq_true (inB lv 0 6) with h1 | h1
  · by_cases h2 : 4 < n
    · exact to_bool (by simp [h1]; omega) (nOk_fan lv hi ri ow A n c zs w h hn h1 h2)
    · have h2 : n ≤ 4 := by omega
      have h2b : decide (zs.length ≤ 4) = true := by simp; omega
      rcases Bool.eq_false_or_eq_true (pOk zs) with h3 | h3
      · by_cases h4 : 0 < lv
        · have h4b : decide (lv ≤ 0) = false := by simp; omega
          rcases Bool.eq_false_or_eq_true (kidsB zs) with h5 | h5
          · rcases Bool.eq_false_or_eq_true (inB ow 0 6) with h6 | h6
            · by_cases h7 : hi = -1
              · refine to_bool ?_ (nOk_openU lv hi ri ow A n c zs w h hn h1 h2 h3 h4 h5 h6 h7)
                rw [h1, h2b, h3, h4b, h5, h6, if_pos h7]; by_cases hr : ri = -1 <;> simp [hr]
              · rcases Bool.eq_false_or_eq_true (inB hi 1 100) with h8 | h8
                · rcases Bool.eq_false_or_eq_true (numB ri) with h9 | h9
                  · rcases Nat.eq_zero_or_pos n with h10 | h10
                    · exact to_bool (by rw [h1, h2b, h3, h4b, h5, h6, if_neg h7, h8, h9]; simp; left; apply List.eq_nil_of_length_eq_zero; omega) (nOk_noneU lv hi ri ow A n c zs w h hn h1 h2 h3 h4 h5 h6 h7 h8 h9 h10)
                    · refine to_bool ?_ (nOk_lastU lv hi ri ow A n c zs w h hn h1 h2 h3 h4 h5 h6 h7 h8 h9 h10)
                      rw [h1, h2b, h3, h4b, h5, h6, if_neg h7, h8, h9, decide_eq_false (by omega : ¬ zs.length = 0)]; simp [lastK, hl]
                  · exact to_bool (by rw [h1, h2b, h3, h4b, h5, h6, if_neg h7, h8, h9]; rfl) (nOk_riU lv hi ri ow A n c zs w h hn h1 h2 h3 h4 h5 h6 h7 h8 h9)
                · exact to_bool (by rw [h1, h2b, h3, h4b, h5, h6, if_neg h7, h8]; rfl) (nOk_hiU lv hi ri ow A n c zs w h hn h1 h2 h3 h4 h5 h6 h7 h8)
            · exact to_bool (by rw [h1, h2b, h3, h4b, h5, h6]; rfl) (nOk_owU lv hi ri ow A n c zs w h hn h1 h2 h3 h4 h5 h6)
          · exact to_bool (by rw [h1, h2b, h3, h4b, h5]; rfl) (nOk_kids lv hi ri ow A n c zs w h hn h1 h2 h3 h4 h5)
        · have h4 : lv ≤ 0 := by omega
          have h4b : decide (lv ≤ 0) = true := by simpa using h4
          rcases Bool.eq_false_or_eq_true (inB ow 0 6) with h6 | h6
          · by_cases h7 : hi = -1
            · refine to_bool ?_ (nOk_openL lv hi ri ow A n c zs w h hn h1 h2 h3 h4 h6 h7)
              rw [h1, h2b, h3, h4b, h6, if_pos h7]; by_cases hr : ri = -1 <;> simp [hr]
            · rcases Bool.eq_false_or_eq_true (inB hi 1 100) with h8 | h8
              · rcases Bool.eq_false_or_eq_true (numB ri) with h9 | h9
                · rcases Nat.eq_zero_or_pos n with h10 | h10
                  · exact to_bool (by rw [h1, h2b, h3, h4b, h6, if_neg h7, h8, h9]; simp; left; apply List.eq_nil_of_length_eq_zero; omega) (nOk_noneL lv hi ri ow A n c zs w h hn h1 h2 h3 h4 h6 h7 h8 h9 h10)
                  · refine to_bool ?_ (nOk_lastL lv hi ri ow A n c zs w h hn h1 h2 h3 h4 h6 h7 h8 h9 h10)
                    rw [h1, h2b, h3, h4b, h6, if_neg h7, h8, h9, decide_eq_false (by omega : ¬ zs.length = 0)]; simp [lastK, hl]
                · exact to_bool (by rw [h1, h2b, h3, h4b, h6, if_neg h7, h8, h9]; rfl) (nOk_riL lv hi ri ow A n c zs w h hn h1 h2 h3 h4 h6 h7 h8 h9)
              · exact to_bool (by rw [h1, h2b, h3, h4b, h6, if_neg h7, h8]; rfl) (nOk_hiL lv hi ri ow A n c zs w h hn h1 h2 h3 h4 h6 h7 h8)
          · exact to_bool (by rw [h1, h2b, h3, h4b, h6]; rfl) (nOk_owL lv hi ri ow A n c zs w h hn h1 h2 h3 h4 h6)
      · exact to_bool (by rw [h1, h2b, h3]; rfl) (nOk_ps lv hi ri ow A n c zs w h hn h1 h2 h3)
  · exact to_bool (by rw [h1]; rfl) (nOk_lv lv hi ri ow A n c zs w h hn h1)

def inside (x : Nd) (key : Int) : Bool := decide (x.hi = -1) || decide (key < x.hi)
theorem nodeOk_kids {x : Nd} (h : nodeOk x = true) (hl : 0 < x.lv) : 0 < x.ps.length := by
  unfold nodeOk at h
  simp only [Bool.and_eq_true, Bool.or_eq_true, decide_eq_true_eq] at h
  rcases h.1.1.2 with h' | h'
  · omega
  · exact ((kidsB_iff _).1 h').2
end Go.Proofs.YtlmhcifnikdliaaDoor
namespace Go.Proofs.YtlmhcifnikdliaaDoor
open Go.RowKit

theorem own_base' {w : World} {base base' : Nat} {e : TypeId} {size n : Nat} {v : Value} {xs : List Value} (h : w.ownsRow base e size v n xs) (hb : base' ≤ base) : w.ownsRow base' e size v n xs := by
  rcases h with ⟨hl, h' | ⟨g, cap, cur, hv, hg, rest⟩⟩
  · exact ⟨hl, .inl h'⟩
  · exact ⟨hl, .inr ⟨g, cap, cur, hv, Nat.le_trans hb hg, rest⟩⟩

def GivesNd (w : World) (x : Nd) (n : Nat) (e : Ending) (w' : World) : Prop :=
  ∃ b, e = .returned (ndV x (some ⟨b, 0, none⟩) n n) ∧ w'.ownsRow w.heap.size 53 2 (.slice (some ⟨b, 0, none⟩) n n) n (PL x.ps) ∧ Below w.heap.size w w'

set_option maxHeartbeats 1000000 in
theorem toNode_any (x : Nd) (A : Option Addr) (n c : Nat) (w : World) (h : RP w w.heap.size A n x.ps) (hn : n ≤ 1048576) :
    Calls Tryd.prog 39 #[ndV x A n c] w (GivesNd w x n) := by
  have HH := Lib.hid h
  clear h
  obtain ⟨lv, zs, hi, ri, ow⟩ := x
  unfold ndV GivesNd
  simp only at *
  go_enter Tryd.func39, Tryd.ntmps39
  go_wp2_with fail
  obtain ⟨w3, hw3⟩ : ∃ w3, w3 = ((w.alloc (.cells #[.int .i64 lv, .slice A n c, .int .i64 hi, .int .i64 ri, .int .i64 ow] 62)).alloc (.cells #[.int .i64 0, .slice none 0 0, .int .i64 0, .int .i64 0, .int .i64 0] 40)).alloc
    (.cells #[.int .i64 lv, .slice none 0 0, .int .i64 0, .int .i64 0, .int .i64 0] 40) := ⟨_, rfl⟩
  rw [← hw3]
  have B3 : Hid (Below w.heap.size w w3) := Lib.hid (by rw [hw3]; exact (((Below.refl _ _).alloc (Nat.le_refl _) _).alloc (by simp) _).alloc (by simp; omega) _)
  have hs : w3.heap.size = w.heap.size + 1 + 1 + 1 := by rw [hw3]; simp
  have hr0 : w3.heap[w.heap.size]? = some (.cells #[.int .i64 lv, .slice A n c, .int .i64 hi, .int .i64 ri, .int .i64 ow] 62 (0, 0)) := by
    rw [hw3, Below.heap_alloc _ _ _ (by simp; omega), Below.heap_alloc _ _ _ (by simp), heap_alloc_new]
  have hr1 : w3.heap[w.heap.size + 1]? = some (.cells #[.int .i64 0, .slice none 0 0, .int .i64 0, .int .i64 0, .int .i64 0] 40 (0, 0)) := by
    rw [hw3, Below.heap_alloc _ _ _ (by simp)]
    exact (by simpa using heap_alloc_new (w.alloc (.cells #[.int .i64 lv, .slice A n c, .int .i64 hi, .int .i64 ri, .int .i64 ow] 62)) (.cells #[.int .i64 0, .slice none 0 0, .int .i64 0, .int .i64 0, .int .i64 0] 40))
  have hr2 : w3.heap[w.heap.size + 1 + 1]? = some (.cells #[.int .i64 lv, .slice none 0 0, .int .i64 0, .int .i64 0, .int .i64 0] 40 (0, 0)) := by
    rw [hw3]
    exact (by simpa using heap_alloc_new ((w.alloc (.cells #[.int .i64 lv, .slice A n c, .int .i64 hi, .int .i64 ri, .int .i64 ow] 62)).alloc (.cells #[.int .i64 0, .slice none 0 0, .int .i64 0, .int .i64 0, .int .i64 0] 40)) (.cells #[.int .i64 lv, .slice none 0 0, .int .i64 0, .int .i64 0, .int .i64 0] 40))
  clear hw3
  refine (toS_any A n c zs _ (HH.out.on B3.out) hn).mono ?_
  rintro e w4 ⟨rfl, o4, b4⟩
  have k0 := (b4.block _ (by omega)).trans hr0
  have k1 := (b4.block _ (by omega)).trans hr1
  have k2 := (b4.block _ (by omega)).trans hr2
  generalize hb : w3.heap.size = bb at *
  have p0 : w4.cell? ⟨w.heap.size, 2, none⟩ = some (.int .i64 hi) := by rw [cell_of_row w4 _ 2 _ _ _ k0]; rfl
  have p1 : w4.cell? ⟨w.heap.size, 3, none⟩ = some (.int .i64 ri) := by rw [cell_of_row w4 _ 3 _ _ _ k0]; rfl
  have p2 : w4.cell? ⟨w.heap.size, 4, none⟩ = some (.int .i64 ow) := by rw [cell_of_row w4 _ 4 _ _ _ k0]; rfl
  have q0 : w4.cell? ⟨w.heap.size + 1, 0, none⟩ = some (.int .i64 0) := by rw [cell_of_row w4 _ 0 _ _ _ k1]; rfl
  have q1 : w4.cell? ⟨w.heap.size + 1, 1, none⟩ = some (.slice none 0 0) := by rw [cell_of_row w4 _ 1 _ _ _ k1]; rfl
  have q2 : w4.cell? ⟨w.heap.size + 1, 2, none⟩ = some (.int .i64 0) := by rw [cell_of_row w4 _ 2 _ _ _ k1]; rfl
  have q3 : w4.cell? ⟨w.heap.size + 1, 3, none⟩ = some (.int .i64 0) := by rw [cell_of_row w4 _ 3 _ _ _ k1]; rfl
  have q4 : w4.cell? ⟨w.heap.size + 1, 4, none⟩ = some (.int .i64 0) := by rw [cell_of_row w4 _ 4 _ _ _ k1]; rfl
  have r0 : w4.cell? ⟨w.heap.size + 1 + 1, 0, none⟩ = some (.int .i64 lv) := by rw [cell_of_row w4 _ 0 _ _ _ k2]; rfl
  have r1 : w4.cell? ⟨w.heap.size + 1 + 1, 1, none⟩ = some (.slice none 0 0) := by rw [cell_of_row w4 _ 1 _ _ _ k2]; rfl
  have r2 : w4.cell? ⟨w.heap.size + 1 + 1, 2, none⟩ = some (.int .i64 0) := by rw [cell_of_row w4 _ 2 _ _ _ k2]; rfl
  have r3 : w4.cell? ⟨w.heap.size + 1 + 1, 3, none⟩ = some (.int .i64 0) := by rw [cell_of_row w4 _ 3 _ _ _ k2]; rfl
  have r4 : w4.cell? ⟨w.heap.size + 1 + 1, 4, none⟩ = some (.int .i64 0) := by rw [cell_of_row w4 _ 4 _ _ _ k2]; rfl
  have f1 : ∀ i, w4.frozen? ⟨w.heap.size + 1, i, none⟩ = false := fun i => frozen_of_row w4 _ i _ _ k1
  have f2 : ∀ i, w4.frozen? ⟨w.heap.size + 1 + 1, i, none⟩ = false := fun i => frozen_of_row w4 _ i _ _ k2
  have O4 := Lib.hid o4
  have B4 := Lib.hid (B3.out.trans (b4.mono (by have := B3.out.size; omega)))
  have HBB : Hid (w.heap.size + 1 + 1 + 1 = bb) := Lib.hid (by omega)
  clear o4 b4 k0 k1 k2 hr0 hr1 hr2 hs hb
  go_wp2
  have hbb := HBB.out
  refine bodyPost_ret (v := .agg #[.int .i64 lv, .slice (some ⟨bb, 0, none⟩) n n, .int .i64 hi, .int .i64 ri, .int .i64 ow]) (by simp [results, Tryd.results39, go_sem, q0, q1, q2, q3, q4]) rfl ⟨bb, rfl, ?_, ?_⟩
  · refine own_base' (base := bb) ?_ (by omega)
    repeat (refine ownsRow_setCell_below ?_ (by simp; omega) _)
    exact O4.out
  · repeat (refine Below.setCell ?_ (by simp; first | done | omega) _)
    exact B4.out

theorem eqNode_yes (x : Nd) (A B : Option Addr) (n c d : Nat) (w : World) (h : RP w w.heap.size A n x.ps) (h' : RP w w.heap.size B n x.ps) (hn : n ≤ 1048576) :
    Calls Tryd.prog 47 #[ndV x A n c, ndV x B n d] w fun e w' => e = .returned (.bool true) ∧ Below w.heap.size w w' := by
  have HH := Lib.hid h
  have HH' := Lib.hid h'
  clear h h'
  obtain ⟨lv, zs, hi, ri, ow⟩ := x
  unfold ndV
  simp only at *
  go_enter Tryd.func47, Tryd.ntmps47
  go_wp2_with fail
  obtain ⟨w3, hw3⟩ : ∃ w3, w3 = (w.alloc (.cells #[.int .i64 lv, .slice A n c, .int .i64 hi, .int .i64 ri, .int .i64 ow] 40)).alloc (.cells #[.int .i64 lv, .slice B n d, .int .i64 hi, .int .i64 ri, .int .i64 ow] 40) := ⟨_, rfl⟩
  rw [← hw3]
  have B3 : Hid (Below w.heap.size w w3) := Lib.hid (by rw [hw3]; exact ((Below.refl _ _).alloc (Nat.le_refl _) _).alloc (by simp) _)
  have hs : w3.heap.size = w.heap.size + 1 + 1 := by rw [hw3]; simp
  have hr0 : w3.heap[w.heap.size]? = some (.cells #[.int .i64 lv, .slice A n c, .int .i64 hi, .int .i64 ri, .int .i64 ow] 40 (0, 0)) := by
    rw [hw3, Below.heap_alloc _ _ _ (by simp), heap_alloc_new]
  have hr1 : w3.heap[w.heap.size + 1]? = some (.cells #[.int .i64 lv, .slice B n d, .int .i64 hi, .int .i64 ri, .int .i64 ow] 40 (0, 0)) := by
    rw [hw3]
    exact (by simpa using heap_alloc_new (w.alloc (.cells #[.int .i64 lv, .slice A n c, .int .i64 hi, .int .i64 ri, .int .i64 ow] 40)) (.cells #[.int .i64 lv, .slice B n d, .int .i64 hi, .int .i64 ri, .int .i64 ow] 40))
  clear hw3
  refine (eqS_yes A B n c d zs _ (HH.out.on B3.out) (HH'.out.on B3.out) hn).mono ?_
  rintro e w4 ⟨rfl, b4⟩
  have k0 := (b4.block _ (by omega)).trans hr0
  have k1 := (b4.block _ (by omega)).trans hr1
  have p0 : w4.cell? ⟨w.heap.size, 2, none⟩ = some (.int .i64 hi) := by rw [cell_of_row w4 _ 2 _ _ _ k0]; rfl
  have p1 : w4.cell? ⟨w.heap.size, 3, none⟩ = some (.int .i64 ri) := by rw [cell_of_row w4 _ 3 _ _ _ k0]; rfl
  have p2 : w4.cell? ⟨w.heap.size, 4, none⟩ = some (.int .i64 ow) := by rw [cell_of_row w4 _ 4 _ _ _ k0]; rfl
  have q0 : w4.cell? ⟨w.heap.size + 1, 2, none⟩ = some (.int .i64 hi) := by rw [cell_of_row w4 _ 2 _ _ _ k1]; rfl
  have q1 : w4.cell? ⟨w.heap.size + 1, 3, none⟩ = some (.int .i64 ri) := by rw [cell_of_row w4 _ 3 _ _ _ k1]; rfl
  have q2 : w4.cell? ⟨w.heap.size + 1, 4, none⟩ = some (.int .i64 ow) := by rw [cell_of_row w4 _ 4 _ _ _ k1]; rfl
  have B4 := Lib.hid (B3.out.trans (b4.mono B3.out.size))
  clear b4 k0 k1 hr0 hr1 hs
  go_wp2
  go_ret
  exact ⟨rfl, B4.out⟩
end Go.Proofs.YtlmhcifnikdliaaDoor
namespace Go.Proofs.YtlmhcifnikdliaaDoor
open Go.RowKit

theorem rise_lt {zs : List Pr} (h : riseTo zs zs.length) : ∀ (j i : Nat), i < j → j < zs.length → kAt zs i < kAt zs j := by
  intro j
  induction j with
  | zero => intro i hi; omega
  | succ j ih =>
    intro i hi hj
    have h1 := h (j + 1) hj (by omega)
    simp only [Nat.add_sub_cancel] at h1
    rcases Nat.lt_or_ge i j with h2 | h2
    · have := ih i h2 (by omega); omega
    · obtain rfl : i = j := by omega
      exact h1
theorem pOk_rise {zs : List Pr} (h : pOk zs = true) : riseTo zs zs.length := fun j hj h0 => (((pOk_iff zs).1 h).1 j hj).2 h0
end Go.Proofs.YtlmhcifnikdliaaDoor
namespace Go.Proofs.YtlmhcifnikdliaaDoor
open Go.RowKit

theorem RP.take {w : World} {B n : Nat} {A : Option Addr} {zs : List Pr} (h : RP w B A n zs) {k : Nat} (hk : k ≤ n) : RP w B A k (zs.take k) := by
  have hl := h.1
  refine ⟨by rw [List.length_take]; omega, fun h0 => ?_⟩
  obtain ⟨b, off, e, hb, hc⟩ := h.2 (by omega)
  refine ⟨b, off, e, hb, fun i hi => ?_⟩
  have e1 : kAt (zs.take k) i = kAt zs i := by simp [kAt, hi]
  have e2 : vAt (zs.take k) i = vAt zs i := by simp [vAt, hi]
  rw [e1, e2]
  exact hc i (by omega)
theorem RP.drop {w : World} {B n c : Nat} {A : Option Addr} {zs : List Pr} (h : RP w B A n zs) {k : Nat} (hk : k ≤ n) (hc : n ≤ c) :
    RP w B (if c = k then A else A.map (·.add (k * 2))) (n - k) (zs.drop k) := by
  have hl := h.1
  refine ⟨by rw [List.length_drop]; omega, fun h0 => ?_⟩
  obtain ⟨b, off, e, hb, hcell⟩ := h.2 (by omega)
  refine ⟨b, off + k * 2, ?_, hb, fun i hi => ?_⟩
  · rw [if_neg (by omega), e]
    simp only [Option.map_some, Option.some.injEq]
    unfold Addr.add
    split <;> simp_all
  · have e1 : kAt (zs.drop k) i = kAt zs (k + i) := by simp [kAt]
    have e2 : vAt (zs.drop k) i = vAt zs (k + i) := by simp [vAt]
    rw [e1, e2]
    have := hcell (k + i) (by omega)
    rw [show off + k * 2 + i * 2 = off + (k + i) * 2 from by omega]
    exact this

end Go.Proofs.YtlmhcifnikdliaaDoor

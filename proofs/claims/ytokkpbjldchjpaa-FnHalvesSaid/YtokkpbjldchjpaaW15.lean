/- The walks of markPairS and heldPairS: a list's own cells are written over, and read back. -/
import Derived.Test.YtokkpbjldchjpaaW14
namespace Go.Proofs.Ytokkpbjldchjpaa
open Go.RowKit

/-- j marks, the rest as it was. -/
def markTo (zs : List Pr) (k : Nat) (j : Nat) : List Pr := ((List.range j).map fun i : Nat => ((k : Int) + 2 * (i : Int), (k : Int) + 2 * (i : Int) + 1)) ++ zs.drop j
theorem markTo_length (zs : List Pr) (k j : Nat) (hj : j ≤ zs.length) : (markTo zs k j).length = zs.length := by simp [markTo]; omega
theorem markTo_next (zs : List Pr) (k j : Nat) (hj : j < zs.length) : (markTo zs k j).set j ((k : Int) + 2 * (j : Int), (k : Int) + 2 * (j : Int) + 1) = markTo zs k (j + 1) := by
  unfold markTo
  rw [List.drop_eq_getElem_cons hj, List.set_append_right _ _ (by simp)]
  simp only [List.length_map, List.length_range, Nat.sub_self, List.set_cons_zero, List.range_succ, List.map_append, List.map_cons, List.map_nil, List.append_assoc, List.singleton_append]
theorem markTo_fst (zs : List Pr) (k j i : Nat) (hi : i < j) : kAt (markTo zs k j) i = (k : Int) + 2 * (i : Int) := by
  unfold kAt markTo
  rw [List.getD_eq_getElem?_getD, List.getElem?_append_left (by simpa using hi)]
  simp [hi]
theorem markTo_snd (zs : List Pr) (k j i : Nat) (hi : i < j) : vAt (markTo zs k j) i = (k : Int) + 2 * (i : Int) + 1 := by
  unfold vAt markTo
  rw [List.getD_eq_getElem?_getD, List.getElem?_append_left (by simpa using hi)]
  simp [hi]

theorem grown_trans {a b c : World} {row : Option Nat} (h : a.grownBy b row) (k : b.grownBy c row) : a.grownBy c row :=
  ⟨k.os.trans h.os, k.tape.trans h.tape, k.output.trans h.output, Nat.le_trans h.size k.size, fun i hi hr => (k.block i (Nat.lt_of_lt_of_le hi h.size) hr).trans (h.block i hi hr)⟩

theorem mark_any (base : Nat) (A : Option Addr) (n c k : Nat) (zs : List Pr) (w : World) (h : w.ownsRow base 28 2 (.slice A n c) n (PL zs)) (hn : n ≤ 1048576) (hk : k ≤ 1125899906842624) :
    Calls Try.prog 46 #[.slice A n c, .int .i64 k] w fun e w' => e = .returned (.int .i64 ((k + 2 * n : Nat) : Int)) ∧ w'.ownsRow base 28 2 (.slice A n c) n (PL (markTo zs k n)) ∧ w.grownBy w' (Value.slice A n c).ownBlock := by
  have hl : zs.length = n := by have := h.1; rw [PL_length] at this; omega
  rcases Nat.eq_zero_or_pos n with h0 | h0
  · subst h0
    have hz : zs = [] := List.eq_nil_of_length_eq_zero hl
    subst hz
    have HO := Lib.hid h
    clear h hl
    go_enter Try.func46, Try.ntmps46
    go_wp2
    refine wp_loop_rounds 1 ?_
    rw [rounds_succ]
    go_wp2
    go_ret
    exact ⟨rfl, HO.out, World.grownBy.refl _ _⟩
  · obtain ⟨g, cap, hv, _, hlt⟩ := h.form h0
    obtain ⟨rfl, rfl⟩ : A = some ⟨g, 0, none⟩ ∧ c = cap := by simpa using hv
    have HO : Hid (w.ownsRow base 28 2 (.slice (some ⟨g, 0, none⟩) n c) n (PL (markTo zs k 0))) := Lib.hid (by simpa [markTo] using h)
    have HL := Lib.hid hl
    clear h hv hl
    go_enter Try.func46, Try.ntmps46
    go_wp2
    go_loopw [1, 5] (fun q i wr => ∃ j : Nat, i = .int .i64 j ∧ j ≤ n ∧ q = .int .i64 (k + 2 * j) ∧ Hid (wr.ownsRow base 28 2 (.slice (some ⟨g, 0, none⟩) n c) n (PL (markTo zs k j))) ∧ Hid (w.grownBy wr (some g))) (fun _ i _ => n - (intOf i).toNat)
    case atStart => exact ⟨0, rfl, by omega, by simp, HO, Lib.hid (World.grownBy.refl _ _)⟩
    case round =>
      obtain ⟨j, rfl, hj, rfl, ho, hg⟩ := hrel
      clear HO
      by_cases hjn : j < n
      · have f1 : wr.frozen? ⟨g, j * 2, none⟩ = false := ho.out.frozenAt _
        have f2 : wr.frozen? ⟨g, j * 2 + 1, none⟩ = false := ho.out.frozenAt _
        have d1 : wr.cell? ⟨g, j * 2, none⟩ = some (.int .i64 (kAt (markTo zs k j) j)) := (ho.out.cellAt (j * 2) (by omega)).trans (PL_fst _ _ (by rw [markTo_length _ _ _ (by have := HL.out; omega), HL.out]; exact hjn))
        have d2 : wr.cell? ⟨g, j * 2 + 1, none⟩ = some (.int .i64 (vAt (markTo zs k j) j)) := (ho.out.cellAt (j * 2 + 1) (by omega)).trans (PL_snd _ _ (by rw [markTo_length _ _ _ (by have := HL.out; omega), HL.out]; exact hjn))
        go_wp2
        go_roundw
        case rel =>
          refine ⟨j + 1, by go_num, by omega, by go_num, Lib.hid ?_, Lib.hid ?_⟩
          · have h1 := (ho.out.stored (j * 2) (.int .i64 (k + 2 * j))).1
            have h2 := (h1.stored (j * 2 + 1) (.int .i64 (k + 2 * j + 1))).1
            rw [PL_set, markTo_next _ _ _ (by have := HL.out; omega)] at h2
            exact h2
          · have h1 := ho.out.stored (j * 2) (.int .i64 (k + 2 * j))
            exact grown_trans (grown_trans hg.out h1.2) (h1.1.stored (j * 2 + 1) (.int .i64 (k + 2 * j + 1))).2
        case measure => simp [intOf]; omega
      · obtain rfl : j = n := by omega
        go_wp2
        go_ret
        exact ⟨ret_int (by omega), ho.out, hg.out⟩

theorem held_any (A : Option Addr) (n c k : Nat) (zs : List Pr) (w : World) (h : RP w w.heap.size A n (markTo zs k n)) (hn : n ≤ 1048576) (hk : k ≤ 1125899906842624) :
    Calls Try.prog 47 #[.slice A n c, .int .i64 k] w fun e w' => e = .returned (.int .i64 ((k + 2 * n : Nat) : Int)) ∧ w = w' := by
  have HH := Lib.hid h
  clear h
  go_enter Try.func47, Try.ntmps47
  go_wp2
  go_loop [1, 5] (fun q i => ∃ j : Nat, i = .int .i64 j ∧ j ≤ n ∧ q = .int .i64 (k + 2 * j)) (fun _ i => n - (intOf i).toNat)
  case atStart => exact ⟨0, rfl, by omega, by simp⟩
  case round =>
    obtain ⟨j, rfl, hj, rfl⟩ := hrel
    by_cases hjn : j < n
    · obtain ⟨b, off, rfl, hb, hc⟩ := HH.out.2 (by omega)
      obtain ⟨c1, c2⟩ := hc j hjn
      rw [markTo_fst _ _ _ _ hjn] at c1
      rw [markTo_snd _ _ _ _ hjn] at c2
      clear hc
      go_wp2
      go_round
      case rel => exact ⟨j + 1, by go_num, by omega, by go_num⟩
      case measure => simp [intOf]; omega
    · obtain rfl : j = n := by omega
      go_wp2
      go_ret
      exact ⟨ret_int (by omega), rfl⟩
end Go.Proofs.Ytokkpbjldchjpaa

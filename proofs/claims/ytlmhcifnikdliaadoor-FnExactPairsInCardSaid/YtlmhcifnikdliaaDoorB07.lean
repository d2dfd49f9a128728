/- append onto a row of the call's own from a list of pairs, nil let in; the walk of slices.Clone. -/
import Derived.Test.YtlmhcifnikdliaaDoorB06
import Derived.WalkSpells
import Derived.WalkLawsBesides
import Derived.Lib.AppendZerosOnto
import Derived.StillTailTactics
namespace Go.Proofs.YtlmhcifnikdliaaDoor
open Go.RowKit

theorem PL_get (ys : List Pr) (j : Nat) (u : Value) (h : (PL ys)[j]? = some u) : ∃ i, i < ys.length ∧ ((j = i * 2 ∧ u = .int .i64 (kAt ys i)) ∨ (j = i * 2 + 1 ∧ u = .int .i64 (vAt ys i))) := by
  have hj : j < (PL ys).length := by
    rcases Nat.lt_or_ge j (PL ys).length with h' | h'
    · exact h'
    · rw [List.getElem?_eq_none h'] at h; cases h
  rw [PL_length] at hj
  have hi : j / 2 < ys.length := by omega
  refine ⟨j / 2, hi, ?_⟩
  have h2 : j = j / 2 * 2 ∨ j = j / 2 * 2 + 1 := by omega
  rcases h2 with h2 | h2
  · left
    rw [h2, PL_fst _ _ hi] at h
    exact ⟨h2, (Option.some.inj h).symm⟩
  · right
    rw [h2, PL_snd _ _ hi] at h
    exact ⟨h2, (Option.some.inj h).symm⟩

theorem RP.take {w : World} {B n : Nat} {A : Option Addr} {zs : List Pr} (h : RP w B A n zs) {k : Nat} (hk : k ≤ n) : RP w B A k (zs.take k) := by
  have hl := h.1
  refine ⟨by rw [List.length_take]; omega, fun h0 => ?_⟩
  obtain ⟨b, off, e, hb, hc⟩ := h.2 (by omega)
  refine ⟨b, off, e, hb, fun i hi => ?_⟩
  have e1 : kAt (zs.take k) i = kAt zs i := by simp [kAt, hi]
  have e2 : vAt (zs.take k) i = vAt zs i := by simp [vAt, hi]
  rw [e1, e2]
  exact hc i (by omega)
theorem RP.drop {w : World} {B n c : Nat} {A : Option Addr} {zs : List Pr} (h : RP w B A n zs) {k : Nat} (hk : k ≤ n) (hc : n ≤ c) :
    RP w B (if c = k then A else A.map (·.add (k * 2))) (n - k) (zs.drop k) := by
  have hl := h.1
  refine ⟨by rw [List.length_drop]; omega, fun h0 => ?_⟩
  obtain ⟨b, off, e, hb, hcell⟩ := h.2 (by omega)
  refine ⟨b, off + k * 2, ?_, hb, fun i hi => ?_⟩
  · rw [if_neg (by omega), e]
    simp only [Option.map_some, Option.some.injEq]
    unfold Addr.add
    split <;> simp_all
  · have e1 : kAt (zs.drop k) i = kAt zs (k + i) := by simp [kAt]
    have e2 : vAt (zs.drop k) i = vAt zs (k + i) := by simp [vAt]
    rw [e1, e2]
    have := hcell (k + i) (by omega)
    rw [show off + k * 2 + i * 2 = off + (k + i) * 2 from by omega]
    exact this

theorem run_app_nil {P : Program} (w : World) (base : Nat) (t ty e : TypeId) (i : TypeInfo) (size : Nat) (ht : P.underlying t = some (.slice e)) (hi : P.info? e = some i)
    (v : Value) (n : Nat) (xs : List Value) (hown : w.ownsRow base e size v n xs) (c : Nat) : (Builtin.append_ #[t, t] ty #[v, .slice none 0 c]).run P w = .ok v w := by
  rcases hown.2 with ⟨rfl, rfl⟩ | ⟨g, cap, cur, rfl, _, _, hnc, _⟩
  · simp [Builtin.append_, run_underlying ht, sizeOf, typeInfo, hi, Builtin.lenOf, Builtin.firstCells]
  · simp [Builtin.append_, run_underlying ht, sizeOf, typeInfo, hi, Builtin.lenOf, Builtin.firstCells, hnc, storeCells]

theorem wpList_app {w : World} {ops : Array Oper} {rest : List Oper} {o : Oper} {a : Act} {Q : Exit → Act → World → Prop} (hgd : o.guard = none) (s x : Operand)
    (ho : o.op = .call { callee := .builtin .append, args := #[s, x], argTypes := #[33, 33] })
    (base : Nat) (v : Value) (n : Nat) (xs : List Pr) (hs : a.eval s = v) (hown : w.ownsRow base 53 2 v n (PL xs))
    (B : Nat) (A : Option Addr) (m c : Nat) (ys : List Pr) (hx : a.eval x = .slice A m c) (hr : RP w B A m ys) (hsz : n + m ≤ 4194304) (hbase : base ≤ w.heap.size)
    (h : ∀ v' w', w'.ownsRow base 53 2 v' (n + m) (PL (xs ++ ys)) → w.grownBy w' v.ownBlock → wpList Tryd.prog ops Q rest (a.put o.dst v') w') : wpList Tryd.prog ops Q (o :: rest) a w := by
  obtain ⟨i0, hi0, hz0, hz1, hz2⟩ := info_parts pair_info
  rcases A with _ | ad
  · have hm : m = 0 := by
      rcases Nat.eq_zero_or_pos m with h0 | h0
      · exact h0
      · obtain ⟨_, _, h, _⟩ := hr.2 h0; cases h
    subst hm
    have hy : ys = [] := List.eq_nil_of_length_eq_zero hr.1
    subst hy
    refine wpList_plain hgd fun K hK => ?_
    have hrun := run_app_nil (P := Tryd.prog) w base 33 o.type 53 i0 2 Tryd.underlying33 hi0 v n (PL xs) hown c
    unfold Oper.wp
    simp [execOp, ho, resolve, invoke, builtin, hs, hx, hrun, Result.andThen]
    exact hK _ _ (h v w (by simpa using hown) (World.grownBy.refl w _))
  · refine wpList_append_own w hgd s x 33 ho base 53 i0 _ 2 16 Tryd.underlying33 hi0 hz0 hz1 hz2 rfl (by omega) v n (PL xs) hs hown ad m c (PL ys) hx
      (by rw [PL_length, hr.1]) ?_ (PL_one ys) (by unfold maxLen; omega) (by omega) hbase (fun v' w' h2 h3 _ => h v' w' (by rw [PL_append]; exact h2) h3)
    intro j u hu
    obtain ⟨i, hi, h'⟩ := PL_get ys j u hu
    have hl := hr.1
    obtain ⟨b, off, e, _, hc⟩ := hr.2 (by omega)
    cases e
    have aa : ∀ k, (⟨b, off, none⟩ : Addr).add k = ⟨b, off + k, none⟩ := by intro k; unfold Addr.add; split <;> simp_all
    rcases h' with ⟨rfl, rfl⟩ | ⟨rfl, rfl⟩
    · rw [aa]; exact (hc i (by omega)).1
    · rw [aa]; exact (hc i (by omega)).2

def Gives (w : World) (zs : List Pr) (e : Ending) (w' : World) : Prop := ∃ v, e = .returned v ∧ w'.ownsRow w.heap.size 53 2 v zs.length (PL zs) ∧ Below w.heap.size w w'

end Go.Proofs.YtlmhcifnikdliaaDoor
namespace Go.Proofs.YtlmhcifnikdliaaDoor
open Go.RowKit
set_option linter.unusedVariables false

theorem own_base {w : World} {base base' : Nat} {e : TypeId} {size n : Nat} {v : Value} {xs : List Value} (h : w.ownsRow base e size v n xs) (hb : base' ≤ base) : w.ownsRow base' e size v n xs := by
  rcases h with ⟨hl, h' | ⟨g, cap, cur, hv, hg, rest⟩⟩
  · exact ⟨hl, .inl h'⟩
  · exact ⟨hl, .inr ⟨g, cap, cur, hv, Nat.le_trans hb hg, rest⟩⟩
end Go.Proofs.YtlmhcifnikdliaaDoor
namespace Go.Proofs.YtlmhcifnikdliaaDoor
open Go.RowKit
set_option linter.unusedVariables false

def dropA (A : Option Addr) (c k : Nat) : Option Addr := if c = k then A else A.map (·.add (k * 2))
theorem RP.tail {w : World} {B n c : Nat} {A : Option Addr} {zs : List Pr} (h : RP w B A n zs) {k : Nat} (hk : k ≤ n) (hc : n ≤ c) : RP w B (dropA A c k) (n - k) (zs.drop k) := h.drop hk hc
end Go.Proofs.YtlmhcifnikdliaaDoor
namespace Go.Proofs.YtlmhcifnikdliaaDoor
open Go.RowKit
set_option linter.unusedVariables false

theorem own_form {w : World} {zs : List Pr} {e : Ending} {w' : World} (h : Gives w zs e w') : ∃ A c, e = .returned (.slice A zs.length c) ∧ w'.ownsRow w.heap.size 53 2 (.slice A zs.length c) zs.length (PL zs) ∧ Below w.heap.size w w' := by
  obtain ⟨v, he, ho, hb⟩ := h
  obtain ⟨A, c, rfl, _⟩ := RP.of_own ho
  exact ⟨A, c, he, ho, hb⟩

end Go.Proofs.YtlmhcifnikdliaaDoor
namespace Go.Proofs.YtlmhcifnikdliaaDoor
open Go.RowKit

def markTo (zs : List Pr) (k : Nat) (j : Nat) : List Pr := ((List.range j).map fun i : Nat => ((k : Int) + 2 * (i : Int), (k : Int) + 2 * (i : Int) + 1)) ++ zs.drop j
theorem markTo_length (zs : List Pr) (k j : Nat) (hj : j ≤ zs.length) : (markTo zs k j).length = zs.length := by simp [markTo]; omega
theorem markTo_next (zs : List Pr) (k j : Nat) (hj : j < zs.length) : (markTo zs k j).set j ((k : Int) + 2 * (j : Int), (k : Int) + 2 * (j : Int) + 1) = markTo zs k (j + 1) := by
  unfold markTo
  rw [List.drop_eq_getElem_cons hj, List.set_append_right _ _ (by simp)]
  simp only [List.length_map, List.length_range, Nat.sub_self, List.set_cons_zero, List.range_succ, List.map_append, List.map_cons, List.map_nil, List.append_assoc, List.singleton_append]
theorem markTo_fst (zs : List Pr) (k j i : Nat) (hi : i < j) : kAt (markTo zs k j) i = (k : Int) + 2 * (i : Int) := by
  unfold kAt markTo
  rw [List.getD_eq_getElem?_getD, List.getElem?_append_left (by simpa using hi)]
  simp [hi]
theorem markTo_snd (zs : List Pr) (k j i : Nat) (hi : i < j) : vAt (markTo zs k j) i = (k : Int) + 2 * (i : Int) + 1 := by
  unfold vAt markTo
  rw [List.getD_eq_getElem?_getD, List.getElem?_append_left (by simpa using hi)]
  simp [hi]

theorem grown_trans {a b c : World} {row : Option Nat} (h : a.grownBy b row) (k : b.grownBy c row) : a.grownBy c row :=
  ⟨k.os.trans h.os, k.tape.trans h.tape, k.output.trans h.output, Nat.le_trans h.size k.size, fun i hi hr => (k.block i (Nat.lt_of_lt_of_le hi h.size) hr).trans (h.block i hi hr)⟩

theorem mark_any (base : Nat) (A : Option Addr) (n c k : Nat) (zs : List Pr) (w : World) (h : w.ownsRow base 53 2 (.slice A n c) n (PL zs)) (hn : n ≤ 1048576) (hk : k ≤ 1125899906842624) :
    Calls Tryd.prog 15 #[.slice A n c, .int .i64 k] w fun e w' => e = .returned (.int .i64 ((k + 2 * n : Nat) : Int)) ∧ w'.ownsRow base 53 2 (.slice A n c) n (PL (markTo zs k n)) ∧ w.grownBy w' (Value.slice A n c).ownBlock := by
  have hl : zs.length = n := by have := h.1; rw [PL_length] at this; omega
  rcases Nat.eq_zero_or_pos n with h0 | h0
  · subst h0
    have hz : zs = [] := List.eq_nil_of_length_eq_zero hl
    subst hz
    have HO := Lib.hid h
    clear h hl
    go_enter Tryd.func15, Tryd.ntmps15
    go_wp2
    refine wp_loop_rounds 1 ?_
    rw [rounds_succ]
    go_wp2
    go_ret
    exact ⟨rfl, HO.out, World.grownBy.refl _ _⟩
  · obtain ⟨g, cap, hv, _, hlt⟩ := h.form h0
    obtain ⟨rfl, rfl⟩ : A = some ⟨g, 0, none⟩ ∧ c = cap := by simpa using hv
    have HO : Hid (w.ownsRow base 53 2 (.slice (some ⟨g, 0, none⟩) n c) n (PL (markTo zs k 0))) := Lib.hid (by simpa [markTo] using h)
    have HL := Lib.hid hl
    clear h hv hl
    go_enter Tryd.func15, Tryd.ntmps15
    go_wp2
    go_loopw [1, 5] (fun q i wr => ∃ j : Nat, i = .int .i64 j ∧ j ≤ n ∧ q = .int .i64 (k + 2 * j) ∧ Hid (wr.ownsRow base 53 2 (.slice (some ⟨g, 0, none⟩) n c) n (PL (markTo zs k j))) ∧ Hid (w.grownBy wr (some g))) (fun _ i _ => n - (intOf i).toNat)
    case atStart => exact ⟨0, rfl, by omega, by simp, HO, Lib.hid (World.grownBy.refl _ _)⟩
    case round =>
      obtain ⟨j, rfl, hj, rfl, ho, hg⟩ := hrel
      clear HO
      by_cases hjn : j < n
      · have f1 : wr.frozen? ⟨g, j * 2, none⟩ = false := ho.out.frozenAt _
        have f2 : wr.frozen? ⟨g, j * 2 + 1, none⟩ = false := ho.out.frozenAt _
        have d1 : wr.cell? ⟨g, j * 2, none⟩ = some (.int .i64 (kAt (markTo zs k j) j)) := (ho.out.cellAt (j * 2) (by omega)).trans (PL_fst _ _ (by rw [markTo_length _ _ _ (by have := HL.out; omega), HL.out]; exact hjn))
        have d2 : wr.cell? ⟨g, j * 2 + 1, none⟩ = some (.int .i64 (vAt (markTo zs k j) j)) := (ho.out.cellAt (j * 2 + 1) (by omega)).trans (PL_snd _ _ (by rw [markTo_length _ _ _ (by have := HL.out; omega), HL.out]; exact hjn))
        go_wp2
        go_roundw
        case rel =>
          refine ⟨j + 1, by go_num, by omega, by go_num, Lib.hid ?_, Lib.hid ?_⟩
          · have h1 := (ho.out.stored (j * 2) (.int .i64 (k + 2 * j))).1
            have h2 := (h1.stored (j * 2 + 1) (.int .i64 (k + 2 * j + 1))).1
            rw [PL_set, markTo_next _ _ _ (by have := HL.out; omega)] at h2
            exact h2
          · have h1 := ho.out.stored (j * 2) (.int .i64 (k + 2 * j))
            exact grown_trans (grown_trans hg.out h1.2) (h1.1.stored (j * 2 + 1) (.int .i64 (k + 2 * j + 1))).2
        case measure => simp [intOf]; omega
      · obtain rfl : j = n := by omega
        go_wp2
        go_ret
        exact ⟨ret_int (by omega), ho.out, hg.out⟩

theorem held_any (A : Option Addr) (n c k : Nat) (zs : List Pr) (w : World) (h : RP w w.heap.size A n (markTo zs k n)) (hn : n ≤ 1048576) (hk : k ≤ 1125899906842624) :
    Calls Tryd.prog 16 #[.slice A n c, .int .i64 k] w fun e w' => e = .returned (.int .i64 ((k + 2 * n : Nat) : Int)) ∧ w = w' := by
  have HH := Lib.hid h
  clear h
  go_enter Tryd.func16, Tryd.ntmps16
  go_wp2
  go_loop [1, 5] (fun q i => ∃ j : Nat, i = .int .i64 j ∧ j ≤ n ∧ q = .int .i64 (k + 2 * j)) (fun _ i => n - (intOf i).toNat)
  case atStart => exact ⟨0, rfl, by omega, by simp⟩
  case round =>
    obtain ⟨j, rfl, hj, rfl⟩ := hrel
    by_cases hjn : j < n
    · obtain ⟨b, off, rfl, hb, hc⟩ := HH.out.2 (by omega)
      obtain ⟨c1, c2⟩ := hc j hjn
      rw [markTo_fst _ _ _ _ hjn] at c1
      rw [markTo_snd _ _ _ _ hjn] at c2
      clear hc
      go_wp2
      go_round
      case rel => exact ⟨j + 1, by go_num, by omega, by go_num⟩
      case measure => simp [intOf]; omega
    · obtain rfl : j = n := by omega
      go_wp2
      go_ret
      exact ⟨ret_int (by omega), rfl⟩
end Go.Proofs.YtlmhcifnikdliaaDoor

/- The walks of the model's l1Cut and Cut. -/
import Derived.Test.YtjookicpmjmdhaaW13
namespace Go.Proofs.Ytjookicpmjmdhaa
open Go.RowKit

/-- What of the first j pairs has another key. -/
def leftTo (zs : List Pr) (key : Int) (j : Nat) : List Pr := (zs.take j).filter (fun p => !(p.1 == key))
theorem leftTo_keep (zs : List Pr) (key : Int) (j : Nat) (hj : j < zs.length) (h : kAt zs j ≠ key) : leftTo zs key (j + 1) = leftTo zs key j ++ [(kAt zs j, vAt zs j)] := by
  unfold leftTo
  rw [List.take_succ_eq_append_getElem hj, List.filter_append]
  rw [kAt_eq _ _ hj] at h
  rw [kAt_eq _ _ hj, vAt_eq _ _ hj]
  simp [h]
theorem leftTo_drop (zs : List Pr) (key : Int) (j : Nat) (hj : j < zs.length) (h : kAt zs j = key) : leftTo zs key (j + 1) = leftTo zs key j := by
  unfold leftTo
  rw [List.take_succ_eq_append_getElem hj, List.filter_append]
  rw [kAt_eq _ _ hj] at h
  simp [h]
theorem leftTo_le (zs : List Pr) (key : Int) (j : Nat) : (leftTo zs key j).length ≤ j := by
  unfold leftTo
  exact Nat.le_trans (List.length_filter_le _ _) (by rw [List.length_take]; omega)

theorem sCut_any (A : Option Addr) (n c : Nat) (zs : List Pr) (key : Int) (w : World) (h : RP w w.heap.size A n zs) (hn : n ≤ 1048576) :
    Calls Try.prog 112 #[.slice A n c, .int .i64 key] w (Gives w (leftTo zs key n)) := by
  have HL := Lib.hid h.1
  have HH := Lib.hid h
  clear h
  go_enter Try.func112, Try.ntmps112
  go_wp2
  go_loopw [5, 6] (fun v i wr => ∃ j : Nat, i = .int .i64 j ∧ j ≤ n ∧ Hid (wr.ownsRow w.heap.size 86 2 v (leftTo zs key j).length (PL (leftTo zs key j))) ∧ Hid (Below w.heap.size w wr)) (fun _ i _ => n - (intOf i).toNat)
  case atStart => exact ⟨0, rfl, by omega, Lib.hid (by have := empty_row w; simpa [leftTo] using this), Lib.hid ((Below.refl _ _).alloc (Nat.le_refl _) _)⟩
  case round =>
    obtain ⟨j, rfl, hj, ho, hbw⟩ := hrel
    by_cases hlt : j < n
    · obtain ⟨b, off, rfl, hb, hc⟩ := HH.out.2 (by omega)
      have c1 := (hbw.out.cell (p := ⟨b, off + j * 2, none⟩) hb).trans (hc j hlt).1
      have c2 := (hbw.out.cell (p := ⟨b, off + j * 2 + 1, none⟩) hb).trans (hc j hlt).2
      clear hc
      have hle := leftTo_le zs key j
      by_cases hk : kAt zs j = key
      · have hkb : (kAt zs j != key) = false := by simpa using hk
        have HK := Lib.hid hk
        clear hk
        go_wp2
        go_roundw
        case rel => exact ⟨j + 1, by go_num, by omega, by rw [leftTo_drop zs key j (by have := HL.out; omega) HK.out]; exact ho, hbw⟩
        case measure => simp [intOf]; omega
      · have hkb : (kAt zs j != key) = true := by simpa using hk
        have HK := Lib.hid hk
        clear hk
        go_wp2_with (at_builtin; refine wpList_app rfl (.tmp 21) (.tmp 26) rfl w.heap.size _ _ _ rfl (ho.out.alloc _) _ (some ⟨wr.heap.size, 0, none⟩) 1 1 [(kAt zs j, vAt zs j)] rfl (one_row wr _ _ _) (by omega) (by have := hbw.out.size; simp; omega) ?_)
        intro v2 w2 o2 g2
        have B2 := Lib.hid ((hbw.out.alloc hbw.out.size (.cells #[.int .i64 (kAt zs j), .int .i64 (vAt zs j)] 86)).grown g2 (by have := hbw.out.size; simp; omega) (fun b e => (ho.out.lt b e).1))
        have O2 := Lib.hid o2
        clear o2 g2
        go_wp2
        go_roundw
        case rel => exact ⟨j + 1, by go_num, by omega, Lib.hid (by rw [leftTo_keep zs key j (by have := HL.out; omega) HK.out]; have := O2.out; simpa using this), B2⟩
        case measure => simp [intOf]; omega
    · obtain rfl : j = n := by omega
      go_wp2
      go_ret
      exact ⟨_, rfl, ho.out, hbw.out⟩

theorem leftTo_miss (zs : List Pr) (key : Int) (hp : pOk zs = true) (hh : hitB zs key = false) : leftTo zs key zs.length = zs := by
  have hw := where_miss zs key hp hh
  have hall : ∀ j, j < zs.length → kAt zs j ≠ key := by
    intro j hj he
    have h1 : atKey zs key < zs.length := by
      unfold atKey
      rw [List.findIdx_lt_length]
      exact ⟨zs[j], List.getElem_mem hj, by rw [kAt_eq _ _ hj] at he; simpa using he⟩
    unfold whereI at hw
    rw [if_pos h1] at hw
    omega
  unfold leftTo
  rw [List.take_length, List.filter_eq_self]
  intro p hpm
  obtain ⟨i, hi, rfl⟩ := List.getElem_of_mem hpm
  have := hall i hi
  rw [kAt_eq _ _ hi] at this
  simpa using this
theorem leftTo_hit (zs : List Pr) (key : Int) (hp : pOk zs = true) (hh : hitB zs key = true) : leftTo zs key zs.length = zs.take (geIx zs key) ++ zs.drop (geIx zs key + 1) := by
  have hr := pOk_rise hp
  unfold hitB at hh
  simp only [Bool.and_eq_true, decide_eq_true_eq, beq_iff_eq] at hh
  obtain ⟨hg, he⟩ := hh
  have e : zs = zs.take (geIx zs key) ++ (zs[geIx zs key]'hg :: zs.drop (geIx zs key + 1)) := by
    rw [← List.drop_eq_getElem_cons hg, List.take_append_drop]
  have f1 : (zs.take (geIx zs key)).filter (fun p => !(p.1 == key)) = zs.take (geIx zs key) := by
    rw [List.filter_eq_self]
    intro p hpm
    obtain ⟨i, hi, rfl⟩ := List.getElem_of_mem hpm
    rw [List.length_take] at hi
    have := geIx_lt zs key i (by omega)
    rw [kAt_eq _ _ (by omega)] at this
    rw [List.getElem_take]
    simp; omega
  have f2 : (zs.drop (geIx zs key + 1)).filter (fun p => !(p.1 == key)) = zs.drop (geIx zs key + 1) := by
    rw [List.filter_eq_self]
    intro p hpm
    obtain ⟨i, hi, rfl⟩ := List.getElem_of_mem hpm
    rw [List.length_drop] at hi
    have := rise_lt hr (geIx zs key + 1 + i) (geIx zs key) (by omega) (by omega)
    rw [kAt_eq _ (geIx zs key + 1 + i) (by omega)] at this
    rw [List.getElem_drop]
    simp; omega
  unfold leftTo
  rw [List.take_length]
  conv => lhs; rw [e]
  rw [List.filter_append, List.filter_cons, f1, f2]
  rw [kAt_eq _ _ hg] at he
  simp [he]

end Go.Proofs.Ytjookicpmjmdhaa

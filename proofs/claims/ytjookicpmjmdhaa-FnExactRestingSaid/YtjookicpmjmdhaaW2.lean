/- The walks of the loops that only read: where a key stands, whether a list is of right pairs. -/
import Derived.Test.YtjookicpmjmdhaaW1
import Derived.Test.YtjookicpmjmdhaaLst
namespace Go.Proofs.Ytjookicpmjmdhaa
open Go.RowKit


/-- The first place at which the key stands; the length, where none. -/
def atKey (zs : List Pr) (key : Int) : Nat := zs.findIdx (fun p => p.1 == key)
def whereI (zs : List Pr) (key : Int) : Int := if atKey zs key < zs.length then (atKey zs key : Int) else -1
theorem atKey_of (zs : List Pr) (key : Int) (k : Nat) (hk : k < zs.length) (h : kAt zs k = key) (hn : ∀ j, j < k → kAt zs j ≠ key) : atKey zs key = k := by
  unfold atKey
  rw [List.findIdx_eq hk]
  refine ⟨by rw [kAt_eq _ _ hk] at h; simpa using h, fun j hj => ?_⟩
  have := hn j hj
  rw [kAt_eq _ _ (by omega)] at this
  simpa using this
theorem atKey_none (zs : List Pr) (key : Int) (hn : ∀ j, j < zs.length → kAt zs j ≠ key) : atKey zs key = zs.length := by
  unfold atKey
  rw [List.findIdx_eq_length]
  intro x hx
  obtain ⟨i, hi, rfl⟩ := List.getElem_of_mem hx
  have := hn i hi
  rw [kAt_eq _ _ hi] at this
  simpa using this

theorem where_any (A : Option Addr) (n c : Nat) (zs : List Pr) (key : Int) (w : World) (h : RP w w.heap.size A n zs) (hn : n ≤ 1048576) :
    Calls Try.prog 109 #[.slice A n c, .int .i64 key] w fun e w' => e = .returned (.int .i64 (whereI zs key)) ∧ w = w' := by
  have hl := h.1
  have HL := Lib.hid hl
  clear hl
  go_enter Try.func109, Try.ntmps109
  go_wp2
  go_loop [5] (fun i => ∃ k : Nat, i = .int .i64 k ∧ k ≤ n ∧ Hid (∀ j, j < k → kAt zs j ≠ key)) (fun i => n - (intOf i).toNat)
  case atStart => exact ⟨0, rfl, by omega, Lib.hid (by intro j hj; omega)⟩
  case round =>
    obtain ⟨k, rfl, hk, hn⟩ := hrel
    by_cases hlt : k < n
    · obtain ⟨b, off, rfl, hb, hc⟩ := h.2 (by omega)
      have c1 := hc k hlt
      clear h hc
      go_wp2
      · go_ret
        have h1 : (kAt zs k == key) = true := by assumption
        have e : atKey zs key = k := atKey_of zs key k (by have := HL.out; omega) (by simpa using h1) hn.out
        exact ⟨ret_int (by unfold whereI; rw [e, if_pos (by have := HL.out; omega)]), rfl⟩
      · go_round
        have h1 : (kAt zs k == key) = false := by assumption
        case rel => exact ⟨k + 1, by go_num, by omega, Lib.hid (by
          intro j hj
          rcases Nat.lt_or_ge j k with h | h
          · exact hn.out j h
          · obtain rfl : j = k := by omega
            simpa using h1)⟩
        case measure => simp [intOf]; omega
    · go_wp2
      go_ret
      have e : atKey zs key = zs.length := atKey_none zs key (by have := HL.out; have := hn.out; intro j hj; exact hn.out j (by omega))
      exact ⟨ret_int (by unfold whereI; rw [e, if_neg (by omega)]), rfl⟩
end Go.Proofs.Ytjookicpmjmdhaa

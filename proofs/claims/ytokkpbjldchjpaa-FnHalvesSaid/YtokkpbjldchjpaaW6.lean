/- The walks of find and of both ValueAt. -/
import Derived.Test.YtokkpbjldchjpaaW5
namespace Go.Proofs.Ytokkpbjldchjpaa
open Go.RowKit

/-- The first place whose key is not less; the length, where none. -/
def geIx (zs : List Pr) (key : Int) : Nat := zs.findIdx (fun p => decide (key ≤ p.1))
def hitB (zs : List Pr) (key : Int) : Bool := decide (geIx zs key < zs.length) && (kAt zs (geIx zs key) == key)
theorem geIx_of (zs : List Pr) (key : Int) (k : Nat) (hk : k < zs.length) (h : key ≤ kAt zs k) (hn : ∀ j, j < k → kAt zs j < key) : geIx zs key = k := by
  unfold geIx
  rw [List.findIdx_eq hk]
  refine ⟨by rw [kAt_eq _ _ hk] at h; simpa using h, fun j hj => ?_⟩
  have := hn j hj
  rw [kAt_eq _ _ (by omega)] at this
  simpa using this
theorem geIx_none (zs : List Pr) (key : Int) (hn : ∀ j, j < zs.length → kAt zs j < key) : geIx zs key = zs.length := by
  unfold geIx
  rw [List.findIdx_eq_length]
  intro x hx
  obtain ⟨i, hi, rfl⟩ := List.getElem_of_mem hx
  have := hn i hi
  rw [kAt_eq _ _ hi] at this
  simpa using this
theorem geIx_le (zs : List Pr) (key : Int) : geIx zs key ≤ zs.length := List.findIdx_le_length
theorem geIx_lt (zs : List Pr) (key : Int) (j : Nat) (h : j < geIx zs key) : kAt zs j < key := by
  have hl := geIx_le zs key
  have := List.not_of_lt_findIdx (p := fun p : Pr => decide (key ≤ p.1)) (xs := zs) h
  rw [kAt_eq _ _ (by omega)]
  simpa using this
theorem geIx_at (zs : List Pr) (key : Int) (h : geIx zs key < zs.length) : key ≤ kAt zs (geIx zs key) := by
  have := List.findIdx_getElem (p := fun p : Pr => decide (key ≤ p.1)) (xs := zs) (w := h)
  have e := kAt_eq zs (geIx zs key) h
  rw [e]
  unfold geIx
  simpa using this

/-- Rising keys: of two places the later one's key is more. -/
theorem rise_lt {zs : List Pr} (h : riseTo zs zs.length) : ∀ (j i : Nat), i < j → j < zs.length → kAt zs i < kAt zs j := by
  intro j
  induction j with
  | zero => intro i hi; omega
  | succ j ih =>
    intro i hi hj
    have h1 := h (j + 1) hj (by omega)
    simp only [Nat.add_sub_cancel] at h1
    rcases Nat.lt_or_ge i j with h2 | h2
    · have := ih i h2 (by omega); omega
    · obtain rfl : i = j := by omega
      exact h1
theorem pOk_rise {zs : List Pr} (h : pOk zs = true) : riseTo zs zs.length := fun j hj h0 => (((pOk_iff zs).1 h).1 j hj).2 h0
theorem where_hit (zs : List Pr) (key : Int) (hh : hitB zs key = true) : whereI zs key = geIx zs key := by
  unfold hitB at hh
  simp only [Bool.and_eq_true, decide_eq_true_eq, beq_iff_eq] at hh
  have e : atKey zs key = geIx zs key := atKey_of zs key _ hh.1 hh.2 (fun j hj => by have := geIx_lt zs key j hj; omega)
  unfold whereI
  rw [e, if_pos hh.1]
theorem where_miss (zs : List Pr) (key : Int) (hp : pOk zs = true) (hh : hitB zs key = false) : whereI zs key = -1 := by
  have hr := pOk_rise hp
  have hall : ∀ j, j < zs.length → kAt zs j ≠ key := by
    intro j hj he
    rcases Nat.lt_or_ge j (geIx zs key) with h | h
    · have := geIx_lt zs key j h; omega
    · have hg : geIx zs key < zs.length := by omega
      have h1 := geIx_at zs key hg
      have h2 : kAt zs (geIx zs key) = key := by
        rcases Nat.lt_or_ge (geIx zs key) j with h3 | h3
        · have := rise_lt hr j (geIx zs key) h3 hj; omega
        · have : j = geIx zs key := by omega
          rw [← this]; exact he
      unfold hitB at hh
      rw [h2] at hh
      simp [hg] at hh
  unfold whereI
  rw [atKey_none zs key hall, if_neg (by omega)]

theorem find_any (A : Option Addr) (n c : Nat) (zs : List Pr) (key : Int) (w : World) (h : RP w w.heap.size A n zs) (hn : n ≤ 1048576) :
    Calls Try.prog 39 #[.slice A n c, .int .i64 key] w fun e w' => e = .returned (.tuple #[.int .i64 (geIx zs key), .bool (hitB zs key)]) ∧ Below w.heap.size w w' := by
  have HL := Lib.hid h.1
  have HH := Lib.hid h
  clear h
  have m1 := meth_key
  go_enter Try.func39, Try.ntmps39
  go_wp2
  go_loopw [10] (fun i wr => ∃ k : Nat, i = .int .i64 k ∧ k ≤ n ∧ Hid (∀ j, j < k → kAt zs j < key) ∧ Hid (Below w.heap.size w wr)) (fun i _ => n - (intOf i).toNat)
  case atStart => exact ⟨0, rfl, by omega, Lib.hid (by intro j hj; omega), Lib.hid (Below.refl _ _)⟩
  case round =>
    obtain ⟨k, rfl, hk, ho, hbw⟩ := hrel
    by_cases hlt : k < n
    · obtain ⟨b, off, rfl, hb, hc⟩ := HH.out.2 (by omega)
      have c1 := (hbw.out.cell (p := ⟨b, off + k * 2, none⟩) hb).trans (hc k hlt).1
      have c2 := (hbw.out.cell (p := ⟨b, off + k * 2 + 1, none⟩) hb).trans (hc k hlt).2
      clear hc
      go_wp2_with fail
      refine (rkey_any _ _ _).mono ?_
      rintro e w2 ⟨rfl, hb2⟩
      have d1 : w2.cell? ⟨wr.heap.size, 0, none⟩ = some (.int .i64 (kAt zs k)) := (hb2.cell (by simp)).trans (by simp)
      have d2 : w2.cell? ⟨wr.heap.size, 1, none⟩ = some (.int .i64 (vAt zs k)) := (hb2.cell (by simp)).trans (by simp)
      have hb2' : Below wr.heap.size wr w2 := ((Below.refl _ _).alloc (Nat.le_refl _) _).trans (hb2.mono (by simp))
      have HB2 := Lib.hid (hbw.out.trans (hb2'.mono hbw.out.size))
      clear hb2 hb2'
      go_wp2_with (go_at_call 85; refine (rkey_any _ _ _).mono ?_; rintro e w3 ⟨rfl, hb3⟩)
      · go_ret2
        have hge : key ≤ kAt zs k := by assumption
        have hz : zs.length = n := HL.out
        have e1 : geIx zs key = k := geIx_of zs key k (by omega) hge ho.out
        have e2 : hitB zs key = (kAt zs k == key) := by unfold hitB; rw [e1]; simp; intro _; omega
        exact ⟨by rw [e1, e2]; rfl, HB2.out.trans (hb3.mono HB2.out.size)⟩
      · go_roundw
        have hge : kAt zs k < key := by assumption
        case rel => exact ⟨k + 1, by go_num, by omega, Lib.hid (by
          intro j hj
          rcases Nat.lt_or_ge j k with h | h
          · exact ho.out j h
          · obtain rfl : j = k := by omega
            exact hge), HB2⟩
        case measure => simp [intOf]; omega
    · go_wp2
      go_ret2
      have hz : zs.length = n := HL.out
      have e1 : geIx zs key = zs.length := geIx_none zs key (fun j hj => ho.out j (by omega))
      have e2 : hitB zs key = false := by unfold hitB; rw [e1]; simp
      exact ⟨by rw [e1, e2, hz]; rfl, hbw.out⟩

/-- What ValueAt answers. -/
def valN (zs : List Pr) (key : Int) : Int := if pOk zs && hitB zs key then vAt zs (geIx zs key) else 0
def valB (zs : List Pr) (key : Int) : Bool := pOk zs && hitB zs key

end Go.Proofs.Ytokkpbjldchjpaa

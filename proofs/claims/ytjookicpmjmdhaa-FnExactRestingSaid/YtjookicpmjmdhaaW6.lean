/- The walks of find and of both ValueAt. -/
import Derived.Test.YtjookicpmjmdhaaW5
namespace Go.Proofs.Ytjookicpmjmdhaa
open Go.RowKit

/-- The first place whose key is not less; the length, where none. -/
def geIx (zs : List Pr) (key : Int) : Nat := zs.findIdx (fun p => decide (key ≤ p.1))
def hitB (zs : List Pr) (key : Int) : Bool := decide (geIx zs key < zs.length) && (kAt zs (geIx zs key) == key)
theorem geIx_of (zs : List Pr) (key : Int) (k : Nat) (hk : k < zs.length) (h : key ≤ kAt zs k) (hn : ∀ j, j < k → kAt zs j < key) : geIx zs key = k := by
  unfold geIx
  rw [List.findIdx_eq hk]
  refine ⟨by rw [kAt_eq _ _ hk] at h; simpa using h, fun j hj => ?_⟩
  have := hn j hj
  rw [kAt_eq _ _ (by omega)] at this
  simpa using this
theorem geIx_none (zs : List Pr) (key : Int) (hn : ∀ j, j < zs.length → kAt zs j < key) : geIx zs key = zs.length := by
  unfold geIx
  rw [List.findIdx_eq_length]
  intro x hx
  obtain ⟨i, hi, rfl⟩ := List.getElem_of_mem hx
  have := hn i hi
  rw [kAt_eq _ _ hi] at this
  simpa using this
theorem geIx_le (zs : List Pr) (key : Int) : geIx zs key ≤ zs.length := List.findIdx_le_length
theorem geIx_lt (zs : List Pr) (key : Int) (j : Nat) (h : j < geIx zs key) : kAt zs j < key := by
  have hl := geIx_le zs key
  have := List.not_of_lt_findIdx (p := fun p : Pr => decide (key ≤ p.1)) (xs := zs) h
  rw [kAt_eq _ _ (by omega)]
  simpa using this
theorem geIx_at (zs : List Pr) (key : Int) (h : geIx zs key < zs.length) : key ≤ kAt zs (geIx zs key) := by
  have := List.findIdx_getElem (p := fun p : Pr => decide (key ≤ p.1)) (xs := zs) (w := h)
  have e := kAt_eq zs (geIx zs key) h
  rw [e]
  unfold geIx
  simpa using this

/-- Rising keys: of two places the later one's key is more. -/
theorem rise_lt {zs : List Pr} (h : riseTo zs zs.length) : ∀ (j i : Nat), i < j → j < zs.length → kAt zs i < kAt zs j := by
  intro j
  induction j with
  | zero => intro i hi; omega
  | succ j ih =>
    intro i hi hj
    have h1 := h (j + 1) hj (by omega)
    simp only [Nat.add_sub_cancel] at h1
    rcases Nat.lt_or_ge i j with h2 | h2
    · have := ih i h2 (by omega); omega
    · obtain rfl : i = j := by omega
      exact h1
theorem pOk_rise {zs : List Pr} (h : pOk zs = true) : riseTo zs zs.length := fun j hj h0 => (((pOk_iff zs).1 h).1 j hj).2 h0
theorem where_hit (zs : List Pr) (key : Int) (hh : hitB zs key = true) : whereI zs key = geIx zs key := by
  unfold hitB at hh
  simp only [Bool.and_eq_true, decide_eq_true_eq, beq_iff_eq] at hh
  have e : atKey zs key = geIx zs key := atKey_of zs key _ hh.1 hh.2 (fun j hj => by have := geIx_lt zs key j hj; omega)
  unfold whereI
  rw [e, if_pos hh.1]
theorem where_miss (zs : List Pr) (key : Int) (hp : pOk zs = true) (hh : hitB zs key = false) : whereI zs key = -1 := by
  have hr := pOk_rise hp
  have hall : ∀ j, j < zs.length → kAt zs j ≠ key := by
    intro j hj he
    rcases Nat.lt_or_ge j (geIx zs key) with h | h
    · have := geIx_lt zs key j h; omega
    · have hg : geIx zs key < zs.length := by omega
      have h1 := geIx_at zs key hg
      have h2 : kAt zs (geIx zs key) = key := by
        rcases Nat.lt_or_ge (geIx zs key) j with h3 | h3
        · have := rise_lt hr j (geIx zs key) h3 hj; omega
        · have : j = geIx zs key := by omega
          rw [← this]; exact he
      unfold hitB at hh
      rw [h2] at hh
      simp [hg] at hh
  unfold whereI
  rw [atKey_none zs key hall, if_neg (by omega)]

/-- What ValueAt answers. -/
def valN (zs : List Pr) (key : Int) : Int := if pOk zs && hitB zs key then vAt zs (geIx zs key) else 0
def valB (zs : List Pr) (key : Int) : Bool := pOk zs && hitB zs key

theorem sVal_any (A : Option Addr) (n c : Nat) (zs : List Pr) (key : Int) (w : World) (h : RP w w.heap.size A n zs) (hn : n ≤ 1048576) :
    Calls Try.prog 117 #[.slice A n c, .int .i64 key] w fun e w' => e = .returned (.tuple #[.int .i64 (valN zs key), .bool (valB zs key)]) ∧ Below w.heap.size w w' := by
  have HL := Lib.hid h.1
  have HH := Lib.hid h
  clear h
  by_cases hp : pOk zs = true
  · have p1 : ∀ w, RP w w.heap.size A n zs → Calls Try.prog 89 #[.slice A n c] w fun e w' => e = .returned (.bool true) ∧ Below w.heap.size w w' := fun w hR => by
      have := spOk_any A n c zs w hR hn; rwa [hp] at this
    by_cases hh : hitB zs key = true
    · have f1 : ∀ w, RP w w.heap.size A n zs → Calls Try.prog 109 #[.slice A n c, .int .i64 key] w fun e w' => e = .returned (.int .i64 (geIx zs key)) ∧ w = w' := fun w hR => by
        have := where_any A n c zs key w hR hn; rwa [where_hit zs key hh] at this
      have hg : geIx zs key < n := by
        have := hh; unfold hitB at this; simp only [Bool.and_eq_true, decide_eq_true_eq] at this; have := this.1; have := HL.out; omega
      obtain ⟨b, off, rfl, hb, hc⟩ := HH.out.2 (by omega)
      have c2 := Lib.hid (hc _ hg).2
      have e1 : valN zs key = vAt zs (geIx zs key) := by unfold valN; rw [hp, hh]; rfl
      have e2 : valB zs key = true := by unfold valB; rw [hp, hh]; rfl
      rw [e1, e2]
      have hg2 : (geIx zs key : Int) < n := by omega
      clear e1 e2 hc hp hh
      generalize geIx zs key = g at *
      go_enter Try.func117, Try.ntmps117
      go_wp2_with fail
      refine (f1 _ HH.out).mono ?_
      rintro e w1 ⟨rfl, rfl⟩
      go_wp2_with fail
      refine (p1 _ HH.out).mono ?_
      rintro e w2 ⟨rfl, b2⟩
      have B2 := Lib.hid b2
      have c3 : w2.cell? ⟨b, off + g * 2 + 1, none⟩ = some (.int .i64 (vAt zs g)) := (B2.out.cell (p := ⟨b, off + g * 2 + 1, none⟩) hb).trans c2.out
      clear b2
      go_wp2
      go_ret2
      exact ⟨rfl, B2.out⟩
    · have hh : hitB zs key = false := by simpa using hh
      have f1 : ∀ w, RP w w.heap.size A n zs → Calls Try.prog 109 #[.slice A n c, .int .i64 key] w fun e w' => e = .returned (.int .i64 (-1)) ∧ w = w' := fun w hR => by
        have := where_any A n c zs key w hR hn; rwa [where_miss zs key hp hh] at this
      have e1 : valN zs key = 0 := by unfold valN; rw [hh]; simp
      have e2 : valB zs key = false := by unfold valB; rw [hh]; simp
      rw [e1, e2]
      clear hp hh e1 e2
      go_enter Try.func117, Try.ntmps117
      go_wp2_with fail
      refine (f1 _ HH.out).mono ?_
      rintro e w1 ⟨rfl, rfl⟩
      go_wp2_with fail
      refine (p1 _ HH.out).mono ?_
      rintro e w2 ⟨rfl, b2⟩
      have B2 := Lib.hid b2
      clear b2
      go_wp2
      go_ret2
      exact ⟨rfl, B2.out⟩
  · have hp : pOk zs = false := by simpa using hp
    have p1 : ∀ w, RP w w.heap.size A n zs → Calls Try.prog 89 #[.slice A n c] w fun e w' => e = .returned (.bool false) ∧ Below w.heap.size w w' := fun w hR => by
      have := spOk_any A n c zs w hR hn; rwa [hp] at this
    have f1 := where_any A n c zs key
    have e1 : valN zs key = 0 := by unfold valN; rw [hp]; simp
    have e2 : valB zs key = false := by unfold valB; rw [hp]; simp
    rw [e1, e2]
    clear hp e1 e2
    generalize whereI zs key = g at *
    go_enter Try.func117, Try.ntmps117
    go_wp2_with fail
    refine (f1 _ HH.out hn).mono ?_
    rintro e w1 ⟨rfl, rfl⟩
    go_wp2_with fail
    refine (p1 _ HH.out).mono ?_
    rintro e w2 ⟨rfl, b2⟩
    have B2 := Lib.hid b2
    clear b2
    go_wp2
    go_ret2
    exact ⟨rfl, B2.out⟩
end Go.Proofs.Ytjookicpmjmdhaa

/- The walks of the model's NodeOk as a whole, of Within and KidFor. -/
import Derived.Test.YtjookicpmjmdhaaN1
namespace Go.Proofs.Ytjookicpmjmdhaa
open Go.RowKit

/-- A node's value, its list's slice written out. -/
def ndV (x : Nd) (A : Option Addr) (n c : Nat) : Value := .agg #[.int .i64 x.lv, .slice A n c, .int .i64 x.hi, .int .i64 x.ri, .int .i64 x.ow]
theorem to_bool {P : Program} {f : FuncId} {args : Array Value} {w : World} {b b' : Bool} (e : b = b') (h : Calls P f args w fun e w' => e = .returned (.bool b) ∧ Below w.heap.size w w') : Calls P f args w fun e w' => e = .returned (.bool b') ∧ Below w.heap.size w w' := by subst e; exact h

theorem sNode_any (x : Nd) (A : Option Addr) (n c : Nat) (w : World) (h : RP w w.heap.size A n x.ps) (hn : n ≤ 1048576) :
    Calls Try.prog 83 #[ndV x A n c] w fun e w' => e = .returned (.bool (nodeOk x)) ∧ Below w.heap.size w w' := by
  have hl := h.1
  obtain ⟨lv, zs, hi, ri, ow⟩ := x
  simp only at h hl
  unfold ndV nodeOk
  simp only
  rcases Bool.eq_false_or_eq_true (inB lv 0 6) with h1 | h1
  · by_cases h2 : 4 < n
    · exact to_bool (by simp [h1]; omega) (nOk_fan lv hi ri ow A n c zs w h hn h1 h2)
    · have h2 : n ≤ 4 := by omega
      have h2b : decide (zs.length ≤ 4) = true := by simp; omega
      rcases Bool.eq_false_or_eq_true (pOk zs) with h3 | h3
      · by_cases h4 : 0 < lv
        · have h4b : decide (lv ≤ 0) = false := by simp; omega
          rcases Bool.eq_false_or_eq_true (kidsB zs) with h5 | h5
          · rcases Bool.eq_false_or_eq_true (inB ow 0 6) with h6 | h6
            · by_cases h7 : hi = -1
              · refine to_bool ?_ (nOk_openU lv hi ri ow A n c zs w h hn h1 h2 h3 h4 h5 h6 h7)
                rw [h1, h2b, h3, h4b, h5, h6, if_pos h7]; by_cases hr : ri = -1 <;> simp [hr]
              · rcases Bool.eq_false_or_eq_true (inB hi 1 100) with h8 | h8
                · rcases Bool.eq_false_or_eq_true (numB ri) with h9 | h9
                  · rcases Nat.eq_zero_or_pos n with h10 | h10
                    · exact to_bool (by rw [h1, h2b, h3, h4b, h5, h6, if_neg h7, h8, h9]; simp; left; apply List.eq_nil_of_length_eq_zero; omega) (nOk_noneU lv hi ri ow A n c zs w h hn h1 h2 h3 h4 h5 h6 h7 h8 h9 h10)
                    · refine to_bool ?_ (nOk_lastU lv hi ri ow A n c zs w h hn h1 h2 h3 h4 h5 h6 h7 h8 h9 h10)
                      rw [h1, h2b, h3, h4b, h5, h6, if_neg h7, h8, h9, decide_eq_false (by omega : ¬ zs.length = 0)]; simp [lastK, hl]
                  · exact to_bool (by rw [h1, h2b, h3, h4b, h5, h6, if_neg h7, h8, h9]; rfl) (nOk_riU lv hi ri ow A n c zs w h hn h1 h2 h3 h4 h5 h6 h7 h8 h9)
                · exact to_bool (by rw [h1, h2b, h3, h4b, h5, h6, if_neg h7, h8]; rfl) (nOk_hiU lv hi ri ow A n c zs w h hn h1 h2 h3 h4 h5 h6 h7 h8)
            · exact to_bool (by rw [h1, h2b, h3, h4b, h5, h6]; rfl) (nOk_owU lv hi ri ow A n c zs w h hn h1 h2 h3 h4 h5 h6)
          · exact to_bool (by rw [h1, h2b, h3, h4b, h5]; rfl) (nOk_kids lv hi ri ow A n c zs w h hn h1 h2 h3 h4 h5)
        · have h4 : lv ≤ 0 := by omega
          have h4b : decide (lv ≤ 0) = true := by simpa using h4
          rcases Bool.eq_false_or_eq_true (inB ow 0 6) with h6 | h6
          · by_cases h7 : hi = -1
            · refine to_bool ?_ (nOk_openL lv hi ri ow A n c zs w h hn h1 h2 h3 h4 h6 h7)
              rw [h1, h2b, h3, h4b, h6, if_pos h7]; by_cases hr : ri = -1 <;> simp [hr]
            · rcases Bool.eq_false_or_eq_true (inB hi 1 100) with h8 | h8
              · rcases Bool.eq_false_or_eq_true (numB ri) with h9 | h9
                · rcases Nat.eq_zero_or_pos n with h10 | h10
                  · exact to_bool (by rw [h1, h2b, h3, h4b, h6, if_neg h7, h8, h9]; simp; left; apply List.eq_nil_of_length_eq_zero; omega) (nOk_noneL lv hi ri ow A n c zs w h hn h1 h2 h3 h4 h6 h7 h8 h9 h10)
                  · refine to_bool ?_ (nOk_lastL lv hi ri ow A n c zs w h hn h1 h2 h3 h4 h6 h7 h8 h9 h10)
                    rw [h1, h2b, h3, h4b, h6, if_neg h7, h8, h9, decide_eq_false (by omega : ¬ zs.length = 0)]; simp [lastK, hl]
                · exact to_bool (by rw [h1, h2b, h3, h4b, h6, if_neg h7, h8, h9]; rfl) (nOk_riL lv hi ri ow A n c zs w h hn h1 h2 h3 h4 h6 h7 h8 h9)
              · exact to_bool (by rw [h1, h2b, h3, h4b, h6, if_neg h7, h8]; rfl) (nOk_hiL lv hi ri ow A n c zs w h hn h1 h2 h3 h4 h6 h7 h8)
          · exact to_bool (by rw [h1, h2b, h3, h4b, h6]; rfl) (nOk_owL lv hi ri ow A n c zs w h hn h1 h2 h3 h4 h6)
      · exact to_bool (by rw [h1, h2b, h3]; rfl) (nOk_ps lv hi ri ow A n c zs w h hn h1 h2 h3)
  · exact to_bool (by rw [h1]; rfl) (nOk_lv lv hi ri ow A n c zs w h hn h1)

/-- Is the key less than the bound, if there is one? -/
def inside (x : Nd) (key : Int) : Bool := decide (x.hi = -1) || decide (key < x.hi)
/-- The last place whose key is not more; the first, where none. -/
def kidIx (zs : List Pr) (key : Int) : Nat := zs.tail.findIdx (fun p => decide (key < p.1))
theorem kidIx_of (zs : List Pr) (key : Int) (k : Nat) (hk : k < zs.length) (hlt : ∀ j, j < k → kAt zs (j + 1) ≤ key) (hge : k + 1 < zs.length → key < kAt zs (k + 1)) : kidIx zs key = k := by
  have ht : zs.tail.length = zs.length - 1 := List.length_tail
  have hi : ∀ j, (h : j < zs.tail.length) → (zs.tail[j]).1 = kAt zs (j + 1) := fun j h => by
    rw [kAt_eq _ _ (by omega), List.getElem_tail]
  unfold kidIx
  by_cases h : k + 1 < zs.length
  · rw [List.findIdx_eq (by omega)]
    refine ⟨by rw [hi]; simpa using hge h, fun j hj => ?_⟩
    rw [hi]
    simpa using hlt j hj
  · have hkt : k = zs.tail.length := by omega
    rw [hkt, List.findIdx_eq_length]
    intro p hp
    obtain ⟨j, hj, rfl⟩ := List.getElem_of_mem hp
    rw [hi]
    simpa using hlt j (by omega)
def kidN (x : Nd) (key : Int) : Int := if nodeOk x && decide (0 < x.lv) then vAt x.ps (kidIx x.ps key) else -1

theorem sInside_any (x : Nd) (key : Int) (A : Option Addr) (n c : Nat) (w : World) :
    Calls Try.prog 110 #[ndV x A n c, .int .i64 key] w fun e w' => e = .returned (.bool (inside x key)) ∧ Below w.heap.size w w' := by
  obtain ⟨lv, zs, hi, ri, ow⟩ := x
  unfold ndV inside
  simp only
  by_cases h : hi = -1
  · have hb : (hi == -1) = true := by simpa using h
    have H := Lib.hid h
    clear h
    go_enter Try.func110, Try.ntmps110
    go_wp2
    go_ret
    exact ⟨ret_bool (by simp [H.out]), (Below.refl _ _).alloc (Nat.le_refl _) _⟩
  · have hb : (hi == -1) = false := by simpa using h
    have H := Lib.hid h
    clear h
    go_enter Try.func110, Try.ntmps110
    go_wp2
    go_ret
    exact ⟨ret_bool (by simp [H.out]), (Below.refl _ _).alloc (Nat.le_refl _) _⟩

theorem sKid_any (x : Nd) (key : Int) (A : Option Addr) (n c : Nat) (w : World) (h : RP w w.heap.size A n x.ps) (hn : n ≤ 1048576) (h0 : 0 < n) :
    Calls Try.prog 116 #[ndV x A n c, .int .i64 key] w fun e w' => e = .returned (.int .i64 (vAt x.ps (kidIx x.ps key))) ∧ Below w.heap.size w w' := by
  obtain ⟨lv, zs, hi, ri, ow⟩ := x
  unfold ndV
  simp only at *
  have HL := Lib.hid h.1
  obtain ⟨b, off, rfl, hb, hc⟩ := h.2 h0
  have HC := Lib.hid hc
  clear hc h
  obtain ⟨w0, hw0⟩ : ∃ w0, w0 = w.alloc (.cells #[.int .i64 lv, .slice (some ⟨b, off, none⟩) n c, .int .i64 hi, .int .i64 ri, .int .i64 ow] 101) := ⟨_, rfl⟩
  have B0 : Hid (Below w.heap.size w w0) := Lib.hid (by rw [hw0]; exact (Below.refl _ _).alloc (Nat.le_refl _) _)
  have a1 : w0.cell? ⟨w.heap.size, 1, none⟩ = some (.slice (some ⟨b, off, none⟩) n c) := by rw [hw0]; simp
  have HW := Lib.hid hw0
  clear hw0
  go_enter Try.func116, Try.ntmps116
  go_wp2
  change Code.wp _ _ _ _ (w.alloc (.cells #[.int .i64 lv, .slice (some ⟨b, off, none⟩) n c, .int .i64 hi, .int .i64 ri, .int .i64 ow] 101))
  rw [← HW.out]
  go_loop [5] (fun i => ∃ k : Nat, i = .int .i64 k ∧ k < n ∧ Hid (∀ j, j < k → kAt zs (j + 1) ≤ key)) (fun i => n - (intOf i).toNat)
  case atStart => exact ⟨0, rfl, h0, Lib.hid (by intro j hj; omega)⟩
  case round =>
    obtain ⟨k, rfl, hk, ho⟩ := hrel
    have fin : ∀ (hx : k + 1 < n → key < kAt zs (k + 1)), kidIx zs key = k := fun hx => kidIx_of zs key k (by have := HL.out; omega) ho.out (fun h => hx (by have := HL.out; omega))
    have FIN := Lib.hid fin
    clear fin
    have c2 := (B0.out.cell (p := ⟨b, off + k * 2 + 1, none⟩) hb).trans (HC.out k hk).2
    by_cases hlt : k + 1 < n
    · have c1 := (B0.out.cell (p := ⟨b, off + (k + 1) * 2, none⟩) hb).trans (HC.out (k + 1) hlt).1
      by_cases hle : kAt zs (k + 1) ≤ key
      · have g1 : decide (kAt zs (k + 1) ≤ key) = true := by simpa using hle
        go_wp2
        go_round
        case rel => exact ⟨k + 1, by go_num, hlt, Lib.hid (by
          intro j hj
          rcases Nat.lt_or_ge j k with h | h
          · exact ho.out j h
          · obtain rfl : j = k := by omega
            exact hle)⟩
        case measure => simp [intOf]; omega
      · have g1 : decide (kAt zs (k + 1) ≤ key) = false := by simpa using hle
        go_wp2
        go_ret
        exact ⟨ret_int (by rw [FIN.out (fun _ => by omega)]), B0.out⟩
    · have g1 : decide ((k : Int) + 1 < (n : Int)) = false := by simp; omega
      have HLT := Lib.hid hlt
      clear hlt
      go_wp2
      go_ret
      exact ⟨ret_int (by rw [FIN.out (fun h => absurd h HLT.out)]), B0.out⟩

theorem nodeOk_kids {x : Nd} (h : nodeOk x = true) (hl : 0 < x.lv) : 0 < x.ps.length := by
  unfold nodeOk at h
  simp only [Bool.and_eq_true, Bool.or_eq_true, decide_eq_true_eq] at h
  rcases h.1.1.2 with h' | h'
  · omega
  · exact ((kidsB_iff _).1 h').2
theorem nodeOk_lv {x : Nd} (h : nodeOk x = true) : 0 ≤ x.lv := by
  unfold nodeOk at h
  simp only [Bool.and_eq_true] at h
  have := h.1.1.1.1.1
  unfold inB at this
  simp at this
  exact this.1

end Go.Proofs.Ytjookicpmjmdhaa

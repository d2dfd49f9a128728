/- Lists of nodes counted; the walks of the laws' szNodeS and szTree. -/
import Derived.Test.YtlmhcifnikdliaaDoorA07
namespace Go.Proofs.YtlmhcifnikdliaaDoor
open Go.RowKit

def psTo (xs : List Nd) : Nat → Nat
  | 0 => 0
  | k + 1 => psTo xs k + (ndAt xs k).ps.length
theorem psTo_mono (xs : List Nd) : ∀ (m k : Nat), k ≤ m → psTo xs k ≤ psTo xs m := by
  intro m
  induction m with
  | zero => intro k hk; obtain rfl : k = 0 := by omega
            exact Nat.le_refl _
  | succ m ih =>
    intro k hk
    rcases Nat.lt_or_ge m k with h | h
    · obtain rfl : k = m + 1 := by omega
      exact Nat.le_refl _
    · exact Nat.le_trans (ih k h) (Nat.le_add_right _ _)
def szs (xs : List Nd) : Nat := xs.length + psTo xs xs.length
theorem szs_len {xs : List Nd} (h : szs xs ≤ 1048576) : xs.length ≤ 1048576 := by unfold szs at h; omega
theorem szs_ps {xs : List Nd} (h : szs xs ≤ 1048576) (i : Nat) (hi : i < xs.length) : (ndAt xs i).ps.length ≤ 1048576 := by
  have := psTo_mono xs xs.length (i + 1) hi
  unfold szs at h
  simp only [psTo] at this
  omega
def leftI (L m : Nat) : Int := if m ≤ L then (L : Int) - m else -1

theorem szP_any (A : Option Addr) (n c L : Nat) (w : World) (hL : L ≤ 1048576) (hm : n ≤ 9223372036854775807) :
    Calls Tryd.prog 54 #[.slice A n c, .int .i64 L] w fun e w' => e = .returned (.int .i64 (leftI L n)) ∧ w = w' := by
  unfold leftI
  by_cases hn : n ≤ L
  · rw [if_pos hn]
    go_enter Tryd.func54, Tryd.ntmps54
    go_wp2
    go_ret
    exact ⟨rfl, rfl⟩
  · rw [if_neg hn]
    go_enter Tryd.func54, Tryd.ntmps54
    go_wp2
    go_ret
    exact ⟨rfl, rfl⟩
theorem szN_any (x : Nd) (A : Option Addr) (n c L : Nat) (w : World) (hL : L ≤ 1048576) (hm : n ≤ 9223372036854775807) :
    Calls Tryd.prog 33 #[ndV x A n c, .int .i64 L] w fun e w' => e = .returned (.int .i64 (leftI L n)) ∧ Below w.heap.size w w' := by
  obtain ⟨lv, zs, hi, ri, ow⟩ := x
  have hs := fun w => szP_any A n c L w hL hm
  by_cases hn : n ≤ L
  · have e : leftI L n = (L : Int) - n := by unfold leftI; rw [if_pos hn]
    rw [e] at hs ⊢
    have HS := Lib.hid hs
    clear hs e
    unfold ndV
    simp only
    go_enter Tryd.func33, Tryd.ntmps33
    go_wp2_with (go_at_call 54; refine (HS.out _).mono ?_; rintro e w1 ⟨rfl, rfl⟩)
    go_ret
    exact ⟨rfl, (Below.refl _ _).alloc (Nat.le_refl _) _⟩
  · have e : leftI L n = -1 := by unfold leftI; rw [if_neg hn]
    rw [e] at hs ⊢
    have HS := Lib.hid hs
    clear hs e
    unfold ndV
    simp only
    go_enter Tryd.func33, Tryd.ntmps33
    go_wp2_with (go_at_call 54; refine (HS.out _).mono ?_; rintro e w1 ⟨rfl, rfl⟩)
    go_ret
    exact ⟨rfl, (Below.refl _ _).alloc (Nat.le_refl _) _⟩

theorem szNS_any (A : Option Addr) (n c : Nat) (xs : List Nd) (w : World) (h : RS w w.heap.size A n xs) (hm : n ≤ 9223372036854775807) (hp : ∀ i, i < n → (ndAt xs i).ps.length ≤ 9223372036854775807) :
    Calls Tryd.prog 19 #[.slice A n c, .int .i64 1048576] w fun e w' => e = .returned (.int .i64 (leftI 1048576 (szs xs))) ∧ Below w.heap.size w w' := by
  have HL := Lib.hid h.1
  have HH := Lib.hid h
  have HP := Lib.hid hp
  clear h hp
  by_cases hn : 1048576 < n
  · have e : leftI 1048576 (szs xs) = -1 := by unfold leftI szs; rw [if_neg (by have := HL.out; omega)]
    rw [e]
    clear e
    go_enter Tryd.func19, Tryd.ntmps19
    go_wp2
    go_ret
    exact ⟨rfl, Below.refl _ _⟩
  have hn : n ≤ 1048576 := by omega
  go_enter Tryd.func19, Tryd.ntmps19
  go_wp2
  go_loopw [1, 5] (fun l i wr => ∃ (k L : Nat), i = .int .i64 k ∧ k ≤ n ∧ l = .int .i64 L ∧ L ≤ 1048576 ∧ Hid (L + n + psTo xs k = 1048576) ∧ Hid (Below w.heap.size w wr)) (fun _ i _ => n - (intOf i).toNat)
  case atStart => exact ⟨0, 1048576 - n, rfl, by omega, by go_num, by omega, Lib.hid (by simp [psTo]; omega), Lib.hid (Below.refl _ _)⟩
  case round =>
    obtain ⟨k, L, rfl, hk, rfl, hL, hS, hbw⟩ := hrel
    by_cases hlt : k < n
    · obtain ⟨b, off, rfl, hb, hc⟩ := HH.out.nd (by omega)
      obtain ⟨A2, n2, c2, h0, h1, h2, h3, h4, hR, _⟩ := (hc k hlt).keep (w' := wr) hb (fun p hp => hbw.out.cell hp)
      have hl2 := hR.1
      have HL2 := Lib.hid hl2
      have hn2 : n2 ≤ 9223372036854775807 := by have := HP.out k hlt; omega
      have sN := fun w => szN_any (ndAt xs k) A2 n2 c2 L w hL hn2
      unfold ndV at sN
      have SN := Lib.hid sN
      clear hc hR hl2 sN
      generalize (ndAt xs k).lv = lv at *
      generalize (ndAt xs k).hi = hi at *
      generalize (ndAt xs k).ri = ri at *
      generalize (ndAt xs k).ow = ow at *
      have hx : psTo xs (k + 1) = psTo xs k + n2 := by simp only [psTo]; rw [HL2.out]
      have HX := Lib.hid hx
      clear hx
      go_wp2_with fail
      refine (SN.out _).mono ?_
      rintro e w1 ⟨rfl, b1⟩
      have B1 := Lib.hid (hbw.out.trans (b1.mono hbw.out.size))
      clear b1
      by_cases hfit : n2 ≤ L
      · have e : leftI L n2 = ((L - n2 : Nat) : Int) := by unfold leftI; rw [if_pos hfit]; omega
        rw [e]
        generalize hL' : L - n2 = L' at *
        have HLL := Lib.hid hL'
        clear e hL'
        go_wp2
        go_roundw
        case rel => exact ⟨k + 1, L', by go_num, by omega, rfl, by have := HLL.out; omega, Lib.hid (by have := HX.out; have := hS.out; have := HLL.out; omega), B1⟩
        case measure => simp [intOf]; omega
      · have e : leftI L n2 = -1 := by unfold leftI; rw [if_neg hfit]
        rw [e]
        clear e
        go_wp2
        go_ret
        refine ⟨ret_int ?_, B1.out⟩
        unfold leftI szs
        have hmono := psTo_mono xs xs.length (k + 1) (by have := HL.out; omega)
        rw [if_neg (by have := HX.out; have := hS.out; have := HL.out; omega)]
    · obtain rfl : k = n := by omega
      go_wp2
      go_ret
      refine ⟨ret_int ?_, hbw.out⟩
      unfold leftI szs
      have h1 := hS.out
      have h2 := HL.out
      rw [h2, if_pos (by omega)]
      omega

theorem szT_any (t : Tr) (A : Option Addr) (n c : Nat) (w : World) (h : RS w w.heap.size A n t.ns) (hm : n ≤ 9223372036854775807) (hp : ∀ i, i < n → (ndAt t.ns i).ps.length ≤ 9223372036854775807) :
    Calls Tryd.prog 6 #[trV t A n c, .int .i64 1048576] w fun e w' => e = .returned (.int .i64 (leftI 1048576 (szs t.ns))) ∧ Below w.heap.size w w' := by
  have sk : ∀ w, RS w w.heap.size A n t.ns → Calls Tryd.prog 19 #[.slice A n c, .int .i64 1048576] w fun e w' => e = .returned (.int .i64 (leftI 1048576 (szs t.ns))) ∧ Below w.heap.size w w' := fun w hR => szNS_any A n c t.ns w hR hm hp
  have hle : leftI 1048576 (szs t.ns) = -1 ∨ 0 ≤ leftI 1048576 (szs t.ns) := by unfold leftI; split <;> omega
  have HH := Lib.hid h
  clear h hp
  generalize leftI 1048576 (szs t.ns) = L at *
  obtain ⟨r, xs⟩ := t
  unfold trV
  simp only at *
  have SK := Lib.hid sk
  have HLE := Lib.hid hle
  clear sk hle
  have B0 : Hid (Below w.heap.size w (w.alloc (.cells #[.int .i64 r, .slice A n c] 24))) := Lib.hid ((Below.refl _ _).alloc (Nat.le_refl _) _)
  rcases HLE.out with rfl | hL
  · go_enter Tryd.func6, Tryd.ntmps6
    go_wp2_with fail
    refine (SK.out _ (HH.out.on B0.out)).mono ?_
    rintro e w1 ⟨rfl, b1⟩
    have B1 := Lib.hid (B0.out.trans (b1.mono (by simp)))
    clear b1
    go_wp2
    go_ret
    exact ⟨rfl, B1.out⟩
  · go_enter Tryd.func6, Tryd.ntmps6
    go_wp2_with fail
    refine (SK.out _ (HH.out.on B0.out)).mono ?_
    rintro e w1 ⟨rfl, b1⟩
    have B1 := Lib.hid (B0.out.trans (b1.mono (by simp)))
    clear b1
    go_wp2
    go_ret
    exact ⟨rfl, B1.out⟩
end Go.Proofs.YtlmhcifnikdliaaDoor

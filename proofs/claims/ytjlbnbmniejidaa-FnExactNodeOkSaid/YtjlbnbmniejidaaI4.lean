/- The code's own KidFor: what it answers. -/
import Derived.Test.YtjlbnbmniejidaaI3
namespace Go.Proofs.Ytjlbnbmniejidaa
open Go.RowKit

theorem kid_hit {zs : List Pr} (hp : pOk zs = true) (key : Int) (hh : hitB zs key = true) : kidIx zs key = geIx zs key := by
  have hr := pOk_rise hp
  unfold hitB at hh
  simp only [Bool.and_eq_true, decide_eq_true_eq, beq_iff_eq] at hh
  refine kidIx_of zs key _ hh.1 (fun j hj => ?_) (fun h => ?_)
  · rcases Nat.lt_or_ge (j + 1) (geIx zs key) with h | h
    · have := geIx_lt zs key _ h; omega
    · have e : j + 1 = geIx zs key := by omega
      rw [e, hh.2]; omega
  · have := rise_lt hr (geIx zs key + 1) (geIx zs key) (by omega) h
    omega
theorem kid_miss0 {zs : List Pr} (hp : pOk zs = true) (key : Int) (h0 : 0 < zs.length) (hg : geIx zs key = 0) : kidIx zs key = 0 := by
  have hr := pOk_rise hp
  refine kidIx_of zs key 0 h0 (fun j hj => by omega) (fun h => ?_)
  have h1 := geIx_at zs key (by omega)
  rw [hg] at h1
  have := rise_lt hr 1 0 (by omega) (by omega)
  simp only [Nat.zero_add]
  omega
theorem kid_miss {zs : List Pr} (key : Int) (hh : hitB zs key = false) (hg : 0 < geIx zs key) : kidIx zs key = geIx zs key - 1 := by
  have hl := geIx_le zs key
  refine kidIx_of zs key _ (by omega) (fun j hj => ?_) (fun h => ?_)
  · have := geIx_lt zs key (j + 1) (by omega); omega
  · have e : geIx zs key - 1 + 1 = geIx zs key := by omega
    rw [e] at h ⊢
    have h1 := geIx_at zs key h
    unfold hitB at hh
    simp [h] at hh
    omega

/-- The value that KidFor answers, by its three ways. -/
theorem iKidFor_any (x : Nd) (key : Int) (A : Option Addr) (n c : Nat) (w : World) (h : RP w w.heap.size A n x.ps) (hn : n ≤ 1048576) (_hc : n ≤ c) (_hc2 : c ≤ 9223372036854775807) :
    Calls Try.prog 28 #[ndV x A n c, .int .i64 key] w fun e w' => e = .returned (.int .i64 (kidN x key)) ∧ Below w.heap.size w w' := by
  have HL := Lib.hid h.1
  have HH := Lib.hid h
  clear h
  have nk : ∀ w, RP w w.heap.size A n x.ps → Calls Try.prog 58 #[ndV x A n c] w fun e w' => e = .returned (.bool (nodeOk x)) ∧ Below w.heap.size w w' := fun w hR => iok_any x A n c w hR hn
  have fk : ∀ w, RP w w.heap.size A n x.ps → Calls Try.prog 47 #[.slice A n c, .int .i64 key] w fun e w' => e = .returned (.tuple #[.int .i64 (geIx x.ps key), .bool (hitB x.ps key)]) ∧ Below w.heap.size w w' := fun w hR => find_any A n c x.ps key w hR hn
  by_cases hb : nodeOk x = true
  · have hlv := nodeOk_lv hb
    by_cases h0 : 0 < x.lv
    · have hpos := nodeOk_kids hb h0
      have hp : pOk x.ps = true := by unfold nodeOk at hb; simp only [Bool.and_eq_true] at hb; exact hb.1.1.1.2
      have hk : kidN x key = vAt x.ps (kidIx x.ps key) := by unfold kidN; rw [hb]; simp [h0]
      have hgl := geIx_le x.ps key
      rw [hb] at nk
      obtain ⟨b, off, rfl, hbb, hc⟩ := HH.out.2 (by have := HL.out; omega)
      by_cases hh : hitB x.ps key = true
      · have hkk := kid_hit hp key hh
        have hgl2 : geIx x.ps key < n := by
          have := hh; unfold hitB at this; simp only [Bool.and_eq_true, decide_eq_true_eq] at this; have := this.1; have := HL.out; omega
        have c2 := Lib.hid (hc _ hgl2).2
        rw [hk, hkk]
        rw [hh] at fk
        clear hb hk hkk hh hc hp hgl hpos
        generalize geIx x.ps key = g at *
        obtain ⟨lv, zs, hi, ri, ow⟩ := x
        unfold ndV at *
        simp only at *
        have NK := Lib.hid nk
        have FK := Lib.hid fk
        clear nk fk
        have B0 : Hid (Below w.heap.size w (w.alloc (.cells #[.int .i64 lv, .slice (some ⟨b, off, none⟩) n c, .int .i64 hi, .int .i64 ri, .int .i64 ow] 40))) := Lib.hid ((Below.refl _ _).alloc (Nat.le_refl _) _)
        have g0 : (lv == 0) = false := by simp; omega
        clear hlv h0
        go_enter Try.func28, Try.ntmps28
        go_wp2_with fail
        refine (NK.out _ (HH.out.on B0.out)).mono ?_
        rintro e w1 ⟨rfl, b1⟩
        have d0 : w1.cell? ⟨w.heap.size, 0, none⟩ = some (.int .i64 lv) := (b1.cell (by simp)).trans (by simp)
        have d1 : w1.cell? ⟨w.heap.size, 1, none⟩ = some (.slice (some ⟨b, off, none⟩) n c) := (b1.cell (by simp)).trans (by simp)
        have hs : w.heap.size < w1.heap.size := by have := b1.size; simp at this; omega
        have B1 := Lib.hid (B0.out.trans (b1.mono (by simp)))
        clear b1
        go_wp2_with fail
        refine (FK.out _ (HH.out.on B1.out)).mono ?_
        rintro e w2 ⟨rfl, b2⟩
        have e1 := (b2.cell (p := ⟨w.heap.size, 1, none⟩) hs).trans d1
        clear d0 d1
        have B2 := Lib.hid (B1.out.trans (b2.mono B1.out.size))
        have c3 : w2.cell? ⟨b, off + g * 2 + 1, none⟩ = some (.int .i64 (vAt zs g)) := (B2.out.cell (p := ⟨b, off + g * 2 + 1, none⟩) hbb).trans c2.out
        clear b2
        go_wp2
        go_ret
        exact ⟨rfl, B2.out⟩
      · have hh : hitB x.ps key = false := by simpa using hh
        by_cases hg : 0 < geIx x.ps key
        · have hkk := kid_miss key hh hg
          rw [hk, hkk]
          rw [hh] at fk
          have hgn : geIx x.ps key - 1 < n := by have := HL.out; omega
          have hn0 : 0 < n := by omega
          clear hb hk hkk hh hp hgl hpos
          obtain ⟨g, hgg⟩ : ∃ g, geIx x.ps key = g + 1 := ⟨geIx x.ps key - 1, by omega⟩
          rw [hgg] at fk hgn ⊢
          simp only [Nat.add_sub_cancel] at hgn ⊢
          have c2 := Lib.hid (hc g hgn).2
          clear hgg hg hc
          obtain ⟨lv, zs, hi, ri, ow⟩ := x
          unfold ndV at *
          simp only at *
          have NK := Lib.hid nk
          have FK := Lib.hid fk
          clear nk fk
          have B0 : Hid (Below w.heap.size w (w.alloc (.cells #[.int .i64 lv, .slice (some ⟨b, off, none⟩) n c, .int .i64 hi, .int .i64 ri, .int .i64 ow] 40))) := Lib.hid ((Below.refl _ _).alloc (Nat.le_refl _) _)
          have g0 : (lv == 0) = false := by simp; omega
          clear hlv h0
          go_enter Try.func28, Try.ntmps28
          go_wp2_with fail
          refine (NK.out _ (HH.out.on B0.out)).mono ?_
          rintro e w1 ⟨rfl, b1⟩
          have d0 : w1.cell? ⟨w.heap.size, 0, none⟩ = some (.int .i64 lv) := (b1.cell (by simp)).trans (by simp)
          have d1 : w1.cell? ⟨w.heap.size, 1, none⟩ = some (.slice (some ⟨b, off, none⟩) n c) := (b1.cell (by simp)).trans (by simp)
          have hs : w.heap.size < w1.heap.size := by have := b1.size; simp at this; omega
          have B1 := Lib.hid (B0.out.trans (b1.mono (by simp)))
          clear b1
          go_wp2_with fail
          refine (FK.out _ (HH.out.on B1.out)).mono ?_
          rintro e w2 ⟨rfl, b2⟩
          have e1 := (b2.cell (p := ⟨w.heap.size, 1, none⟩) hs).trans d1
          clear d0 d1
          have B2 := Lib.hid (B1.out.trans (b2.mono B1.out.size))
          have c3 : w2.cell? ⟨b, off + g * 2 + 1, none⟩ = some (.int .i64 (vAt zs g)) := (B2.out.cell (p := ⟨b, off + g * 2 + 1, none⟩) hbb).trans c2.out
          clear b2
          have gg : decide ((0 : Int) < (g : Int) + 1) = true := by simp
          have gg2 : (0 : Int) < (g : Int) + 1 := by omega
          go_wp2
          go_ret
          exact ⟨rfl, B2.out⟩
        · have hg0 : geIx x.ps key = 0 := by omega
          have hkk := kid_miss0 hp key hpos hg0
          have c2 := Lib.hid (hc 0 (by have := HL.out; omega)).2
          have hn0 : 0 < n := by have := HL.out; omega
          rw [hk, hkk]
          rw [hh, hg0] at fk
          clear hb hk hkk hh hc hp hgl hpos hg hg0
          obtain ⟨lv, zs, hi, ri, ow⟩ := x
          unfold ndV at *
          simp only at *
          have NK := Lib.hid nk
          have FK := Lib.hid fk
          clear nk fk
          have B0 : Hid (Below w.heap.size w (w.alloc (.cells #[.int .i64 lv, .slice (some ⟨b, off, none⟩) n c, .int .i64 hi, .int .i64 ri, .int .i64 ow] 40))) := Lib.hid ((Below.refl _ _).alloc (Nat.le_refl _) _)
          have g0 : (lv == 0) = false := by simp; omega
          clear hlv h0
          go_enter Try.func28, Try.ntmps28
          go_wp2_with fail
          refine (NK.out _ (HH.out.on B0.out)).mono ?_
          rintro e w1 ⟨rfl, b1⟩
          have d0 : w1.cell? ⟨w.heap.size, 0, none⟩ = some (.int .i64 lv) := (b1.cell (by simp)).trans (by simp)
          have d1 : w1.cell? ⟨w.heap.size, 1, none⟩ = some (.slice (some ⟨b, off, none⟩) n c) := (b1.cell (by simp)).trans (by simp)
          have hs : w.heap.size < w1.heap.size := by have := b1.size; simp at this; omega
          have B1 := Lib.hid (B0.out.trans (b1.mono (by simp)))
          clear b1
          go_wp2_with fail
          refine (FK.out _ (HH.out.on B1.out)).mono ?_
          rintro e w2 ⟨rfl, b2⟩
          have e1 := (b2.cell (p := ⟨w.heap.size, 1, none⟩) hs).trans d1
          clear d0 d1
          have B2 := Lib.hid (B1.out.trans (b2.mono B1.out.size))
          have c3 : w2.cell? ⟨b, off + 0 * 2 + 1, none⟩ = some (.int .i64 (vAt zs 0)) := (B2.out.cell (p := ⟨b, off + 0 * 2 + 1, none⟩) hbb).trans c2.out
          simp only [Nat.zero_mul, Nat.add_zero] at c3
          clear b2
          go_wp2
          go_ret
          exact ⟨rfl, B2.out⟩
    · have hz : x.lv = 0 := by omega
      have hk : kidN x key = -1 := by unfold kidN; simp [h0]
      rw [hk]
      rw [hb] at nk
      clear hb hk h0 hlv fk
      obtain ⟨lv, zs, hi, ri, ow⟩ := x
      unfold ndV at *
      simp only at *
      have NK := Lib.hid nk
      clear nk
      have g0 : (lv == 0) = true := by simpa using hz
      clear hz
      have B0 : Hid (Below w.heap.size w (w.alloc (.cells #[.int .i64 lv, .slice A n c, .int .i64 hi, .int .i64 ri, .int .i64 ow] 40))) := Lib.hid ((Below.refl _ _).alloc (Nat.le_refl _) _)
      go_enter Try.func28, Try.ntmps28
      go_wp2_with fail
      refine (NK.out _ (HH.out.on B0.out)).mono ?_
      rintro e w1 ⟨rfl, b1⟩
      have d0 : w1.cell? ⟨w.heap.size, 0, none⟩ = some (.int .i64 lv) := (b1.cell (by simp)).trans (by simp)
      have B1 := Lib.hid (B0.out.trans (b1.mono (by simp)))
      clear b1
      go_wp2
      go_ret
      exact ⟨rfl, B1.out⟩
  · have hb : nodeOk x = false := by simpa using hb
    have hk : kidN x key = -1 := by unfold kidN; rw [hb]; simp
    rw [hk]
    rw [hb] at nk
    clear hb hk fk
    obtain ⟨lv, zs, hi, ri, ow⟩ := x
    unfold ndV at *
    simp only at *
    have NK := Lib.hid nk
    clear nk
    have B0 : Hid (Below w.heap.size w (w.alloc (.cells #[.int .i64 lv, .slice A n c, .int .i64 hi, .int .i64 ri, .int .i64 ow] 40))) := Lib.hid ((Below.refl _ _).alloc (Nat.le_refl _) _)
    go_enter Try.func28, Try.ntmps28
    go_wp2_with fail
    refine (NK.out _ (HH.out.on B0.out)).mono ?_
    rintro e w1 ⟨rfl, b1⟩
    have B1 := Lib.hid (B0.out.trans (b1.mono (by simp)))
    clear b1
    go_wp2
    go_ret
    exact ⟨rfl, B1.out⟩
end Go.Proofs.Ytjlbnbmniejidaa

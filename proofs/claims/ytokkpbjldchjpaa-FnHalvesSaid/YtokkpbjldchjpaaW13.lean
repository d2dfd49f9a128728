/- The walk of the model's Put. -/
import Derived.Test.YtokkpbjldchjpaaW12
namespace Go.Proofs.Ytokkpbjldchjpaa
open Go.RowKit
set_option linter.unusedVariables false

theorem insL_length (zs : List Pr) (k v : Int) : (insL zs k v).length = if hitB zs k = true then zs.length else zs.length + 1 := by
  have hle := geIx_le zs k
  unfold insL
  by_cases hh : hitB zs k = true
  · have hg : geIx zs k < zs.length := by
      have := hh; unfold hitB at this; simp only [Bool.and_eq_true, decide_eq_true_eq] at this; exact this.1
    rw [if_pos hh, if_pos hh]
    simp; omega
  · rw [if_neg hh, if_neg hh]
    simp; omega
theorem own_form {w : World} {zs : List Pr} {e : Ending} {w' : World} (h : Gives w zs e w') : ∃ A c, e = .returned (.slice A zs.length c) ∧ w'.ownsRow w.heap.size 28 2 (.slice A zs.length c) zs.length (PL zs) ∧ Below w.heap.size w w' := by
  obtain ⟨v, he, ho, hb⟩ := h
  obtain ⟨A, c, rfl, _⟩ := RP.of_own ho
  exact ⟨A, c, he, ho, hb⟩

set_option maxHeartbeats 400000 in
theorem spPut_bad (A : Option Addr) (n c : Nat) (zs : List Pr) (k v : Int) (w : World) (h : RP w w.heap.size A n zs) (hn : n ≤ 1048576) (hc : n ≤ c) (hc2 : c ≤ 9223372036854775807) (hp : pOk zs = false) :
    Calls Try.prog 69 #[.slice A n c, .agg #[.int .i64 k, .int .i64 v]] w (Gives2 w (putL zs k v) (putB zs k v)) := by
    have HL := Lib.hid h.1
    have HH := Lib.hid h
    clear h
    have p1 : ∀ w, RP w w.heap.size A n zs → Calls Try.prog 57 #[.slice A n c] w fun e w' => e = .returned (.bool false) ∧ Below w.heap.size w w' := fun w hR => by
      have := spOk_any A n c zs w hR hn; rwa [hp] at this
    have E : Hid (putL zs k v = [] ∧ putB zs k v = false) := Lib.hid (by unfold putL putB; simp [hp])
    clear hp
    generalize putL zs k v = L at *
    generalize putB zs k v = Bo at *
    go_enter Try.func69, Try.ntmps69
    go_wp2_with fail
    have B0 : Hid (Below w.heap.size w (w.alloc (.cells #[.int .i64 k, .int .i64 v] 28))) := Lib.hid ((Below.refl _ _).alloc (Nat.le_refl _) _)
    refine (p1 _ (HH.out.on B0.out)).mono ?_
    rintro e w1 ⟨rfl, b1⟩
    have d1 : w1.cell? ⟨w.heap.size, 0, none⟩ = some (.int .i64 k) := (b1.cell (by simp)).trans (by simp)
    have e1 : w1.cell? ⟨w.heap.size, 1, none⟩ = some (.int .i64 v) := (b1.cell (by simp)).trans (by simp)
    have s1 : w.heap.size < w1.heap.size := by have := b1.size; simp at this; omega
    have B1 := Lib.hid (B0.out.trans (b1.mono (by simp)))
    clear b1 B0
    go_wp2
    go_ret2
    exact Gives2.cast E.out.1.symm E.out.2.symm ⟨_, rfl, own_base (empty_row w1) B1.out.size, B1.out.alloc B1.out.size _⟩


set_option maxHeartbeats 400000 in
theorem spPut_wrong (A : Option Addr) (n c : Nat) (zs : List Pr) (k v : Int) (w : World) (h : RP w w.heap.size A n zs) (hn : n ≤ 1048576) (hc : n ≤ c) (hc2 : c ≤ 9223372036854775807) (hp : pOk zs = true) (hr : rightB k v = false) :
    Calls Try.prog 69 #[.slice A n c, .agg #[.int .i64 k, .int .i64 v]] w (Gives2 w (putL zs k v) (putB zs k v)) := by
    have HL := Lib.hid h.1
    have HH := Lib.hid h
    clear h
    have p1 : ∀ w, RP w w.heap.size A n zs → Calls Try.prog 57 #[.slice A n c] w fun e w' => e = .returned (.bool true) ∧ Below w.heap.size w w' := fun w hR => by
      have := spOk_any A n c zs w hR hn; rwa [hp] at this
    have r1 : ∀ w, Calls Try.prog 33 #[.agg #[.int .i64 k, .int .i64 v]] w fun e w' => e = .returned (.bool false) ∧ Below w.heap.size w w' := fun w => by
      have := pair_any k v w; rwa [hr] at this
    have INS : Hid True := Lib.hid trivial
    have E : Hid (putL zs k v = zs ∧ putB zs k v = false) := Lib.hid (by unfold putL putB; simp [hp, hr])
    clear hp hr
    generalize putL zs k v = L at *
    generalize putB zs k v = Bo at *
    go_enter Try.func69, Try.ntmps69
    go_wp2_with fail
    have B0 : Hid (Below w.heap.size w (w.alloc (.cells #[.int .i64 k, .int .i64 v] 28))) := Lib.hid ((Below.refl _ _).alloc (Nat.le_refl _) _)
    refine (p1 _ (HH.out.on B0.out)).mono ?_
    rintro e w1 ⟨rfl, b1⟩
    have d1 : w1.cell? ⟨w.heap.size, 0, none⟩ = some (.int .i64 k) := (b1.cell (by simp)).trans (by simp)
    have e1 : w1.cell? ⟨w.heap.size, 1, none⟩ = some (.int .i64 v) := (b1.cell (by simp)).trans (by simp)
    have s1 : w.heap.size < w1.heap.size := by have := b1.size; simp at this; omega
    have B1 := Lib.hid (B0.out.trans (b1.mono (by simp)))
    clear b1 B0
    go_wp2_with fail
    refine (sPut_any A n c zs k v _ (HH.out.on B1.out) hn hc hc2).mono ?_
    intro e w2 hG
    obtain ⟨A2, c2, rfl, o2, b2⟩ := own_form hG
    clear hG
    have d2 : w2.cell? ⟨w.heap.size, 0, none⟩ = some (.int .i64 k) := (b2.cell s1).trans d1
    have e2 : w2.cell? ⟨w.heap.size, 1, none⟩ = some (.int .i64 v) := (b2.cell s1).trans e1
    have B2 := Lib.hid (B1.out.trans (b2.mono B1.out.size))
    have O2 := Lib.hid (own_base o2 B1.out.size)
    clear b2 o2 B1 d1 e1 s1
    have hlen := INS.out
    generalize insL zs k v = J at *
    generalize J.length = l at *
    go_wp2_with fail
    refine (r1 _).mono ?_
    rintro e w3 ⟨rfl, b3⟩
    have O3 := Lib.hid (own_on O2.out b3)
    have B3 := Lib.hid (B2.out.trans (b3.mono B2.out.size))
    clear b3 B2 O2 d2 e2
    go_wp2_with (at_builtin; refine wpList_app rfl (.tmp 22) (.tmp 23) rfl w.heap.size _ 0 [] rfl (own_base (empty_row w3) B3.out.size) _ A n c zs rfl ((HH.out.on B3.out).below ((Below.refl _ _).alloc (Nat.le_refl _) _)) (by omega) (by have := B3.out.size; simp; omega) ?_)
    intro v4 w4 o4 g4
    have O4 := Lib.hid o4
    have B4 := Lib.hid ((B3.out.alloc B3.out.size (.cells #[] 28)).grown g4 (by have := B3.out.size; simp; omega) (fun b e => by have := B3.out.size; simp [Value.ownBlock] at e; omega))
    clear o4 g4 B3
    go_wp2
    go_ret2
    exact Gives2.cast E.out.1.symm E.out.2.symm ⟨_, rfl, by have := O4.out; rw [HL.out]; simpa using this, B4.out⟩


set_option maxHeartbeats 400000 in
theorem spPut_hit (A : Option Addr) (n c : Nat) (zs : List Pr) (k v : Int) (w : World) (h : RP w w.heap.size A n zs) (hn : n ≤ 1048576) (hc : n ≤ c) (hc2 : c ≤ 9223372036854775807) (hp : pOk zs = true) (hr : rightB k v = true) (hh : hitB zs k = true) :
    Calls Try.prog 69 #[.slice A n c, .agg #[.int .i64 k, .int .i64 v]] w (Gives2 w (putL zs k v) (putB zs k v)) := by
    have HL := Lib.hid h.1
    have HH := Lib.hid h
    clear h
    have p1 : ∀ w, RP w w.heap.size A n zs → Calls Try.prog 57 #[.slice A n c] w fun e w' => e = .returned (.bool true) ∧ Below w.heap.size w w' := fun w hR => by
      have := spOk_any A n c zs w hR hn; rwa [hp] at this
    have r1 : ∀ w, Calls Try.prog 33 #[.agg #[.int .i64 k, .int .i64 v]] w fun e w' => e = .returned (.bool true) ∧ Below w.heap.size w w' := fun w => by
      have := pair_any k v w; rwa [hr] at this
    have h40 : n ≤ 40 := by have := ((pOk_iff zs).1 hp).2; have := HL.out; omega
    have INS : Hid ((insL zs k v).length = n) := Lib.hid (by rw [insL_length, if_pos hh, HL.out])
    have E : Hid (putL zs k v = insL zs k v ∧ putB zs k v = false) := Lib.hid (by unfold putL putB insL; rw [hp, hr, hh]; simp)
    clear hp hr hh
    generalize putL zs k v = L at *
    generalize putB zs k v = Bo at *
    go_enter Try.func69, Try.ntmps69
    go_wp2_with fail
    have B0 : Hid (Below w.heap.size w (w.alloc (.cells #[.int .i64 k, .int .i64 v] 28))) := Lib.hid ((Below.refl _ _).alloc (Nat.le_refl _) _)
    refine (p1 _ (HH.out.on B0.out)).mono ?_
    rintro e w1 ⟨rfl, b1⟩
    have d1 : w1.cell? ⟨w.heap.size, 0, none⟩ = some (.int .i64 k) := (b1.cell (by simp)).trans (by simp)
    have e1 : w1.cell? ⟨w.heap.size, 1, none⟩ = some (.int .i64 v) := (b1.cell (by simp)).trans (by simp)
    have s1 : w.heap.size < w1.heap.size := by have := b1.size; simp at this; omega
    have B1 := Lib.hid (B0.out.trans (b1.mono (by simp)))
    clear b1 B0
    go_wp2_with fail
    refine (sPut_any A n c zs k v _ (HH.out.on B1.out) hn hc hc2).mono ?_
    intro e w2 hG
    obtain ⟨A2, c2, rfl, o2, b2⟩ := own_form hG
    clear hG
    have d2 : w2.cell? ⟨w.heap.size, 0, none⟩ = some (.int .i64 k) := (b2.cell s1).trans d1
    have e2 : w2.cell? ⟨w.heap.size, 1, none⟩ = some (.int .i64 v) := (b2.cell s1).trans e1
    have B2 := Lib.hid (B1.out.trans (b2.mono B1.out.size))
    have O2 := Lib.hid (own_base o2 B1.out.size)
    clear b2 o2 B1 d1 e1 s1
    generalize insL zs k v = J at *
    have hlen := INS.out
    have LEN := Lib.hid hlen
    rw [hlen] at O2 ⊢
    clear hlen INS
    go_wp2_with fail
    refine (r1 _).mono ?_
    rintro e w3 ⟨rfl, b3⟩
    have O3 := Lib.hid (own_on O2.out b3)
    have B3 := Lib.hid (B2.out.trans (b3.mono B2.out.size))
    clear b3 B2 O2 d2 e2
    go_wp2
    go_ret2
    exact Gives2.cast E.out.1.symm E.out.2.symm ⟨_, rfl, by rw [LEN.out]; exact O3.out, B3.out⟩


set_option maxHeartbeats 400000 in
theorem spPut_full (A : Option Addr) (n c : Nat) (zs : List Pr) (k v : Int) (w : World) (h : RP w w.heap.size A n zs) (hn : n ≤ 1048576) (hc : n ≤ c) (hc2 : c ≤ 9223372036854775807) (hp : pOk zs = true) (hr : rightB k v = true) (hh : hitB zs k = false) (hf : n = 40) :
    Calls Try.prog 69 #[.slice A n c, .agg #[.int .i64 k, .int .i64 v]] w (Gives2 w (putL zs k v) (putB zs k v)) := by
    have HL := Lib.hid h.1
    have HH := Lib.hid h
    clear h
    have p1 : ∀ w, RP w w.heap.size A n zs → Calls Try.prog 57 #[.slice A n c] w fun e w' => e = .returned (.bool true) ∧ Below w.heap.size w w' := fun w hR => by
      have := spOk_any A n c zs w hR hn; rwa [hp] at this
    have r1 : ∀ w, Calls Try.prog 33 #[.agg #[.int .i64 k, .int .i64 v]] w fun e w' => e = .returned (.bool true) ∧ Below w.heap.size w w' := fun w => by
      have := pair_any k v w; rwa [hr] at this
    have INS : Hid ((insL zs k v).length = n + 1) := Lib.hid (by rw [insL_length, if_neg (by simp [hh]), HL.out])
    have hf2 : 40 ≤ n := by omega
    have E : Hid (putL zs k v = zs ∧ putB zs k v = false) := Lib.hid (by unfold putL putB; rw [hp, hr, hh, HL.out, hf]; simp)
    clear hp hr hh hf
    generalize putL zs k v = L at *
    generalize putB zs k v = Bo at *
    go_enter Try.func69, Try.ntmps69
    go_wp2_with fail
    have B0 : Hid (Below w.heap.size w (w.alloc (.cells #[.int .i64 k, .int .i64 v] 28))) := Lib.hid ((Below.refl _ _).alloc (Nat.le_refl _) _)
    refine (p1 _ (HH.out.on B0.out)).mono ?_
    rintro e w1 ⟨rfl, b1⟩
    have d1 : w1.cell? ⟨w.heap.size, 0, none⟩ = some (.int .i64 k) := (b1.cell (by simp)).trans (by simp)
    have e1 : w1.cell? ⟨w.heap.size, 1, none⟩ = some (.int .i64 v) := (b1.cell (by simp)).trans (by simp)
    have s1 : w.heap.size < w1.heap.size := by have := b1.size; simp at this; omega
    have B1 := Lib.hid (B0.out.trans (b1.mono (by simp)))
    clear b1 B0
    go_wp2_with fail
    refine (sPut_any A n c zs k v _ (HH.out.on B1.out) hn hc hc2).mono ?_
    intro e w2 hG
    obtain ⟨A2, c2, rfl, o2, b2⟩ := own_form hG
    clear hG
    have d2 : w2.cell? ⟨w.heap.size, 0, none⟩ = some (.int .i64 k) := (b2.cell s1).trans d1
    have e2 : w2.cell? ⟨w.heap.size, 1, none⟩ = some (.int .i64 v) := (b2.cell s1).trans e1
    have B2 := Lib.hid (B1.out.trans (b2.mono B1.out.size))
    have O2 := Lib.hid (own_base o2 B1.out.size)
    clear b2 o2 B1 d1 e1 s1
    generalize insL zs k v = J at *
    have hlen := INS.out
    have LEN := Lib.hid hlen
    rw [hlen] at O2 ⊢
    clear hlen INS
    go_wp2_with fail
    refine (r1 _).mono ?_
    rintro e w3 ⟨rfl, b3⟩
    have O3 := Lib.hid (own_on O2.out b3)
    have B3 := Lib.hid (B2.out.trans (b3.mono B2.out.size))
    clear b3 B2 O2 d2 e2
    go_wp2_with (at_builtin; refine wpList_app rfl (.tmp 22) (.tmp 23) rfl w.heap.size _ 0 [] rfl (own_base (empty_row w3) B3.out.size) _ A n c zs rfl ((HH.out.on B3.out).below ((Below.refl _ _).alloc (Nat.le_refl _) _)) (by omega) (by have := B3.out.size; simp; omega) ?_)
    intro v4 w4 o4 g4
    have O4 := Lib.hid o4
    have B4 := Lib.hid ((B3.out.alloc B3.out.size (.cells #[] 28)).grown g4 (by have := B3.out.size; simp; omega) (fun b e => by have := B3.out.size; simp [Value.ownBlock] at e; omega))
    clear o4 g4 B3
    go_wp2
    go_ret2
    exact Gives2.cast E.out.1.symm E.out.2.symm ⟨_, rfl, by have := O4.out; rw [HL.out]; simpa using this, B4.out⟩


set_option maxHeartbeats 400000 in
theorem spPut_new (A : Option Addr) (n c : Nat) (zs : List Pr) (k v : Int) (w : World) (h : RP w w.heap.size A n zs) (hn : n ≤ 1048576) (hc : n ≤ c) (hc2 : c ≤ 9223372036854775807) (hp : pOk zs = true) (hr : rightB k v = true) (hh : hitB zs k = false) (hf : n ≠ 40) :
    Calls Try.prog 69 #[.slice A n c, .agg #[.int .i64 k, .int .i64 v]] w (Gives2 w (putL zs k v) (putB zs k v)) := by
    have HL := Lib.hid h.1
    have HH := Lib.hid h
    clear h
    have p1 : ∀ w, RP w w.heap.size A n zs → Calls Try.prog 57 #[.slice A n c] w fun e w' => e = .returned (.bool true) ∧ Below w.heap.size w w' := fun w hR => by
      have := spOk_any A n c zs w hR hn; rwa [hp] at this
    have r1 : ∀ w, Calls Try.prog 33 #[.agg #[.int .i64 k, .int .i64 v]] w fun e w' => e = .returned (.bool true) ∧ Below w.heap.size w w' := fun w => by
      have := pair_any k v w; rwa [hr] at this
    have h40 : n ≤ 40 := by have := ((pOk_iff zs).1 hp).2; have := HL.out; omega
    have h39 : n ≤ 39 := by omega
    clear h40 hf
    have INS : Hid ((insL zs k v).length = n + 1) := Lib.hid (by rw [insL_length, if_neg (by simp [hh]), HL.out])
    have E : Hid (putL zs k v = insL zs k v ∧ putB zs k v = true) := Lib.hid (by unfold putL putB insL; rw [hp, hr, hh, HL.out]; simp; omega)
    clear hp hr hh
    generalize putL zs k v = L at *
    generalize putB zs k v = Bo at *
    go_enter Try.func69, Try.ntmps69
    go_wp2_with fail
    have B0 : Hid (Below w.heap.size w (w.alloc (.cells #[.int .i64 k, .int .i64 v] 28))) := Lib.hid ((Below.refl _ _).alloc (Nat.le_refl _) _)
    refine (p1 _ (HH.out.on B0.out)).mono ?_
    rintro e w1 ⟨rfl, b1⟩
    have d1 : w1.cell? ⟨w.heap.size, 0, none⟩ = some (.int .i64 k) := (b1.cell (by simp)).trans (by simp)
    have e1 : w1.cell? ⟨w.heap.size, 1, none⟩ = some (.int .i64 v) := (b1.cell (by simp)).trans (by simp)
    have s1 : w.heap.size < w1.heap.size := by have := b1.size; simp at this; omega
    have B1 := Lib.hid (B0.out.trans (b1.mono (by simp)))
    clear b1 B0
    go_wp2_with fail
    refine (sPut_any A n c zs k v _ (HH.out.on B1.out) hn hc hc2).mono ?_
    intro e w2 hG
    obtain ⟨A2, c2, rfl, o2, b2⟩ := own_form hG
    clear hG
    have d2 : w2.cell? ⟨w.heap.size, 0, none⟩ = some (.int .i64 k) := (b2.cell s1).trans d1
    have e2 : w2.cell? ⟨w.heap.size, 1, none⟩ = some (.int .i64 v) := (b2.cell s1).trans e1
    have B2 := Lib.hid (B1.out.trans (b2.mono B1.out.size))
    have O2 := Lib.hid (own_base o2 B1.out.size)
    clear b2 o2 B1 d1 e1 s1
    generalize insL zs k v = J at *
    have hlen := INS.out
    have LEN := Lib.hid hlen
    rw [hlen] at O2 ⊢
    clear hlen INS
    go_wp2_with fail
    refine (r1 _).mono ?_
    rintro e w3 ⟨rfl, b3⟩
    have O3 := Lib.hid (own_on O2.out b3)
    have B3 := Lib.hid (B2.out.trans (b3.mono B2.out.size))
    clear b3 B2 O2 d2 e2
    go_wp2
    go_ret2
    exact Gives2.cast E.out.1.symm (by rw [E.out.2]; simp; omega) ⟨_, rfl, by rw [LEN.out]; exact O3.out, B3.out⟩

theorem spPut_any (A : Option Addr) (n c : Nat) (zs : List Pr) (k v : Int) (w : World) (h : RP w w.heap.size A n zs) (hn : n ≤ 1048576) (hc : n ≤ c) (hc2 : c ≤ 9223372036854775807) :
    Calls Try.prog 69 #[.slice A n c, .agg #[.int .i64 k, .int .i64 v]] w (Gives2 w (putL zs k v) (putB zs k v)) := by
  rcases Bool.eq_false_or_eq_true (pOk zs) with hp | hp
  · rcases Bool.eq_false_or_eq_true (rightB k v) with hr | hr
    · rcases Bool.eq_false_or_eq_true (hitB zs k) with hh | hh
      · exact spPut_hit A n c zs k v w h hn hc hc2 hp hr hh
      · by_cases hf : n = 40
        · exact spPut_full A n c zs k v w h hn hc hc2 hp hr hh hf
        · exact spPut_new A n c zs k v w h hn hc hc2 hp hr hh hf
    · exact spPut_wrong A n c zs k v w h hn hc hc2 hp hr
  · exact spPut_bad A n c zs k v w h hn hc hc2 hp
end Go.Proofs.Ytokkpbjldchjpaa

/- The walk of the model's Put. -/
import Derived.Test.YtpffkhjegpddbaaGreatV05
import Derived.Test.YtpffkhjegpddbaaGreatV01
import Derived.Test.YtpffkhjegpddbaaGreatV04
open Go.Value renaming int → jI, slice → jS
open Go.IntKind renaming i64 → jZ
namespace Go.Proofs.YtpffkhjegpddbaaGreat
open Go.RowKit
set_option linter.unusedVariables false

theorem insL_length (zs : List Pr) (k v : Int) : (insL zs k v).length = if hitB zs k = true then zs.length else zs.length + 1 := by
 have hle := geIx_le zs k
 unfold insL
 by_cases hh : hitB zs k = true
 · have hg : geIx zs k < zs.length := by
     have := hh; unfold hitB at this; simp only [Bool.and_eq_true, decide_eq_true_eq] at this; exact this.1
   rw [if_pos hh, if_pos hh]
   simp; omega
 · rw [if_neg hh, if_neg hh]
   simp; omega
theorem own_form {w : World} {zs : List Pr} {e : Ending} {w' : World} (h : Gives w zs e w') : ∃ A c, e = .returned (jS A zs.length c) ∧ w'.ownsRow w.heap.size 68 2 (jS A zs.length c) zs.length (PL zs) ∧ Below w.heap.size w w' := by
 obtain ⟨v, he, ho, hb⟩ := h
 obtain ⟨A, c, rfl, _⟩ := RP.of_own ho
 exact ⟨A, c, he, ho, hb⟩

set_option maxHeartbeats 400000 in
theorem spPut_bad (A : Option Addr) (n c : Nat) (zs : List Pr) (k v : Int) (w : World) (h : RP w w.heap.size A n zs) (hn : n ≤ 1048576) (hc : n ≤ c) (hc2 : c ≤ 9223372036854775807) (hp : pOk zs = false) :
   Calls Tryz.prog 100 #[jS A n c, .agg #[jI jZ k, jI jZ v]] w (Gives2 w (putL zs k v) (putB zs k v)) := by
   have HL := Lib.hid h.1
   have HH := Lib.hid h
   clear h
   have p1 : ∀ w, RP w w.heap.size A n zs → Calls Tryz.prog 60 #[jS A n c] w fun e w' => e = .returned (.bool false) ∧ Below w.heap.size w w' := fun w hR => by
     have := spOk_any A n c zs w hR hn; rwa [hp] at this
   have E : Hid (putL zs k v = [] ∧ putB zs k v = false) := Lib.hid (by unfold putL putB; simp [hp])
   clear hp
   generalize putL zs k v = L at *
   generalize putB zs k v = Bo at *
   go_enter Tryz.func100, Tryz.ntmps100
   go_wp2_with fail
   have B0 : Hid (Below w.heap.size w (w.alloc (.cells #[jI jZ k, jI jZ v] 68))) := Lib.hid ((Below.refl _ _).alloc (Nat.le_refl _) _)
   refine (p1 _ (HH.out.on B0.out)).mono ?_
   rintro e w1 ⟨rfl, b1⟩
   have d1 : w1.cell? ⟨w.heap.size, 0, none⟩ = some (jI jZ k) := (b1.cell (by simp)).trans (by simp)
   have e1 : w1.cell? ⟨w.heap.size, 1, none⟩ = some (jI jZ v) := (b1.cell (by simp)).trans (by simp)
   have s1 : w.heap.size < w1.heap.size := by have := b1.size; simp at this; omega
   have B1 := Lib.hid (B0.out.trans (b1.mono (by simp)))
   clear b1 B0
   go_wp2
   go_ret2
   exact Gives2.cast E.out.1.symm E.out.2.symm ⟨_, rfl, own_base (empty_row w1) B1.out.size, B1.out.alloc B1.out.size _⟩


set_option maxHeartbeats 400000 in
theorem spPut_wrong (A : Option Addr) (n c : Nat) (zs : List Pr) (k v : Int) (w : World) (h : RP w w.heap.size A n zs) (hn : n ≤ 1048576) (hc : n ≤ c) (hc2 : c ≤ 9223372036854775807) (hp : pOk zs = true) (hr : rightB k v = false) :
   Calls Tryz.prog 100 #[jS A n c, .agg #[jI jZ k, jI jZ v]] w (Gives2 w (putL zs k v) (putB zs k v)) := by
   have HL := Lib.hid h.1
   have HH := Lib.hid h
   clear h
   have p1 : ∀ w, RP w w.heap.size A n zs → Calls Tryz.prog 60 #[jS A n c] w fun e w' => e = .returned (.bool true) ∧ Below w.heap.size w w' := fun w hR => by
     have := spOk_any A n c zs w hR hn; rwa [hp] at this
   have r1 : ∀ w, Calls Tryz.prog 88 #[.agg #[jI jZ k, jI jZ v]] w fun e w' => e = .returned (.bool false) ∧ Below w.heap.size w w' := fun w => by
     have := pair_any k v w; rwa [hr] at this
   have INS : Hid True := Lib.hid trivial
   have E : Hid (putL zs k v = zs ∧ putB zs k v = false) := Lib.hid (by unfold putL putB; simp [hp, hr])
   clear hp hr
   generalize putL zs k v = L at *
   generalize putB zs k v = Bo at *
   go_enter Tryz.func100, Tryz.ntmps100
   go_wp2_with fail
   have B0 : Hid (Below w.heap.size w (w.alloc (.cells #[jI jZ k, jI jZ v] 68))) := Lib.hid ((Below.refl _ _).alloc (Nat.le_refl _) _)
   refine (p1 _ (HH.out.on B0.out)).mono ?_
   rintro e w1 ⟨rfl, b1⟩
   have d1 : w1.cell? ⟨w.heap.size, 0, none⟩ = some (jI jZ k) := (b1.cell (by simp)).trans (by simp)
   have e1 : w1.cell? ⟨w.heap.size, 1, none⟩ = some (jI jZ v) := (b1.cell (by simp)).trans (by simp)
   have s1 : w.heap.size < w1.heap.size := by have := b1.size; simp at this; omega
   have B1 := Lib.hid (B0.out.trans (b1.mono (by simp)))
   clear b1 B0
   go_wp2_with fail
   refine (sPut_any A n c zs k v _ (HH.out.on B1.out) hn hc hc2).mono ?_
   intro e w2 hG
   obtain ⟨A2, c2, rfl, o2, b2⟩ := own_form hG
   clear hG
   have d2 : w2.cell? ⟨w.heap.size, 0, none⟩ = some (jI jZ k) := (b2.cell s1).trans d1
   have e2 : w2.cell? ⟨w.heap.size, 1, none⟩ = some (jI jZ v) := (b2.cell s1).trans e1
   have B2 := Lib.hid (B1.out.trans (b2.mono B1.out.size))
   have O2 := Lib.hid (own_base o2 B1.out.size)
   clear b2 o2 B1 d1 e1 s1
   have hlen := INS.out
   generalize insL zs k v = J at *
   generalize J.length = l at *
   go_wp2_with fail
   refine (r1 _).mono ?_
   rintro e w3 ⟨rfl, b3⟩
   have O3 := Lib.hid (own_on O2.out b3)
   have B3 := Lib.hid (B2.out.trans (b3.mono B2.out.size))
   clear b3 B2 O2 d2 e2
   go_wp2_with (at_builtin; refine wpList_app rfl (.tmp 22) (.tmp 23) rfl w.heap.size _ 0 [] rfl (own_base (empty_row w3) B3.out.size) _ A n c zs rfl ((HH.out.on B3.out).below ((Below.refl _ _).alloc (Nat.le_refl _) _)) (by omega) (by have := B3.out.size; simp; omega) ?_)
   intro v4 w4 o4 g4
   have O4 := Lib.hid o4
   have B4 := Lib.hid ((B3.out.alloc B3.out.size (.cells #[] 68)).grown g4 (by have := B3.out.size; simp; omega) (fun b e => by have := B3.out.size; simp [Value.ownBlock] at e; omega))
   clear o4 g4 B3
   go_wp2
   go_ret2
   exact Gives2.cast E.out.1.symm E.out.2.symm ⟨_, rfl, by have := O4.out; rw [HL.out]; simpa using this, B4.out⟩


set_option maxHeartbeats 400000 in
theorem spPut_hit (A : Option Addr) (n c : Nat) (zs : List Pr) (k v : Int) (w : World) (h : RP w w.heap.size A n zs) (hn : n ≤ 1048576) (hc : n ≤ c) (hc2 : c ≤ 9223372036854775807) (hp : pOk zs = true) (hr : rightB k v = true) (hh : hitB zs k = true) :
   Calls Tryz.prog 100 #[jS A n c, .agg #[jI jZ k, jI jZ v]] w (Gives2 w (putL zs k v) (putB zs k v)) := by
   have HL := Lib.hid h.1
   have HH := Lib.hid h
   clear h
   have p1 : ∀ w, RP w w.heap.size A n zs → Calls Tryz.prog 60 #[jS A n c] w fun e w' => e = .returned (.bool true) ∧ Below w.heap.size w w' := fun w hR => by
     have := spOk_any A n c zs w hR hn; rwa [hp] at this
   have r1 : ∀ w, Calls Tryz.prog 88 #[.agg #[jI jZ k, jI jZ v]] w fun e w' => e = .returned (.bool true) ∧ Below w.heap.size w w' := fun w => by
     have := pair_any k v w; rwa [hr] at this
   have h40 : n ≤ 40 := by have := ((pOk_iff zs).1 hp).2; have := HL.out; omega
   have INS : Hid ((insL zs k v).length = n) := Lib.hid (by rw [insL_length, if_pos hh, HL.out])
   have E : Hid (putL zs k v = insL zs k v ∧ putB zs k v = false) := Lib.hid (by unfold putL putB insL; rw [hp, hr, hh]; simp)
   clear hp hr hh
   generalize putL zs k v = L at *
   generalize putB zs k v = Bo at *
   go_enter Tryz.func100, Tryz.ntmps100
   go_wp2_with fail
   have B0 : Hid (Below w.heap.size w (w.alloc (.cells #[jI jZ k, jI jZ v] 68))) := Lib.hid ((Below.refl _ _).alloc (Nat.le_refl _) _)
   refine (p1 _ (HH.out.on B0.out)).mono ?_
   rintro e w1 ⟨rfl, b1⟩
   have d1 : w1.cell? ⟨w.heap.size, 0, none⟩ = some (jI jZ k) := (b1.cell (by simp)).trans (by simp)
   have e1 : w1.cell? ⟨w.heap.size, 1, none⟩ = some (jI jZ v) := (b1.cell (by simp)).trans (by simp)
   have s1 : w.heap.size < w1.heap.size := by have := b1.size; simp at this; omega
   have B1 := Lib.hid (B0.out.trans (b1.mono (by simp)))
   clear b1 B0
   go_wp2_with fail
   refine (sPut_any A n c zs k v _ (HH.out.on B1.out) hn hc hc2).mono ?_
   intro e w2 hG
   obtain ⟨A2, c2, rfl, o2, b2⟩ := own_form hG
   clear hG
   have d2 : w2.cell? ⟨w.heap.size, 0, none⟩ = some (jI jZ k) := (b2.cell s1).trans d1
   have e2 : w2.cell? ⟨w.heap.size, 1, none⟩ = some (jI jZ v) := (b2.cell s1).trans e1
   have B2 := Lib.hid (B1.out.trans (b2.mono B1.out.size))
   have O2 := Lib.hid (own_base o2 B1.out.size)
   clear b2 o2 B1 d1 e1 s1
   generalize insL zs k v = J at *
   have hlen := INS.out
   have LEN := Lib.hid hlen
   rw [hlen] at O2 ⊢
   clear hlen INS
   go_wp2_with fail
   refine (r1 _).mono ?_
   rintro e w3 ⟨rfl, b3⟩
   have O3 := Lib.hid (own_on O2.out b3)
   have B3 := Lib.hid (B2.out.trans (b3.mono B2.out.size))
   clear b3 B2 O2 d2 e2
   go_wp2
   go_ret2
   exact Gives2.cast E.out.1.symm E.out.2.symm ⟨_, rfl, by rw [LEN.out]; exact O3.out, B3.out⟩


set_option maxHeartbeats 400000 in
theorem spPut_full (A : Option Addr) (n c : Nat) (zs : List Pr) (k v : Int) (w : World) (h : RP w w.heap.size A n zs) (hn : n ≤ 1048576) (hc : n ≤ c) (hc2 : c ≤ 9223372036854775807) (hp : pOk zs = true) (hr : rightB k v = true) (hh : hitB zs k = false) (hf : n = 40) :
   Calls Tryz.prog 100 #[jS A n c, .agg #[jI jZ k, jI jZ v]] w (Gives2 w (putL zs k v) (putB zs k v)) := by
   have HL := Lib.hid h.1
   have HH := Lib.hid h
   clear h
   have p1 : ∀ w, RP w w.heap.size A n zs → Calls Tryz.prog 60 #[jS A n c] w fun e w' => e = .returned (.bool true) ∧ Below w.heap.size w w' := fun w hR => by
     have := spOk_any A n c zs w hR hn; rwa [hp] at this
   have r1 : ∀ w, Calls Tryz.prog 88 #[.agg #[jI jZ k, jI jZ v]] w fun e w' => e = .returned (.bool true) ∧ Below w.heap.size w w' := fun w => by
     have := pair_any k v w; rwa [hr] at this
   have INS : Hid ((insL zs k v).length = n + 1) := Lib.hid (by rw [insL_length, if_neg (by simp [hh]), HL.out])
   have hf2 : 40 ≤ n := by omega
   have E : Hid (putL zs k v = zs ∧ putB zs k v = false) := Lib.hid (by unfold putL putB; rw [hp, hr, hh, HL.out, hf]; simp)
   clear hp hr hh hf
   generalize putL zs k v = L at *
   generalize putB zs k v = Bo at *
   go_enter Tryz.func100, Tryz.ntmps100
   go_wp2_with fail
   have B0 : Hid (Below w.heap.size w (w.alloc (.cells #[jI jZ k, jI jZ v] 68))) := Lib.hid ((Below.refl _ _).alloc (Nat.le_refl _) _)
   refine (p1 _ (HH.out.on B0.out)).mono ?_
   rintro e w1 ⟨rfl, b1⟩
   have d1 : w1.cell? ⟨w.heap.size, 0, none⟩ = some (jI jZ k) := (b1.cell (by simp)).trans (by simp)
   have e1 : w1.cell? ⟨w.heap.size, 1, none⟩ = some (jI jZ v) := (b1.cell (by simp)).trans (by simp)
   have s1 : w.heap.size < w1.heap.size := by have := b1.size; simp at this; omega
   have B1 := Lib.hid (B0.out.trans (b1.mono (by simp)))
   clear b1 B0
   go_wp2_with fail
   refine (sPut_any A n c zs k v _ (HH.out.on B1.out) hn hc hc2).mono ?_
   intro e w2 hG
   obtain ⟨A2, c2, rfl, o2, b2⟩ := own_form hG
   clear hG
   have d2 : w2.cell? ⟨w.heap.size, 0, none⟩ = some (jI jZ k) := (b2.cell s1).trans d1
   have e2 : w2.cell? ⟨w.heap.size, 1, none⟩ = some (jI jZ v) := (b2.cell s1).trans e1
   have B2 := Lib.hid (B1.out.trans (b2.mono B1.out.size))
   have O2 := Lib.hid (own_base o2 B1.out.size)
   clear b2 o2 B1 d1 e1 s1
   generalize insL zs k v = J at *
   have hlen := INS.out
   have LEN := Lib.hid hlen
   rw [hlen] at O2 ⊢
   clear hlen INS
   go_wp2_with fail
   refine (r1 _).mono ?_
   rintro e w3 ⟨rfl, b3⟩
   have O3 := Lib.hid (own_on O2.out b3)
   have B3 := Lib.hid (B2.out.trans (b3.mono B2.out.size))
   clear b3 B2 O2 d2 e2
   go_wp2_with (at_builtin; refine wpList_app rfl (.tmp 22) (.tmp 23) rfl w.heap.size _ 0 [] rfl (own_base (empty_row w3) B3.out.size) _ A n c zs rfl ((HH.out.on B3.out).below ((Below.refl _ _).alloc (Nat.le_refl _) _)) (by omega) (by have := B3.out.size; simp; omega) ?_)
   intro v4 w4 o4 g4
   have O4 := Lib.hid o4
   have B4 := Lib.hid ((B3.out.alloc B3.out.size (.cells #[] 68)).grown g4 (by have := B3.out.size; simp; omega) (fun b e => by have := B3.out.size; simp [Value.ownBlock] at e; omega))
   clear o4 g4 B3
   go_wp2
   go_ret2
   exact Gives2.cast E.out.1.symm E.out.2.symm ⟨_, rfl, by have := O4.out; rw [HL.out]; simpa using this, B4.out⟩


set_option maxHeartbeats 400000 in
theorem spPut_new (A : Option Addr) (n c : Nat) (zs : List Pr) (k v : Int) (w : World) (h : RP w w.heap.size A n zs) (hn : n ≤ 1048576) (hc : n ≤ c) (hc2 : c ≤ 9223372036854775807) (hp : pOk zs = true) (hr : rightB k v = true) (hh : hitB zs k = false) (hf : n ≠ 40) :
   Calls Tryz.prog 100 #[jS A n c, .agg #[jI jZ k, jI jZ v]] w (Gives2 w (putL zs k v) (putB zs k v)) := by
   have HL := Lib.hid h.1
   have HH := Lib.hid h
   clear h
   have p1 : ∀ w, RP w w.heap.size A n zs → Calls Tryz.prog 60 #[jS A n c] w fun e w' => e = .returned (.bool true) ∧ Below w.heap.size w w' := fun w hR => by
     have := spOk_any A n c zs w hR hn; rwa [hp] at this
   have r1 : ∀ w, Calls Tryz.prog 88 #[.agg #[jI jZ k, jI jZ v]] w fun e w' => e = .returned (.bool true) ∧ Below w.heap.size w w' := fun w => by
     have := pair_any k v w; rwa [hr] at this
   have h40 : n ≤ 40 := by have := ((pOk_iff zs).1 hp).2; have := HL.out; omega
   have h39 : n ≤ 39 := by omega
   clear h40 hf
   have INS : Hid ((insL zs k v).length = n + 1) := Lib.hid (by rw [insL_length, if_neg (by simp [hh]), HL.out])
   have E : Hid (putL zs k v = insL zs k v ∧ putB zs k v = true) := Lib.hid (by unfold putL putB insL; rw [hp, hr, hh, HL.out]; simp; omega)
   clear hp hr hh
   generalize putL zs k v = L at *
   generalize putB zs k v = Bo at *
   go_enter Tryz.func100, Tryz.ntmps100
   go_wp2_with fail
   have B0 : Hid (Below w.heap.size w (w.alloc (.cells #[jI jZ k, jI jZ v] 68))) := Lib.hid ((Below.refl _ _).alloc (Nat.le_refl _) _)
   refine (p1 _ (HH.out.on B0.out)).mono ?_
   rintro e w1 ⟨rfl, b1⟩
   have d1 : w1.cell? ⟨w.heap.size, 0, none⟩ = some (jI jZ k) := (b1.cell (by simp)).trans (by simp)
   have e1 : w1.cell? ⟨w.heap.size, 1, none⟩ = some (jI jZ v) := (b1.cell (by simp)).trans (by simp)
   have s1 : w.heap.size < w1.heap.size := by have := b1.size; simp at this; omega
   have B1 := Lib.hid (B0.out.trans (b1.mono (by simp)))
   clear b1 B0
   go_wp2_with fail
   refine (sPut_any A n c zs k v _ (HH.out.on B1.out) hn hc hc2).mono ?_
   intro e w2 hG
   obtain ⟨A2, c2, rfl, o2, b2⟩ := own_form hG
   clear hG
   have d2 : w2.cell? ⟨w.heap.size, 0, none⟩ = some (jI jZ k) := (b2.cell s1).trans d1
   have e2 : w2.cell? ⟨w.heap.size, 1, none⟩ = some (jI jZ v) := (b2.cell s1).trans e1
   have B2 := Lib.hid (B1.out.trans (b2.mono B1.out.size))
   have O2 := Lib.hid (own_base o2 B1.out.size)
   clear b2 o2 B1 d1 e1 s1
   generalize insL zs k v = J at *
   have hlen := INS.out
   have LEN := Lib.hid hlen
   rw [hlen] at O2 ⊢
   clear hlen INS
   go_wp2_with fail
   refine (r1 _).mono ?_
   rintro e w3 ⟨rfl, b3⟩
   have O3 := Lib.hid (own_on O2.out b3)
   have B3 := Lib.hid (B2.out.trans (b3.mono B2.out.size))
   clear b3 B2 O2 d2 e2
   go_wp2
   go_ret2
   exact Gives2.cast E.out.1.symm (by rw [E.out.2]; simp; omega) ⟨_, rfl, by rw [LEN.out]; exact O3.out, B3.out⟩

theorem spPut_any (A : Option Addr) (n c : Nat) (zs : List Pr) (k v : Int) (w : World) (h : RP w w.heap.size A n zs) (hn : n ≤ 1048576) (hc : n ≤ c) (hc2 : c ≤ 9223372036854775807) :
   Calls Tryz.prog 100 #[jS A n c, .agg #[jI jZ k, jI jZ v]] w (Gives2 w (putL zs k v) (putB zs k v)) := by
 rcases Bool.eq_false_or_eq_true (pOk zs) with hp | hp
 · rcases Bool.eq_false_or_eq_true (rightB k v) with hr | hr
   · rcases Bool.eq_false_or_eq_true (hitB zs k) with hh | hh
     · exact spPut_hit A n c zs k v w h hn hc hc2 hp hr hh
     · by_cases hf : n = 40
       · exact spPut_full A n c zs k v w h hn hc hc2 hp hr hh hf
       · exact spPut_new A n c zs k v w h hn hc hc2 hp hr hh hf
   · exact spPut_wrong A n c zs k v w h hn hc hc2 hp hr
 · exact spPut_bad A n c zs k v w h hn hc hc2 hp
end Go.Proofs.YtpffkhjegpddbaaGreat
namespace Go.Proofs.YtpffkhjegpddbaaGreat
open Go.RowKit

def leftTo (zs : List Pr) (key : Int) (j : Nat) : List Pr := (zs.take j).filter (fun p => !(p.1 == key))
theorem leftTo_keep (zs : List Pr) (key : Int) (j : Nat) (hj : j < zs.length) (h : kAt zs j ≠ key) : leftTo zs key (j + 1) = leftTo zs key j ++ [(kAt zs j, vAt zs j)] := by
 unfold leftTo
 rw [List.take_succ_eq_append_getElem hj, List.filter_append]
 rw [kAt_eq _ _ hj] at h
 rw [kAt_eq _ _ hj, vAt_eq _ _ hj]
 simp [h]
theorem leftTo_drop (zs : List Pr) (key : Int) (j : Nat) (hj : j < zs.length) (h : kAt zs j = key) : leftTo zs key (j + 1) = leftTo zs key j := by
 unfold leftTo
 rw [List.take_succ_eq_append_getElem hj, List.filter_append]
 rw [kAt_eq _ _ hj] at h
 simp [h]
theorem leftTo_le (zs : List Pr) (key : Int) (j : Nat) : (leftTo zs key j).length ≤ j := by
 unfold leftTo
 exact Nat.le_trans (List.length_filter_le _ _) (by rw [List.length_take]; omega)

theorem sCut_any (A : Option Addr) (n c : Nat) (zs : List Pr) (key : Int) (w : World) (h : RP w w.heap.size A n zs) (hn : n ≤ 1048576) :
   Calls Tryz.prog 132 #[jS A n c, jI jZ key] w (Gives w (leftTo zs key n)) := by
 have HL := Lib.hid h.1
 have HH := Lib.hid h
 clear h
 go_enter Tryz.func132, Tryz.ntmps132
 go_wp2
 go_loopw [5, 6] (fun v i wr => ∃ j : Nat, i = jI jZ j ∧ j ≤ n ∧ Hid (wr.ownsRow w.heap.size 68 2 v (leftTo zs key j).length (PL (leftTo zs key j))) ∧ Hid (Below w.heap.size w wr)) (fun _ i _ => n - (intOf i).toNat)
 case atStart => exact ⟨0, rfl, by omega, Lib.hid (by have := empty_row w; simpa [leftTo] using this), Lib.hid ((Below.refl _ _).alloc (Nat.le_refl _) _)⟩
 case round =>
   obtain ⟨j, rfl, hj, ho, hbw⟩ := hrel
   by_cases hlt : j < n
   · obtain ⟨b, off, rfl, hb, hc⟩ := HH.out.2 (by omega)
     have c1 := (hbw.out.cell (p := ⟨b, off + j * 2, none⟩) hb).trans (hc j hlt).1
     have c2 := (hbw.out.cell (p := ⟨b, off + j * 2 + 1, none⟩) hb).trans (hc j hlt).2
     clear hc
     have hle := leftTo_le zs key j
     by_cases hk : kAt zs j = key
     · have hkb : (kAt zs j != key) = false := by simpa using hk
       have HK := Lib.hid hk
       clear hk
       go_wp2
       go_roundw
       case rel => exact ⟨j + 1, by go_num, by omega, by rw [leftTo_drop zs key j (by have := HL.out; omega) HK.out]; exact ho, hbw⟩
       case measure => simp [intOf]; omega
     · have hkb : (kAt zs j != key) = true := by simpa using hk
       have HK := Lib.hid hk
       clear hk
       go_wp2_with (at_builtin; refine wpList_app rfl (.tmp 21) (.tmp 26) rfl w.heap.size _ _ _ rfl (ho.out.alloc _) _ (some ⟨wr.heap.size, 0, none⟩) 1 1 [(kAt zs j, vAt zs j)] rfl (one_row wr _ _ _) (by omega) (by have := hbw.out.size; simp; omega) ?_)
       intro v2 w2 o2 g2
       have B2 := Lib.hid ((hbw.out.alloc hbw.out.size (.cells #[jI jZ (kAt zs j), jI jZ (vAt zs j)] 68)).grown g2 (by have := hbw.out.size; simp; omega) (fun b e => (ho.out.lt b e).1))
       have O2 := Lib.hid o2
       clear o2 g2
       go_wp2
       go_roundw
       case rel => exact ⟨j + 1, by go_num, by omega, Lib.hid (by rw [leftTo_keep zs key j (by have := HL.out; omega) HK.out]; have := O2.out; simpa using this), B2⟩
       case measure => simp [intOf]; omega
   · obtain rfl : j = n := by omega
     go_wp2
     go_ret
     exact ⟨_, rfl, ho.out, hbw.out⟩

end Go.Proofs.YtpffkhjegpddbaaGreat
namespace Go.Proofs.YtpffkhjegpddbaaGreat
open Go.RowKit

def markTo (zs : List Pr) (k : Nat) (j : Nat) : List Pr := ((List.range j).map fun i : Nat => ((k : Int) + 2 * (i : Int), (k : Int) + 2 * (i : Int) + 1)) ++ zs.drop j
theorem grown_trans {a b c : World} {row : Option Nat} (h : a.grownBy b row) (k : b.grownBy c row) : a.grownBy c row :=
 ⟨k.os.trans h.os, k.tape.trans h.tape, k.output.trans h.output, Nat.le_trans h.size k.size, fun i hi hr => (k.block i (Nat.lt_of_lt_of_le hi h.size) hr).trans (h.block i hi hr)⟩

end Go.Proofs.YtpffkhjegpddbaaGreat
namespace Go.Proofs.YtpffkhjegpddbaaGreat
open Go.RowKit


class Mk (α : Type) where
 cnt : α → Nat
 put : Nat → α → α
section
variable {α : Type} [M : Mk α]
def cntS (xs : List α) : Nat := (xs.map M.cnt).sum
theorem cntS_take (xs : List α) (j : Nat) (d : α) (hj : j < xs.length) : cntS (xs.take (j + 1)) = cntS (xs.take j) + M.cnt (xs.getD j d) := by
 unfold cntS
 have e : xs.getD j d = xs[j] := by simp [hj]
 rw [List.take_succ_eq_append_getElem hj, List.map_append, List.sum_append, e]
 rfl
end

instance : Mk Int where
 cnt := fun _ => 1
 put := fun k _ => (k : Int)
instance : Mk Nd where
 cnt := fun x => 4 + 2 * x.ps.length
 put := fun k x => ⟨(k : Int), markTo x.ps (k + 1) x.ps.length, ((k + 1 + 2 * x.ps.length : Nat) : Int), ((k + 1 + 2 * x.ps.length + 1 : Nat) : Int), ((k + 1 + 2 * x.ps.length + 2 : Nat) : Int)⟩


instance encInt : Enc Int where
 ty := 2
 sz := 1
 dflt := 0
 Is := fun _ _ cs x => cs = [jI jZ x]
 Own := fun _ cs x _ => cs = [jI jZ x]
 is_len := fun h => by rw [h]; rfl
 is_keep := fun h _ => h
 is_more := fun h _ => h
 own_is := fun h => h
 own_keep := fun h _ => h
 own_more := fun h _ => h


instance encNd : Enc Nd where
 ty := 53
 sz := 5
 dflt := ⟨0, [], 0, 0, 0⟩
 Is := fun w B cs x => ∃ A n c, cs = [jI jZ x.lv, jS A n c, jI jZ x.hi, jI jZ x.ri, jI jZ x.ow] ∧ RP w B A n x.ps ∧ n ≤ c ∧ c ≤ 9223372036854775807
 Own := fun w cs x F => ∃ v, cs = [jI jZ x.lv, v, jI jZ x.hi, jI jZ x.ri, jI jZ x.ow] ∧ w.ownsRow 0 68 2 v x.ps.length (PL x.ps) ∧ ∀ k, v.ownBlock = some k → F k
 is_len := fun ⟨_, _, _, h, _⟩ => by rw [h]; rfl
 is_keep := fun ⟨A, n, c, h, hR, hc⟩ hk => ⟨A, n, c, h, hR.keep hk, hc⟩
 is_more := fun ⟨A, n, c, h, hR, hc⟩ hB => ⟨A, n, c, h, hR.more hB, hc⟩
 own_is := fun ⟨v, h, ho, _⟩ => by
   obtain ⟨A, c, hv, hc, hm⟩ := own_shape ho
   obtain ⟨A', c', hv', hR⟩ := RP.of_own ho
   rw [hv] at hv'
   cases hv'
   exact ⟨A, _, c, by rw [h, hv], hR, hc, by unfold maxLen at hm; omega⟩
 own_keep := fun ⟨v, h, ho, hF⟩ hk => ⟨v, h, own_same ho (fun k e => hk k (hF k e)), hF⟩
 own_more := fun ⟨v, h, ho, hF⟩ hs => ⟨v, h, ho, fun k e => hs k (hF k e)⟩


structure Tr where
 root : Int
 ns : List Nd
def trV (t : Tr) (A : Option Addr) (n c : Nat) : Value := .agg #[jI jZ t.root, jS A n c]
def IsT (w : World) (B : Nat) (v : Value) (t : Tr) : Prop := ∃ A n c, v = trV t A n c ∧ RS w B A n t.ns ∧ n ≤ c ∧ c ≤ 9223372036854775807
def OwnT (w : World) (v : Value) (t : Tr) (F : FP) : Prop := ∃ u, v = .agg #[jI jZ t.root, u] ∧ OwnS w u t.ns F
section
variable {w w' : World} {v : Value} {t : Tr} {F G : FP} {B B' : Nat}
theorem IsT.keep (h : IsT w B v t) (hk : ∀ p : Addr, p.block < B → w'.cell? p = w.cell? p) : IsT w' B v t := by
 obtain ⟨A, n, c, e, hR, hc⟩ := h
 exact ⟨A, n, c, e, hR.keep hk, hc⟩
theorem IsT.more (h : IsT w B v t) (hB : B ≤ B') : IsT w B' v t := by
 obtain ⟨A, n, c, e, hR, hc⟩ := h
 exact ⟨A, n, c, e, hR.more hB, hc⟩
theorem IsT.on (h : IsT w w.heap.size v t) (hb : Below w.heap.size w w') : IsT w' w'.heap.size v t := by
 obtain ⟨A, n, c, e, hR, hc⟩ := h
 exact ⟨A, n, c, e, hR.on hb, hc⟩
theorem OwnT.reads (h : OwnT w v t F) : IsT w w.heap.size v t := by
 obtain ⟨u, e, ho⟩ := h
 obtain ⟨A, c, rfl, hR, hc⟩ := ho.reads
 exact ⟨A, _, c, e, hR, hc⟩
theorem OwnT.more (h : OwnT w v t F) (hs : ∀ k, F k → G k) : OwnT w v t G := by
 obtain ⟨u, e, ho⟩ := h
 exact ⟨u, e, ho.more hs⟩
theorem OwnT.keep (h : OwnT w v t F) (hs : ∀ k, F k → k < w.heap.size → w'.heap[k]? = w.heap[k]?) : OwnT w' v t F := by
 obtain ⟨u, e, ho⟩ := h
 exact ⟨u, e, ho.keep hs⟩
end


def ndAt (xs : List Nd) (i : Nat) : Nd := xs.getD i ⟨0, [], 0, 0, 0⟩
theorem ndAt_eq (xs : List Nd) (i : Nat) (h : i < xs.length) : ndAt xs i = xs[i] := by simp [ndAt, h]
def NdIn (w : World) (B b o : Nat) (x : Nd) : Prop := ∃ (A : Option Addr) (n c : Nat),
 w.cell? ⟨b, o, none⟩ = some (jI jZ x.lv) ∧ w.cell? ⟨b, o + 1, none⟩ = some (.slice A n c) ∧ w.cell? ⟨b, o + 2, none⟩ = some (jI jZ x.hi) ∧
 w.cell? ⟨b, o + 3, none⟩ = some (jI jZ x.ri) ∧ w.cell? ⟨b, o + 4, none⟩ = some (jI jZ x.ow) ∧ RP w B A n x.ps ∧ n ≤ c ∧ c ≤ 9223372036854775807
theorem RS.nd {w : World} {B n : Nat} {A : Option Addr} {xs : List Nd} (h : RS w B A n xs) (hn : 0 < n) :
   ∃ b off, A = some ⟨b, off, none⟩ ∧ b < B ∧ ∀ i, i < n → NdIn w B b (off + i * 5) (ndAt xs i) := by
 obtain ⟨b, off, e, hb, hc⟩ := h.2 hn
 refine ⟨b, off, e, hb, fun i hi => ?_⟩
 obtain ⟨cs, ⟨A', n', c', h1, h2, h3⟩, h4⟩ := hc i hi
 subst h1
 exact ⟨A', n', c', h4 0 _ rfl, h4 1 _ rfl, h4 2 _ rfl, h4 3 _ rfl, h4 4 _ rfl, h2, h3⟩
theorem NdIn.keep {w w' : World} {B b o : Nat} {x : Nd} (h : NdIn w B b o x) (hb : b < B) (hk : ∀ p : Addr, p.block < B → w'.cell? p = w.cell? p) : NdIn w' B b o x := by
 obtain ⟨A, n, c, h0, h1, h2, h3, h4, hR, hc⟩ := h
 exact ⟨A, n, c, (hk _ hb).trans h0, (hk _ hb).trans h1, (hk _ hb).trans h2, (hk _ hb).trans h3, (hk _ hb).trans h4, hR.keep hk, hc⟩
end Go.Proofs.YtpffkhjegpddbaaGreat
namespace Go.Proofs.YtpffkhjegpddbaaGreat
open Go.RowKit

theorem node_info : (Tryz.prog.info? 53).map (fun i => (i.zero, i.size, i.bytes)) = some (some (.agg #[jI jZ 0, jS none 0 0, jI jZ 0, jI jZ 0, jI jZ 0]), 5, 56) := by kernel_rfl

end Go.Proofs.YtpffkhjegpddbaaGreat
namespace Go.Proofs.YtpffkhjegpddbaaGreat
open Go.RowKit


def iAt (xs : List Int) (i : Nat) : Int := xs.getD i 0
theorem RS.ints {w : World} {B n : Nat} {A : Option Addr} {xs : List Int} (h : RS w B A n xs) (hn : 0 < n) :
   ∃ b off, A = some ⟨b, off, none⟩ ∧ b < B ∧ ∀ i, i < n → w.cell? ⟨b, off + i, none⟩ = some (jI jZ (iAt xs i)) := by
 obtain ⟨b, off, e, hb, hc⟩ := h.2 hn
 refine ⟨b, off, e, hb, fun i hi => ?_⟩
 obtain ⟨cs, h1, h2⟩ := hc i hi
 have h1' : cs = [jI jZ (xs.getD i 0)] := h1
 subst h1'
 have := h2 0 _ rfl
 rwa [show off + i * encInt.sz + 0 = off + i from by show off + i * 1 + 0 = off + i; omega] at this

theorem cntI (xs : List Int) : cntS xs = xs.length := by
 unfold cntS
 induction xs with
 | nil => rfl
 | cons x r ih =>
   simp only [List.map_cons, List.sum_cons, List.length_cons]
   rw [ih]
   show 1 + _ = _
   omega
theorem cntNd_take (xs : List Nd) (j : Nat) (hj : j < xs.length) : cntS (xs.take (j + 1)) = cntS (xs.take j) + (4 + 2 * (ndAt xs j).ps.length) := cntS_take xs j ⟨0, [], 0, 0, 0⟩ hj

end Go.Proofs.YtpffkhjegpddbaaGreat
namespace Go.Proofs.YtpffkhjegpddbaaGreat
open Go.RowKit

theorem RP.own {w : World} {base : Nat} {e : TypeId} {A : Option Addr} {n c : Nat} {zs : List Pr} (h : w.ownsRow base e 2 (jS A n c) n (PL zs)) : RP w w.heap.size A n zs := by
 obtain ⟨A', c', e, r⟩ := RP.of_own h; cases e; exact r

theorem form2 {w : World} {zs : List Pr} {b : Bool} {e : Ending} {w' : World} (h : Gives2 w zs b e w') : ∃ A c, e = .returned (.tuple #[jS A zs.length c, .bool b]) ∧ w'.ownsRow w.heap.size 68 2 (jS A zs.length c) zs.length (PL zs) ∧ Below w.heap.size w w' := by
 obtain ⟨v, he, ho, hb⟩ := h
 obtain ⟨A, c, rfl, _⟩ := RP.of_own ho
 exact ⟨A, c, he, ho, hb⟩

theorem own_far {w w' : World} {base : Nat} {e : TypeId} {size n : Nat} {v : Value} {xs : List Value} {row : Option Nat} (h : w.ownsRow base e size v n xs) (hg : w.grownBy w' row) (hf : ∀ b, v.ownBlock = some b → row ≠ some b) : w'.ownsRow base e size v n xs :=
 h.kept hg (by
   cases e : v.ownBlock with
   | none => exact .inl rfl
   | some b => exact .inr (fun h => hf b e h.symm))

theorem putL_le (zs : List Pr) (k v : Int) : (putL zs k v).length ≤ 40 := by
 unfold putL
 by_cases hp : pOk zs = true
 · have h40 := ((pOk_iff zs).1 hp).2
   have hle := geIx_le zs k
   rw [if_pos hp]
   by_cases hr : rightB k v = true
   · rw [if_pos hr]
     by_cases hh : hitB zs k = true
     · have hg : geIx zs k < zs.length := by
         have := hh; unfold hitB at this; simp only [Bool.and_eq_true, decide_eq_true_eq] at this; exact this.1
       rw [if_pos hh]
       simp; omega
     · rw [if_neg hh]
       by_cases hf : zs.length = 40
       · rw [if_pos hf]; omega
       · rw [if_neg hf]
         simp; omega
   · rw [if_neg hr]; exact h40
 · rw [if_neg hp]; simp
end Go.Proofs.YtpffkhjegpddbaaGreat
namespace Go.Proofs.YtpffkhjegpddbaaGreat
open Go.RowKit


instance encPr : Enc Pr where
 ty := 68
 sz := 2
 dflt := (0, 0)
 Is := fun _ _ cs x => cs = [jI jZ x.1, jI jZ x.2]
 Own := fun _ cs x _ => cs = [jI jZ x.1, jI jZ x.2]
 is_len := fun h => by rw [h]; rfl
 is_keep := fun h _ => h
 is_more := fun h _ => h
 own_is := fun h => h
 own_keep := fun h _ => h
 own_more := fun h _ => h
instance : Mk Pr where
 cnt := fun _ => 2
 put := fun k _ => ((k : Int), ((k + 1 : Nat) : Int))

theorem PL_flat (zs : List Pr) : PL zs = (zs.map fun p => [Value.int .i64 p.1, jI jZ p.2]).flatten := by
 induction zs with
 | nil => rfl
 | cons p r ih => simp only [PL, List.map_cons, List.flatten_cons, ih]; rfl
theorem OwnS.of_pairs {w : World} {base : Nat} {v : Value} {n : Nat} {zs : List Pr} {F : FP} (h : w.ownsRow base 68 2 v n (PL zs)) (hF : ∀ k, v.ownBlock = some k → F k) : OwnS w v zs F := by
 have hl : zs.length = n := by have := h.1; rw [PL_length] at this; omega
 refine ⟨zs.map fun p => [Value.int .i64 p.1, jI jZ p.2], fun _ _ => False, by rw [← PL_flat, hl]; exact own_zero h, by simp, fun i hi => ?_, fun i hi k hk => absurd hk id, fun i j hi hj hij k hk => absurd hk id, hF⟩
 show (zs.map fun p => [Value.int .i64 p.1, jI jZ p.2]).getD i [] = [jI jZ (zs.getD i (0, 0)).1, jI jZ (zs.getD i (0, 0)).2]
 simp [hi]
theorem OwnS.pairs {w : World} {v : Value} {zs : List Pr} {F : FP} (h : OwnS w v zs F) : w.ownsRow 0 68 2 v zs.length (PL zs) ∧ ∀ k, v.ownBlock = some k → F k := by
 obtain ⟨css, f, h1, h2, h3, h4, h5, h6⟩ := h
 refine ⟨?_, h6⟩
 have e : css = zs.map fun p => [Value.int .i64 p.1, jI jZ p.2] := by
   apply List.ext_getElem (by simpa using h2)
   intro i hi hi'
   have h : css.getD i [] = [jI jZ (zs.getD i (0, 0)).1, jI jZ (zs.getD i (0, 0)).2] := h3 i (by simpa using hi')
   have hz : i < zs.length := by simpa using hi'
   simpa [hi, hz] using h
 rw [PL_flat, ← e]
 exact h1
theorem RS.of_pairs {w : World} {B n : Nat} {A : Option Addr} {zs : List Pr} (h : RP w B A n zs) : RS w B A n zs :=
 ⟨h.1, fun hn => by
   obtain ⟨b, off, e, hb, hc⟩ := h.2 hn
   refine ⟨b, off, e, hb, fun i hi => ⟨[jI jZ (kAt zs i), jI jZ (vAt zs i)], rfl, fun j u hu => ?_⟩⟩
   match j, hu with
   | 0, hu => cases hu; exact (hc i hi).1
   | 1, hu => cases hu; exact (hc i hi).2
   | j + 2, hu => simp at hu⟩
theorem RS.pairs {w : World} {B n : Nat} {A : Option Addr} {zs : List Pr} (h : RS w B A n zs) : RP w B A n zs :=
 ⟨h.1, fun hn => by
   obtain ⟨b, off, e, hb, hc⟩ := h.2 hn
   refine ⟨b, off, e, hb, fun i hi => ?_⟩
   obtain ⟨cs, h1, h2⟩ := hc i hi
   have h1' : cs = [jI jZ (kAt zs i), jI jZ (vAt zs i)] := h1
   subst h1'
   exact ⟨h2 0 _ rfl, h2 1 _ rfl⟩⟩
theorem cntS_pairs (zs : List Pr) : cntS zs = 2 * zs.length := by
 unfold cntS
 induction zs with
 | nil => rfl
 | cons p r ih =>
   simp only [List.map_cons, List.sum_cons, List.length_cons]
   rw [ih]
   show 2 + _ = _
   omega
end Go.Proofs.YtpffkhjegpddbaaGreat

/- The walks of the code's Put and Cut. -/
import Derived.Test.YtokkpbjldchjpaaW9
namespace Go.Proofs.Ytokkpbjldchjpaa
open Go.RowKit
set_option linter.unusedVariables false

/-- What Put answers: the list, and whether there was none. -/
def putL (zs : List Pr) (k v : Int) : List Pr :=
  if pOk zs = true then
    if rightB k v = true then
      if hitB zs k = true then zs.take (geIx zs k) ++ [(k, v)] ++ zs.drop (geIx zs k + 1)
      else if zs.length = 40 then zs else zs.take (geIx zs k) ++ [(k, v)] ++ zs.drop (geIx zs k)
    else zs
  else []
def putB (zs : List Pr) (k v : Int) : Bool := pOk zs && rightB k v && !hitB zs k && !decide (zs.length = 40)
/-- What Cut answers: the list; and whether the key was there. -/
def cutL (zs : List Pr) (k : Int) : List Pr := if pOk zs = true then (if hitB zs k = true then zs.take (geIx zs k) ++ zs.drop (geIx zs k + 1) else zs) else []
def cutB (zs : List Pr) (k : Int) : Bool := pOk zs && hitB zs k

/-- A list of the call's own and a flag beside it. -/
def Gives2 (w : World) (zs : List Pr) (b : Bool) (e : Ending) (w' : World) : Prop := ∃ v, e = .returned (.tuple #[v, .bool b]) ∧ w'.ownsRow w.heap.size 28 2 v zs.length (PL zs) ∧ Below w.heap.size w w'
theorem Gives2.cast {w : World} {zs zs' : List Pr} {b b' : Bool} (h1 : zs = zs') (h2 : b = b') {e : Ending} {w' : World} (h : Gives2 w zs b e w') : Gives2 w zs' b' e w' := by subst h1; subst h2; exact h
theorem own_base {w : World} {base base' : Nat} {e : TypeId} {size n : Nat} {v : Value} {xs : List Value} (h : w.ownsRow base e size v n xs) (hb : base' ≤ base) : w.ownsRow base' e size v n xs := by
  rcases h with ⟨hl, h' | ⟨g, cap, cur, hv, hg, rest⟩⟩
  · exact ⟨hl, .inl h'⟩
  · exact ⟨hl, .inr ⟨g, cap, cur, hv, Nat.le_trans hb hg, rest⟩⟩
theorem one_row (w : World) (B : Nat) (k v : Int) : RP (w.alloc (.cells #[.int .i64 k, .int .i64 v] B)) (w.heap.size + 1) (some ⟨w.heap.size, 0, none⟩) 1 [(k, v)] :=
  ⟨rfl, fun _ => ⟨w.heap.size, 0, rfl, by omega, fun i hi => by
    obtain rfl : i = 0 := by omega
    simp [kAt, vAt]⟩⟩

theorem iPut_bad (A : Option Addr) (n c : Nat) (zs : List Pr) (k v : Int) (w : World) (h : RP w w.heap.size A n zs) (hn : n ≤ 1048576) (hc : n ≤ c) (hc2 : c ≤ 9223372036854775807) (hp : pOk zs = false) :
    Calls Try.prog 14 #[.slice A n c, .agg #[.int .i64 k, .int .i64 v]] w (Gives2 w (putL zs k v) (putB zs k v)) := by
    have HL := Lib.hid h.1
    have HH := Lib.hid h
    clear h
    have p1 : ∀ w, RP w w.heap.size A n zs → Calls Try.prog 38 #[.slice A n c] w fun e w' => e = .returned (.bool false) ∧ Below w.heap.size w w' := fun w hR => by
      have := iOk_any A n c zs w hR hn; rwa [hp] at this
    have E : Hid (putL zs k v = [] ∧ putB zs k v = false) := Lib.hid (by unfold putL putB; simp [hp])
    clear hp
    generalize putL zs k v = L at *
    generalize putB zs k v = Bo at *
    go_enter Try.func14, Try.ntmps14
    go_wp2_with fail
    have B0 : Hid (Below w.heap.size w (w.alloc (.cells #[.int .i64 k, .int .i64 v] 28))) := Lib.hid ((Below.refl _ _).alloc (Nat.le_refl _) _)
    refine (p1 _ (HH.out.on B0.out)).mono ?_
    rintro e w1 ⟨rfl, b1⟩
    have d1 : w1.cell? ⟨w.heap.size, 0, none⟩ = some (.int .i64 k) := (b1.cell (by simp)).trans (by simp)
    have e1 : w1.cell? ⟨w.heap.size, 1, none⟩ = some (.int .i64 v) := (b1.cell (by simp)).trans (by simp)
    have s1 : w.heap.size < w1.heap.size := by have := b1.size; simp at this; omega
    have B1 := Lib.hid (B0.out.trans (b1.mono (by simp)))
    clear b1 B0
    go_wp2
    go_ret2
    exact Gives2.cast E.out.1.symm E.out.2.symm ⟨_, rfl, own_base (empty_row w1) B1.out.size, B1.out.alloc B1.out.size _⟩

theorem iPut_wrong (A : Option Addr) (n c : Nat) (zs : List Pr) (k v : Int) (w : World) (h : RP w w.heap.size A n zs) (hn : n ≤ 1048576) (hc : n ≤ c) (hc2 : c ≤ 9223372036854775807) (hp : pOk zs = true) (hr : rightB k v = false) :
    Calls Try.prog 14 #[.slice A n c, .agg #[.int .i64 k, .int .i64 v]] w (Gives2 w (putL zs k v) (putB zs k v)) := by
    have HL := Lib.hid h.1
    have HH := Lib.hid h
    clear h
    have p1 : ∀ w, RP w w.heap.size A n zs → Calls Try.prog 38 #[.slice A n c] w fun e w' => e = .returned (.bool true) ∧ Below w.heap.size w w' := fun w hR => by
      have := iOk_any A n c zs w hR hn; rwa [hp] at this
    have f1 : ∀ w, RP w w.heap.size A n zs → Calls Try.prog 39 #[.slice A n c, .int .i64 k] w fun e w' => e = .returned (.tuple #[.int .i64 (geIx zs k), .bool (hitB zs k)]) ∧ Below w.heap.size w w' := fun w hR => find_any A n c zs k w hR hn
    have r1 : ∀ w, Calls Try.prog 40 #[.agg #[.int .i64 k, .int .i64 v]] w fun e w' => e = .returned (.bool false) ∧ Below w.heap.size w w' := fun w => by
      have := right_any k v w; rwa [hr] at this
    have E : Hid (putL zs k v = zs ∧ putB zs k v = false) := Lib.hid (by unfold putL putB; simp [hp, hr])
    clear hp hr
    generalize putL zs k v = L at *
    generalize putB zs k v = Bo at *
    generalize geIx zs k = g at *
    generalize hitB zs k = hb at *
    go_enter Try.func14, Try.ntmps14
    go_wp2_with fail
    have B0 : Hid (Below w.heap.size w (w.alloc (.cells #[.int .i64 k, .int .i64 v] 28))) := Lib.hid ((Below.refl _ _).alloc (Nat.le_refl _) _)
    refine (p1 _ (HH.out.on B0.out)).mono ?_
    rintro e w1 ⟨rfl, b1⟩
    have d1 : w1.cell? ⟨w.heap.size, 0, none⟩ = some (.int .i64 k) := (b1.cell (by simp)).trans (by simp)
    have e1 : w1.cell? ⟨w.heap.size, 1, none⟩ = some (.int .i64 v) := (b1.cell (by simp)).trans (by simp)
    have s1 : w.heap.size < w1.heap.size := by have := b1.size; simp at this; omega
    have B1 := Lib.hid (B0.out.trans (b1.mono (by simp)))
    clear b1 B0
    go_wp2_with fail
    refine (f1 _ (HH.out.on B1.out)).mono ?_
    rintro e w2 ⟨rfl, b2⟩
    have d2 : w2.cell? ⟨w.heap.size, 0, none⟩ = some (.int .i64 k) := (b2.cell s1).trans d1
    have e2 : w2.cell? ⟨w.heap.size, 1, none⟩ = some (.int .i64 v) := (b2.cell s1).trans e1
    have s2 : w.heap.size < w2.heap.size := Nat.lt_of_lt_of_le s1 b2.size
    have B2 := Lib.hid (B1.out.trans (b2.mono B1.out.size))
    clear b2 B1 d1 e1 s1
    go_wp2_with fail
    refine (r1 _).mono ?_
    rintro e w3 ⟨rfl, b3⟩
    have d3 : w3.cell? ⟨w.heap.size, 0, none⟩ = some (.int .i64 k) := (b3.cell s2).trans d2
    have e3 : w3.cell? ⟨w.heap.size, 1, none⟩ = some (.int .i64 v) := (b3.cell s2).trans e2
    have B3 := Lib.hid (B2.out.trans (b3.mono B2.out.size))
    clear b3 B2 d2 e2 s2
    go_wp2_with fail
    refine (clone_any A n c zs _ (HH.out.on B3.out) hn).mono ?_
    rintro e w4 ⟨u, rfl, o4, b4⟩
    have O4 := Lib.hid (own_base o4 B3.out.size)
    have B4 := Lib.hid (B3.out.trans (b4.mono B3.out.size))
    clear o4 b4 B3
    go_wp2
    go_ret2
    exact Gives2.cast E.out.1.symm E.out.2.symm ⟨_, rfl, O4.out, B4.out⟩

theorem iPut_hit (A : Option Addr) (n c : Nat) (zs : List Pr) (k v : Int) (w : World) (h : RP w w.heap.size A n zs) (hn : n ≤ 1048576) (hc : n ≤ c) (hc2 : c ≤ 9223372036854775807) (hp : pOk zs = true) (hr : rightB k v = true) (hh : hitB zs k = true) :
    Calls Try.prog 14 #[.slice A n c, .agg #[.int .i64 k, .int .i64 v]] w (Gives2 w (putL zs k v) (putB zs k v)) := by
    have HL := Lib.hid h.1
    have HH := Lib.hid h
    clear h
    have p1 : ∀ w, RP w w.heap.size A n zs → Calls Try.prog 38 #[.slice A n c] w fun e w' => e = .returned (.bool true) ∧ Below w.heap.size w w' := fun w hR => by
      have := iOk_any A n c zs w hR hn; rwa [hp] at this
    have f1 : ∀ w, RP w w.heap.size A n zs → Calls Try.prog 39 #[.slice A n c, .int .i64 k] w fun e w' => e = .returned (.tuple #[.int .i64 (geIx zs k), .bool true]) ∧ Below w.heap.size w w' := fun w hR => by
      have := find_any A n c zs k w hR hn; rwa [hh] at this
    have r1 : ∀ w, Calls Try.prog 40 #[.agg #[.int .i64 k, .int .i64 v]] w fun e w' => e = .returned (.bool true) ∧ Below w.heap.size w w' := fun w => by
      have := right_any k v w; rwa [hr] at this
    have hg : geIx zs k < n := by
      have := hh; unfold hitB at this; simp only [Bool.and_eq_true, decide_eq_true_eq] at this; have := this.1; have := HL.out; omega
    have E : Hid (putL zs k v = zs.take (geIx zs k) ++ [(k, v)] ++ zs.drop (geIx zs k + 1) ∧ putB zs k v = false) := Lib.hid (by unfold putL putB; rw [hp, hr, hh]; simp)
    clear hp hr hh
    generalize putL zs k v = L at *
    generalize putB zs k v = Bo at *
    generalize geIx zs k = g at *
    go_enter Try.func14, Try.ntmps14
    go_wp2_with fail
    have B0 : Hid (Below w.heap.size w (w.alloc (.cells #[.int .i64 k, .int .i64 v] 28))) := Lib.hid ((Below.refl _ _).alloc (Nat.le_refl _) _)
    refine (p1 _ (HH.out.on B0.out)).mono ?_
    rintro e w1 ⟨rfl, b1⟩
    have d1 : w1.cell? ⟨w.heap.size, 0, none⟩ = some (.int .i64 k) := (b1.cell (by simp)).trans (by simp)
    have e1 : w1.cell? ⟨w.heap.size, 1, none⟩ = some (.int .i64 v) := (b1.cell (by simp)).trans (by simp)
    have s1 : w.heap.size < w1.heap.size := by have := b1.size; simp at this; omega
    have B1 := Lib.hid (B0.out.trans (b1.mono (by simp)))
    clear b1 B0
    go_wp2_with fail
    refine (f1 _ (HH.out.on B1.out)).mono ?_
    rintro e w2 ⟨rfl, b2⟩
    have d2 : w2.cell? ⟨w.heap.size, 0, none⟩ = some (.int .i64 k) := (b2.cell s1).trans d1
    have e2 : w2.cell? ⟨w.heap.size, 1, none⟩ = some (.int .i64 v) := (b2.cell s1).trans e1
    have s2 : w.heap.size < w2.heap.size := Nat.lt_of_lt_of_le s1 b2.size
    have B2 := Lib.hid (B1.out.trans (b2.mono B1.out.size))
    clear b2 B1 d1 e1 s1
    go_wp2_with fail
    refine (r1 _).mono ?_
    rintro e w3 ⟨rfl, b3⟩
    have d3 : w3.cell? ⟨w.heap.size, 0, none⟩ = some (.int .i64 k) := (b3.cell s2).trans d2
    have e3 : w3.cell? ⟨w.heap.size, 1, none⟩ = some (.int .i64 v) := (b3.cell s2).trans e2
    have B3 := Lib.hid (B2.out.trans (b3.mono B2.out.size))
    clear b3 B2 d2 e2 s2
    go_wp2_with fail
    have B3' : Hid (Below w.heap.size w (w3.alloc (.cells #[.int .i64 k, .int .i64 v] 28))) := Lib.hid (B3.out.alloc B3.out.size _)
    refine (spliced_any A _ n c 1 1 g (g + 1) zs [(k, v)] _ (HH.out.on B3'.out) ((one_row w3 _ k v).more (by simp)) (by omega) (by omega) hc hc2 hn (by omega)).mono ?_
    rintro e w4 ⟨u, rfl, o4, b4⟩
    have O4 := Lib.hid (own_base o4 B3'.out.size)
    have B4 := Lib.hid (B3'.out.trans (b4.mono B3'.out.size))
    clear o4 b4 B3 B3'
    go_wp2
    go_ret2
    exact Gives2.cast E.out.1.symm E.out.2.symm ⟨_, rfl, O4.out, B4.out⟩

theorem iPut_full (A : Option Addr) (n c : Nat) (zs : List Pr) (k v : Int) (w : World) (h : RP w w.heap.size A n zs) (hn : n ≤ 1048576) (hc : n ≤ c) (hc2 : c ≤ 9223372036854775807) (hp : pOk zs = true) (hr : rightB k v = true) (hh : hitB zs k = false) (hf : n = 40) :
    Calls Try.prog 14 #[.slice A n c, .agg #[.int .i64 k, .int .i64 v]] w (Gives2 w (putL zs k v) (putB zs k v)) := by
    have HL := Lib.hid h.1
    have HH := Lib.hid h
    clear h
    have p1 : ∀ w, RP w w.heap.size A n zs → Calls Try.prog 38 #[.slice A n c] w fun e w' => e = .returned (.bool true) ∧ Below w.heap.size w w' := fun w hR => by
      have := iOk_any A n c zs w hR hn; rwa [hp] at this
    have f1 : ∀ w, RP w w.heap.size A n zs → Calls Try.prog 39 #[.slice A n c, .int .i64 k] w fun e w' => e = .returned (.tuple #[.int .i64 (geIx zs k), .bool false]) ∧ Below w.heap.size w w' := fun w hR => by
      have := find_any A n c zs k w hR hn; rwa [hh] at this
    have r1 : ∀ w, Calls Try.prog 40 #[.agg #[.int .i64 k, .int .i64 v]] w fun e w' => e = .returned (.bool true) ∧ Below w.heap.size w w' := fun w => by
      have := right_any k v w; rwa [hr] at this
    have E : Hid (putL zs k v = zs ∧ putB zs k v = false) := Lib.hid (by unfold putL putB; rw [hp, hr, hh, HL.out, hf]; simp)
    clear hp hr hh
    generalize putL zs k v = L at *
    generalize putB zs k v = Bo at *
    generalize geIx zs k = g at *
    have hf1 : ((n : Int) == 40) = true := by subst hf; rfl
    have HF := Lib.hid hf
    clear hf
    go_enter Try.func14, Try.ntmps14
    go_wp2_with fail
    have B0 : Hid (Below w.heap.size w (w.alloc (.cells #[.int .i64 k, .int .i64 v] 28))) := Lib.hid ((Below.refl _ _).alloc (Nat.le_refl _) _)
    refine (p1 _ (HH.out.on B0.out)).mono ?_
    rintro e w1 ⟨rfl, b1⟩
    have d1 : w1.cell? ⟨w.heap.size, 0, none⟩ = some (.int .i64 k) := (b1.cell (by simp)).trans (by simp)
    have e1 : w1.cell? ⟨w.heap.size, 1, none⟩ = some (.int .i64 v) := (b1.cell (by simp)).trans (by simp)
    have s1 : w.heap.size < w1.heap.size := by have := b1.size; simp at this; omega
    have B1 := Lib.hid (B0.out.trans (b1.mono (by simp)))
    clear b1 B0
    go_wp2_with fail
    refine (f1 _ (HH.out.on B1.out)).mono ?_
    rintro e w2 ⟨rfl, b2⟩
    have d2 : w2.cell? ⟨w.heap.size, 0, none⟩ = some (.int .i64 k) := (b2.cell s1).trans d1
    have e2 : w2.cell? ⟨w.heap.size, 1, none⟩ = some (.int .i64 v) := (b2.cell s1).trans e1
    have s2 : w.heap.size < w2.heap.size := Nat.lt_of_lt_of_le s1 b2.size
    have B2 := Lib.hid (B1.out.trans (b2.mono B1.out.size))
    clear b2 B1 d1 e1 s1
    go_wp2_with fail
    refine (r1 _).mono ?_
    rintro e w3 ⟨rfl, b3⟩
    have d3 : w3.cell? ⟨w.heap.size, 0, none⟩ = some (.int .i64 k) := (b3.cell s2).trans d2
    have e3 : w3.cell? ⟨w.heap.size, 1, none⟩ = some (.int .i64 v) := (b3.cell s2).trans e2
    have B3 := Lib.hid (B2.out.trans (b3.mono B2.out.size))
    clear b3 B2 d2 e2 s2
    go_wp2_with fail
    refine (clone_any A n c zs _ (HH.out.on B3.out) hn).mono ?_
    rintro e w4 ⟨u, rfl, o4, b4⟩
    have O4 := Lib.hid (own_base o4 B3.out.size)
    have B4 := Lib.hid (B3.out.trans (b4.mono B3.out.size))
    clear o4 b4 B3
    go_wp2
    go_ret2
    exact Gives2.cast E.out.1.symm E.out.2.symm ⟨_, rfl, O4.out, B4.out⟩

theorem iPut_new (A : Option Addr) (n c : Nat) (zs : List Pr) (k v : Int) (w : World) (h : RP w w.heap.size A n zs) (hn : n ≤ 1048576) (hc : n ≤ c) (hc2 : c ≤ 9223372036854775807) (hp : pOk zs = true) (hr : rightB k v = true) (hh : hitB zs k = false) (hf : n ≠ 40) :
    Calls Try.prog 14 #[.slice A n c, .agg #[.int .i64 k, .int .i64 v]] w (Gives2 w (putL zs k v) (putB zs k v)) := by
    have HL := Lib.hid h.1
    have HH := Lib.hid h
    clear h
    have p1 : ∀ w, RP w w.heap.size A n zs → Calls Try.prog 38 #[.slice A n c] w fun e w' => e = .returned (.bool true) ∧ Below w.heap.size w w' := fun w hR => by
      have := iOk_any A n c zs w hR hn; rwa [hp] at this
    have f1 : ∀ w, RP w w.heap.size A n zs → Calls Try.prog 39 #[.slice A n c, .int .i64 k] w fun e w' => e = .returned (.tuple #[.int .i64 (geIx zs k), .bool false]) ∧ Below w.heap.size w w' := fun w hR => by
      have := find_any A n c zs k w hR hn; rwa [hh] at this
    have r1 : ∀ w, Calls Try.prog 40 #[.agg #[.int .i64 k, .int .i64 v]] w fun e w' => e = .returned (.bool true) ∧ Below w.heap.size w w' := fun w => by
      have := right_any k v w; rwa [hr] at this
    have hg : geIx zs k ≤ n := by have := geIx_le zs k; have := HL.out; omega
    have E : Hid (putL zs k v = zs.take (geIx zs k) ++ [(k, v)] ++ zs.drop (geIx zs k) ∧ putB zs k v = true) := Lib.hid (by unfold putL putB; rw [hp, hr, hh, HL.out]; simp [hf])
    clear hp hr hh
    generalize putL zs k v = L at *
    generalize putB zs k v = Bo at *
    generalize geIx zs k = g at *
    have hf1 : ((n : Int) == 40) = false := by simp; omega
    clear hf
    go_enter Try.func14, Try.ntmps14
    go_wp2_with fail
    have B0 : Hid (Below w.heap.size w (w.alloc (.cells #[.int .i64 k, .int .i64 v] 28))) := Lib.hid ((Below.refl _ _).alloc (Nat.le_refl _) _)
    refine (p1 _ (HH.out.on B0.out)).mono ?_
    rintro e w1 ⟨rfl, b1⟩
    have d1 : w1.cell? ⟨w.heap.size, 0, none⟩ = some (.int .i64 k) := (b1.cell (by simp)).trans (by simp)
    have e1 : w1.cell? ⟨w.heap.size, 1, none⟩ = some (.int .i64 v) := (b1.cell (by simp)).trans (by simp)
    have s1 : w.heap.size < w1.heap.size := by have := b1.size; simp at this; omega
    have B1 := Lib.hid (B0.out.trans (b1.mono (by simp)))
    clear b1 B0
    go_wp2_with fail
    refine (f1 _ (HH.out.on B1.out)).mono ?_
    rintro e w2 ⟨rfl, b2⟩
    have d2 : w2.cell? ⟨w.heap.size, 0, none⟩ = some (.int .i64 k) := (b2.cell s1).trans d1
    have e2 : w2.cell? ⟨w.heap.size, 1, none⟩ = some (.int .i64 v) := (b2.cell s1).trans e1
    have s2 : w.heap.size < w2.heap.size := Nat.lt_of_lt_of_le s1 b2.size
    have B2 := Lib.hid (B1.out.trans (b2.mono B1.out.size))
    clear b2 B1 d1 e1 s1
    go_wp2_with fail
    refine (r1 _).mono ?_
    rintro e w3 ⟨rfl, b3⟩
    have d3 : w3.cell? ⟨w.heap.size, 0, none⟩ = some (.int .i64 k) := (b3.cell s2).trans d2
    have e3 : w3.cell? ⟨w.heap.size, 1, none⟩ = some (.int .i64 v) := (b3.cell s2).trans e2
    have B3 := Lib.hid (B2.out.trans (b3.mono B2.out.size))
    clear b3 B2 d2 e2 s2
    go_wp2_with fail
    have B3' : Hid (Below w.heap.size w (w3.alloc (.cells #[.int .i64 k, .int .i64 v] 28))) := Lib.hid (B3.out.alloc B3.out.size _)
    refine (spliced_any A _ n c 1 1 g g zs [(k, v)] _ (HH.out.on B3'.out) ((one_row w3 _ k v).more (by simp)) (by omega) (by omega) hc hc2 hn (by omega)).mono ?_
    rintro e w4 ⟨u, rfl, o4, b4⟩
    have O4 := Lib.hid (own_base o4 B3'.out.size)
    have B4 := Lib.hid (B3'.out.trans (b4.mono B3'.out.size))
    clear o4 b4 B3 B3'
    go_wp2
    go_ret2
    exact Gives2.cast E.out.1.symm E.out.2.symm ⟨_, rfl, O4.out, B4.out⟩

theorem iPut_any (A : Option Addr) (n c : Nat) (zs : List Pr) (k v : Int) (w : World) (h : RP w w.heap.size A n zs) (hn : n ≤ 1048576) (hc : n ≤ c) (hc2 : c ≤ 9223372036854775807) :
    Calls Try.prog 14 #[.slice A n c, .agg #[.int .i64 k, .int .i64 v]] w (Gives2 w (putL zs k v) (putB zs k v)) := by
  rcases Bool.eq_false_or_eq_true (pOk zs) with hp | hp
  · rcases Bool.eq_false_or_eq_true (rightB k v) with hr | hr
    · rcases Bool.eq_false_or_eq_true (hitB zs k) with hh | hh
      · exact iPut_hit A n c zs k v w h hn hc hc2 hp hr hh
      · by_cases hf : n = 40
        · exact iPut_full A n c zs k v w h hn hc hc2 hp hr hh hf
        · exact iPut_new A n c zs k v w h hn hc hc2 hp hr hh hf
    · exact iPut_wrong A n c zs k v w h hn hc hc2 hp hr
  · exact iPut_bad A n c zs k v w h hn hc hc2 hp

end Go.Proofs.Ytokkpbjldchjpaa

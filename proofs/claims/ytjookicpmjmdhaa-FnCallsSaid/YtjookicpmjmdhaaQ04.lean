/- The walks of the model's NodeOk as a whole, of Within and KidFor. -/
import Derived.Test.YtjookicpmjmdhaaQ03
import Derived.Test.YtjookicpmjmdhaaQ02
import Derived.WalkSpells
import Derived.WalkLawsBesides
import Derived.Lib.AppendZerosOnto
import Derived.StillTailTactics
open Go.Value renaming int → jI, slice → jS
open Go.IntKind renaming i64 → jZ
namespace Go.Proofs.Ytjookicpmjmdhaa
open Go.RowKit

def ndV (x : Nd) (A : Option Addr) (n c : Nat) : Value := .agg #[jI jZ x.lv, jS A n c, jI jZ x.hi, jI jZ x.ri, jI jZ x.ow]
theorem to_bool {P : Program} {f : FuncId} {args : Array Value} {w : World} {b b' : Bool} (e : b = b') (h : Calls P f args w fun e w' => e = .returned (.bool b) ∧ Below w.heap.size w w') : Calls P f args w fun e w' => e = .returned (.bool b') ∧ Below w.heap.size w w' := by subst e; exact h

theorem sNode_any (x : Nd) (A : Option Addr) (n c : Nat) (w : World) (h : RP w w.heap.size A n x.ps) (hn : n ≤ 1048576) :
   Calls Try.prog 83 #[ndV x A n c] w fun e w' => e = .returned (.bool (nodeOk x)) ∧ Below w.heap.size w w' := by
 have hl := h.1
 obtain ⟨lv, zs, hi, ri, ow⟩ := x
 simp only at h hl
 unfold ndV nodeOk
 simp only
 rcases Bool.eq_false_or_eq_true (inB lv 0 6) with h1 | h1
 · by_cases h2 : 4 < n
   · exact to_bool (by simp [h1]; omega) (nOk_fan lv hi ri ow A n c zs w h hn h1 h2)
   · have h2 : n ≤ 4 := by omega
     have h2b : decide (zs.length ≤ 4) = true := by simp; omega
     rcases Bool.eq_false_or_eq_true (pOk zs) with h3 | h3
     · by_cases h4 : 0 < lv
       · have h4b : decide (lv ≤ 0) = false := by simp; omega
         rcases Bool.eq_false_or_eq_true (kidsB zs) with h5 | h5
         · rcases Bool.eq_false_or_eq_true (inB ow 0 6) with h6 | h6
           · by_cases h7 : hi = -1
             · refine to_bool ?_ (nOk_openU lv hi ri ow A n c zs w h hn h1 h2 h3 h4 h5 h6 h7)
               rw [h1, h2b, h3, h4b, h5, h6, if_pos h7]; by_cases hr : ri = -1 <;> simp [hr]
             · rcases Bool.eq_false_or_eq_true (inB hi 1 100) with h8 | h8
               · rcases Bool.eq_false_or_eq_true (numB ri) with h9 | h9
                 · rcases Nat.eq_zero_or_pos n with h10 | h10
                   · exact to_bool (by rw [h1, h2b, h3, h4b, h5, h6, if_neg h7, h8, h9]; simp; left; apply List.eq_nil_of_length_eq_zero; omega) (nOk_noneU lv hi ri ow A n c zs w h hn h1 h2 h3 h4 h5 h6 h7 h8 h9 h10)
                   · refine to_bool ?_ (nOk_lastU lv hi ri ow A n c zs w h hn h1 h2 h3 h4 h5 h6 h7 h8 h9 h10)
                     rw [h1, h2b, h3, h4b, h5, h6, if_neg h7, h8, h9, decide_eq_false (by omega : ¬ zs.length = 0)]; simp [lastK, hl]
                 · exact to_bool (by rw [h1, h2b, h3, h4b, h5, h6, if_neg h7, h8, h9]; rfl) (nOk_riU lv hi ri ow A n c zs w h hn h1 h2 h3 h4 h5 h6 h7 h8 h9)
               · exact to_bool (by rw [h1, h2b, h3, h4b, h5, h6, if_neg h7, h8]; rfl) (nOk_hiU lv hi ri ow A n c zs w h hn h1 h2 h3 h4 h5 h6 h7 h8)
           · exact to_bool (by rw [h1, h2b, h3, h4b, h5, h6]; rfl) (nOk_owU lv hi ri ow A n c zs w h hn h1 h2 h3 h4 h5 h6)
         · exact to_bool (by rw [h1, h2b, h3, h4b, h5]; rfl) (nOk_kids lv hi ri ow A n c zs w h hn h1 h2 h3 h4 h5)
       · have h4 : lv ≤ 0 := by omega
         have h4b : decide (lv ≤ 0) = true := by simpa using h4
         rcases Bool.eq_false_or_eq_true (inB ow 0 6) with h6 | h6
         · by_cases h7 : hi = -1
           · refine to_bool ?_ (nOk_openL lv hi ri ow A n c zs w h hn h1 h2 h3 h4 h6 h7)
             rw [h1, h2b, h3, h4b, h6, if_pos h7]; by_cases hr : ri = -1 <;> simp [hr]
           · rcases Bool.eq_false_or_eq_true (inB hi 1 100) with h8 | h8
             · rcases Bool.eq_false_or_eq_true (numB ri) with h9 | h9
               · rcases Nat.eq_zero_or_pos n with h10 | h10
                 · exact to_bool (by rw [h1, h2b, h3, h4b, h6, if_neg h7, h8, h9]; simp; left; apply List.eq_nil_of_length_eq_zero; omega) (nOk_noneL lv hi ri ow A n c zs w h hn h1 h2 h3 h4 h6 h7 h8 h9 h10)
                 · refine to_bool ?_ (nOk_lastL lv hi ri ow A n c zs w h hn h1 h2 h3 h4 h6 h7 h8 h9 h10)
                   rw [h1, h2b, h3, h4b, h6, if_neg h7, h8, h9, decide_eq_false (by omega : ¬ zs.length = 0)]; simp [lastK, hl]
               · exact to_bool (by rw [h1, h2b, h3, h4b, h6, if_neg h7, h8, h9]; rfl) (nOk_riL lv hi ri ow A n c zs w h hn h1 h2 h3 h4 h6 h7 h8 h9)
             · exact to_bool (by rw [h1, h2b, h3, h4b, h6, if_neg h7, h8]; rfl) (nOk_hiL lv hi ri ow A n c zs w h hn h1 h2 h3 h4 h6 h7 h8)
         · exact to_bool (by rw [h1, h2b, h3, h4b, h6]; rfl) (nOk_owL lv hi ri ow A n c zs w h hn h1 h2 h3 h4 h6)
     · exact to_bool (by rw [h1, h2b, h3]; rfl) (nOk_ps lv hi ri ow A n c zs w h hn h1 h2 h3)
 · exact to_bool (by rw [h1]; rfl) (nOk_lv lv hi ri ow A n c zs w h hn h1)

def inside (x : Nd) (key : Int) : Bool := decide (x.hi = -1) || decide (key < x.hi)
def kidIx (zs : List Pr) (key : Int) : Nat := zs.tail.findIdx (fun p => decide (key < p.1))
theorem kidIx_of (zs : List Pr) (key : Int) (k : Nat) (hk : k < zs.length) (hlt : ∀ j, j < k → kAt zs (j + 1) ≤ key) (hge : k + 1 < zs.length → key < kAt zs (k + 1)) : kidIx zs key = k := by
 have ht : zs.tail.length = zs.length - 1 := List.length_tail
 have hi : ∀ j, (h : j < zs.tail.length) → (zs.tail[j]).1 = kAt zs (j + 1) := fun j h => by
   rw [kAt_eq _ _ (by omega), List.getElem_tail]
 unfold kidIx
 by_cases h : k + 1 < zs.length
 · rw [List.findIdx_eq (by omega)]
   refine ⟨by rw [hi]; simpa using hge h, fun j hj => ?_⟩
   rw [hi]
   simpa using hlt j hj
 · have hkt : k = zs.tail.length := by omega
   rw [hkt, List.findIdx_eq_length]
   intro p hp
   obtain ⟨j, hj, rfl⟩ := List.getElem_of_mem hp
   rw [hi]
   simpa using hlt j (by omega)
theorem sInside_any (x : Nd) (key : Int) (A : Option Addr) (n c : Nat) (w : World) :
   Calls Try.prog 110 #[ndV x A n c, jI jZ key] w fun e w' => e = .returned (.bool (inside x key)) ∧ Below w.heap.size w w' := by
 obtain ⟨lv, zs, hi, ri, ow⟩ := x
 unfold ndV inside
 simp only
 by_cases h : hi = -1
 · have hb : (hi == -1) = true := by simpa using h
   have H := Lib.hid h
   clear h
   go_enter Try.func110, Try.ntmps110
   go_wp2
   go_ret
   exact ⟨ret_bool (by simp [H.out]), (Below.refl _ _).alloc (Nat.le_refl _) _⟩
 · have hb : (hi == -1) = false := by simpa using h
   have H := Lib.hid h
   clear h
   go_enter Try.func110, Try.ntmps110
   go_wp2
   go_ret
   exact ⟨ret_bool (by simp [H.out]), (Below.refl _ _).alloc (Nat.le_refl _) _⟩

theorem sKid_any (x : Nd) (key : Int) (A : Option Addr) (n c : Nat) (w : World) (h : RP w w.heap.size A n x.ps) (hn : n ≤ 1048576) (h0 : 0 < n) :
   Calls Try.prog 116 #[ndV x A n c, jI jZ key] w fun e w' => e = .returned (jI jZ (vAt x.ps (kidIx x.ps key))) ∧ Below w.heap.size w w' := by
 obtain ⟨lv, zs, hi, ri, ow⟩ := x
 unfold ndV
 simp only at *
 have HL := Lib.hid h.1
 obtain ⟨b, off, rfl, hb, hc⟩ := h.2 h0
 have HC := Lib.hid hc
 clear hc h
 obtain ⟨w0, hw0⟩ : ∃ w0, w0 = w.alloc (.cells #[jI jZ lv, jS (some ⟨b, off, none⟩) n c, jI jZ hi, jI jZ ri, jI jZ ow] 101) := ⟨_, rfl⟩
 have B0 : Hid (Below w.heap.size w w0) := Lib.hid (by rw [hw0]; exact (Below.refl _ _).alloc (Nat.le_refl _) _)
 have a1 : w0.cell? ⟨w.heap.size, 1, none⟩ = some (.slice (some ⟨b, off, none⟩) n c) := by rw [hw0]; simp
 have HW := Lib.hid hw0
 clear hw0
 go_enter Try.func116, Try.ntmps116
 go_wp2
 change Code.wp _ _ _ _ (w.alloc (.cells #[jI jZ lv, jS (some ⟨b, off, none⟩) n c, jI jZ hi, jI jZ ri, jI jZ ow] 101))
 rw [← HW.out]
 go_loop [5] (fun i => ∃ k : Nat, i = jI jZ k ∧ k < n ∧ Hid (∀ j, j < k → kAt zs (j + 1) ≤ key)) (fun i => n - (intOf i).toNat)
 case atStart => exact ⟨0, rfl, h0, Lib.hid (by intro j hj; omega)⟩
 case round =>
   obtain ⟨k, rfl, hk, ho⟩ := hrel
   have fin : ∀ (hx : k + 1 < n → key < kAt zs (k + 1)), kidIx zs key = k := fun hx => kidIx_of zs key k (by have := HL.out; omega) ho.out (fun h => hx (by have := HL.out; omega))
   have FIN := Lib.hid fin
   clear fin
   have c2 := (B0.out.cell (p := ⟨b, off + k * 2 + 1, none⟩) hb).trans (HC.out k hk).2
   by_cases hlt : k + 1 < n
   · have c1 := (B0.out.cell (p := ⟨b, off + (k + 1) * 2, none⟩) hb).trans (HC.out (k + 1) hlt).1
     by_cases hle : kAt zs (k + 1) ≤ key
     · have g1 : decide (kAt zs (k + 1) ≤ key) = true := by simpa using hle
       go_wp2
       go_round
       case rel => exact ⟨k + 1, by go_num, hlt, Lib.hid (by
         intro j hj
         rcases Nat.lt_or_ge j k with h | h
         · exact ho.out j h
         · obtain rfl : j = k := by omega
           exact hle)⟩
       case measure => simp [intOf]; omega
     · have g1 : decide (kAt zs (k + 1) ≤ key) = false := by simpa using hle
       go_wp2
       go_ret
       exact ⟨ret_int (by rw [FIN.out (fun _ => by omega)]), B0.out⟩
   · have g1 : decide ((k : Int) + 1 < (n : Int)) = false := by simp; omega
     have HLT := Lib.hid hlt
     clear hlt
     go_wp2
     go_ret
     exact ⟨ret_int (by rw [FIN.out (fun h => absurd h HLT.out)]), B0.out⟩

theorem nodeOk_kids {x : Nd} (h : nodeOk x = true) (hl : 0 < x.lv) : 0 < x.ps.length := by
 unfold nodeOk at h
 simp only [Bool.and_eq_true, Bool.or_eq_true, decide_eq_true_eq] at h
 rcases h.1.1.2 with h' | h'
 · omega
 · exact ((kidsB_iff _).1 h').2
end Go.Proofs.Ytjookicpmjmdhaa
namespace Go.Proofs.Ytjookicpmjmdhaa
open Go.RowKit

def geIx (zs : List Pr) (key : Int) : Nat := zs.findIdx (fun p => decide (key ≤ p.1))
def hitB (zs : List Pr) (key : Int) : Bool := decide (geIx zs key < zs.length) && (kAt zs (geIx zs key) == key)
theorem geIx_le (zs : List Pr) (key : Int) : geIx zs key ≤ zs.length := List.findIdx_le_length
theorem geIx_lt (zs : List Pr) (key : Int) (j : Nat) (h : j < geIx zs key) : kAt zs j < key := by
 have hl := geIx_le zs key
 have := List.not_of_lt_findIdx (p := fun p : Pr => decide (key ≤ p.1)) (xs := zs) h
 rw [kAt_eq _ _ (by omega)]
 simpa using this
theorem geIx_at (zs : List Pr) (key : Int) (h : geIx zs key < zs.length) : key ≤ kAt zs (geIx zs key) := by
 have := List.findIdx_getElem (p := fun p : Pr => decide (key ≤ p.1)) (xs := zs) (w := h)
 have e := kAt_eq zs (geIx zs key) h
 rw [e]
 unfold geIx
 simpa using this

theorem rise_lt {zs : List Pr} (h : riseTo zs zs.length) : ∀ (j i : Nat), i < j → j < zs.length → kAt zs i < kAt zs j := by
 intro j
 induction j with
 | zero => intro i hi; omega
 | succ j ih =>
   intro i hi hj
   have h1 := h (j + 1) hj (by omega)
   simp only [Nat.add_sub_cancel] at h1
   rcases Nat.lt_or_ge i j with h2 | h2
   · have := ih i h2 (by omega); omega
   · obtain rfl : i = j := by omega
     exact h1
theorem pOk_rise {zs : List Pr} (h : pOk zs = true) : riseTo zs zs.length := fun j hj h0 => (((pOk_iff zs).1 h).1 j hj).2 h0
theorem where_hit (zs : List Pr) (key : Int) (hh : hitB zs key = true) : whereI zs key = geIx zs key := by
 unfold hitB at hh
 simp only [Bool.and_eq_true, decide_eq_true_eq, beq_iff_eq] at hh
 have e : atKey zs key = geIx zs key := atKey_of zs key _ hh.1 hh.2 (fun j hj => by have := geIx_lt zs key j hj; omega)
 unfold whereI
 rw [e, if_pos hh.1]
theorem where_miss (zs : List Pr) (key : Int) (hp : pOk zs = true) (hh : hitB zs key = false) : whereI zs key = -1 := by
 have hr := pOk_rise hp
 have hall : ∀ j, j < zs.length → kAt zs j ≠ key := by
   intro j hj he
   rcases Nat.lt_or_ge j (geIx zs key) with h | h
   · have := geIx_lt zs key j h; omega
   · have hg : geIx zs key < zs.length := by omega
     have h1 := geIx_at zs key hg
     have h2 : kAt zs (geIx zs key) = key := by
       rcases Nat.lt_or_ge (geIx zs key) j with h3 | h3
       · have := rise_lt hr j (geIx zs key) h3 hj; omega
       · have : j = geIx zs key := by omega
         rw [← this]; exact he
     unfold hitB at hh
     rw [h2] at hh
     simp [hg] at hh
 unfold whereI
 rw [atKey_none zs key hall, if_neg (by omega)]

def valN (zs : List Pr) (key : Int) : Int := if pOk zs && hitB zs key then vAt zs (geIx zs key) else 0
def valB (zs : List Pr) (key : Int) : Bool := pOk zs && hitB zs key

theorem sVal_any (A : Option Addr) (n c : Nat) (zs : List Pr) (key : Int) (w : World) (h : RP w w.heap.size A n zs) (hn : n ≤ 1048576) :
   Calls Try.prog 117 #[jS A n c, jI jZ key] w fun e w' => e = .returned (.tuple #[jI jZ (valN zs key), .bool (valB zs key)]) ∧ Below w.heap.size w w' := by
 have HL := Lib.hid h.1
 have HH := Lib.hid h
 clear h
 by_cases hp : pOk zs = true
 · have p1 : ∀ w, RP w w.heap.size A n zs → Calls Try.prog 89 #[jS A n c] w fun e w' => e = .returned (.bool true) ∧ Below w.heap.size w w' := fun w hR => by
     have := spOk_any A n c zs w hR hn; rwa [hp] at this
   by_cases hh : hitB zs key = true
   · have f1 : ∀ w, RP w w.heap.size A n zs → Calls Try.prog 109 #[jS A n c, jI jZ key] w fun e w' => e = .returned (jI jZ (geIx zs key)) ∧ w = w' := fun w hR => by
       have := where_any A n c zs key w hR hn; rwa [where_hit zs key hh] at this
     have hg : geIx zs key < n := by
       have := hh; unfold hitB at this; simp only [Bool.and_eq_true, decide_eq_true_eq] at this; have := this.1; have := HL.out; omega
     obtain ⟨b, off, rfl, hb, hc⟩ := HH.out.2 (by omega)
     have c2 := Lib.hid (hc _ hg).2
     have e1 : valN zs key = vAt zs (geIx zs key) := by unfold valN; rw [hp, hh]; rfl
     have e2 : valB zs key = true := by unfold valB; rw [hp, hh]; rfl
     rw [e1, e2]
     have hg2 : (geIx zs key : Int) < n := by omega
     clear e1 e2 hc hp hh
     generalize geIx zs key = g at *
     go_enter Try.func117, Try.ntmps117
     go_wp2_with fail
     refine (f1 _ HH.out).mono ?_
     rintro e w1 ⟨rfl, rfl⟩
     go_wp2_with fail
     refine (p1 _ HH.out).mono ?_
     rintro e w2 ⟨rfl, b2⟩
     have B2 := Lib.hid b2
     have c3 : w2.cell? ⟨b, off + g * 2 + 1, none⟩ = some (jI jZ (vAt zs g)) := (B2.out.cell (p := ⟨b, off + g * 2 + 1, none⟩) hb).trans c2.out
     clear b2
     go_wp2
     go_ret2
     exact ⟨rfl, B2.out⟩
   · have hh : hitB zs key = false := by simpa using hh
     have f1 : ∀ w, RP w w.heap.size A n zs → Calls Try.prog 109 #[jS A n c, jI jZ key] w fun e w' => e = .returned (jI jZ (-1)) ∧ w = w' := fun w hR => by
       have := where_any A n c zs key w hR hn; rwa [where_miss zs key hp hh] at this
     have e1 : valN zs key = 0 := by unfold valN; rw [hh]; simp
     have e2 : valB zs key = false := by unfold valB; rw [hh]; simp
     rw [e1, e2]
     clear hp hh e1 e2
     go_enter Try.func117, Try.ntmps117
     go_wp2_with fail
     refine (f1 _ HH.out).mono ?_
     rintro e w1 ⟨rfl, rfl⟩
     go_wp2_with fail
     refine (p1 _ HH.out).mono ?_
     rintro e w2 ⟨rfl, b2⟩
     have B2 := Lib.hid b2
     clear b2
     go_wp2
     go_ret2
     exact ⟨rfl, B2.out⟩
 · have hp : pOk zs = false := by simpa using hp
   have p1 : ∀ w, RP w w.heap.size A n zs → Calls Try.prog 89 #[jS A n c] w fun e w' => e = .returned (.bool false) ∧ Below w.heap.size w w' := fun w hR => by
     have := spOk_any A n c zs w hR hn; rwa [hp] at this
   have f1 := where_any A n c zs key
   have e1 : valN zs key = 0 := by unfold valN; rw [hp]; simp
   have e2 : valB zs key = false := by unfold valB; rw [hp]; simp
   rw [e1, e2]
   clear hp e1 e2
   generalize whereI zs key = g at *
   go_enter Try.func117, Try.ntmps117
   go_wp2_with fail
   refine (f1 _ HH.out hn).mono ?_
   rintro e w1 ⟨rfl, rfl⟩
   go_wp2_with fail
   refine (p1 _ HH.out).mono ?_
   rintro e w2 ⟨rfl, b2⟩
   have B2 := Lib.hid b2
   clear b2
   go_wp2
   go_ret2
   exact ⟨rfl, B2.out⟩
end Go.Proofs.Ytjookicpmjmdhaa
namespace Go.Proofs.Ytjookicpmjmdhaa
open Go.RowKit

theorem PL_get (ys : List Pr) (j : Nat) (u : Value) (h : (PL ys)[j]? = some u) : ∃ i, i < ys.length ∧ ((j = i * 2 ∧ u = jI jZ (kAt ys i)) ∨ (j = i * 2 + 1 ∧ u = jI jZ (vAt ys i))) := by
 have hj : j < (PL ys).length := by
   rcases Nat.lt_or_ge j (PL ys).length with h' | h'
   · exact h'
   · rw [List.getElem?_eq_none h'] at h; cases h
 rw [PL_length] at hj
 have hi : j / 2 < ys.length := by omega
 refine ⟨j / 2, hi, ?_⟩
 have h2 : j = j / 2 * 2 ∨ j = j / 2 * 2 + 1 := by omega
 rcases h2 with h2 | h2
 · left
   rw [h2, PL_fst _ _ hi] at h
   exact ⟨h2, (Option.some.inj h).symm⟩
 · right
   rw [h2, PL_snd _ _ hi] at h
   exact ⟨h2, (Option.some.inj h).symm⟩

theorem RP.take {w : World} {B n : Nat} {A : Option Addr} {zs : List Pr} (h : RP w B A n zs) {k : Nat} (hk : k ≤ n) : RP w B A k (zs.take k) := by
 have hl := h.1
 refine ⟨by rw [List.length_take]; omega, fun h0 => ?_⟩
 obtain ⟨b, off, e, hb, hc⟩ := h.2 (by omega)
 refine ⟨b, off, e, hb, fun i hi => ?_⟩
 have e1 : kAt (zs.take k) i = kAt zs i := by simp [kAt, hi]
 have e2 : vAt (zs.take k) i = vAt zs i := by simp [vAt, hi]
 rw [e1, e2]
 exact hc i (by omega)
theorem RP.drop {w : World} {B n c : Nat} {A : Option Addr} {zs : List Pr} (h : RP w B A n zs) {k : Nat} (hk : k ≤ n) (hc : n ≤ c) :
   RP w B (if c = k then A else A.map (·.add (k * 2))) (n - k) (zs.drop k) := by
 have hl := h.1
 refine ⟨by rw [List.length_drop]; omega, fun h0 => ?_⟩
 obtain ⟨b, off, e, hb, hcell⟩ := h.2 (by omega)
 refine ⟨b, off + k * 2, ?_, hb, fun i hi => ?_⟩
 · rw [if_neg (by omega), e]
   simp only [Option.map_some, Option.some.injEq]
   unfold Addr.add
   split <;> simp_all
 · have e1 : kAt (zs.drop k) i = kAt zs (k + i) := by simp [kAt]
   have e2 : vAt (zs.drop k) i = vAt zs (k + i) := by simp [vAt]
   rw [e1, e2]
   have := hcell (k + i) (by omega)
   rw [show off + k * 2 + i * 2 = off + (k + i) * 2 from by omega]
   exact this

theorem run_app_nil {P : Program} (w : World) (base : Nat) (t ty e : TypeId) (i : TypeInfo) (size : Nat) (ht : P.underlying t = some (.slice e)) (hi : P.info? e = some i)
   (v : Value) (n : Nat) (xs : List Value) (hown : w.ownsRow base e size v n xs) (c : Nat) : (Builtin.append_ #[t, t] ty #[v, jS none 0 c]).run P w = .ok v w := by
 rcases hown.2 with ⟨rfl, rfl⟩ | ⟨g, cap, cur, rfl, _, _, hnc, _⟩
 · simp [Builtin.append_, run_underlying ht, sizeOf, typeInfo, hi, Builtin.lenOf, Builtin.firstCells]
 · simp [Builtin.append_, run_underlying ht, sizeOf, typeInfo, hi, Builtin.lenOf, Builtin.firstCells, hnc, storeCells]

theorem wpList_app {w : World} {ops : Array Oper} {rest : List Oper} {o : Oper} {a : Act} {Q : Exit → Act → World → Prop} (hgd : o.guard = none) (s x : Operand)
   (ho : o.op = .call { callee := .builtin .append, args := #[s, x], argTypes := #[99, 99] })
   (base : Nat) (v : Value) (n : Nat) (xs : List Pr) (hs : a.eval s = v) (hown : w.ownsRow base 86 2 v n (PL xs))
   (B : Nat) (A : Option Addr) (m c : Nat) (ys : List Pr) (hx : a.eval x = jS A m c) (hr : RP w B A m ys) (hsz : n + m ≤ 4194304) (hbase : base ≤ w.heap.size)
   (h : ∀ v' w', w'.ownsRow base 86 2 v' (n + m) (PL (xs ++ ys)) → w.grownBy w' v.ownBlock → wpList Try.prog ops Q rest (a.put o.dst v') w') : wpList Try.prog ops Q (o :: rest) a w := by
 obtain ⟨i0, hi0, hz0, hz1, hz2⟩ := info_parts pair_info
 rcases A with _ | ad
 · have hm : m = 0 := by
     rcases Nat.eq_zero_or_pos m with h0 | h0
     · exact h0
     · obtain ⟨_, _, h, _⟩ := hr.2 h0; cases h
   subst hm
   have hy : ys = [] := List.eq_nil_of_length_eq_zero hr.1
   subst hy
   refine wpList_plain hgd fun K hK => ?_
   have hrun := run_app_nil (P := Try.prog) w base 99 o.type 86 i0 2 Try.underlying99 hi0 v n (PL xs) hown c
   unfold Oper.wp
   simp [execOp, ho, resolve, invoke, builtin, hs, hx, hrun, Result.andThen]
   exact hK _ _ (h v w (by simpa using hown) (World.grownBy.refl w _))
 · refine wpList_append_own w hgd s x 99 ho base 86 i0 _ 2 16 Try.underlying99 hi0 hz0 hz1 hz2 rfl (by omega) v n (PL xs) hs hown ad m c (PL ys) hx
     (by rw [PL_length, hr.1]) ?_ (PL_one ys) (by unfold maxLen; omega) (by omega) hbase (fun v' w' h2 h3 _ => h v' w' (by rw [PL_append]; exact h2) h3)
   intro j u hu
   obtain ⟨i, hi, h'⟩ := PL_get ys j u hu
   have hl := hr.1
   obtain ⟨b, off, e, _, hc⟩ := hr.2 (by omega)
   cases e
   have aa : ∀ k, (⟨b, off, none⟩ : Addr).add k = ⟨b, off + k, none⟩ := by intro k; unfold Addr.add; split <;> simp_all
   rcases h' with ⟨rfl, rfl⟩ | ⟨rfl, rfl⟩
   · rw [aa]; exact (hc i (by omega)).1
   · rw [aa]; exact (hc i (by omega)).2

theorem empty_row (w : World) : (w.alloc (.cells #[] 86)).ownsRow w.heap.size 86 2 (jS (some ⟨w.heap.size, 0, none⟩) 0 0) 0 (PL []) :=
 World.ownsRow_made w #[] 0 (Nat.le_refl _) (by unfold maxLen; omega) (by simp)

def Gives (w : World) (zs : List Pr) (e : Ending) (w' : World) : Prop := ∃ v, e = .returned v ∧ w'.ownsRow w.heap.size 86 2 v zs.length (PL zs) ∧ Below w.heap.size w w'

end Go.Proofs.Ytjookicpmjmdhaa
namespace Go.Proofs.Ytjookicpmjmdhaa
open Go.RowKit
set_option linter.unusedVariables false

theorem own_base {w : World} {base base' : Nat} {e : TypeId} {size n : Nat} {v : Value} {xs : List Value} (h : w.ownsRow base e size v n xs) (hb : base' ≤ base) : w.ownsRow base' e size v n xs := by
 rcases h with ⟨hl, h' | ⟨g, cap, cur, hv, hg, rest⟩⟩
 · exact ⟨hl, .inl h'⟩
 · exact ⟨hl, .inr ⟨g, cap, cur, hv, Nat.le_trans hb hg, rest⟩⟩
theorem one_row (w : World) (B : Nat) (k v : Int) : RP (w.alloc (.cells #[jI jZ k, jI jZ v] B)) (w.heap.size + 1) (some ⟨w.heap.size, 0, none⟩) 1 [(k, v)] :=
 ⟨rfl, fun _ => ⟨w.heap.size, 0, rfl, by omega, fun i hi => by
   obtain rfl : i = 0 := by omega
   simp [kAt, vAt]⟩⟩

end Go.Proofs.Ytjookicpmjmdhaa
namespace Go.Proofs.Ytjookicpmjmdhaa
open Go.RowKit
set_option linter.unusedVariables false

def dropA (A : Option Addr) (c k : Nat) : Option Addr := if c = k then A else A.map (·.add (k * 2))
theorem RP.tail {w : World} {B n c : Nat} {A : Option Addr} {zs : List Pr} (h : RP w B A n zs) {k : Nat} (hk : k ≤ n) (hc : n ≤ c) : RP w B (dropA A c k) (n - k) (zs.drop k) := h.drop hk hc
theorem run_tail (A : Option Addr) (n c k : Nat) (i : Int) (hi : i = k) (hk : k ≤ n) (hc : n ≤ c) (hc2 : c ≤ 9223372036854775807) (w : World) :
   (Instr.slice 99 (jS A n c) (some (jI jZ i)) none none).run Try.prog w = .ok (jS (dropA A c k) (n - k) (c - k)) w := by
 subst hi
 have h1 : (0 : Int) ≤ (k : Int) := by omega
 have h2 : (k : Int) ≤ (n : Int) := by omega
 have hs : ∀ w, (Go.sizeOf 86).run Try.prog w = .ok 2 w := fun w => by kernel_rfl
 simp [Instr.slice, Instr.sliceBounds, run_underlying Try.underlying99, go_sem, h1, h2, hs, dropA]
end Go.Proofs.Ytjookicpmjmdhaa

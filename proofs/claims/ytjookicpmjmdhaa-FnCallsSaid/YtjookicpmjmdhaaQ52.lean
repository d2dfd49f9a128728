/- The code's own functions of chapter 8: a hand that is right. -/
import Derived.Test.YtjookicpmjmdhaaQ51
open Go.Value renaming int → jI, slice → jS
open Go.IntKind renaming i64 → jZ
namespace Go.Proofs.Ytjookicpmjmdhaa
open Go.RowKit

theorem five_row (w : World) (x0 x1 x2 x3 x4 : Int) :
   RS (w.alloc (.cells #[jI jZ x0, jI jZ x1, jI jZ x2, jI jZ x3, jI jZ x4] 2)) (w.alloc (.cells #[jI jZ x0, jI jZ x1, jI jZ x2, jI jZ x3, jI jZ x4] 2)).heap.size (some ⟨w.heap.size, 0, none⟩) 5 [x0, x1, x2, x3, x4] := by
 refine ⟨rfl, fun _ => ⟨w.heap.size, 0, rfl, by simp, fun i hi => ⟨[jI jZ ([x0, x1, x2, x3, x4].getD i 0)], rfl, fun j u hu => ?_⟩⟩⟩
 have hj : j = 0 := by
   have := (List.getElem?_eq_some_iff.1 hu).1
   simp at this
   exact this
 subst hj
 have hu' : u = jI jZ ([x0, x1, x2, x3, x4].getD i 0) := by simpa using hu.symm
 subst hu'
 rw [show 0 + i * encInt.sz + 0 = i from by show 0 + i * 1 + 0 = i; omega]
 have hg := heap_alloc_new w (.cells #[jI jZ x0, jI jZ x1, jI jZ x2, jI jZ x3, jI jZ x4] 2)
 rw [cell_of_row _ _ i _ _ _ hg]
 match i, hi with
 | 0, _ => rfl
 | 1, _ => rfl
 | 2, _ => rfl
 | 3, _ => rfl
 | 4, _ => rfl
 | k + 5, h => exact absurd h (by omega)

theorem busy_any (h : Hd) (A : Option Addr) (n c : Nat) (w : World) :
   Calls Try.prog 39 #[hdV h A n c] w fun e w' => e = .returned (.bool (!decide (h.pos = 0))) ∧ Below w.heap.size w w' := by
 have g : (h.pos != 0) = !decide (h.pos = 0) := by rw [Bool.eq_iff_iff]; simp
 unfold hdV
 go_enter Try.func39, Try.ntmps39
 go_wp2
 go_ret
 exact ⟨rfl, (Below.refl _ _).alloc (Nat.le_refl _) _⟩

def ok8 (h : Hd) : Bool :=
 inB h.pos 0 11 && ((callOk h.cc h.ck h.cv || ((decide (h.cc = 0) && (decide (h.ck = 0) && decide (h.cv = 0))) && decide (h.pos = 0))) && ([h.cur, h.kid, h.old, h.next, h.new].all numB &&
 (inB h.want 0 6 && (inB h.key 0 99 && (decide (h.st.length ≤ 6) && (h.st.all numB && (inB h.thn 0 2 && (inB h.beg 0 20000 && (inB h.rep 0 3 && inB h.out 0 999)))))))))
theorem ok8_eq (h : Hd) : ok8 h = handOk h := by
 unfold ok8 handOk stackOk
 rw [Bool.eq_iff_iff]
 simp only [Bool.and_eq_true, Bool.or_eq_true, List.all_cons, List.all_nil]
 constructor
 · rintro ⟨a, b, ⟨c1, c2, c3, c4, c5, _⟩, d, e, f, g, i, j, k, l⟩
   exact ⟨a, b.imp id (fun x => ⟨x.2, x.1⟩), ⟨f, g⟩, c1, c2, c3, c4, c5, d, e, i, j, k, l⟩
 · rintro ⟨a, b, ⟨f, g⟩, c1, c2, c3, c4, c5, d, e, i, j, k, l⟩
   exact ⟨a, b.imp id (fun x => ⟨x.2, x.1⟩), ⟨c1, c2, c3, c4, c5, trivial⟩, d, e, f, g, i, j, k, l⟩

theorem load_row_on {ops : Array Oper} {rest : List Oper} {o : Oper} {a : Act} {w : World} {Q : Exit → Act → World → Prop} (hw : Region.wanted o (yielded ops a.tmps) = true) (ty : TypeId) (x : Operand) (ho : o.op = .load ty x)
   (g : Nat) (hx : a.eval x = .pointer (some ⟨g, 0, none⟩)) (t : TypeId) (cs : Array Value) (fr : Nat × Nat) (fs : Array Field) (hg : w.heap[g]? = some (.cells cs t fr))
   (hu : Try.prog.underlying ty = some (.struct fs)) (hi : (Try.prog.info? ty).map (·.size) = some cs.size)
   (h : wpList Try.prog ops Q rest (a.put o.dst (.agg cs)) w) : wpList Try.prog ops Q (o :: rest) a w :=
 BigFrame.wpList_want hw fun _ hK => wp_load_row ty x ho g hx t cs fr (.struct fs) hg hu rfl hi (hK _ _ h)

set_option maxRecDepth 100000 in
set_option maxHeartbeats 4000000 in
theorem hok_any (h : Hd) (A : Option Addr) (n c : Nat) (w : World) (hR : RS w w.heap.size A n h.st) (hn : n ≤ 1048576) :
   Calls Try.prog 38 #[hdV h A n c] w fun e w' => e = .returned (.bool (handOk h)) ∧ Below w.heap.size w w' := by
 rw [← ok8_eq]
 have BU := Lib.hid (fun w => busy_any h A n c w)
 have hl : h.st.length = n := hR.1
 obtain ⟨pos, cc, ck, cv, cur, want, key, kid, old, next, new, st, thn, beg, rep, out⟩ := h
 unfold ok8
 unfold hdV at *
 simp only at *
 rw [hl]
 obtain ⟨w0, hw0⟩ : ∃ w0, w0 = w.alloc (.cells #[jI jZ pos, jI jZ cc, jI jZ ck, jI jZ cv, jI jZ cur, jI jZ want, jI jZ key, jI jZ kid, jI jZ old, jI jZ next, jI jZ new, jS A n c, jI jZ thn, jI jZ beg, jI jZ rep, jI jZ out] 31) := ⟨_, rfl⟩
 have b0 : Below w.heap.size w w0 := by rw [hw0]; exact (Below.refl _ _).alloc (Nat.le_refl _) _
 have x0 : w0.heap[w.heap.size]? = some (.cells #[jI jZ pos, jI jZ cc, jI jZ ck, jI jZ cv, jI jZ cur, jI jZ want, jI jZ key, jI jZ kid, jI jZ old, jI jZ next, jI jZ new, jS A n c, jI jZ thn, jI jZ beg, jI jZ rep, jI jZ out] 31 (0, 0)) := by rw [hw0]; exact heap_alloc_new _ _
 have D0 : Hid (∀ wx, Below w0.heap.size w0 wx → wx.cell? ⟨w.heap.size, 0, none⟩ = some (jI jZ pos) ∧ wx.cell? ⟨w.heap.size, 1, none⟩ = some (jI jZ cc) ∧ wx.cell? ⟨w.heap.size, 2, none⟩ = some (jI jZ ck) ∧ wx.cell? ⟨w.heap.size, 3, none⟩ = some (jI jZ cv) ∧ wx.cell? ⟨w.heap.size, 4, none⟩ = some (jI jZ cur) ∧ wx.cell? ⟨w.heap.size, 5, none⟩ = some (jI jZ want) ∧ wx.cell? ⟨w.heap.size, 6, none⟩ = some (jI jZ key) ∧ wx.cell? ⟨w.heap.size, 7, none⟩ = some (jI jZ kid) ∧ wx.cell? ⟨w.heap.size, 8, none⟩ = some (jI jZ old) ∧ wx.cell? ⟨w.heap.size, 9, none⟩ = some (jI jZ next) ∧ wx.cell? ⟨w.heap.size, 10, none⟩ = some (jI jZ new) ∧ wx.cell? ⟨w.heap.size, 11, none⟩ = some (.slice A n c) ∧ wx.cell? ⟨w.heap.size, 12, none⟩ = some (jI jZ thn) ∧ wx.cell? ⟨w.heap.size, 13, none⟩ = some (jI jZ beg) ∧ wx.cell? ⟨w.heap.size, 14, none⟩ = some (jI jZ rep) ∧ wx.cell? ⟨w.heap.size, 15, none⟩ = some (jI jZ out)) := Lib.hid (fun wx hb => ⟨by rw [cell_of_row _ _ 0 _ _ _ (box_on hb x0)]; rfl, by rw [cell_of_row _ _ 1 _ _ _ (box_on hb x0)]; rfl, by rw [cell_of_row _ _ 2 _ _ _ (box_on hb x0)]; rfl, by rw [cell_of_row _ _ 3 _ _ _ (box_on hb x0)]; rfl, by rw [cell_of_row _ _ 4 _ _ _ (box_on hb x0)]; rfl, by rw [cell_of_row _ _ 5 _ _ _ (box_on hb x0)]; rfl, by rw [cell_of_row _ _ 6 _ _ _ (box_on hb x0)]; rfl, by rw [cell_of_row _ _ 7 _ _ _ (box_on hb x0)]; rfl, by rw [cell_of_row _ _ 8 _ _ _ (box_on hb x0)]; rfl, by rw [cell_of_row _ _ 9 _ _ _ (box_on hb x0)]; rfl, by rw [cell_of_row _ _ 10 _ _ _ (box_on hb x0)]; rfl, by rw [cell_of_row _ _ 11 _ _ _ (box_on hb x0)]; rfl, by rw [cell_of_row _ _ 12 _ _ _ (box_on hb x0)]; rfl, by rw [cell_of_row _ _ 13 _ _ _ (box_on hb x0)]; rfl, by rw [cell_of_row _ _ 14 _ _ _ (box_on hb x0)]; rfl, by rw [cell_of_row _ _ 15 _ _ _ (box_on hb x0)]; rfl⟩)
 have X0 : Hid (∀ wx, Below w0.heap.size w0 wx → wx.heap[w.heap.size]? = some (.cells #[jI jZ pos, jI jZ cc, jI jZ ck, jI jZ cv, jI jZ cur, jI jZ want, jI jZ key, jI jZ kid, jI jZ old, jI jZ next, jI jZ new, jS A n c, jI jZ thn, jI jZ beg, jI jZ rep, jI jZ out] 31 (0, 0))) := Lib.hid (fun wx hb => box_on hb x0)
 have I0 := Lib.hid (fun w => iUpTo_any pos 11 w)
 have I1 := Lib.hid (fun w => callRight_any cc ck cv w)
 have I2 := Lib.hid (fun w => noCall_any cc ck cv w)
 have NN := Lib.hid (fun A w hR => nodeNums_any [cur, kid, old, next, new] A 5 5 w hR (by omega))
 have N2 := Lib.hid (fun w hR => nodeNums_any st A n c w hR hn)
 have J5 := Lib.hid (fun w => iUpTo_any want 6 w)
 have J6 := Lib.hid (fun w => keyNumber_any key w)
 have L0 := Lib.hid (fun w => iUpTo_any thn 2 w)
 have L1 := Lib.hid (fun w => iUpTo_any beg 20000 w)
 have L2 := Lib.hid (fun w => iUpTo_any rep 3 w)
 have L3 := Lib.hid (fun w => iUpTo_any out 999 w)
 have HR := Lib.hid (hR.on b0)
 have B0 := Lib.hid b0
 have HW := Lib.hid hw0
 have g7 : decide ((n : Int) ≤ 6) = decide (n ≤ 6) := by rw [Bool.eq_iff_iff]; simp; omega
 clear hw0 b0 x0 hR hl hn
 generalize inB pos 0 11 = q0 at *
 generalize callOk cc ck cv = q1 at *
 generalize (decide (cc = 0) && (decide (ck = 0) && decide (cv = 0))) = q2 at *
 generalize decide (pos = 0) = q3 at *
 generalize [cur, kid, old, next, new].all numB = n0 at *
 generalize st.all numB = q4 at *
 generalize decide (n ≤ 6) = q7 at *
 generalize inB want 0 6 = n5 at *
 generalize inB key 0 99 = n6 at *
 generalize inB thn 0 2 = m0 at *
 generalize inB beg 0 20000 = m1 at *
 generalize inB rep 0 3 = m2 at *
 generalize inB out 0 999 = m3 at *
 go_enter Try.func38, Try.ntmps38
 simp only [List.append_eq, List.cons_append, List.nil_append]
 go_wp2_with fail
 rw [← HW.out]
 refine (I0.out _).mono ?_
 rintro e wy ⟨rfl, rfl⟩
 obtain ⟨d0, d1, d2, d3, d4, d5, d6, d7, d8, d9, d10, d11, d12, d13, d14, d15⟩ := D0.out _ (Below.refl _ _)
 cases q0
 · go_wp2
   go_ret
   exact ⟨ret_bool (by simp), B0.out⟩
 go_wp2_with fail
 refine (I1.out _).mono ?_
 rintro e w1 ⟨rfl, b1⟩
 have B1 := Lib.hid b1
 clear b1 d0 d1 d2 d3 d4 d5 d6 d7 d8 d9 d10 d11 d12 d13 d14 d15
 obtain ⟨d0, d1, d2, d3, d4, d5, d6, d7, d8, d9, d10, d11, d12, d13, d14, d15⟩ := D0.out _ B1.out
 have BB1 := Lib.hid (B0.out.trans (B1.out.mono B0.out.size))
 cases q1
 · go_wp2_with fail
   refine (I2.out _).mono ?_
   rintro e w2 ⟨rfl, b2⟩
   have B2 := Lib.hid (B1.out.trans (b2.mono B1.out.size))
   have BB2 := Lib.hid (B0.out.trans (B2.out.mono B0.out.size))
   clear b2 d0 d1 d2 d3 d4 d5 d6 d7 d8 d9 d10 d11 d12 d13 d14 d15
   obtain ⟨d0, d1, d2, d3, d4, d5, d6, d7, d8, d9, d10, d11, d12, d13, d14, d15⟩ := D0.out _ B2.out
   cases q2
   · go_wp2
     go_ret
     exact ⟨ret_bool (by simp), BB2.out⟩
   have Z2 := Lib.hid (X0.out _ B2.out)
   go_wp2_with (refine load_row_on rfl 31 (.tmp 1) rfl w.heap.size rfl 31 #[jI jZ pos, jI jZ cc, jI jZ ck, jI jZ cv, jI jZ cur, jI jZ want, jI jZ key, jI jZ kid, jI jZ old, jI jZ next, jI jZ new, jS A n c, jI jZ thn, jI jZ beg, jI jZ rep, jI jZ out] (0, 0) _ Z2.out Try.underlying31 hand_size ?_)
   refine (BU.out _).mono ?_
   rintro e wk ⟨rfl, b3⟩
   have BZ := Lib.hid (B2.out.trans (b3.mono B2.out.size))
   have BB := Lib.hid (B0.out.trans (BZ.out.mono B0.out.size))
   clear b3 d0 d1 d2 d3 d4 d5 d6 d7 d8 d9 d10 d11 d12 d13 d14 d15
   obtain ⟨d0, d1, d2, d3, d4, d5, d6, d7, d8, d9, d10, d11, d12, d13, d14, d15⟩ := D0.out _ BZ.out
   cases q3
   · go_wp2
     go_ret
     exact ⟨ret_bool (by simp), BB.out⟩
   obtain ⟨wa, hwa⟩ : ∃ wa, wa = wk.alloc (.cells #[jI jZ cur, jI jZ kid, jI jZ old, jI jZ next, jI jZ new] 2) := ⟨_, rfl⟩
   have R5 := Lib.hid (five_row wk cur kid old next new)
   have bw : Below wk.heap.size wk wa := by rw [hwa]; exact (Below.refl _ _).alloc (Nat.le_refl _) _
   rw [← hwa] at R5
   have BA := Lib.hid (BB.out.trans (bw.mono BB.out.size))
   have BY := Lib.hid (BZ.out.trans (bw.mono BZ.out.size))
   have HWA := Lib.hid hwa
   clear hwa bw
   go_wp2_with fail
   rw [← HWA.out]
   refine (NN.out _ _ R5.out).mono ?_
   rintro e wy ⟨rfl, rfl⟩
   clear d0 d1 d2 d3 d4 d5 d6 d7 d8 d9 d10 d11 d12 d13 d14 d15
   obtain ⟨d0, d1, d2, d3, d4, d5, d6, d7, d8, d9, d10, d11, d12, d13, d14, d15⟩ := D0.out _ BY.out
   cases n0
   · go_wp2
     go_ret
     exact ⟨ret_bool (by simp), BA.out⟩
   go_wp2_with fail
   refine (J5.out _).mono ?_
   rintro e wy ⟨rfl, rfl⟩
   cases n5
   · go_wp2
     go_ret
     exact ⟨ret_bool (by simp), BA.out⟩
   go_wp2_with fail
   refine (J6.out _).mono ?_
   rintro e wy ⟨rfl, rfl⟩
   cases n6
   · go_wp2
     go_ret
     exact ⟨ret_bool (by simp), BA.out⟩
   cases q7
   · go_wp2
     go_ret
     exact ⟨ret_bool (by simp), BA.out⟩
   go_wp2_with fail
   refine (N2.out _ (HR.out.on BY.out)).mono ?_
   rintro e wy ⟨rfl, rfl⟩
   cases q4
   · go_wp2
     go_ret
     exact ⟨ret_bool (by simp), BA.out⟩
   go_wp2_with fail
   refine (L0.out _).mono ?_
   rintro e wy ⟨rfl, rfl⟩
   cases m0
   · go_wp2
     go_ret
     exact ⟨ret_bool (by simp), BA.out⟩
   go_wp2_with fail
   refine (L1.out _).mono ?_
   rintro e wy ⟨rfl, rfl⟩
   cases m1
   · go_wp2
     go_ret
     exact ⟨ret_bool (by simp), BA.out⟩
   go_wp2_with fail
   refine (L2.out _).mono ?_
   rintro e wy ⟨rfl, rfl⟩
   cases m2
   · go_wp2
     go_ret
     exact ⟨ret_bool (by simp), BA.out⟩
   go_wp2_with fail
   refine (L3.out _).mono ?_
   rintro e wy ⟨rfl, rfl⟩
   go_wp2
   go_ret
   exact ⟨ret_bool (by simp), BA.out⟩
 · obtain ⟨wk, hwk⟩ : ∃ wk, wk = w1 := ⟨_, rfl⟩
   subst hwk
   obtain ⟨wa, hwa⟩ : ∃ wa, wa = wk.alloc (.cells #[jI jZ cur, jI jZ kid, jI jZ old, jI jZ next, jI jZ new] 2) := ⟨_, rfl⟩
   have R5 := Lib.hid (five_row wk cur kid old next new)
   have bw : Below wk.heap.size wk wa := by rw [hwa]; exact (Below.refl _ _).alloc (Nat.le_refl _) _
   rw [← hwa] at R5
   have BA := Lib.hid (BB1.out.trans (bw.mono BB1.out.size))
   have BY := Lib.hid (B1.out.trans (bw.mono B1.out.size))
   have HWA := Lib.hid hwa
   clear hwa bw
   go_wp2_with fail
   rw [← HWA.out]
   refine (NN.out _ _ R5.out).mono ?_
   rintro e wy ⟨rfl, rfl⟩
   clear d0 d1 d2 d3 d4 d5 d6 d7 d8 d9 d10 d11 d12 d13 d14 d15
   obtain ⟨d0, d1, d2, d3, d4, d5, d6, d7, d8, d9, d10, d11, d12, d13, d14, d15⟩ := D0.out _ BY.out
   cases n0
   · go_wp2
     go_ret
     exact ⟨ret_bool (by simp), BA.out⟩
   go_wp2_with fail
   refine (J5.out _).mono ?_
   rintro e wy ⟨rfl, rfl⟩
   cases n5
   · go_wp2
     go_ret
     exact ⟨ret_bool (by simp), BA.out⟩
   go_wp2_with fail
   refine (J6.out _).mono ?_
   rintro e wy ⟨rfl, rfl⟩
   cases n6
   · go_wp2
     go_ret
     exact ⟨ret_bool (by simp), BA.out⟩
   cases q7
   · go_wp2
     go_ret
     exact ⟨ret_bool (by simp), BA.out⟩
   go_wp2_with fail
   refine (N2.out _ (HR.out.on BY.out)).mono ?_
   rintro e wy ⟨rfl, rfl⟩
   cases q4
   · go_wp2
     go_ret
     exact ⟨ret_bool (by simp), BA.out⟩
   go_wp2_with fail
   refine (L0.out _).mono ?_
   rintro e wy ⟨rfl, rfl⟩
   cases m0
   · go_wp2
     go_ret
     exact ⟨ret_bool (by simp), BA.out⟩
   go_wp2_with fail
   refine (L1.out _).mono ?_
   rintro e wy ⟨rfl, rfl⟩
   cases m1
   · go_wp2
     go_ret
     exact ⟨ret_bool (by simp), BA.out⟩
   go_wp2_with fail
   refine (L2.out _).mono ?_
   rintro e wy ⟨rfl, rfl⟩
   cases m2
   · go_wp2
     go_ret
     exact ⟨ret_bool (by simp), BA.out⟩
   go_wp2_with fail
   refine (L3.out _).mono ?_
   rintro e wy ⟨rfl, rfl⟩
   go_wp2
   go_ret
   exact ⟨ret_bool (by simp), BA.out⟩
end Go.Proofs.Ytjookicpmjmdhaa

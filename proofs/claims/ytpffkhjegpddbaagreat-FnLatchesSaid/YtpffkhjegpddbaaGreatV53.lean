/- The code's own HeldBy: a range over the map, whatever its order; then the library's sort. -/
import Derived.Test.YtpffkhjegpddbaaGreatV52
import Derived.Test.YtpffkhjegpddbaaGreatV14
open Go.Value renaming int → jI, slice → jS
open Go.IntKind renaming i64 → jZ
namespace Go.Proofs.YtpffkhjegpddbaaGreat
open Go.RowKit

theorem row_ne_map {w : World} {base n e b m : Nat} {v : Value} {xs : List Value} {P : Program} {k : TypeId} {R : Value → Option (DU × List MemPlace)} {D : DU} (hrow : w.ownsRow base e 1 v m xs) (h : w.ownsMap P k R b n D) : some b ≠ v.ownBlock := by
 intro he
 rcases hrow.2 with ⟨rfl, _⟩ | ⟨g, cap, cur, rfl, _, hg, _⟩
 · simp [Value.ownBlock] at he
 · have : b = g := by simpa [Value.ownBlock] using he
   subst this
   obtain ⟨es, clock, hb, _⟩ := h
   rw [hb] at hg
   cases hg
def Collects (w0 wr : World) (b r n : Nat) (xs : List Nd) (t : Int) (D : DU) (v : Value) (left : Lit → Bool) (cnt : Nat) (ss : List Int) : Prop :=
 wr.ranges Tryz.prog 2 (plainElem Tryz.prog 2) b r n D left cnt ∧ Got D left (ownTo xs n) t ss ∧ ss.length + cnt ≤ n ∧ wr.ownsRow w0.heap.size 2 1 v ss.length (IL ss) ∧ Below w0.heap.size w0 wr

set_option maxRecDepth 100000 in
set_option maxHeartbeats 1000000 in
theorem iHeldBy_any (r : Int) (xs : List Nd) (A : Option Addr) (n c : Nat) (task : Int) (w : World) (h : RS w w.heap.size A n xs) (hs : Small.sm xs) (_hc : n ≤ c) (_hc2 : c ≤ 9223372036854775807) :
   Calls Tryz.prog 14 #[.agg #[.int .i64 r, jS A n c], .int .i64 task] w fun e w' => ∃ A' c' F, e = .returned (jS A' (heldT r xs task).length c') ∧ OwnS w' (jS A' (heldT r xs task).length c') (heldT r xs task) F ∧ Fresh F w w' ∧ Below w.heap.size w w' := by
 have hl := h.1
 have ok : ∀ w, RS w w.heap.size A n xs → Calls Tryz.prog 19 #[.agg #[.int .i64 r, jS A n c]] w fun e w' => e = .returned (.bool (treeOk r xs)) ∧ Below w.heap.size w w' := fun w h => itok_any r xs A n c w h hs
 have kk := itask_any task
 have htt : inB task 0 5 = true → 0 ≤ task ∧ task ≤ 5 := fun h => by unfold inB at h; simpa using h
 have hdef : heldT r xs task = if treeOk r xs && inB task 0 5 then heldTo xs (task + 1) n else [] := by unfold heldT; rw [hl]
 have hgood : treeOk r xs = true → n ≤ 40 ∧ (∀ i, i < n → 0 ≤ (ndAt xs i).ow ∧ (ndAt xs i).ow ≤ 6) := fun h => by
   have h2 := (right_of h).most
   exact ⟨by omega, by rw [← hl]; exact ow_small h⟩
 rw [hdef]
 clear hdef
 generalize treeOk r xs = q at *
 generalize inB task 0 5 = p at *
 obtain ⟨w0, hw0⟩ : ∃ w0, w0 = w.alloc (.cells #[.int .i64 r, jS A n c] 26) := ⟨_, rfl⟩
 have b0 : Below w.heap.size w w0 := by rw [hw0]; exact (Below.refl _ _).alloc (Nat.le_refl _) _
 have x0 : w0.heap[w.heap.size]? = some (.cells #[.int .i64 r, jS A n c] 26 (0, 0)) := by rw [hw0]; exact heap_alloc_new _ _
 have s0 : w0.heap.size = w.heap.size + 1 := by rw [hw0]; simp
 obtain ⟨w1, hw1⟩ : ∃ w1, w1 = w0.alloc (.cells #[] 2) := ⟨_, rfl⟩
 have b1 : Below w0.heap.size w0 w1 := by rw [hw1]; exact (Below.refl _ _).alloc (Nat.le_refl _) _
 have o1 : w1.ownsRow w0.heap.size 2 1 (jS (some ⟨w.heap.size + 1, 0, none⟩) 0 0) 0 (IL []) := by
   have h1 := World.ownsRow_made (e := 2) (size := 1) w0 #[] 0 (Nat.le_refl _) (by unfold maxLen; omega) (by simp)
   rw [hw1, ← s0]
   exact h1
 have HH := Lib.hid h
 have H1 := Lib.hid ((h.on b0).on b1)
 have B0 := Lib.hid b0
 have B1 := Lib.hid b1
 have O1 := Lib.hid o1
 have S0 := Lib.hid s0
 have X0 := Lib.hid x0
 have HW : Hid (w1 = (w.alloc (.cells #[.int .i64 r, jS A n c] 26)).alloc (.cells #[] 2)) := Lib.hid (by rw [hw1, hw0])
 have OK := Lib.hid ok
 have KK := Lib.hid kk
 have HTT := Lib.hid htt
 have HG := Lib.hid hgood
 have fin : ∀ (wx : World) (Ao : Option Addr) (m co : Nat) (l : List Int), wx.ownsRow w0.heap.size 2 1 (jS Ao m co) m (IL l) → Below w0.heap.size w0 wx →
     ∃ A' c' F, Ending.returned (jS Ao m co) = .returned (jS A' l.length c') ∧ OwnS wx (jS A' l.length c') l F ∧ Fresh F w wx ∧ Below w.heap.size w wx := fun wx Ao m co l ho hb => by
   have e2 : l.length = m := by have := ho.1; unfold IL at this; simpa using this
   rw [e2]
   exact ⟨Ao, co, blkF _, rfl, OwnS.of_ints ho (fun k hk => hk), fresh_blk ho b0.size, b0.trans (hb.mono b0.size)⟩
 have FIN := Lib.hid fin
 clear h hl hs b0 b1 o1 x0 s0 hw0 hw1 ok kk htt hgood fin
 go_enter Tryz.func14, Tryz.ntmps14
 go_wp2_with fail
 rw [← HW.out]
 refine (OK.out _ H1.out).mono ?_
 rintro e w2 ⟨rfl, b2⟩
 have B2 := Lib.hid (bel_on B1.out b2)
 have O2 := Lib.hid (own_on O1.out b2)
 clear b2
 cases q
 · go_wp2
   go_ret
   obtain ⟨A', c', F, h1, h2, h3, h4⟩ := FIN.out _ _ _ _ [] O2.out B2.out
   exact ⟨A', c', h1, F, h2, h3, h4⟩
 go_wp2_with fail
 refine (KK.out _).mono ?_
 rintro e w3 ⟨rfl, rfl⟩
 cases p
 · go_wp2
   go_ret
   obtain ⟨A', c', F, h1, h2, h3, h4⟩ := FIN.out _ _ _ _ [] O2.out B2.out
   exact ⟨A', c', h1, F, h2, h3, h4⟩
 obtain ⟨ht0, ht5⟩ := HTT.out (by trivial)
 obtain ⟨hn40, how⟩ := HG.out (by trivial)
 have BE := Lib.hid (B0.out.trans (B2.out.mono B0.out.size))
 have R2 := Lib.hid ((HH.out.below BE.out).more BE.out.size)
 have LA := Lib.hid (fun w h => ilatches_any r xs A n c w h (by omega) how)
 clear how
 have d0 : w2.cell? ⟨w.heap.size, 0, none⟩ = some (.int .i64 r) := by rw [cell_of_row _ _ 0 _ _ _ (box_on B2.out X0.out)]; rfl
 have d1 : w2.cell? ⟨w.heap.size, 1, none⟩ = some (.slice A n c) := by rw [cell_of_row _ _ 1 _ _ _ (box_on B2.out X0.out)]; rfl
 go_wp2_with fail
 refine (LA.out _ R2.out).mono ?_
 rintro e w3 ⟨rfl, ⟨D, hown, hkeep⟩, b3⟩
 have KP := Lib.hid hkeep
 have ON := Lib.hid hown
 have B3 := Lib.hid (bel_on B2.out b3)
 have O3 := Lib.hid (own_on O2.out b3)
 have BM := Lib.hid (Nat.le_trans (Nat.le_trans B2.out.size (Nat.le_succ _)) (Nat.le_refl (w2.heap.size + 1)))
 clear hkeep hown b3 d0 d1
 generalize w2.heap.size + 1 = bm at *
 go_wp2_with (at_range; refine wpList_range_own _ rfl _ 44 rfl 2 2 lawI Tryz.underlying44 _ bm n _ rfl ON.out ?_; intro w4 hrg4 hg4 hs4)
 go_frame
 have C4 := Lib.hid (show Collects w0 w4 bm w3.heap.size n xs (task + 1) D (jS (some ⟨w.heap.size + 1, 0, none⟩) 0 0) (Maps.has D) (Maps.size D) [] from
   ⟨hrg4, Got.start KP.out _, by have := ON.out.size_le; simpa using this, O3.out.kept hg4 (.inr (by simp [Value.ownBlock])), B3.out.grown hg4 B3.out.size (fun j hj => by cases hj)⟩)
 have RM := Lib.hid B3.out.size
 clear hrg4 hg4 hs4 O1 O2 O3
 generalize w3.heap.size = ri at *
 go_loopw [5] (fun v wr => ∃ (left : Lit → Bool) (cnt : Nat) (ss : List Int) (Ao : Option Addr) (co : Nat), v = jS Ao ss.length co ∧ Hid (Collects w0 wr bm ri n xs (task + 1) D (jS Ao ss.length co) left cnt ss)) (fun _ wr => wr.rangeLeft bm ri)
 case atStart => exact ⟨_, _, [], _, _, rfl, C4⟩
 case round =>
   obtain ⟨left, cnt, ss, Ao, co, rfl, hcc⟩ := hrel
   have hrg := hcc.out.1
   go_wp2_with (at_next; refine wpList_next_ranges_ii _ rfl _ rfl 2 2 .i64 .i64 lawI Tryz.underlying2 Tryz.underlying2 bm ri n _ _ _ rfl hrg ?_ ?_)
   · intro _ hl0
     have HS := Lib.hid (hcc.out.2.1.sorted (by omega) hl0)
     have SL : Hid (ss.length ≤ n) := Lib.hid (by have := hcc.out.2.2.1; omega)
     clear hl0 hrg
     obtain ⟨_, _, _, hrow, hbw⟩ := hcc.out
     have BW := Lib.hid hbw
     rcases hrow.2 with ⟨hv, hnil⟩ | ⟨g, cap, cur, hv, hbase, hb, h1, h2, h3, h4⟩
     · have hss : ss = [] := List.eq_nil_of_length_eq_zero hnil
       subst hss
       have RW := Lib.hid hrow
       have SN := Lib.hid (sort_none Ao co wr)
       clear hrow hbw hv hnil
       go_wp2_with fail
       refine SN.out.mono ?_
       rintro e w6 ⟨rfl, rfl⟩
       go_wp2
       go_ret
       have e0 : ([] : List Int) = heldTo xs (task + 1) n := by rw [← HS.out]; simp
       obtain ⟨A', c', F, k1, k2, k3, k4⟩ := FIN.out w6 Ao 0 co (heldTo xs (task + 1) n) (by rw [← e0]; exact RW.out) BW.out
       exact ⟨A', c', k1, F, k2, k3, k4⟩
     · obtain ⟨rfl, rfl⟩ : Ao = some ⟨g, 0, none⟩ ∧ co = cap := by simpa using hv
       have hgl : g < wr.heap.size := (Array.getElem?_eq_some_iff.1 hb).1
       have h4' : cur.toList.take ss.length = ss.map (Value.int .i64) := by simpa [IL] using h4
       have SA := Lib.hid (sort_any g 0 co ss wr (holds_of_blockI hb h4') hgl (by have := SL.out; omega))
       have HB := Lib.hid hb
       have HBS := Lib.hid hbase
       have HR : Hid (ss.length ≤ co ∧ co ≤ maxLen ∧ cur.size = co * 1) := Lib.hid ⟨h1, h2, h3⟩
       clear hrow hbw hv hb hbase h1 h2 h3 h4 h4' hgl
       go_wp2_with fail
       refine SA.out.mono ?_
       rintro e w6 ⟨rfl, nn, os, hw6⟩
       rw [HS.out] at hw6
       have hlen : (heldTo xs (task + 1) n).length = ss.length := by rw [← HS.out]; exact List.length_mergeSort _
       have RW : Hid (w6.ownsRow w0.heap.size 2 1 (jS (some ⟨g, 0, none⟩) ss.length co) ss.length (IL (heldTo xs (task + 1) n))) := Lib.hid (by
         rw [hw6]
         exact ownsRow_sortedI hlen HBS.out HB.out HR.out.1 HR.out.2.1 HR.out.2.2)
       have B6 : Hid (Below w0.heap.size w0 w6) := Lib.hid (by
         rw [hw6]
         exact BW.out.grown (grownBy_sortedI _) BW.out.size (fun j hj => by cases hj; exact HBS.out))
       clear hw6 hlen
       go_wp2
       go_ret
       obtain ⟨A', c', F, k1, k2, k3, k4⟩ := FIN.out w6 (some ⟨g, 0, none⟩) ss.length co (heldTo xs (task + 1) n) RW.out B6.out
       exact ⟨A', c', k1, F, k2, k3, k4⟩
   · intro x y w5 cnt5 hwx hwy hlx hat hrg5 hlt5 hg5 hs5 hen
     obtain ⟨_, hgot, hlen, hrow, hbw⟩ := hcc.out
     have hoy : ownTo xs n x = y := KP.out.at (hat _)
     have hy0 : y ≠ 0 := by
       have h1 := KP.out.has x
       rw [Maps.has_true_of_atKey hat, hoy] at h1
       simpa using h1.symm
     have hrow5 := hrow.kept hg5 (.inr (row_ne_iter hrow hrg).symm)
     have hb5 : Below w0.heap.size w0 w5 := hbw.grown hg5 hbw.size (fun j hj => by cases hj; exact RM.out)
     have HME := Lib.hid (show wr.rangeLeft bm ri = cnt from hrg.left_eq)
     have HGY : Hid (y = task + 1 → Got D (fun z => left z && !z.sameKey (.int .i64 x)) (ownTo xs n) (task + 1) (ss ++ [x])) := Lib.hid (fun h => hgot.yes hlx (by rw [hoy]; exact hy0) (by rw [hoy]; exact h))
     have HGN : Hid (y ≠ task + 1 → Got D (fun z => left z && !z.sameKey (.int .i64 x)) (ownTo xs n) (task + 1) ss) := Lib.hid (fun h => hgot.no (by rw [hoy]; exact h))
     have RG5 := Lib.hid hrg5
     have RW5 := Lib.hid hrow5
     have B5 := Lib.hid hb5
     have LN : Hid (ss.length + 1 + cnt5 ≤ n) := Lib.hid (by omega)
     clear hgot hlen hrow hbw hoy hy0 hrow5 hb5 hrg hlx hat hg5 hs5 hrg5 hcc
     by_cases hy : y = task + 1
     · have gz : (y == task + 1) = true := by simpa using hy
       have HY := Lib.hid hy
       clear hy
       have hsl : ss.length ≤ 4194304 := by have := LN.out; omega
       go_wp2_with (at_builtin; refine wpList_appI rfl (.tmp 30) (.tmp 32) rfl w0.heap.size _ ss.length _ rfl (RW5.out.alloc _) w5.heap.size x rfl (by simp) (by omega) (by have := B5.out.size; simp; omega) ?_)
       intro v6 w6 o6 g6
       obtain ⟨A6, c6, rfl, _, _⟩ := own_shape o6
       have hb6 : Below w0.heap.size w0 w6 := (B5.out.alloc B5.out.size _).grown g6 (by have := B5.out.size; simp; omega) (fun q hq => (RW5.out.lt q hq).1)
       have hrg6 := (RG5.out.alloc (.cells #[.int .i64 x] 2)).kept g6 (row_ne_map RW5.out RG5.out.owns) (row_ne_iter RW5.out RG5.out)
       have C6 : Hid (Collects w0 w6 bm ri n xs (task + 1) D (jS A6 (ss ++ [x]).length c6) (fun z => left z && !z.sameKey (.int .i64 x)) cnt5 (ss ++ [x])) := Lib.hid
         ⟨hrg6, HGY.out HY.out, by have := LN.out; simp; omega, by simpa using o6, hb6⟩
       have M6 := Lib.hid hrg6.left_eq
       clear o6 g6 hb6 hrg6
       go_wp2
       go_roundw
       case rel => exact ⟨_, cnt5, ss ++ [x], A6, c6, by rw [List.length_append]; rfl, C6⟩
       case measure => rw [HME.out, M6.out]; exact hlt5
     · have gz : (y == task + 1) = false := by simpa using hy
       have C6 : Hid (Collects w0 w5 bm ri n xs (task + 1) D (jS Ao ss.length co) (fun z => left z && !z.sameKey (.int .i64 x)) cnt5 ss) := Lib.hid
         ⟨RG5.out, HGN.out hy, by have := LN.out; omega, RW5.out, B5.out⟩
       have M6 := Lib.hid RG5.out.left_eq
       clear hy
       go_wp2
       go_roundw
       case rel => exact ⟨_, cnt5, ss, Ao, co, rfl, C6⟩
       case measure => rw [HME.out, M6.out]; exact hlt5
end Go.Proofs.YtpffkhjegpddbaaGreat
namespace Go.Proofs.YtpffkhjegpddbaaGreat
open Go.RowKit

theorem after_on {o : Oper} {D : Nat → Bool} (haf : ∀ e ∈ o.after, Region.binds .any e = true → D e.on = true) (q : Nat) (h : (o.after.toList.any fun e => e.on == q && Region.binds .any e) = true) : D q = true := by
 obtain ⟨e, he, h2⟩ := List.any_eq_true.1 h
 simp only [Bool.and_eq_true, beq_iff_eq] at h2
 have := haf e (by simpa using he) h2.2
 rwa [h2.1] at this
def guardsOk (l : List Oper) : Bool := l.all fun o => match o.guard with | none => true | some (j, _) => ((l[j]?).bind (·.dst)).isSome
theorem wp_region_evg {P : Program} {id : Nat} {Q : Exit → Act → World → Prop} {a0 : Act} {w : World} (hm : P.follows .mixedOrders = true) (l : List Oper) (hlt : afterLt l.toArray = true)
   (hun : guardsOk l = true) (n : Nat) (hn : a0.tmps.size = n) (hd : dstsOk n l = true) (I : (Nat → Bool) → (Nat → Value) → World → Prop)
   (h0 : ∀ D, (∀ i, i < l.length → D i = false) → I D (fun _ => undef) w.drew)
   (hs : ∀ (i : Nat) (o : Oper) (D : Nat → Bool) (V : Nat → Value) (w' : World) (a : Act), l[i]? = some o → I D V w' → D i = false → (∀ e ∈ o.after, Region.binds .any e = true → D e.on = true) → Evs l a0 D V a →
     (∀ j b, o.guard = some (j, b) → D j = true ∧ V j = .bool b) ∧ o.wp P a w' (fun a' w'' => ∃ v, a' = a.put o.dst v ∧ I (updB D i) (updW V i v) w'') Q)
   (he : ∀ V w', I (fun _ => true) V w' → Q .normal (putF V l 0 a0) w') : (Code.region id l.toArray true).wp P Q a0 w := by
 refine wp_region_inv (ops := l.toArray) hm hlt (fun L a w' => ∃ V, a = putD V (fun j => L.getD j true) l 0 a0 ∧ I (fun j => L.getD j true) V w') ?_ ?_ ?_
 · refine ⟨fun _ => undef, ?_, h0 _ (fun i hi => by simp [hi])⟩
   rw [putD_none]
   intro j hj
   simp [hj]
 · rintro L a w' i o hL ⟨V, rfl, hI⟩ ho hLi haf
   have ho' : l[i]? = some o := by simpa using ho
   have hi : i < L.size := by rw [hL]; exact (Array.getElem?_eq_some_iff.1 ho).1
   have hev : Evs l a0 (fun j => L.getD j true) V (putD V (fun j => L.getD j true) l 0 a0) := ⟨fun t ht => putD_other _ _ _ _ _ _ ht, fun j o' t hj hot hD => by
       have := putD_at V (fun j => L.getD j true) l n 0 a0 hn hd j o' t hj hot (by simpa using hD)
       simpa using this⟩
   obtain ⟨hgu, hwp⟩ := hs i o (fun j => L.getD j true) V w' _ ho' hI hLi (fun e he hb => by
     have := haf e he hb
     by_cases hes : e.on < L.size
     · simpa [hes] using this
     · simp [hes]) hev
   have hw : Region.wanted o (yielded l.toArray (putD V (fun j => L.getD j true) l 0 a0).tmps) = true := by
     unfold Region.wanted
     cases hg : o.guard with
     | none => rfl
     | some q =>
       obtain ⟨j, b⟩ := q
       obtain ⟨hD, hV⟩ := hgu j b hg
       have h1 := (List.all_eq_true.1 hun) o (List.mem_of_getElem? ho')
       rw [hg] at h1
       have h1 : ((l[j]?).bind (·.dst)).isSome = true := h1
       cases hj : l[j]? with
       | none => rw [hj] at h1; simp at h1
       | some o' =>
         cases ht : o'.dst with
         | none => rw [hj] at h1; simp [ht] at h1
         | some t =>
           have h2 := hev.new j o' t hj ht hD
           rw [hV] at h2
           generalize putD V (fun j => L.getD j true) l 0 a0 = a at h2 ⊢
           have h2 : a.tmps.getD t undef = .bool b := h2
           unfold yielded
           have h3 : a.tmps[t]? = some (.bool b) := by
             rw [Array.getD_eq_getD_getElem?] at h2
             cases hq : a.tmps[t]? with
             | none => rw [hq] at h2; cases h2
             | some v => rw [hq] at h2; exact congrArg some h2
           simp [hj, ht, h3]
   rw [if_pos hw]
   have hLD : (fun j => (L.setIfInBounds i true).getD j true) = updB (fun j => L.getD j true) i := by
     funext j
     unfold updB
     by_cases e : j = i
     · subst e; simp [hi]
     · rw [if_neg e]
       simp only [Array.getD_eq_getD_getElem?]
       rw [Array.getElem?_setIfInBounds_ne (by omega)]
   refine Oper.wp_mono (fun a' w'' h => ?_) hwp
   obtain ⟨v, rfl, hI'⟩ := h
   refine ⟨updW V i v, ?_, ?_⟩
   · rw [hLD]
     have := putD_step V (fun j => L.getD j true) l n 0 a0 hd i o ho' (by simpa using hLi) v
     simpa using this
   · rw [hLD]; exact hI'
 · rintro a w' ⟨V, rfl, hI⟩
   have e : (fun j => (Array.replicate l.toArray.size true).getD j true) = fun _ => true := by
     funext j
     by_cases hj : j < l.length <;> simp [hj]
   rw [e] at hI ⊢
   rw [putD_all]
   exact he V w' hI
section
variable {w : World} {o : Oper} {a : Act} {K : Act → World → Prop} {Q : Exit → Act → World → Prop}
theorem op_pick (c x y : Operand) (ho : o.op = .pick c x y) {q : Bool} (hc : a.eval c = .bool q) {v : Value} (hv : (if q = true then a.eval x else a.eval y) = v) (hK : K (a.put o.dst v) w) : o.wp Tryz.prog a w K Q := by
 refine op_val ?_ hK
 generalize a.eval = E at hc hv ⊢
 subst hv
 cases q <;> simp [execOp, ho, hc, asBool]
end
end Go.Proofs.YtpffkhjegpddbaaGreat

/- One node more behind a list of nodes of the call's own; the walk of l3Copy. -/
import Derived.Test.YtjookicpmjmdhaaQ07
import Derived.Deep.RegionLaw
open Go.Value renaming int → jI, slice → jS
open Go.IntKind renaming i64 → jZ
namespace Go.Proofs.Ytjookicpmjmdhaa
open Go.RowKit

theorem ndOwn {w : World} {x : Nd} {v : Value} {base n : Nat} (h : w.ownsRow base 86 2 v n (PL x.ps)) : encNd.Own w [jI jZ x.lv, v, jI jZ x.hi, jI jZ x.ri, jI jZ x.ow] x (blkF v.ownBlock) := by
 have hl : x.ps.length = n := by have := h.1; rw [PL_length] at this; omega
 exact ⟨v, rfl, by rw [hl]; exact own_zero h, fun k hk => hk⟩

theorem wp_appN {w : World} {o : Oper} {a : Act} {K : Act → World → Prop} {Q : Exit → Act → World → Prop} (s x : Operand)
   (ho : o.op = .call { callee := .builtin .append, args := #[s, x], argTypes := #[75, 75] })
   (v : Value) (xs : List Nd) (m : Nat) (hm : xs.length = m) (F : FP) (hs : a.eval s = v) (hown : OwnS w v xs F) (y : Nd) (u : Value) (Fy : FP)
   (g : Nat) (hx : a.eval x = jS (some ⟨g, 0, none⟩) 1 1) (hg : w.heap[g]? = some (.cells #[jI jZ y.lv, u, jI jZ y.hi, jI jZ y.ri, jI jZ y.ow] 101 (0, 0)))
   (hu : encNd.Own w [jI jZ y.lv, u, jI jZ y.hi, jI jZ y.ri, jI jZ y.ow] y Fy) (hlt : ∀ k, F k ∨ Fy k → k < w.heap.size) (hap : ∀ k, Fy k → ¬ F k) (hu1 : u.oneCell' = true)
   (hsz : xs.length ≤ 4194304)
   (h : ∀ g' cap w', OwnS w' (jS (some ⟨g', 0, none⟩) (m + 1) cap) (xs ++ [y]) (fun k => F k ∨ Fy k ∨ (w.heap.size ≤ k ∧ k < w'.heap.size)) → Only F w w' → K (a.put o.dst (jS (some ⟨g', 0, none⟩) (m + 1) cap)) w') : Oper.wp Try.prog o a w K Q := by
 subst hm
 obtain ⟨i0, hi0, hz0, hz1, hz2⟩ := info_parts node_info
 obtain ⟨ys, hrow, hsn⟩ := hown.snoc
 have hF : ∀ k, v.ownBlock = some k → F k := by obtain ⟨_, _, _, _, _, _, _, h6⟩ := hown; exact h6
 refine wp_append_lies w s x 75 ho 0 101 i0 _ 5 56 Try.underlying75 hi0 hz0 hz1 hz2 rfl (by omega) v xs.length ys hs hrow ⟨g, 0, none⟩ 1 1 [jI jZ y.lv, u, jI jZ y.hi, jI jZ y.ri, jI jZ y.ow] hx rfl
   (World.news_of_block hg) (fun q hq => by simp only [List.mem_cons, List.not_mem_nil, or_false] at hq; rcases hq with rfl | rfl | rfl | rfl | rfl <;> first | rfl | exact hu1) (by omega) (by unfold maxLen; omega) (by omega) (Nat.zero_le _) w.heap.size rfl (fun g' cap w' h1 h2 h3 h4 => ?_)
 have hsame : ∀ k, k < w.heap.size → v.ownBlock ≠ some k → w'.heap[k]? = w.heap[k]? := fun k hk hn => h2.block k hk (fun e => hn e.symm)
 refine h g' cap w' ((hsn w' _ _ y Fy h1 (encNd.own_keep hu (fun k hk hlt' => hsame k hlt' (fun e => hap k hk (hF k e)))) (fun k hk hn hlt' => hsame k hlt' hn) (fun k hk => ⟨fun hy => ?_, fun hf => ?_⟩) hap).more (fun k hk => ?_)) (Only.of_grown h2 (fun k hk => hF k hk))
 · obtain rfl : g' = k := by simpa [Value.ownBlock] using hk
   rcases h3 with h5 | h5
   · exact hap _ hy (hF _ h5)
   · have := hlt _ (.inr hy); omega
 · obtain rfl : g' = k := by simpa [Value.ownBlock] using hk
   rcases h3 with h5 | h5
   · exact h5
   · have := hlt _ (.inl hf); omega
 · rcases hk with h5 | h5 | h5
   · exact .inl h5
   · exact .inr (.inl h5)
   · obtain rfl : g' = k := by simpa [Value.ownBlock] using h5
     rcases h3 with h6 | h6
     · exact .inl (hF _ h6)
     · exact .inr (.inr ⟨by omega, h4⟩)
theorem step_appN {w : World} {ops : Array Oper} {E : Prop} {o : Oper} {a : Act} {K : Act → World → Prop} {Q : Exit → Act → World → Prop} (hgd : o.guard = none) (s x : Operand)
   (ho : o.op = .call { callee := .builtin .append, args := #[s, x], argTypes := #[75, 75] })
   (v : Value) (xs : List Nd) (m : Nat) (hm : xs.length = m) (F : FP) (hs : a.eval s = v) (hown : OwnS w v xs F) (y : Nd) (u : Value) (Fy : FP)
   (g : Nat) (hx : a.eval x = jS (some ⟨g, 0, none⟩) 1 1) (hg : w.heap[g]? = some (.cells #[jI jZ y.lv, u, jI jZ y.hi, jI jZ y.ri, jI jZ y.ow] 101 (0, 0)))
   (hu : encNd.Own w [jI jZ y.lv, u, jI jZ y.hi, jI jZ y.ri, jI jZ y.ow] y Fy) (hlt : ∀ k, F k ∨ Fy k → k < w.heap.size) (hap : ∀ k, Fy k → ¬ F k) (hu1 : u.oneCell' = true)
   (hsz : xs.length ≤ 4194304)
   (h : ∀ g' cap w', OwnS w' (jS (some ⟨g', 0, none⟩) (m + 1) cap) (xs ++ [y]) (fun k => F k ∨ Fy k ∨ (w.heap.size ≤ k ∧ k < w'.heap.size)) → Only F w w' → K (a.put o.dst (jS (some ⟨g', 0, none⟩) (m + 1) cap)) w') :
   if Region.wanted o (yielded ops a.tmps) = true then Oper.wp Try.prog o a w K Q else E := by
 have hw : Region.wanted o (yielded ops a.tmps) = true := by simp [Region.wanted, hgd]
 rw [if_pos hw]
 exact wp_appN s x ho v xs m hm F hs hown y u Fy g hx hg hu hlt hap hu1 hsz h

set_option maxRecDepth 100000 in
set_option maxHeartbeats 1000000 in
theorem copyT_any (r : Int) (xs : List Nd) (A : Option Addr) (n c : Nat) (w : World) (h : RS w w.heap.size A n xs) (hs : Small.sm xs) :
   Calls Try.prog 80 #[.agg #[jI jZ r, jS A n c]] w fun e w' => ∃ v F, e = .returned (.agg #[jI jZ r, v]) ∧ OwnS w' v xs F ∧ Fresh F w w' ∧ Below w.heap.size w w' := by
 have hl := h.1
 have HL := Lib.hid hl
 have HS := Lib.hid hs
 have hn : n ≤ 1048576 := by rw [← hl]; exact hs.1
 obtain ⟨w0, hw0⟩ : ∃ w0, w0 = w.alloc (.cells #[jI jZ r, jS A n c] 77) := ⟨_, rfl⟩
 have b0 : Below w.heap.size w w0 := by rw [hw0]; exact (Below.refl _ _).alloc (Nat.le_refl _) _
 have x0 : w0.heap[w.heap.size]? = some (.cells #[jI jZ r, jS A n c] 77 (0, 0)) := by rw [hw0]; exact heap_alloc_new _ _
 have HH := Lib.hid (h.on b0)
 have B0 := Lib.hid b0
 have X0 := Lib.hid x0
 have HW := Lib.hid hw0
 clear h hl hs hw0 b0 x0
 go_enter Try.func80, Try.ntmps80
 obtain ⟨w2, hw2⟩ : ∃ w2, w2 = (w0.alloc (.cells #[jI jZ 0, jS none 0 0] 77)).alloc (.cells #[jI jZ r, jS none 0 0] 77) := ⟨_, rfl⟩
 have hs0 : w0.heap.size = w.heap.size + 1 := by rw [HW.out]; simp
 have b2 : Below w0.heap.size w0 w2 := by rw [hw2]; exact ((Below.refl _ _).alloc (Nat.le_refl _) _).alloc (by simp) _
 have hs2 : w2.heap.size = w.heap.size + 3 := by rw [hw2]; simp; omega
 have x1 : w2.heap[w.heap.size + 1]? = some (.cells #[jI jZ 0, jS none 0 0] 77 (0, 0)) := by
   rw [hw2, Below.heap_alloc _ _ _ (by simp; omega), ← hs0]
   exact heap_alloc_new _ _
 have x2 : w2.heap[w.heap.size + 1 + 1]? = some (.cells #[jI jZ r, jS none 0 0] 77 (0, 0)) := by
   rw [hw2]
   have := heap_alloc_new (w0.alloc (.cells #[jI jZ 0, jS none 0 0] 77)) (.cells #[jI jZ r, jS none 0 0] 77)
   rwa [show (w0.alloc (.cells #[jI jZ 0, jS none 0 0] 77)).heap.size = w.heap.size + 1 + 1 from by simp; omega] at this
 have hw2' : w2 = ((w.alloc (.cells #[jI jZ r, jS A n c] 77)).alloc (.cells #[jI jZ 0, jS none 0 0] 77)).alloc (.cells #[jI jZ r, jS none 0 0] 77) := by rw [hw2, HW.out]
 have HW2 := Lib.hid hw2'
 have X1 := Lib.hid x1
 have X2 := Lib.hid x2
 have BB2 := Lib.hid b2
 have HS0 := Lib.hid hs0
 have HS2 := Lib.hid hs2
 clear hw2 hw2' x1 x2 b2 hs0 hs2
 go_wp2
 change Code.wp _ _ _ _ (((w.alloc (.cells #[jI jZ r, jS A n c] 77)).alloc (.cells #[jI jZ 0, jS none 0 0] 77)).alloc (.cells #[jI jZ r, jS none 0 0] 77))
 rw [← HW2.out]
 go_loopw [4] (fun i wr => ∃ (k : Nat) (v : Value) (F : FP), i = jI jZ k ∧ k ≤ n ∧ w.heap.size + 3 ≤ wr.heap.size ∧ Hid (OwnS wr v (xs.take k) F) ∧ Hid (∀ q, F q → w.heap.size + 3 ≤ q ∧ q < wr.heap.size) ∧
   Hid (wr.heap[w.heap.size + 1 + 1]? = some (.cells #[jI jZ r, v] 77 (0, 0))) ∧ Hid (wr.heap[w.heap.size + 1]? = some (.cells #[jI jZ 0, jS none 0 0] 77 (0, 0))) ∧ Hid (Below w0.heap.size w0 wr)) (fun i _ => n - (intOf i).toNat)
 case atStart => exact ⟨0, _, fun _ => False, rfl, by omega, by have := HS2.out; omega, Lib.hid (by simpa using OwnS.nil (α := Nd) w2 (fun _ => False)), Lib.hid (fun q hq => absurd hq id), X2, X1, BB2⟩
 case round =>
   obtain ⟨k, v, F, rfl, hk, hszr, ho, hF, hx2, hx1, hbw⟩ := hrel
   have D0 : Hid (∀ wx, Below w0.heap.size w0 wx → wx.cell? ⟨w.heap.size, 1, none⟩ = some (.slice A n c)) := Lib.hid (fun wx hb => by rw [cell_of_row _ _ 1 _ _ _ (box_on hb X0.out)]; rfl)
   have d1 := D0.out _ hbw.out
   by_cases hlt : k < n
   · obtain ⟨b, off, rfl, hb, hc⟩ := HH.out.nd (by omega)
     obtain ⟨A2, n2, c2, c0, c1, c2', c3, c4, hR, _⟩ := hc k hlt
     have hn2 : n2 ≤ 1048576 := by rw [← hR.1]; exact HS.out.2 k (by rw [HL.out]; exact hlt)
     have hte : xs.take (k + 1) = xs.take k ++ [ndAt xs k] := by rw [ndAt_eq _ _ (by have := HL.out; omega), List.take_succ_eq_append_getElem (by have := HL.out; omega)]
     have hlk : (xs.take k).length = k := by rw [List.length_take]; have := HL.out; omega
     have HTE := Lib.hid hte
     have HLK := Lib.hid hlk
     generalize ndAt xs k = y at *
     have cN : ∀ wx, Below w0.heap.size w0 wx → Calls Try.prog 84 #[ndV y A2 n2 c2] wx fun e w' => ∃ v, e = .returned (.agg #[jI jZ y.lv, v, jI jZ y.hi, jI jZ y.ri, jI jZ y.ow]) ∧ w'.ownsRow wx.heap.size 86 2 v n2 (PL y.ps) ∧ Below wx.heap.size wx w' := fun wx hb => copyN_any y A2 n2 c2 wx (hR.on hb) hn2
     obtain ⟨lv, zs, hi, ri, ow⟩ := y
     unfold ndV at cN
     simp only at *
     have CN := Lib.hid cN
     have KR : Hid (∀ wx, Below w0.heap.size w0 wx → wx.cell? ⟨w.heap.size, 1, none⟩ = some (.slice (some ⟨b, off, none⟩) n c) ∧ wx.cell? ⟨b, off + k * 5, none⟩ = some (jI jZ lv) ∧ wx.cell? ⟨b, off + k * 5 + 1, none⟩ = some (.slice A2 n2 c2) ∧ wx.cell? ⟨b, off + k * 5 + 2, none⟩ = some (jI jZ hi) ∧ wx.cell? ⟨b, off + k * 5 + 3, none⟩ = some (jI jZ ri) ∧ wx.cell? ⟨b, off + k * 5 + 4, none⟩ = some (jI jZ ow)) := Lib.hid (fun wx hbx => ⟨D0.out _ hbx, (hbx.cell hb).trans c0, (hbx.cell hb).trans c1, (hbx.cell hb).trans c2', (hbx.cell hb).trans c3, (hbx.cell hb).trans c4⟩)
     have dO : wr.cell? ⟨w.heap.size + 1 + 1, 1, none⟩ = some v := by rw [cell_of_row _ _ 1 _ _ _ hx2.out]; rfl
     clear cN c0 c1 c2' c3 c4 hc hR hte hlk
     have hs0 := HS0.out
     go_wp2
     obtain ⟨z0, z1, z2, z3, z4, z5⟩ := KR.out _ hbw.out
     go_region_law
       (first
         | (refine step_appN rfl (.tmp 16) (.tmp 23) rfl v (xs.take k) k HLK.out F rfl (O5.out.keep (fun q _ hq => Below.heap_alloc _ _ _ hq)) ⟨lv, zs, hi, ri, ow⟩ (jS A5 n2 c5) (blkF (Value.slice A5 n2 c5).ownBlock) w5.heap.size rfl (heap_alloc_new _ _) (encNd.own_keep U5.out (fun q _ hq => Below.heap_alloc _ _ _ hq)) LT5.out AP5.out rfl (by rw [HLK.out]; omega) ?_; intro g6 cap6 w6 o6 gg6; have E6 : Hid (Below w0.heap.size w0 w6) := Lib.hid (bel_only (E5.out.alloc E5.out.size _) gg6 (E5.out.alloc E5.out.size _).size (fun q hq => by have := hF.out q hq; omega)); have Y6 := Lib.hid (box_off gg6 ((Below.heap_alloc _ _ _ (Array.getElem?_eq_some_iff.1 X52.out).1).trans X52.out) (fun hq => by have := hF.out _ hq; omega)); have Z6 := Lib.hid (box_off gg6 ((Below.heap_alloc _ _ _ (Array.getElem?_eq_some_iff.1 X51.out).1).trans X51.out) (fun hq => by have := hF.out _ hq; omega)); have dO6 : w6.cell? ⟨w.heap.size + 1 + 1, 1, none⟩ = some v := (by rw [cell_of_row _ _ 1 _ _ _ Y6.out]; rfl); have fO6 : w6.frozen? ⟨w.heap.size + 1 + 1, 1, none⟩ = false := frozen_of_row w6 _ 1 _ _ Y6.out; have SZ6 : Hid (w5.heap.size < w6.heap.size) := Lib.hid (by have := gg6.size; simp at this; omega); have OO6 := Lib.hid o6; clear o6 gg6)
         | (go_simp; go_at_call 84; refine (CN.out _ ?_).mono ?_; exact hbw.out.drew; rintro e w5 ⟨v5, rfl, o5, b5⟩; obtain ⟨A5, c5, rfl, _, _⟩ := own_shape o5; have U5 := Lib.hid (ndOwn (x := ⟨lv, zs, hi, ri, ow⟩) o5); have bb5 := bel_drew b5; have E5 := Lib.hid (bel_on hbw.out bb5); have O5 := Lib.hid (ho.out.on bb5); have X52 := Lib.hid (box_on bb5 hx2.out); have X51 := Lib.hid (box_on bb5 hx1.out); have dO5 : w5.cell? ⟨w.heap.size + 1 + 1, 1, none⟩ = some v := (by rw [cell_of_row _ _ 1 _ _ _ X52.out]; rfl); have dO5a : ∀ o, (w5.alloc o).cell? ⟨w.heap.size + 1 + 1, 1, none⟩ = some v := (fun o => (((Below.refl w5.heap.size w5).alloc (Nat.le_refl _) o).cell (p := ⟨w.heap.size + 1 + 1, 1, none⟩) (World.block_lt_of_cell? _ _ dO5)).trans dO5); have LT5 : Hid (∀ q, F q ∨ blkF (Value.slice A5 n2 c5).ownBlock q → q < (w5.alloc (.cells #[jI jZ lv, jS A5 n2 c5, jI jZ hi, jI jZ ri, jI jZ ow] 101)).heap.size) := Lib.hid (fun q hq => by simp; rcases hq with h1 | h1; (have := hF.out q h1; have := bb5.size; omega); (have := (o5.lt q h1).2; omega)); have AP5 : Hid (∀ q, blkF (Value.slice A5 n2 c5).ownBlock q → ¬ F q) := Lib.hid (fun q h1 h2 => by have := hF.out q h2; have := (o5.lt q h1).1; simp at this; omega); have LO5 : Hid (∀ q, blkF (Value.slice A5 n2 c5).ownBlock q → wr.heap.size ≤ q ∧ q < w5.heap.size) := Lib.hid (fun q h1 => by have := o5.lt q h1; simp at this; omega); have SZ5 := Lib.hid bb5.size; clear o5 b5 bb5))
     all_goals go_wp2
     all_goals go_roundw
     all_goals try (case measure => simp [intOf]; omega)
     all_goals (
       refine ⟨k + 1, (jS (some ⟨g6, 0, none⟩) (k + 1) cap6), fun q => F q ∨ blkF (Value.slice A5 n2 c5).ownBlock q ∨ ((w5.alloc (.cells #[jI jZ lv, jS A5 n2 c5, jI jZ hi, jI jZ ri, jI jZ ow] 101)).heap.size ≤ q ∧ q < w6.heap.size), by go_num, by omega, ?_, Lib.hid ?_, Lib.hid ?_, Lib.hid ?_, Lib.hid ?_, Lib.hid ?_⟩
       · have := SZ5.out; have := SZ6.out; simp [World.setCell] at *; omega
       · have hF6 : ∀ q, (F q ∨ blkF (Value.slice A5 n2 c5).ownBlock q ∨ ((w5.alloc (.cells #[jI jZ lv, jS A5 n2 c5, jI jZ hi, jI jZ ri, jI jZ ow] 101)).heap.size ≤ q ∧ q < w6.heap.size)) → q ≠ w.heap.size + 1 + 1 := fun q hq => by
           have := SZ5.out
           rcases hq with h1 | h1 | h1
           · have := hF.out q h1; omega
           · have := LO5.out q h1; omega
           · simp at h1 this; omega
         rw [HTE.out]
         exact OO6.out.keep (fun q hq _ => Below.heap_setCell _ _ _ _ (hF6 q hq))
       · intro q hq
         have h5 := SZ5.out
         have h6 := SZ6.out
         simp only [World.setCell, Array.size_modify]
         rcases hq with h1 | h1 | h1
         · have := hF.out q h1; omega
         · have := LO5.out q h1; omega
         · simp at h1; omega
       · exact heap_setCell_same _ _ 1 _ _ _ Y6.out
       · rw [Below.heap_setCell _ _ _ _ (by simp)]; exact Z6.out
       · exact E6.out.setCell (by simp; omega) _)
   · obtain rfl : k = n := by omega
     have e : xs.take k = xs := by rw [← HL.out]; exact List.take_length
     have ho2 := ho.out
     rw [e] at ho2
     obtain ⟨Ao, co, rfl, _, _⟩ := ho2.form
     rw [HL.out] at ho2 hx2
     have HO2 := Lib.hid ho2
     have f1 : ∀ i, wr.frozen? ⟨w.heap.size + 1, i, none⟩ = false := fun i => frozen_of_row wr _ i _ _ hx1.out
     have p0 : wr.cell? ⟨w.heap.size + 1 + 1, 0, none⟩ = some (jI jZ r) := by rw [cell_of_row _ _ 0 _ _ _ hx2.out]; rfl
     have p1 : wr.cell? ⟨w.heap.size + 1 + 1, 1, none⟩ = some (.slice Ao k co) := by rw [cell_of_row _ _ 1 _ _ _ hx2.out]; rfl
     have q0 : wr.cell? ⟨w.heap.size + 1, 0, none⟩ = some (jI jZ 0) := by rw [cell_of_row _ _ 0 _ _ _ hx1.out]; rfl
     have q1 : wr.cell? ⟨w.heap.size + 1, 1, none⟩ = some (.slice none 0 0) := by rw [cell_of_row _ _ 1 _ _ _ hx1.out]; rfl
     clear ho ho2 e
     go_wp2
     refine bodyPost_ret (v := .agg #[jI jZ r, jS Ao k co]) (by simp [results, Try.results80, go_sem, q0, q1]) rfl ⟨jS Ao k co, F, rfl, ?_, ?_, ?_⟩
     · refine HO2.out.keep (fun q hq _ => ?_)
       have := (hF.out q hq).1
       rw [Below.heap_setCell _ _ _ _ (by simp; omega), Below.heap_setCell _ _ _ _ (by simp; omega)]
     · intro q hq
       have := hF.out q hq
       simp only [World.setCell, Array.size_modify]
       omega
     · exact ((B0.out.trans (hbw.out.mono B0.out.size)).setCell (by simp) _).setCell (by simp) _
end Go.Proofs.Ytjookicpmjmdhaa
namespace Go.Proofs.Ytjookicpmjmdhaa
open Go.RowKit

def nextP (xs : List Nd) (a : Nat) (key want : Int) : Int × Int :=
 if inside (ndAt xs a) key = true then (if want < lvAt xs a ∧ 0 < lvAt xs a then (vAt (ndAt xs a).ps (kidIx (ndAt xs a).ps key), 2) else if lvAt xs a = want then ((a : Int), 3) else (-1, 0)) else (riAt xs a, 1)
set_option maxRecDepth 100000 in
set_option maxHeartbeats 1000000 in
theorem next_any (r : Int) (xs : List Nd) (A : Option Addr) (n c : Nat) (a : Nat) (key want : Int) (w : World) (h : RS w w.heap.size A n xs) (hR : Right n r xs) (ha : a < n) :
   Calls Try.prog 107 #[.agg #[jI jZ r, jS A n c], jI jZ a, jI jZ key, jI jZ want] w fun e w' => e = .returned (.tuple #[jI jZ (nextP xs a key want).1, jI jZ (nextP xs a key want).2]) ∧ Below w.heap.size w w' := by
 have hn40 := hR.most
 obtain ⟨w0, hw0⟩ : ∃ w0, w0 = w.alloc (.cells #[jI jZ r, jS A n c] 77) := ⟨_, rfl⟩
 have b0 : Below w.heap.size w w0 := by rw [hw0]; exact (Below.refl _ _).alloc (Nat.le_refl _) _
 have x0 : w0.heap[w.heap.size]? = some (.cells #[jI jZ r, jS A n c] 77 (0, 0)) := by rw [hw0]; exact heap_alloc_new _ _
 obtain ⟨b, off, rfl, hb, hc⟩ := (h.on b0).nd (by omega)
 obtain ⟨A2, n2, c2, c0, c1, c2', c3, c4, hP, _⟩ := hc a ha
 have hlv := hR.lv a ha
 have hgood := (hR.good a ha).1
 have hkid := nodeOk_kids hgood
 have hn2 : n2 ≤ 1048576 := by
   have := hgood
   unfold nodeOk at this
   simp only [Bool.and_eq_true, decide_eq_true_eq] at this
   have h4 := this.1.1.1.1.2
   rw [hP.1] at h4
   omega
 have inW : ∀ wx, Calls Try.prog 110 #[ndV (ndAt xs a) A2 n2 c2, jI jZ key] wx fun e w' => e = .returned (.bool (inside (ndAt xs a) key)) ∧ Below wx.heap.size wx w' := fun wx => sInside_any (ndAt xs a) key A2 n2 c2 wx
 have kdW : 0 < lvAt xs a → ∀ wx, Below w0.heap.size w0 wx → Calls Try.prog 116 #[ndV (ndAt xs a) A2 n2 c2, jI jZ key] wx fun e w' => e = .returned (jI jZ (vAt (ndAt xs a).ps (kidIx (ndAt xs a).ps key))) ∧ Below wx.heap.size wx w' := fun hl wx hbx => sKid_any (ndAt xs a) key A2 n2 c2 wx (hP.on hbx) hn2 (by rw [← hP.1]; exact hkid hl)
 have hv : nextP xs a key want = if inside (ndAt xs a) key = true then (if want < lvAt xs a ∧ 0 < lvAt xs a then (vAt (ndAt xs a).ps (kidIx (ndAt xs a).ps key), 2) else if lvAt xs a = want then ((a : Int), 3) else (-1, 0)) else (riAt xs a, 1) := rfl
 rw [hv]
 clear hv hkid hgood
 unfold riAt
 unfold lvAt at *
 generalize vAt (ndAt xs a).ps (kidIx (ndAt xs a).ps key) = kv at *
 generalize inside (ndAt xs a) key = q at *
 unfold ndV at inW kdW
 obtain ⟨w1, hw1⟩ : ∃ w1, w1 = w0.alloc (.cells #[jI jZ (ndAt xs a).lv, jS A2 n2 c2, jI jZ (ndAt xs a).hi, jI jZ (ndAt xs a).ri, jI jZ (ndAt xs a).ow] 101) := ⟨_, rfl⟩
 have b1 : Below w0.heap.size w0 w1 := by rw [hw1]; exact (Below.refl _ _).alloc (Nat.le_refl _) _
 have x1 : w1.heap[w0.heap.size]? = some (.cells #[jI jZ (ndAt xs a).lv, jS A2 n2 c2, jI jZ (ndAt xs a).hi, jI jZ (ndAt xs a).ri, jI jZ (ndAt xs a).ow] 101 (0, 0)) := by rw [hw1]; exact heap_alloc_new _ _
 have d1 : w0.cell? ⟨w.heap.size, 1, none⟩ = some (.slice (some ⟨b, off, none⟩) n c) := by rw [cell_of_row _ _ 1 _ _ _ x0]; rfl
 have INW := Lib.hid inW
 have KDW := Lib.hid kdW
 have B0 := Lib.hid b0
 have B1 := Lib.hid b1
 have X1 := Lib.hid x1
 have HW := Lib.hid hw0
 have HW1 := Lib.hid hw1
 generalize (ndAt xs a).lv = lv at *
 generalize (ndAt xs a).hi = hi at *
 generalize (ndAt xs a).ri = ri at *
 generalize (ndAt xs a).ow = ow at *
 have hs0 : w0.heap.size = w.heap.size + 1 := by rw [hw0]; simp
 rw [hw0] at d1 c0 c1 c2' c3 c4
 clear inW kdW hw0 hw1 b0 x0 b1 x1 hc hP h hR
 go_enter Try.func107, Try.ntmps107
 go_wp2_with fail
 rw [← HW.out, ← HW1.out]
 refine (INW.out _).mono ?_
 rintro e w2 ⟨rfl, b2⟩
 have B2 := Lib.hid (bel_on B1.out b2)
 have x2 := box_on b2 X1.out
 rw [hs0] at x2
 have e0 : w2.cell? ⟨w.heap.size + 1, 0, none⟩ = some (jI jZ lv) := by rw [cell_of_row _ _ 0 _ _ _ x2]; rfl
 have e1 : w2.cell? ⟨w.heap.size + 1, 1, none⟩ = some (.slice A2 n2 c2) := by rw [cell_of_row _ _ 1 _ _ _ x2]; rfl
 have e2 : w2.cell? ⟨w.heap.size + 1, 2, none⟩ = some (jI jZ hi) := by rw [cell_of_row _ _ 2 _ _ _ x2]; rfl
 have e3 : w2.cell? ⟨w.heap.size + 1, 3, none⟩ = some (jI jZ ri) := by rw [cell_of_row _ _ 3 _ _ _ x2]; rfl
 have e4 : w2.cell? ⟨w.heap.size + 1, 4, none⟩ = some (jI jZ ow) := by rw [cell_of_row _ _ 4 _ _ _ x2]; rfl
 clear b2 x2 d1 c0 c1 c2' c3 c4
 cases q
 · go_wp2
   go_ret2
   exact ⟨rfl, B0.out.trans (B2.out.mono B0.out.size)⟩
 by_cases h1 : want < lv
 · have g1 : decide (want < lv) = true := by simpa using h1
   by_cases h2 : 0 < lv
   · have g2 : decide (0 < lv) = true := by simpa using h2
     have kd := KDW.out h2 _ B2.out
     go_wp2_with fail
     refine kd.mono ?_
     rintro e w3 ⟨rfl, b3⟩
     have B3 := Lib.hid (bel_on B2.out b3)
     clear b3 e0 e1 e2 e3 e4
     go_wp2
     go_ret2
     exact ⟨by simp, B0.out.trans (B3.out.mono B0.out.size)⟩
   · have g2 : decide (0 < lv) = false := by simpa using h2
     have hne : ¬ lv = want := by omega
     have g3 : (lv == want) = false := by simpa using hne
     go_wp2
     go_ret2
     exact ⟨by simp, B0.out.trans (B2.out.mono B0.out.size)⟩
 · have g1 : decide (want < lv) = false := by simpa using h1
   by_cases h3 : lv = want
   · subst h3
     clear h1 g1
     go_wp2
     all_goals (go_ret2; exact ⟨by simp, B0.out.trans (B2.out.mono B0.out.size)⟩)
   · have g3 : (lv == want) = false := by simpa using h3
     go_wp2
     go_ret2
     exact ⟨by simp, B0.out.trans (B2.out.mono B0.out.size)⟩

end Go.Proofs.Ytjookicpmjmdhaa

/- The walks of toNodeS, toTree, eqNodeS, eqTree. -/
import Derived.Test.YtlmhcifnikdliaaDoorC07
namespace Go.Proofs.YtlmhcifnikdliaaDoor
open Go.RowKit

theorem node_info : (Tryd.prog.info? 40).map (fun i => (i.zero, i.size, i.bytes)) = some (some (.agg #[.int .i64 0, .slice none 0 0, .int .i64 0, .int .i64 0, .int .i64 0]), 5, 56) := by kernel_rfl

def zNd : Nd := ⟨0, [], 0, 0, 0⟩
def ndTo (xs : List Nd) (k : Nat) : List Nd := xs.take k ++ List.replicate (xs.length - k) zNd
theorem ndTo_zero (xs : List Nd) : ndTo xs 0 = List.replicate xs.length zNd := by simp [ndTo]
theorem ndTo_all (xs : List Nd) : ndTo xs xs.length = xs := by simp [ndTo]
theorem ndTo_length (xs : List Nd) (k : Nat) : (ndTo xs k).length = xs.length := by unfold ndTo; simp; omega
theorem ndTo_next (xs : List Nd) (k : Nat) (hk : k < xs.length) : (ndTo xs k).set k (ndAt xs k) = ndTo xs (k + 1) := by
  unfold ndTo
  have e : xs.take (k + 1) = xs.take k ++ [ndAt xs k] := by
    rw [ndAt_eq _ _ hk, List.take_succ_eq_append_getElem hk]
  rw [e, List.set_append_right _ _ (by simp; omega), List.length_take, Nat.min_eq_left (by omega), Nat.sub_self,
    show xs.length - k = xs.length - (k + 1) + 1 from by omega, List.replicate_succ, List.set_cons_zero, List.append_assoc]
  rfl

theorem made_nodes (n : Nat) : (madeCells #[Value.int .i64 0, .slice none 0 0, .int .i64 0, .int .i64 0, .int .i64 0] (n * 5)).toList = (List.replicate n [Value.int .i64 0, .slice none 0 0, .int .i64 0, .int .i64 0, .int .i64 0]).flatten := by
  apply List.ext_getElem?
  intro j
  by_cases hj : j < n * 5
  · obtain ⟨q, r, hr, rfl⟩ : ∃ q r, r < 5 ∧ j = q * 5 + r := ⟨j / 5, j % 5, by omega, by omega⟩
    have hq : q < n := by omega
    obtain ⟨e1, e2⟩ := flat_split (s := 5) (css := List.replicate n [Value.int .i64 0, .slice none 0 0, .int .i64 0, .int .i64 0, .int .i64 0]) (by
      intro c hc
      rw [List.eq_of_mem_replicate hc]; rfl) q (by simpa using hq)
    have hc : (List.replicate n [Value.int .i64 0, .slice none 0 0, .int .i64 0, .int .i64 0, .int .i64 0]).getD q [] = [Value.int .i64 0, .slice none 0 0, .int .i64 0, .int .i64 0, .int .i64 0] := by
      simp [hq]
    have hm := mid_get (post := (List.drop (q + 1) (List.replicate n [Value.int .i64 0, .slice none 0 0, .int .i64 0, .int .i64 0, .int .i64 0])).flatten) (cs := [Value.int .i64 0, .slice none 0 0, .int .i64 0, .int .i64 0, .int .i64 0]) e2 (j := r) (by simpa using hr)
    rw [e1, hc, hm]
    have h5 : (q * 5 + r) % 5 = r := by omega
    have hr2 : (List.range (n * 5))[q * 5 + r]? = some (q * 5 + r) := by simp [hj]
    have h2 : r = 0 ∨ r = 1 ∨ r = 2 ∨ r = 3 ∨ r = 4 := by omega
    simp only [madeCells, Array.toList_map, Array.toList_range, List.getElem?_map, hr2, Option.map_some, List.size_toArray, List.length_cons, List.length_nil, h5]
    rcases h2 with rfl | rfl | rfl | rfl | rfl <;> rfl
  · have hl : (List.replicate n [Value.int .i64 0, .slice none 0 0, .int .i64 0, .int .i64 0, .int .i64 0]).flatten.length = n * 5 := by
      rw [flat_len (s := 5) (by intro c hc; rw [List.eq_of_mem_replicate hc]; rfl)]; simp
    rw [List.getElem?_eq_none (by simp [madeCells]; omega), List.getElem?_eq_none (by omega)]

theorem OwnS.noughts {w : World} {v : Value} {n : Nat} {F : FP} (h : w.ownsRow 0 40 5 v n (List.replicate n [Value.int .i64 0, .slice none 0 0, .int .i64 0, .int .i64 0, .int .i64 0]).flatten) (hF : ∀ k, v.ownBlock = some k → F k) : OwnS w v (List.replicate n zNd) F := by
  refine ⟨List.replicate n [Value.int .i64 0, .slice none 0 0, .int .i64 0, .int .i64 0, .int .i64 0], fun _ _ => False, by rw [List.length_replicate]; exact h, by simp, fun i hi => ?_, fun i hi k hk => absurd hk id, fun i j hi hj hij k hk => absurd hk id, hF⟩
  have hi' : i < n := by simpa using hi
  have e1 : (List.replicate n [Value.int .i64 0, .slice none 0 0, .int .i64 0, .int .i64 0, .int .i64 0]).getD i [] = [Value.int .i64 0, .slice none 0 0, .int .i64 0, .int .i64 0, .int .i64 0] := by simp [hi']
  have e2 : (List.replicate n zNd).getD i encNd.dflt = zNd := by simp [hi']
  rw [e1, e2]
  exact ⟨.slice none 0 0, rfl, World.ownsRow_nil _ _ _ _, fun k hk => by simp [Value.ownBlock] at hk⟩

def GivesNS (w : World) (xs : List Nd) (e : Ending) (w' : World) : Prop :=
  ∃ b F, e = .returned (.slice (some ⟨b, 0, none⟩) xs.length xs.length) ∧ OwnS w' (.slice (some ⟨b, 0, none⟩) xs.length xs.length) xs F ∧ Fresh F w w' ∧ Below w.heap.size w w'

set_option maxHeartbeats 1000000 in
theorem toNS_any (A : Option Addr) (n c : Nat) (xs : List Nd) (w : World) (h : RS w w.heap.size A n xs) (hn : n ≤ 1048576) (hp : ∀ i, i < n → (ndAt xs i).ps.length ≤ 1048576) :
    Calls Tryd.prog 24 #[.slice A n c] w (GivesNS w xs) := by
  have HL := Lib.hid h.1
  have HH := Lib.hid h
  have HP := Lib.hid hp
  clear h hp
  obtain ⟨i0, hi0, hz0, hz1, hz2⟩ := info_parts node_info
  go_enter Tryd.func24, Tryd.ntmps24
  go_wp2_with (at_make; refine wpList_make_full _ rfl _ _ 27 rfl w.heap.size 40 i0 (.agg #[.int .i64 0, .slice none 0 0, .int .i64 0, .int .i64 0, .int .i64 0]) 5 Tryd.underlying27 hi0 hz0 hz1 .i64 .i64 _ _ n rfl rfl rfl rfl (by rw [hz2]; omega) (by unfold maxLen; omega) (Nat.le_refl _) ?_)
  intro w1 hown hgrow
  have hown2 : w1.ownsRow w.heap.size 40 5 (.slice (some ⟨w.heap.size, 0, none⟩) n n) n (List.replicate n [Value.int .i64 0, .slice none 0 0, .int .i64 0, .int .i64 0, .int .i64 0]).flatten := by rw [← made_nodes n]; exact hown
  have hb1 : Below w.heap.size w w1 := (Below.refl _ _).grown hgrow (Nat.le_refl _) (by intro k hk; cases hk)
  have hlt : w.heap.size < w1.heap.size := (hown2.lt w.heap.size rfl).2
  have ho1 : OwnS w1 (.slice (some ⟨w.heap.size, 0, none⟩) n n) (ndTo xs 0) (fun k => w.heap.size ≤ k ∧ k < w1.heap.size) := by
    rw [ndTo_zero, HL.out]
    refine OwnS.noughts (own_zero hown2) (fun k hk => ?_)
    simp [Value.ownBlock] at hk
    omega
  have HO := Lib.hid ho1
  have HB := Lib.hid hb1
  clear hown hown2 hb1 hgrow ho1 hlt
  go_wp2
  go_loopw [4] (fun i wr => ∃ k : Nat, i = .int .i64 k ∧ k ≤ n ∧ Hid (OwnS wr (.slice (some ⟨w.heap.size, 0, none⟩) n n) (ndTo xs k) (fun k => w.heap.size ≤ k ∧ k < wr.heap.size)) ∧ Hid (Below w.heap.size w wr)) (fun i _ => n - (intOf i).toNat)
  case atStart => exact ⟨0, rfl, by omega, HO, HB⟩
  case round =>
    obtain ⟨k, rfl, hk, ho, hbw⟩ := hrel
    clear HO HB
    by_cases hlt : k < n
    · obtain ⟨b, off, rfl, hb, hc⟩ := HH.out.nd (by omega)
      obtain ⟨A2, n2, c2, h0, h1, h2, h3, h4, hR, _⟩ := (hc k hlt).keep (w' := wr) hb (fun p hp => hbw.out.cell hp)
      have hl2 := hR.1
      have hn2 : n2 ≤ 1048576 := by have := HP.out k hlt; omega
      have tn := toNode_any (ndAt xs k) A2 n2 c2 wr (hR.more hbw.out.size) hn2
      have hx := ndTo_next xs k (by have := HL.out; omega)
      generalize hy : ndAt xs k = y at *
      obtain ⟨lv, zs, hi, ri, ow⟩ := y
      unfold GivesNd ndV at tn
      simp only at *
      have TN := Lib.hid tn
      have HX := Lib.hid hx
      have HL2 := Lib.hid hl2
      clear hc hR tn hy hx hl2
      go_wp2_with fail
      refine TN.out.mono ?_
      rintro e w2 ⟨g2, rfl, o2, b2⟩
      have lt2 := o2.lt g2 rfl
      have hop := OwnS.open (ho.out.keep (w' := w2) (fun k _ hk => b2.block k hk)) k (by rw [ndTo_length]; have := HL.out; omega)
      obtain ⟨g, cap, pre, cs, post, Fi, hv, hFg, hg, hrow, hpre, hcl, hown, hFi, hclose⟩ := hop
      rw [ndTo_length, HL.out] at hv hrow hclose
      obtain ⟨rfl, rfl⟩ : w.heap.size = g ∧ n = cap := by simpa using hv
      have hrow5 : w2.ownsRow 0 40 5 (.slice (some ⟨w.heap.size, 0, none⟩) n n) n (pre ++ cs ++ post) := hrow
      have hpre5 : pre.length = k * 5 := hpre
      have hcl5 : cs.length = 5 := hcl
      clear hv hrow hpre hcl
      match cs, hcl5 with
      | [u0, u1, u2, u3, u4], _ =>
      have f0 : ∀ j, w2.frozen? ⟨w.heap.size, j, none⟩ = false := fun j => hrow5.frozenAt j
      have c0 : ∀ j, j < 5 → w2.cell? ⟨w.heap.size, k * 5 + j, none⟩ = [u0, u1, u2, u3, u4][j]? := fun j hj => by rw [hrow5.cellAt _ (by omega), mid_get hpre5 (by simpa using hj)]
      have k0 : w2.cell? ⟨w.heap.size, k * 5, none⟩ = some u0 := c0 0 (by omega)
      have k1 : w2.cell? ⟨w.heap.size, k * 5 + 1, none⟩ = some u1 := c0 1 (by omega)
      have k2 : w2.cell? ⟨w.heap.size, k * 5 + 2, none⟩ = some u2 := c0 2 (by omega)
      have k3 : w2.cell? ⟨w.heap.size, k * 5 + 3, none⟩ = some u3 := c0 3 (by omega)
      have k4 : w2.cell? ⟨w.heap.size, k * 5 + 4, none⟩ = some u4 := c0 4 (by omega)
      have e0 := f0 (k * 5)
      have e1 := f0 (k * 5 + 1)
      have e2 := f0 (k * 5 + 2)
      have e3 := f0 (k * 5 + 3)
      have e4 := f0 (k * 5 + 4)
      have HROW := Lib.hid hrow5
      have HPRE := Lib.hid hpre5
      have HCL := Lib.hid hclose
      have HFI := Lib.hid hFi
      have HFG := Lib.hid hFg
      have O2 := Lib.hid o2
      have LT2 := Lib.hid lt2
      have BW2 := Lib.hid (hbw.out.trans (b2.mono hbw.out.size))
      have SW2 := Lib.hid b2.size
      clear hrow5 hpre5 hclose hFi hFg f0 c0 o2 lt2 b2 hown
      go_wp2
      go_roundw
      case rel =>
        refine ⟨k + 1, by go_num, by omega, Lib.hid ?_, Lib.hid ?_⟩
        · have r0 := own_mid HROW.out HPRE.out (j := 0) (by simp) (.int .i64 lv)
          have r1 := own_mid r0 HPRE.out (j := 1) (by simp) (.slice (some ⟨g2, 0, none⟩) n2 n2)
          have r2 := own_mid r1 HPRE.out (j := 2) (by simp) (.int .i64 hi)
          have r3 := own_mid r2 HPRE.out (j := 3) (by simp) (.int .i64 ri)
          have r4 := own_mid r3 HPRE.out (j := 4) (by simp) (.int .i64 ow)
          have hne : g2 ≠ w.heap.size := by have := LT2.out.1; have := hbw.out.size; have := HFG.out.2; omega
          have hsame : ∀ j, j ≠ w.heap.size → (((((w2.setCell ⟨w.heap.size, k * 5 + 0, none⟩ (.int .i64 lv)).setCell ⟨w.heap.size, k * 5 + 1, none⟩ (.slice (some ⟨g2, 0, none⟩) n2 n2)).setCell ⟨w.heap.size, k * 5 + 2, none⟩ (.int .i64 hi)).setCell ⟨w.heap.size, k * 5 + 3, none⟩ (.int .i64 ri)).setCell ⟨w.heap.size, k * 5 + 4, none⟩ (.int .i64 ow)).heap[j]? = w2.heap[j]? := fun j hj => by
            rw [Below.heap_setCell _ _ _ _ hj, Below.heap_setCell _ _ _ _ hj, Below.heap_setCell _ _ _ _ hj, Below.heap_setCell _ _ _ _ hj, Below.heap_setCell _ _ _ _ hj]
          have h5 := HCL.out _ _ (⟨lv, zs, hi, ri, ow⟩ : Nd) (fun j => j = g2) r4 ⟨.slice (some ⟨g2, 0, none⟩) n2 n2, rfl, by
              have := own_same (own_zero O2.out) (fun j hj _ => by
                simp [Value.ownBlock] at hj
                subst hj
                exact hsame _ hne)
              rw [HL2.out]; exact this, fun j hj => by simp [Value.ownBlock] at hj; exact hj.symm⟩
            (fun j _ hj _ _ => hsame j hj) (fun j hj => ⟨by omega, fun hF => by have := LT2.out.1; omega⟩)
          rw [HX.out] at h5
          refine h5.more (fun j hj => ?_)
          simp only [World.setCell, Array.size_modify]
          have := LT2.out
          have := SW2.out
          have := hbw.out.size
          omega
        · exact ((((BW2.out.setCell (Nat.le_refl _) _).setCell (Nat.le_refl _) _).setCell (Nat.le_refl _) _).setCell (Nat.le_refl _) _).setCell (Nat.le_refl _) _
      case measure => simp [intOf]; omega
    · have hkn : k = n := by omega
      have HK := Lib.hid hkn
      clear hkn
      go_wp2
      go_ret
      have h1 := ho.out
      rw [HK.out, ← HL.out, ndTo_all] at h1
      unfold GivesNS
      rw [HL.out] at h1 ⊢
      exact ⟨w.heap.size, _, rfl, h1, fun j hj => hj, hbw.out⟩

def GivesT (w : World) (t : Tr) (e : Ending) (w' : World) : Prop := ∃ v F, e = .returned v ∧ OwnT w' v t F ∧ Fresh F w w' ∧ Below w.heap.size w w'

set_option maxHeartbeats 1000000 in
theorem toT_any (t : Tr) (A : Option Addr) (n c : Nat) (w : World) (h : RS w w.heap.size A n t.ns) (hn : n ≤ 1048576) (hp : ∀ i, i < n → (ndAt t.ns i).ps.length ≤ 1048576) :
    Calls Tryd.prog 8 #[trV t A n c] w (GivesT w t) := by
  have HH := Lib.hid h
  have HP := Lib.hid hp
  clear h hp
  obtain ⟨r, xs⟩ := t
  unfold trV GivesT
  simp only at *
  have TN : Hid (∀ w, RS w w.heap.size A n xs → Calls Tryd.prog 24 #[.slice A n c] w (GivesNS w xs)) := Lib.hid (fun w hR => toNS_any A n c xs w hR hn HP.out)
  go_enter Tryd.func8, Tryd.ntmps8
  go_wp2_with fail
  obtain ⟨w3, hw3⟩ : ∃ w3, w3 = ((w.alloc (.cells #[.int .i64 r, .slice A n c] 24)).alloc (.cells #[.int .i64 0, .slice none 0 0] 29)).alloc (.cells #[.int .i64 r, .slice none 0 0] 29) := ⟨_, rfl⟩
  rw [← hw3]
  have B3 : Hid (Below w.heap.size w w3) := Lib.hid (by rw [hw3]; exact (((Below.refl _ _).alloc (Nat.le_refl _) _).alloc (by simp) _).alloc (by simp; omega) _)
  have hs : w3.heap.size = w.heap.size + 1 + 1 + 1 := by rw [hw3]; simp
  have hr1 : w3.heap[w.heap.size + 1]? = some (.cells #[.int .i64 0, .slice none 0 0] 29 (0, 0)) := by
    rw [hw3, Below.heap_alloc _ _ _ (by simp)]
    exact (by simpa using heap_alloc_new (w.alloc (.cells #[.int .i64 r, .slice A n c] 24)) (.cells #[.int .i64 0, .slice none 0 0] 29))
  have hr2 : w3.heap[w.heap.size + 1 + 1]? = some (.cells #[.int .i64 r, .slice none 0 0] 29 (0, 0)) := by
    rw [hw3]
    exact (by simpa using heap_alloc_new ((w.alloc (.cells #[.int .i64 r, .slice A n c] 24)).alloc (.cells #[.int .i64 0, .slice none 0 0] 29)) (.cells #[.int .i64 r, .slice none 0 0] 29))
  clear hw3
  refine (TN.out _ (HH.out.on B3.out)).mono ?_
  rintro e w4 ⟨g, F, rfl, o4, f4, b4⟩
  have k1 := (b4.block _ (by omega)).trans hr1
  have k2 := (b4.block _ (by omega)).trans hr2
  have q0 : w4.cell? ⟨w.heap.size + 1, 0, none⟩ = some (.int .i64 0) := by rw [cell_of_row w4 _ 0 _ _ _ k1]; rfl
  have q1 : w4.cell? ⟨w.heap.size + 1, 1, none⟩ = some (.slice none 0 0) := by rw [cell_of_row w4 _ 1 _ _ _ k1]; rfl
  have r0 : w4.cell? ⟨w.heap.size + 1 + 1, 0, none⟩ = some (.int .i64 r) := by rw [cell_of_row w4 _ 0 _ _ _ k2]; rfl
  have r1 : w4.cell? ⟨w.heap.size + 1 + 1, 1, none⟩ = some (.slice none 0 0) := by rw [cell_of_row w4 _ 1 _ _ _ k2]; rfl
  have f1 : ∀ i, w4.frozen? ⟨w.heap.size + 1, i, none⟩ = false := fun i => frozen_of_row w4 _ i _ _ k1
  have f2 : ∀ i, w4.frozen? ⟨w.heap.size + 1 + 1, i, none⟩ = false := fun i => frozen_of_row w4 _ i _ _ k2
  have O4 := Lib.hid o4
  have F4 := Lib.hid f4
  have HS := Lib.hid hs
  have B4 := Lib.hid (B3.out.trans (b4.mono (by have := B3.out.size; omega)))
  clear o4 b4 k1 k2 hr1 hr2 hs f4
  go_wp2
  refine bodyPost_ret (v := .agg #[.int .i64 r, .slice (some ⟨g, 0, none⟩) xs.length xs.length]) (by simp [results, Tryd.results8, go_sem, q0, q1]) rfl ⟨_, F, rfl, ⟨_, rfl, ?_⟩, ?_, ?_⟩
  · refine O4.out.keep (fun k hk _ => ?_)
    have := (F4.out k hk).1
    have := HS.out
    repeat (rw [Below.heap_setCell _ _ _ _ (by simp; omega)])
  · exact F4.out.more (by have := B3.out.size; omega) (by simp [World.setCell])
  · repeat (refine Below.setCell ?_ (by simp; first | done | omega) _)
    exact B4.out

set_option maxHeartbeats 1000000 in
theorem eqNS_yes (A B : Option Addr) (n c d : Nat) (xs : List Nd) (w : World) (h : RS w w.heap.size A n xs) (h' : RS w w.heap.size B n xs) (hp : ∀ i, i < n → (ndAt xs i).ps.length ≤ 1048576) (hn : n ≤ 1048576) :
    Calls Tryd.prog 27 #[.slice A n c, .slice B n d] w fun e w' => e = .returned (.bool true) ∧ Below w.heap.size w w' := by
  have HH := Lib.hid h
  have HH' := Lib.hid h'
  have HP := Lib.hid hp
  clear h h' hp
  go_enter Tryd.func27, Tryd.ntmps27
  go_wp2
  go_loopw [5] (fun i wr => ∃ k : Nat, i = .int .i64 k ∧ k ≤ n ∧ Hid (Below w.heap.size w wr)) (fun i _ => n - (intOf i).toNat)
  case atStart => exact ⟨0, rfl, by omega, Lib.hid (Below.refl _ _)⟩
  case round =>
    obtain ⟨k, rfl, hk, hbw⟩ := hrel
    by_cases hlt : k < n
    · obtain ⟨b, off, rfl, hb, hc⟩ := HH.out.nd (by omega)
      obtain ⟨b', off', rfl, hb', hc'⟩ := HH'.out.nd (by omega)
      obtain ⟨A2, n2, c2, h0, h1, h2, h3, h4, hR, _⟩ := (hc k hlt).keep (w' := wr) hb (fun p hp => hbw.out.cell hp)
      obtain ⟨A3, n3, c3, i0, i1, i2, i3, i4, iR, _⟩ := (hc' k hlt).keep (w' := wr) hb' (fun p hp => hbw.out.cell hp)
      obtain rfl : n2 = n3 := hR.1.symm.trans iR.1
      have hn2 : n2 ≤ 1048576 := by rw [← hR.1]; exact HP.out k hlt
      clear hc hc'
      generalize hy : ndAt xs k = y at *
      have hR1 : RP wr wr.heap.size A2 n2 y.ps := hR.more hbw.out.size
      have iR1 : RP wr wr.heap.size A3 n2 y.ps := iR.more hbw.out.size
      have hbr : b < wr.heap.size := Nat.lt_of_lt_of_le hb hbw.out.size
      have hbr' : b' < wr.heap.size := Nat.lt_of_lt_of_le hb' hbw.out.size
      have eN : Hid (∀ s : Later wr, Calls Tryd.prog 47 #[ndV y A2 n2 c2, ndV y A3 n2 c3] s.wd fun e w' => e = .returned (.bool true) ∧ Below s.wd.heap.size s.wd w') := Lib.hid (fun s => eqNode_yes y A2 A3 n2 c2 c3 s.wd (hR1.on s.2) (iR1.on s.2) hn2)
      unfold ndV at eN
      have c0 := Later.of_cell h0 (Below.refl _ _) hbr
      have c1 := Later.of_cell h1 (Below.refl _ _) hbr
      have c2' := Later.of_cell h2 (Below.refl _ _) hbr
      have c3' := Later.of_cell h3 (Below.refl _ _) hbr
      have c4 := Later.of_cell h4 (Below.refl _ _) hbr
      have e0 := Later.of_cell i0 (Below.refl _ _) hbr'
      have e1 := Later.of_cell i1 (Below.refl _ _) hbr'
      have e2 := Later.of_cell i2 (Below.refl _ _) hbr'
      have e3 := Later.of_cell i3 (Below.refl _ _) hbr'
      have e4 := Later.of_cell i4 (Below.refl _ _) hbr'
      clear h0 h1 h2 h3 h4 i0 i1 i2 i3 i4 hR iR hR1 iR1 hy hbr hbr'
      generalize y.lv = lv at *
      generalize y.hi = hi at *
      generalize y.ri = ri at *
      generalize y.ow = ow at *
      go_wp2
      refine wp_region_later (by kernel_rfl) (by kernel_rfl) ?_
      repeat (go_big_quiet_step ((go_at_call 47; exact Calls.later (eN.out _))))
      refine wpQuiet_nil ?_
      intro _ hw'
      obtain ⟨s, rfl⟩ := hw'
      go_wp2
      go_roundw
      case rel => exact ⟨k + 1, by go_num, by omega, Lib.hid (s.below_of hbw.out)⟩
      case measure => simp [intOf]; omega
    · go_wp2
      go_ret
      exact ⟨rfl, hbw.out⟩

theorem eqT_yes (t : Tr) (A B : Option Addr) (n c d : Nat) (w : World) (h : RS w w.heap.size A n t.ns) (h' : RS w w.heap.size B n t.ns) (hp : ∀ i, i < n → (ndAt t.ns i).ps.length ≤ 1048576) (hn : n ≤ 1048576) :
    Calls Tryd.prog 10 #[trV t A n c, trV t B n d] w fun e w' => e = .returned (.bool true) ∧ Below w.heap.size w w' := by
  have HH := Lib.hid h
  have HH' := Lib.hid h'
  have HP := Lib.hid hp
  clear h h' hp
  obtain ⟨r, xs⟩ := t
  unfold trV
  simp only at *
  go_enter Tryd.func10, Tryd.ntmps10
  go_wp2_with fail
  have B0 : Below w.heap.size w ((w.alloc (.cells #[.int .i64 r, .slice A n c] 29)).alloc (.cells #[.int .i64 r, .slice B n d] 29)) := ((Below.refl _ _).alloc (Nat.le_refl _) _).alloc (by simp) _
  refine (eqNS_yes A B n c d xs _ (HH.out.on B0) (HH'.out.on B0) HP.out hn).mono ?_
  rintro e w4 ⟨rfl, b4⟩
  have B4 := Lib.hid (B0.trans (b4.mono B0.size))
  clear b4 B0
  go_wp2
  go_ret
  exact ⟨rfl, B4.out⟩
end Go.Proofs.YtlmhcifnikdliaaDoor

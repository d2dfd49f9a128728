/- The walks of eqInt64S, markInt64S, heldInt64S, markNodeS, heldNodeS, markTree, heldTree. -/
import Derived.Test.YtlmhcifnikdliaaDoorB09
import Derived.Test.YtlmhcifnikdliaaDoorB07
namespace Go.Proofs.YtlmhcifnikdliaaDoor
open Go.RowKit


def iAt (xs : List Int) (i : Nat) : Int := xs.getD i 0
theorem RS.ints {w : World} {B n : Nat} {A : Option Addr} {xs : List Int} (h : RS w B A n xs) (hn : 0 < n) :
    ∃ b off, A = some ⟨b, off, none⟩ ∧ b < B ∧ ∀ i, i < n → w.cell? ⟨b, off + i, none⟩ = some (.int .i64 (iAt xs i)) := by
  obtain ⟨b, off, e, hb, hc⟩ := h.2 hn
  refine ⟨b, off, e, hb, fun i hi => ?_⟩
  obtain ⟨cs, h1, h2⟩ := hc i hi
  have h1' : cs = [.int .i64 (xs.getD i 0)] := h1
  subst h1'
  have := h2 0 _ rfl
  rwa [show off + i * encInt.sz + 0 = off + i from by show off + i * 1 + 0 = off + i; omega] at this

theorem cntI (xs : List Int) : cntS xs = xs.length := by
  unfold cntS
  induction xs with
  | nil => rfl
  | cons x r ih =>
    simp only [List.map_cons, List.sum_cons, List.length_cons]
    rw [ih]
    show 1 + _ = _
    omega
theorem cntNd_take (xs : List Nd) (j : Nat) (hj : j < xs.length) : cntS (xs.take (j + 1)) = cntS (xs.take j) + (4 + 2 * (ndAt xs j).ps.length) := cntS_take xs j ⟨0, [], 0, 0, 0⟩ hj

set_option maxRecDepth 100000 in
set_option maxHeartbeats 1000000 in
theorem markN_any (v : Value) (k : Nat) (xs : List Nd) (F : FP) (w : World) (h : OwnS w v xs F) (hn : xs.length ≤ 1048576) (hp : ∀ i, i < xs.length → (ndAt xs i).ps.length ≤ 1048576) (hk : k + cntS xs ≤ 1125899906842624) :
    Calls Tryd.prog 30 #[v, .int .i64 k] w fun e w' => e = .returned (.int .i64 ((k + cntS xs : Nat) : Int)) ∧ OwnS w' v (mkS k xs) F ∧ Only F w w' := by
  obtain ⟨A, c, rfl, hc, hm⟩ := h.form
  rcases Nat.eq_zero_or_pos xs.length with h0 | h0
  · have hz : xs = [] := List.eq_nil_of_length_eq_zero h0
    subst hz
    have HO := Lib.hid h
    clear h hc h0 hp
    simp only [List.length_nil]
    go_enter Tryd.func30, Tryd.ntmps30
    go_wp2
    refine wp_loop_rounds 1 ?_
    rw [rounds_succ]
    go_wp2
    go_ret
    exact ⟨rfl, HO.out, Only.refl _ _⟩
  · obtain ⟨n, hl⟩ : ∃ n, xs.length = n := ⟨_, rfl⟩
    rw [hl] at h hc hn h0 hp ⊢
    have HO : Hid (OwnS w (.slice A n c) (mkTo k xs 0) F) := Lib.hid (by rw [mkTo_zero]; exact h)
    have HL := Lib.hid hl
    have HP := Lib.hid hp
    have HK := Lib.hid hk
    clear h hl hp hk
    go_enter Tryd.func30, Tryd.ntmps30
    go_wp2
    go_loopw [1, 5] (fun q i wr => ∃ j kj : Nat, i = .int .i64 j ∧ j ≤ n ∧ q = .int .i64 kj ∧ Hid (kj = k + cntS (xs.take j)) ∧ Hid (OwnS wr (.slice A n c) (mkTo k xs j) F) ∧ Hid (Only F w wr)) (fun _ i _ => n - (intOf i).toNat)
    case atStart => exact ⟨0, k, rfl, by omega, rfl, Lib.hid (by simp [cntS]), HO, Lib.hid (Only.refl _ _)⟩
    case round =>
      obtain ⟨j, kj, rfl, hj, rfl, hkj, ho, hg⟩ := hrel
      clear HO
      by_cases hjn : j < n
      · obtain ⟨g, cap, pre, cs, post, Fi, hv, hFg, hgl, hrow, hpre, hcl, hown, hFi, hclose⟩ := ho.out.open j (by rw [mkTo_length]; have := HL.out; omega)
        rw [mkTo_length, HL.out] at hv hrow hclose
        obtain ⟨rfl, rfl⟩ : A = some ⟨g, 0, none⟩ ∧ c = cap := by simpa using hv
        rw [mkTo_get k xs j _ (by have := HL.out; omega)] at hown
        have hx : xs.getD j encNd.dflt = ndAt xs j := rfl
        rw [hx] at hown
        obtain ⟨u1, hcs, hin, hF1⟩ := hown
        have hrow5 : wr.ownsRow 0 40 5 (.slice (some ⟨g, 0, none⟩) n c) n (pre ++ cs ++ post) := hrow
        have hpre5 : pre.length = j * 5 := hpre
        have hps : (ndAt xs j).ps.length ≤ 1048576 := HP.out j hjn
        have hct := cntNd_take xs j (by have := HL.out; omega)
        have hle := cntS_le xs (j + 1)
        have hnx := mkTo_next k xs j ⟨0, [], 0, 0, 0⟩ (by have := HL.out; omega)
        rw [show xs.getD j ⟨0, [], 0, 0, 0⟩ = ndAt xs j from rfl] at hnx
        generalize ndAt xs j = y at *
        obtain ⟨lv, zs, hi, ri, ow⟩ := y
        simp only at *
        obtain ⟨A2, c2, rfl, _⟩ := own_shape hin
        have hbd : kj + (4 + 2 * zs.length) ≤ 1125899906842624 := by have := HK.out; have := hkj.out; omega
        have hne2 : ∀ q, (Value.slice A2 zs.length c2).ownBlock = some q → q ≠ g := fun q hq => (hFi q (hF1 q hq)).2
        subst hcs
        clear hv hrow hpre hcl hx
        -- the cells
        have f0 : ∀ i, wr.frozen? ⟨g, i, none⟩ = false := fun i => hrow5.frozenAt i
        have c0 : ∀ i, i < 5 → wr.cell? ⟨g, j * 5 + i, none⟩ = [Value.int .i64 lv, .slice A2 zs.length c2, .int .i64 hi, .int .i64 ri, .int .i64 ow][i]? := fun i hi5 => by rw [hrow5.cellAt _ (by omega), mid_get hpre5 (by simpa using hi5)]
        have k0 : wr.cell? ⟨g, j * 5, none⟩ = some (.int .i64 lv) := c0 0 (by omega)
        have k1 : wr.cell? ⟨g, j * 5 + 1, none⟩ = some (.slice A2 zs.length c2) := c0 1 (by omega)
        have e0 := f0 (j * 5)
        have r0 : (wr.setCell ⟨g, j * 5, none⟩ (.int .i64 kj)).ownsRow 0 40 5 (.slice (some ⟨g, 0, none⟩) n c) n (pre ++ [Value.int .i64 kj, .slice A2 zs.length c2, .int .i64 hi, .int .i64 ri, .int .i64 ow] ++ post) := own_mid hrow5 hpre5 (j := 0) (by simp) (.int .i64 kj)
        have s0 : ∀ i, i ≠ g → (wr.setCell ⟨g, j * 5, none⟩ (.int .i64 kj)).heap[i]? = wr.heap[i]? := fun i hi => Below.heap_setCell _ _ _ _ hi
        have hin1 := own_same hin (fun q hq _ => s0 q (hne2 q hq))
        have g1 : Only F w (wr.setCell ⟨g, j * 5, none⟩ (.int .i64 kj)) := hg.out.setCell hFg _
        have KK : ∀ (wx : World), wx.ownsRow 0 53 2 (.slice A2 zs.length c2) zs.length (PL zs) → Calls Tryd.prog 15 #[.slice A2 zs.length c2, .int .i64 ((kj : Int) + 1)] wx fun e w' => e = .returned (.int .i64 ((kj + 1 + 2 * zs.length : Nat) : Int)) ∧ w'.ownsRow 0 53 2 (.slice A2 zs.length c2) zs.length (PL (markTo zs (kj + 1) zs.length)) ∧ wx.grownBy w' (Value.slice A2 zs.length c2).ownBlock := fun wx hx => mark_any 0 A2 zs.length c2 (kj + 1) zs wx hx hps (by omega)
        have HROW := Lib.hid r0
        have HPRE := Lib.hid hpre5
        have HCL := Lib.hid hclose
        have HGL := Lib.hid hgl
        have hkb : kj ≤ 1125899906842624 := by omega
        have HFG := Lib.hid hFg
        have HIN := Lib.hid hin1
        have HG1 := Lib.hid g1
        have HS0 := Lib.hid s0
        have HNE := Lib.hid hne2
        have HKK := Lib.hid KK
        have HNX := Lib.hid hnx
        have HCT := Lib.hid hct
        have HBD := Lib.hid hbd
        have HF1 := Lib.hid hF1
        have HFI := Lib.hid hFi
        clear hrow5 r0 hpre5 hclose hFg hin hin1 g1 s0 hne2 KK hnx hct hbd f0 c0 hF1 hFi hle hgl
        go_wp2_with fail
        refine (HKK.out _ HIN.out).mono ?_
        rintro e w2 ⟨rfl, o2, g2⟩
        have sz2 : g < (wr.setCell ⟨g, j * 5, none⟩ (.int .i64 kj)).heap.size := by simp [World.setCell]; exact HGL.out
        have hb2 : w2.heap[g]? = (wr.setCell ⟨g, j * 5, none⟩ (.int .i64 kj)).heap[g]? := g2.block g sz2 (fun h => HNE.out g h.symm rfl)
        have row2 : w2.ownsRow 0 40 5 (.slice (some ⟨g, 0, none⟩) n c) n (pre ++ [Value.int .i64 kj, .slice A2 zs.length c2, .int .i64 hi, .int .i64 ri, .int .i64 ow] ++ post) := own_same HROW.out (fun q hq _ => by simp [Value.ownBlock] at hq; subst hq; exact hb2)
        have G2 : Hid (Only F w w2) := Lib.hid (HG1.out.trans (Only.of_grown g2 (fun q hq => (HFI.out q (HF1.out q hq)).1)))
        have S2 : Hid (∀ q, F q → q ≠ g → ¬ Fi q → q < wr.heap.size → w2.heap[q]? = wr.heap[q]?) := Lib.hid (fun q h1 h2 h3 h4 => (g2.block q (by simp [World.setCell]; exact h4) (fun h => h3 (HF1.out q h.symm))).trans (HS0.out q h2))
        have f0 : ∀ i, w2.frozen? ⟨g, i, none⟩ = false := fun i => row2.frozenAt i
        have c0 : ∀ i, i < 5 → w2.cell? ⟨g, j * 5 + i, none⟩ = [Value.int .i64 kj, .slice A2 zs.length c2, .int .i64 hi, .int .i64 ri, .int .i64 ow][i]? := fun i hi5 => by rw [row2.cellAt _ (by omega), mid_get HPRE.out (by simpa using hi5)]
        have k2 : w2.cell? ⟨g, j * 5 + 2, none⟩ = some (.int .i64 hi) := c0 2 (by omega)
        have k3 : w2.cell? ⟨g, j * 5 + 3, none⟩ = some (.int .i64 ri) := c0 3 (by omega)
        have k4 : w2.cell? ⟨g, j * 5 + 4, none⟩ = some (.int .i64 ow) := c0 4 (by omega)
        have e2 := f0 (j * 5 + 2)
        have e3 := f0 (j * 5 + 3)
        have e4 := f0 (j * 5 + 4)
        have ROW2 := Lib.hid row2
        have O2 := Lib.hid o2
        clear row2 o2 g2 f0 c0 k0 k1 e0 hb2 sz2
        obtain ⟨k5, hk5⟩ : ∃ k5, k5 = kj + 1 + 2 * zs.length := ⟨_, rfl⟩
        have hk5b : k5 ≤ 1125899906842624 := by have := HBD.out; omega
        rw [← hk5]
        have HK5 := Lib.hid hk5
        clear hk5
        go_wp2
        go_roundw
        case rel =>
          refine ⟨j + 1, k5 + 3, by go_num, by omega, by go_num, Lib.hid ?_, Lib.hid ?_, Lib.hid ?_⟩
          · have := HCT.out; have := hkj.out; have := HK5.out; omega
          · have r2 := own_mid ROW2.out HPRE.out (j := 2) (by simp) (.int .i64 k5)
            have r3 := own_mid r2 HPRE.out (j := 3) (by simp) (.int .i64 (k5 + 1))
            have r4 := own_mid r3 HPRE.out (j := 4) (by simp) (.int .i64 (k5 + 1 + 1))
            have hsame : ∀ q, q ≠ g → ((((w2.setCell ⟨g, j * 5 + 2, none⟩ (.int .i64 k5)).setCell ⟨g, j * 5 + 3, none⟩ (.int .i64 (k5 + 1))).setCell ⟨g, j * 5 + 4, none⟩ (.int .i64 (k5 + 1 + 1)))).heap[q]? = w2.heap[q]? := fun q hq => by
              rw [Below.heap_setCell _ _ _ _ hq, Below.heap_setCell _ _ _ _ hq, Below.heap_setCell _ _ _ _ hq]
            have h5 := HCL.out _ _ (Mk.put (k + cntS (xs.take j)) (⟨lv, zs, hi, ri, ow⟩ : Nd)) Fi r4 ⟨.slice A2 zs.length c2, by
                rw [← hkj.out]
                show [Value.int .i64 kj, .slice A2 zs.length c2, .int .i64 k5, .int .i64 (k5 + 1), .int .i64 (k5 + 1 + 1)] = [Value.int .i64 (kj : Int), .slice A2 zs.length c2, .int .i64 ((kj + 1 + 2 * zs.length : Nat) : Int), .int .i64 ((kj + 1 + 2 * zs.length + 1 : Nat) : Int), .int .i64 ((kj + 1 + 2 * zs.length + 2 : Nat) : Int)]
                rw [← HK5.out]
                simp only [Int.natCast_add]
                rw [Int.add_assoc]
                rfl, by
                rw [← hkj.out]
                show World.ownsRow _ 0 53 2 _ (markTo zs (kj + 1) zs.length).length (PL (markTo zs (kj + 1) zs.length))
                rw [markTo_length _ _ _ (Nat.le_refl _)]
                exact own_same O2.out (fun q hq _ => hsame q (HNE.out q hq)), HF1.out⟩
              (fun q h1 h2 h3 h4 => (hsame q h2).trans (S2.out q h1 h2 h3 h4)) (fun q hq => ⟨(HFI.out q hq).2, fun _ => hq⟩)
            rw [HNX.out] at h5
            exact h5.more (fun q hq => by rcases hq with h | h; exact h; exact (HFI.out q h).1)
          · exact ((G2.out.setCell HFG.out _).setCell HFG.out _).setCell HFG.out _
        case measure => simp [intOf]; omega
      · obtain rfl : j = n := by omega
        go_wp2
        go_ret
        have h1 := ho.out
        rw [← HL.out, mkTo_all, HL.out] at h1
        exact ⟨ret_int (by have := hkj.out; rw [← HL.out, List.take_length] at this; omega), h1, hg.out⟩

theorem markT_any (v : Value) (k : Nat) (t : Tr) (F : FP) (w : World) (h : OwnT w v t F) (hn : t.ns.length ≤ 1048576) (hp : ∀ i, i < t.ns.length → (ndAt t.ns i).ps.length ≤ 1048576) (hk : k + cntS t.ns ≤ 1125899906842624) :
    Calls Tryd.prog 14 #[v, .int .i64 k] w fun e w' => e = .returned (.int .i64 ((k + cntS t.ns : Nat) : Int)) ∧ OwnT w' v ⟨t.root, mkS k t.ns⟩ F ∧ Only F w w' := by
  obtain ⟨u, rfl, ho⟩ := h
  obtain ⟨A, c, rfl, _, _⟩ := ho.form
  obtain ⟨r, xs⟩ := t
  simp only at *
  obtain ⟨w1, hw1⟩ : ∃ w1, w1 = w.alloc (.cells #[.int .i64 r, .slice A xs.length c] 29) := ⟨_, rfl⟩
  have b1 : Below w.heap.size w w1 := by rw [hw1]; exact (Below.refl _ _).alloc (Nat.le_refl _) _
  have mk := markN_any _ k xs F w1 (ho.on b1) hn hp hk
  have MK := Lib.hid mk
  have B1 := Lib.hid b1
  have HW := Lib.hid hw1
  clear ho mk b1 hw1 hp hn hk
  go_enter Tryd.func14, Tryd.ntmps14
  go_wp2_with fail
  rw [← HW.out]
  refine MK.out.mono ?_
  rintro e w2 ⟨rfl, o2, g2⟩
  have O2 := Lib.hid o2
  have G2 := Lib.hid ((Only.of_below (F := F) B1.out).trans g2)
  clear o2 g2
  go_wp2
  go_ret
  exact ⟨rfl, ⟨_, rfl, O2.out⟩, G2.out⟩

end Go.Proofs.YtlmhcifnikdliaaDoor
namespace Go.Proofs.YtlmhcifnikdliaaDoor
open Go.RowKit

theorem RP.own {w : World} {base : Nat} {e : TypeId} {A : Option Addr} {n c : Nat} {zs : List Pr} (h : w.ownsRow base e 2 (.slice A n c) n (PL zs)) : RP w w.heap.size A n zs := by
  obtain ⟨A', c', e, r⟩ := RP.of_own h; cases e; exact r

end Go.Proofs.YtlmhcifnikdliaaDoor
namespace Go.Proofs.YtlmhcifnikdliaaDoor
open Go.RowKit


instance encPr : Enc Pr where
  ty := 53
  sz := 2
  dflt := (0, 0)
  Is := fun _ _ cs x => cs = [.int .i64 x.1, .int .i64 x.2]
  Own := fun _ cs x _ => cs = [.int .i64 x.1, .int .i64 x.2]
  is_len := fun h => by rw [h]; rfl
  is_keep := fun h _ => h
  is_more := fun h _ => h
  own_is := fun h => h
  own_keep := fun h _ => h
  own_more := fun h _ => h
instance : Mk Pr where
  cnt := fun _ => 2
  put := fun k _ => ((k : Int), ((k + 1 : Nat) : Int))

theorem PL_flat (zs : List Pr) : PL zs = (zs.map fun p => [Value.int .i64 p.1, .int .i64 p.2]).flatten := by
  induction zs with
  | nil => rfl
  | cons p r ih => simp only [PL, List.map_cons, List.flatten_cons, ih]; rfl
theorem OwnS.of_pairs {w : World} {base : Nat} {v : Value} {n : Nat} {zs : List Pr} {F : FP} (h : w.ownsRow base 53 2 v n (PL zs)) (hF : ∀ k, v.ownBlock = some k → F k) : OwnS w v zs F := by
  have hl : zs.length = n := by have := h.1; rw [PL_length] at this; omega
  refine ⟨zs.map fun p => [Value.int .i64 p.1, .int .i64 p.2], fun _ _ => False, by rw [← PL_flat, hl]; exact own_zero h, by simp, fun i hi => ?_, fun i hi k hk => absurd hk id, fun i j hi hj hij k hk => absurd hk id, hF⟩
  show (zs.map fun p => [Value.int .i64 p.1, .int .i64 p.2]).getD i [] = [.int .i64 (zs.getD i (0, 0)).1, .int .i64 (zs.getD i (0, 0)).2]
  simp [hi]
theorem OwnS.pairs {w : World} {v : Value} {zs : List Pr} {F : FP} (h : OwnS w v zs F) : w.ownsRow 0 53 2 v zs.length (PL zs) ∧ ∀ k, v.ownBlock = some k → F k := by
  obtain ⟨css, f, h1, h2, h3, h4, h5, h6⟩ := h
  refine ⟨?_, h6⟩
  have e : css = zs.map fun p => [Value.int .i64 p.1, .int .i64 p.2] := by
    apply List.ext_getElem (by simpa using h2)
    intro i hi hi'
    have h : css.getD i [] = [.int .i64 (zs.getD i (0, 0)).1, .int .i64 (zs.getD i (0, 0)).2] := h3 i (by simpa using hi')
    have hz : i < zs.length := by simpa using hi'
    simpa [hi, hz] using h
  rw [PL_flat, ← e]
  exact h1
theorem RS.of_pairs {w : World} {B n : Nat} {A : Option Addr} {zs : List Pr} (h : RP w B A n zs) : RS w B A n zs :=
  ⟨h.1, fun hn => by
    obtain ⟨b, off, e, hb, hc⟩ := h.2 hn
    refine ⟨b, off, e, hb, fun i hi => ⟨[.int .i64 (kAt zs i), .int .i64 (vAt zs i)], rfl, fun j u hu => ?_⟩⟩
    match j, hu with
    | 0, hu => cases hu; exact (hc i hi).1
    | 1, hu => cases hu; exact (hc i hi).2
    | j + 2, hu => simp at hu⟩
theorem RS.pairs {w : World} {B n : Nat} {A : Option Addr} {zs : List Pr} (h : RS w B A n zs) : RP w B A n zs :=
  ⟨h.1, fun hn => by
    obtain ⟨b, off, e, hb, hc⟩ := h.2 hn
    refine ⟨b, off, e, hb, fun i hi => ?_⟩
    obtain ⟨cs, h1, h2⟩ := hc i hi
    have h1' : cs = [.int .i64 (kAt zs i), .int .i64 (vAt zs i)] := h1
    subst h1'
    exact ⟨h2 0 _ rfl, h2 1 _ rfl⟩⟩
theorem mkS_pairs (k : Nat) (zs : List Pr) : mkS k zs = markTo zs k zs.length := by
  apply List.ext_getElem (by rw [mkS_length, markTo_length _ _ _ (Nat.le_refl _)])
  intro i hi hi'
  rw [mkS_length] at hi
  have hc : cntS (zs.take i) = 2 * i := by
    unfold cntS
    have : (zs.take i).map (Mk.cnt (α := Pr)) = List.replicate i 2 := by
      apply List.ext_getElem (by simp; omega)
      intro j h1 h2
      simp only [List.getElem_map, List.getElem_replicate]
      rfl
    rw [this]; simp; omega
  have h1 := mkS_get k zs i (0, 0) hi
  rw [hc] at h1
  have e1 : (mkS k zs)[i] = (mkS k zs).getD i (0, 0) := by simp [mkS_length, hi]
  have e2 : (markTo zs k zs.length)[i] = (kAt (markTo zs k zs.length) i, vAt (markTo zs k zs.length) i) := by rw [kAt_eq _ _ hi', vAt_eq _ _ hi']
  rw [e1, h1, e2, markTo_fst _ _ _ _ hi, markTo_snd _ _ _ _ hi]
  show (((k + 2 * i : Nat) : Int), ((k + 2 * i + 1 : Nat) : Int)) = _
  simp only [Int.natCast_add, Int.natCast_mul]
  rfl
theorem cntS_pairs (zs : List Pr) : cntS zs = 2 * zs.length := by
  unfold cntS
  induction zs with
  | nil => rfl
  | cons p r ih =>
    simp only [List.map_cons, List.sum_cons, List.length_cons]
    rw [ih]
    show 2 + _ = _
    omega
end Go.Proofs.YtlmhcifnikdliaaDoor

/- The walk of the model's l14Copy. (Made by genY24.py.) -/
import Derived.Test.YtjookicpmjmdhaaQ20
import Derived.Test.YtjookicpmjmdhaaQ22
open Go.Value renaming int → jI, slice → jS
open Go.IntKind renaming i64 → jZ
namespace Go.Proofs.Ytjookicpmjmdhaa
open Go.RowKit

def OwnW (w : World) (W : Wd) (A : Option Addr) (c : Nat) (F : FP) (A1 : Option Addr) (c1 : Nat) (F1 : FP) (A2 : Option Addr) (c2 : Nat) (F2 : FP) : Prop :=
 OwnS w (jS A W.ns.length c) W.ns F ∧ OwnS w (jS A1 W.hs.length c1) W.hs F1 ∧ OwnS w (jS A2 W.ds.length c2) W.ds F2 ∧ Apart F F1 ∧ Apart F F2 ∧ Apart F1 F2
def wdV (W : Wd) (A : Option Addr) (c : Nat) (A1 : Option Addr) (c1 : Nat) (A2 : Option Addr) (c2 : Nat) : Value :=
 .agg #[jI jZ W.root, jS A W.ns.length c, jS A1 W.hs.length c1, jS A2 W.ds.length c2, jI jZ W.now]
def GivesW (w : World) (W : Wd) (e : Ending) (w' : World) : Prop :=
 ∃ A c F A1 c1 F1 A2 c2 F2, e = .returned (wdV W A c A1 c1 A2 c2) ∧ OwnW w' W A c F A1 c1 F1 A2 c2 F2 ∧ Fresh F w w' ∧ Fresh F1 w w' ∧ Fresh F2 w w' ∧ Below w.heap.size w w'
theorem Sep.apart_at {X : FP} {w0 w : World} {L : List Item} (h : Sep X w0 L w) (i j : Nat) (hij : i ≠ j) {I J : Item} (e : L[i]? = some I) (e' : L[j]? = some J) : Apart I.F J.F := by
 rcases Nat.lt_or_gt_of_ne hij with h' | h'
 · exact h.two i j h' e e'
 · exact (h.two j i h' e' e).symm
theorem Sep.ownW {X : FP} {w0 w : World} {L : List Item} (h : Sep X w0 L w) (i j k : Nat) (hij : i ≠ j) (hik : i ≠ k) (hjk : j ≠ k) {W : Wd} {A A1 A2 : Option Addr} {c c1 c2 n n1 n2 : Nat} {F F1 F2 : FP} (e : L[i]? = some (ow (jS A n c) W.ns F)) (e1 : L[j]? = some (ow (jS A1 n1 c1) W.hs F1)) (e2 : L[k]? = some (ow (jS A2 n2 c2) W.ds F2))
   (hn : W.ns.length = n) (hn1 : W.hs.length = n1) (hn2 : W.ds.length = n2) : OwnW w W A c F A1 c1 F1 A2 c2 F2 := by
 subst hn hn1 hn2
 exact ⟨h.get i e, h.get j e1, h.get k e2, h.apart_at i j hij e e1, h.apart_at i k hik e e2, h.apart_at j k hjk e1 e2⟩

set_option maxRecDepth 100000 in
set_option maxHeartbeats 16000000 in
theorem copyW_any (W : Wd) (A : Option Addr) (n c : Nat) (A1 : Option Addr) (n1 c1 : Nat) (A2 : Option Addr) (n2 c2 : Nat) (w0 : World) (hW : IsW w0 w0.heap.size W A n A1 n1 A2 n2) (hst : ∀ i, i < n1 → (hdAt W.hs i).st.length ≤ 1048576) :
   Calls Try.prog 76 #[.agg #[jI jZ W.root, jS A n c, jS A1 n1 c1, jS A2 n2 c2, jI jZ W.now]] w0 (GivesW w0 W) := by
 have CT := Lib.hid (fun w hR => copyT_any W.root W.ns A n c w hR hW.sm)
 have HN := Lib.hid hW.ns
 have HH := Lib.hid hW.hs
 have HD := Lib.hid hW.ds
 have LN := Lib.hid hW.ns.1
 have L1 := Lib.hid hW.hs.1
 have L2 := Lib.hid hW.ds.1
 have HB1 := Lib.hid hW.h1
 have HB2 : Hid (n2 ≤ 4194304) := Lib.hid (by have := hW.h2; omega)
 have HST := Lib.hid hst
 obtain ⟨r, ns, hs, ds, now⟩ := W
 clear hW hst
 unfold GivesW wdV
 simp only at CT HN HH HD LN L1 L2 HST ⊢
 have S := Lib.hid (Sep.start noX w0)
 have tok0 : True := trivial
 have tok1 : True := trivial
 go_enter Try.func76, Try.ntmps76
 go_wp2_with (first
     | go_skip
     | (clear tok0; refine bx_ 81 S rfl rfl rfl ?_; clear S; intro gw w S)
     | (clear tok1; refine nx_ 81 S rfl rfl Try.zeroValue81 ?_; clear S; intro rw w S))
 refine wp_region_ev (by kernel_rfl) _ (by kernel_rfl) (by kernel_rfl) 34 rfl (by kernel_rfl) (fun D V w => ∃ AN : Option Addr, ∃ cN : Nat, ∃ FN : FP, ∃ gD : Nat, ∃ AD : Option Addr, ∃ cD : Nat, ∃ FD : FP, ∃ ga10 : Nat, Sep noX w0 [bx rw #[jI jZ 0, jS none 0 0, jS none 0 0, jS none 0 0, jI jZ 0] 81, bx gw #[jI jZ r, jS A n c, jS A1 n1 c1, jS A2 n2 c2, jI jZ now] 81, cnd (D 2) em (ow (jS AN n cN) ns FN), cnd (D 3) em (cnd (D 6) (ow (jS (some ⟨gD, 0, none⟩) 0 0) ([] : List Dl) (fun k => k = gD)) (ow (jS AD n2 cD) ds FD)), cnd (D 10) em (cnd (D 11) (bx ga10 #[jI jZ 0, jS none 0 0, jS none 0 0, jS none 0 0, jI jZ 0] 81) (bx ga10 #[jI jZ r, jS AN n cN, jS none 0 0, jS AD n2 cD, jI jZ now] 81))] w ∧ (D 0 = true → V 0 = .pointer (some ⟨gw, 0, none⟩)) ∧ (D 1 = true → V 1 = .agg #[jI jZ r, jS A n c]) ∧ (D 2 = true → V 2 = .agg #[jI jZ r, jS AN n cN]) ∧ (D 3 = true → V 3 = jS (some ⟨gD, 0, none⟩) 0 0) ∧ (D 4 = true → V 4 = .pointer (some ⟨gw, 3, none⟩)) ∧ (D 5 = true → V 5 = jS A2 n2 c2) ∧ (D 6 = true → V 6 = jS AD n2 cD) ∧ (D 7 = true → V 7 = .pointer (some ⟨gw, 4, none⟩)) ∧ (D 8 = true → V 8 = jI jZ now) ∧ (D 9 = true → V 9 = .agg #[jI jZ r, jS AN n cN, jS none 0 0, jS AD n2 cD, jI jZ now]) ∧ (D 10 = true → V 10 = .pointer (some ⟨ga10, 0, none⟩)) ∧ (D 6 = true → D 3 = true) ∧ (D 9 = true → D 2 = true) ∧ (D 9 = true → D 6 = true) ∧ (D 11 = true → D 2 = true) ∧ (D 11 = true → D 6 = true) ∧ (D 11 = true → D 10 = true)) ?_ ?_ ?_
 · intro D hD
   have d2 := hD 2 (by decide)
   have d3 := hD 3 (by decide)
   have d10 := hD 10 (by decide)
   have d11 := hD 11 (by decide)
   exact ⟨none, 0, fun _ => False, 0, none, 0, fun _ => False, 0, by rw [cnd_f d2, cnd_f d3, cnd_f d10]; exact S.out.drew.ems 3, (nof (hD 0 (by decide))), (nof (hD 1 (by decide))), (nof (hD 2 (by decide))), (nof (hD 3 (by decide))), (nof (hD 4 (by decide))), (nof (hD 5 (by decide))), (nof (hD 6 (by decide))), (nof (hD 7 (by decide))), (nof (hD 8 (by decide))), (nof (hD 9 (by decide))), (nof (hD 10 (by decide))), (nof (hD 6 (by decide))), (nof (hD 9 (by decide))), (nof (hD 9 (by decide))), (nof (hD 11 (by decide))), (nof (hD 11 (by decide))), (nof (hD 11 (by decide)))⟩
 · intro i o D V w a ho hI hDi haf hev
   obtain ⟨AN, cN, FN, gD, AD, cD, FD, ga10, S, f0, f1, f2, f3, f4, f5, f6, f7, f8, f9, f10, o6_3, o9_2, o9_6, o11_2, o11_6, o11_10⟩ := hI
   rcases i with _ | _ | _ | _ | _ | _ | _ | _ | _ | _ | _ | _ | i
   · obtain rfl := inj_ ho
     exact op_field _ _ _ rfl ((hev.old 1 (by kernel_rfl)).trans rfl) (by kernel_rfl) ⟨_, rfl, AN, cN, FN, gD, AD, cD, FD, ga10, S, fun _ => rfl, f1, f2, f3, f4, f5, f6, f7, f8, f9, f10, o6_3, o9_2, o9_6, o11_2, o11_6, o11_10⟩
   · obtain rfl := inj_ ho
     have h0 := aft_ haf 0 rfl
     exact op_getK 77 _ rfl S 1 rfl 0 (hev.at_ 0 5 rfl rfl h0 f0) Try.isAgg77 [jI jZ r, jS A n c] rfl (by kernel_rfl) ⟨_, rfl, AN, cN, FN, gD, AD, cD, FD, ga10, S, f0, fun _ => rfl, f2, f3, f4, f5, f6, f7, f8, f9, f10, o6_3, o9_2, o9_6, o11_2, o11_6, o11_10⟩
   · obtain rfl := inj_ ho
     have h1 := aft_ haf 1 rfl
     have ns11 := nofb hDi o11_2
     have hx0 := (hev.at_ 1 6 rfl rfl h1 f1)
     refine op_call _ _ _ rfl (enters_of Try.func80 (by kernel_rfl) rfl) #[.agg #[jI jZ r, jS A n c]] (by simp [hx0]) (CT.out w (S.rs HN.out)) (fun e w2 hh => ?_)
     obtain ⟨v9, F9, rfl, own, fr, b⟩ := hh
     obtain ⟨A9, c9, hv9, _, _⟩ := own.form
     rw [LN.out] at hv9
     subst hv9
     have S2 := S.turn 2 (I := em) (by simp only [gs_, gz_, cnd_f hDi]) (Only.of_below b) (ow (jS A9 n c9) ns F9) own (fun k hk => ⟨.inr (fr k hk).1, (fr k hk).2⟩)
     exact ⟨_, rfl, ⟨_, rfl, A9, c9, F9, gD, AD, cD, FD, ga10, (by have SS := S2; rw [cnd_f ns11] at SS; rw [show updB D 2 11 = false from ns11]; exact SS), f0, f1, fun _ => rfl, f3, f4, f5, f6, f7, f8, (fun h => nof hDi (o9_2 h)), f10, o6_3, fun _ => rfl, o9_6, fun _ => rfl, o11_6, o11_10⟩⟩
   · obtain rfl := inj_ ho
     have nn := nofb hDi o6_3
     exact op_bsD0 rfl S 3 (by simp only [gs_, gz_, cnd_f hDi]) (fun g w S => ⟨_, rfl, AN, cN, FN, g, AD, cD, FD, ga10, (by have S3 := S; rw [show updB D 3 6 = false from nn]; exact S3), f0, f1, f2, fun _ => rfl, f4, f5, f6, f7, f8, f9, f10, fun _ => rfl, o9_2, o9_6, o11_2, o11_6, o11_10⟩)
   · obtain rfl := inj_ ho
     exact op_field _ _ _ rfl ((hev.old 1 (by kernel_rfl)).trans rfl) (by kernel_rfl) ⟨_, rfl, AN, cN, FN, gD, AD, cD, FD, ga10, S, f0, f1, f2, f3, fun _ => rfl, f5, f6, f7, f8, f9, f10, o6_3, o9_2, o9_6, o11_2, o11_6, o11_10⟩
   · obtain rfl := inj_ ho
     have h4 := aft_ haf 4 rfl
     exact op_get 79 _ rfl S 1 rfl 3 (hev.at_ 4 9 rfl rfl h4 f4) Try.isAgg79 _ rfl ⟨_, rfl, AN, cN, FN, gD, AD, cD, FD, ga10, S, f0, f1, f2, f3, f4, fun _ => rfl, f6, f7, f8, f9, f10, o6_3, o9_2, o9_6, o11_2, o11_6, o11_10⟩
   · obtain rfl := inj_ ho
     have h3 := aft_ haf 3 rfl
     have h5 := aft_ haf 5 rfl
     have ns11 := nofb hDi o11_6
     exact op_appD2 _ _ rfl S 3 (v := jS (some ⟨gD, 0, none⟩) 0 0) (xs := []) (F := fun k => k = gD) (by simp only [gs_, gz_, cnd_t h3, cnd_f hDi]) (hev.at_ 3 8 rfl rfl h3 f3) ds (S.rs HD.out) (hev.at_ 5 10 rfl rfl h5 f5) (by simpa using HB2.out) n2 (by simp) ds (by simp) (fun A9 c9 F9 w S => ⟨_, rfl, AN, cN, FN, gD, A9, c9, F9, ga10, (by have SS := S; rw [cnd_f ns11] at SS; rw [show updB D 6 11 = false from ns11, show updB D 6 3 = true from h3]; exact SS), f0, f1, f2, f3, f4, f5, fun _ => rfl, f7, f8, (fun h => nof hDi (o9_6 h)), f10, fun _ => h3, o9_2, fun _ => rfl, o11_2, fun _ => rfl, o11_10⟩)
   · obtain rfl := inj_ ho
     exact op_field _ _ _ rfl ((hev.old 1 (by kernel_rfl)).trans rfl) (by kernel_rfl) ⟨_, rfl, AN, cN, FN, gD, AD, cD, FD, ga10, S, f0, f1, f2, f3, f4, f5, f6, fun _ => rfl, f8, f9, f10, o6_3, o9_2, o9_6, o11_2, o11_6, o11_10⟩
   · obtain rfl := inj_ ho
     have h7 := aft_ haf 7 rfl
     exact op_get 2 _ rfl S 1 rfl 4 (hev.at_ 7 12 rfl rfl h7 f7) Try.isAgg2 _ rfl ⟨_, rfl, AN, cN, FN, gD, AD, cD, FD, ga10, S, f0, f1, f2, f3, f4, f5, f6, f7, fun _ => rfl, f9, f10, o6_3, o9_2, o9_6, o11_2, o11_6, o11_10⟩
   · obtain rfl := inj_ ho
     have h2 := aft_ haf 2 rfl
     have h6 := aft_ haf 6 rfl
     have h8 := aft_ haf 8 rfl
     have hx0 := (hev.at_ 2 7 rfl rfl h2 f2)
     have hx1 := (hev.at_ 6 11 rfl rfl h6 f6)
     have hx2 := (hev.at_ 8 13 rfl rfl h8 f8)
     exact op_build _ _ rfl [(0, .agg #[jI jZ r, jS AN n cN]), (2, jS AD n2 cD), (3, jI jZ now)] (by simp [hx0, hx1, hx2]) _ (by kernel_rfl) ⟨_, rfl, AN, cN, FN, gD, AD, cD, FD, ga10, S, f0, f1, f2, f3, f4, f5, f6, f7, f8, fun _ => rfl, f10, o6_3, fun _ => h2, fun _ => h6, o11_2, o11_6, o11_10⟩
   · obtain rfl := inj_ ho
     have nst := nofb hDi o11_10
     refine op_nxAt 81 rfl S 4 (by simp only [gs_, gz_, cnd_f hDi]) _ Try.zeroValue81 (fun g w S => ⟨_, rfl, AN, cN, FN, gD, AD, cD, FD, g, (by have e : updB D 10 11 = false := nst; rw [e]; exact S), f0, f1, f2, f3, f4, f5, f6, f7, f8, f9, fun _ => rfl, o6_3, o9_2, o9_6, o11_2, o11_6, fun _ => rfl⟩)
   · obtain rfl := inj_ ho
     have h10 := aft_ haf 10 rfl
     have h9 := aft_ haf 9 rfl
     have h2 : D 2 = true := o9_2 h9
     have h6 : D 6 = true := o9_6 h9
     have ha : D 10 = true := aft_ haf 10 rfl
     exact op_putR 81 _ _ rfl S 4 (g := ga10) (C := #[jI jZ 0, jS none 0 0, jS none 0 0, jS none 0 0, jI jZ 0]) (t := 81) (by simp only [gs_, gz_, cnd_t ha, cnd_f hDi]) (hev.at_ 10 3 rfl rfl h10 f10) _ (hev.at_ 9 14 rfl rfl h9 f9) rfl (by kernel_rfl) rfl (fun w S => ⟨_, rfl, AN, cN, FN, gD, AD, cD, FD, ga10, (by have e : updB D 11 10 = true := ha; rw [e]; exact S), f0, f1, f2, f3, f4, f5, f6, f7, f8, f9, f10, o6_3, o9_2, o9_6, fun _ => h2, fun _ => h6, fun _ => h10⟩)
   · exact absurd ho (by simp)
 intro V w hI
 obtain ⟨AN, cN, FN, gD, AD, cD, FD, ga10, S, f0, f1, f2, f3, f4, f5, f6, f7, f8, f9, f10, o6_3, o9_2, o9_6, o11_2, o11_6, o11_10⟩ := hI
 replace S : Hid (Sep noX w0 [bx rw #[jI jZ 0, jS none 0 0, jS none 0 0, jS none 0 0, jI jZ 0] 81, bx gw #[jI jZ r, jS A n c, jS A1 n1 c1, jS A2 n2 c2, jI jZ now] 81, ow (jS AN n cN) ns FN, ow (jS AD n2 cD) ds FD, bx ga10 #[jI jZ r, jS AN n cN, jS none 0 0, jS AD n2 cD, jI jZ now] 81] w) := Lib.hid S
 simp only [putF, Act.put, sa_, sb_, sc_, f0 rfl, f1 rfl, f2 rfl, f3 rfl, f4 rfl, f5 rfl, f6 rfl, f7 rfl, f8 rfl, f9 rfl, f10 rfl]
 clear f0 f1 f2 f3 f4 f5 f6 f7 f8 f9 f10 o6_3 o9_2 o9_6 o11_2 o11_6 o11_10
 clear CT
 go_wp2_with fail
 go_loopw [4] (fun i wr => ∃ (k : Nat) (A5 : Option Addr) (c5 : Nat) (F5 : FP), i = jI jZ k ∧ k ≤ n1 ∧ Hid (Sep noX w0 [ow (jS A5 k c5) (hs.take k) F5, bx rw #[jI jZ 0, jS none 0 0, jS none 0 0, jS none 0 0, jI jZ 0] 81, bx gw #[jI jZ r, jS A n c, jS A1 n1 c1, jS A2 n2 c2, jI jZ now] 81, ow (jS AN n cN) ns FN, ow (jS AD n2 cD) ds FD, bx ga10 #[jI jZ r, jS AN n cN, jS A5 k c5, jS AD n2 cD, jI jZ now] 81] wr)) (fun i _ => n1 - (intOf i).toNat)
 case atStart => exact ⟨0, none, 0, fun _ => False, rfl, by omega, Lib.hid (Sep.drop (S.out.own (α := Hd) (Below.refl _ _) (OwnS.nil _ _) (fun _ hk => absurd hk id)) (List.Sublist.refl _))⟩
 case round =>
   clear S
   obtain ⟨k, A5, c5, F5, rfl, hk, S⟩ := hrel
   have hb1 := HB1.out
   by_cases hlt : k < n1
   · obtain ⟨b, off, rfl, hb, A3, n3, c3, hcc, hR, _⟩ := RS.hdAt HH.out k hlt
     have hte : hs.take (k + 1) = hs.take k ++ [hdAt hs k] := by
       have hkl : k < hs.length := by rw [L1.out]; exact hlt
       rw [List.take_succ_eq_append_getElem hkl]
       unfold hdAt
       simp [hkl]
     have hx3 : n3 ≤ 1048576 := by rw [← hR.1]; exact HST.out k hlt
     have hlk : (hs.take k).length = k := by rw [List.length_take, L1.out]; omega
     obtain ⟨x, hx⟩ : ∃ x, x = hdAt hs k := ⟨_, rfl⟩
     rw [← hx] at hcc hR hte
     have HC : Hid (∀ j u, ([jI jZ x.pos, jI jZ x.cc, jI jZ x.ck, jI jZ x.cv, jI jZ x.cur, jI jZ x.want, jI jZ x.key, jI jZ x.kid, jI jZ x.old, jI jZ x.next, jI jZ x.new, jS A3 n3 c3, jI jZ x.thn, jI jZ x.beg, jI jZ x.rep, jI jZ x.out] : List Value)[j]? = some u → w0.cell? ⟨b, off + k * 16 + j, none⟩ = some u) := Lib.hid hcc
     have CH := Lib.hid (fun w hR => copyH_any x A3 n3 c3 w hR hx3)
     have HRX := Lib.hid hR
     have HTE := Lib.hid hte
     have HB := Lib.hid hb
     have HLK := Lib.hid hlk
     have HLT := Lib.hid hlt
     unfold GivesH at CH
     unfold hdV at CH
     clear hcc hR hte hx hx3 hlk hb
     go_wp2_with (first
         | go_skip
         | (refine wpList_op rfl (op_get 78 _ rfl S.out 2 rfl _ rfl Try.isAgg78 _ rfl ?_)))
     refine wp_region_ev (by kernel_rfl) _ (by kernel_rfl) (by kernel_rfl) 34 rfl (by kernel_rfl) (fun D V w => ∃ AS : Option Addr, ∃ cS : Nat, ∃ FS : FP, ∃ gq : Nat, ∃ AH : Option Addr, ∃ cH : Nat, ∃ FH : FP, Sep noX w0 [cnd (D 9) (ow (jS A5 k c5) (hs.take k) F5) (ow (jS AH (k + 1) cH) (hs.take k ++ [x]) FH), bx rw #[jI jZ 0, jS none 0 0, jS none 0 0, jS none 0 0, jI jZ 0] 81, bx gw #[jI jZ r, jS A n c, jS (some ⟨b, off, none⟩) n1 c1, jS A2 n2 c2, jI jZ now] 81, ow (jS AN n cN) ns FN, ow (jS AD n2 cD) ds FD, cnd (D 11) (bx ga10 #[jI jZ r, jS AN n cN, jS A5 k c5, jS AD n2 cD, jI jZ now] 81) (bx ga10 #[jI jZ r, jS AN n cN, jS AH (k + 1) cH, jS AD n2 cD, jI jZ now] 81), cnd (D 7) em (cnd (D 9) (ow (jS AS x.st.length cS) x.st FS) em), cnd (D 8) em (bx gq #[jI jZ x.pos, jI jZ x.cc, jI jZ x.ck, jI jZ x.cv, jI jZ x.cur, jI jZ x.want, jI jZ x.key, jI jZ x.kid, jI jZ x.old, jI jZ x.next, jI jZ x.new, jS AS x.st.length cS, jI jZ x.thn, jI jZ x.beg, jI jZ x.rep, jI jZ x.out] 31)] w ∧ (D 0 = true → V 0 = .pointer (some ⟨ga10, 2, none⟩)) ∧ (D 1 = true → V 1 = jS A5 k c5) ∧ (D 2 = true → V 2 = .pointer (some ⟨gw, 2, none⟩)) ∧ (D 3 = true → V 3 = jS (some ⟨b, off, none⟩) n1 c1) ∧ (D 4 = true → V 4 = jI jZ k) ∧ (D 5 = true → V 5 = .pointer (some ⟨b, off + k * 16, none⟩)) ∧ (D 6 = true → V 6 = .agg #[jI jZ x.pos, jI jZ x.cc, jI jZ x.ck, jI jZ x.cv, jI jZ x.cur, jI jZ x.want, jI jZ x.key, jI jZ x.kid, jI jZ x.old, jI jZ x.next, jI jZ x.new, jS A3 n3 c3, jI jZ x.thn, jI jZ x.beg, jI jZ x.rep, jI jZ x.out]) ∧ (D 7 = true → V 7 = .agg #[jI jZ x.pos, jI jZ x.cc, jI jZ x.ck, jI jZ x.cv, jI jZ x.cur, jI jZ x.want, jI jZ x.key, jI jZ x.kid, jI jZ x.old, jI jZ x.next, jI jZ x.new, jS AS x.st.length cS, jI jZ x.thn, jI jZ x.beg, jI jZ x.rep, jI jZ x.out]) ∧ (D 8 = true → V 8 = jS (some ⟨gq, 0, none⟩) 1 1) ∧ (D 9 = true → V 9 = jS AH (k + 1) cH) ∧ (D 10 = true → V 10 = .pointer (some ⟨ga10, 2, none⟩)) ∧ (D 8 = true → D 7 = true) ∧ (D 9 = true → D 1 = true) ∧ (D 9 = true → D 7 = true) ∧ (D 9 = true → D 8 = true) ∧ (D 11 = true → D 1 = true) ∧ (D 11 = true → D 9 = true)) ?_ ?_ ?_
     · intro D hD
       have d7 := hD 7 (by decide)
       have d8 := hD 8 (by decide)
       have d9 := hD 9 (by decide)
       have d11 := hD 11 (by decide)
       exact ⟨none, 0, fun _ => False, 0, none, 0, fun _ => False, by simp only [cnd_f d7, cnd_f d8, cnd_f d9, cnd_f d11]; exact S.out.drew.ems 2, (nof (hD 0 (by decide))), (nof (hD 1 (by decide))), (nof (hD 2 (by decide))), (nof (hD 3 (by decide))), (nof (hD 4 (by decide))), (nof (hD 5 (by decide))), (nof (hD 6 (by decide))), (nof (hD 7 (by decide))), (nof (hD 8 (by decide))), (nof (hD 9 (by decide))), (nof (hD 10 (by decide))), (nof (hD 8 (by decide))), (nof (hD 9 (by decide))), (nof (hD 9 (by decide))), (nof (hD 9 (by decide))), (nof (hD 11 (by decide))), (nof (hD 11 (by decide)))⟩
     · intro i o D V w a ho hI hDi haf hev
       obtain ⟨AS, cS, FS, gq, AH, cH, FH, S, f0, f1, f2, f3, f4, f5, f6, f7, f8, f9, f10, o8_7, o9_1, o9_7, o9_8, o11_1, o11_9⟩ := hI
       rcases i with _ | _ | _ | _ | _ | _ | _ | _ | _ | _ | _ | _ | i
       · obtain rfl := inj_ ho
         exact op_field _ _ _ rfl ((hev.old 3 (by kernel_rfl)).trans rfl) (by kernel_rfl) ⟨_, rfl, AS, cS, FS, gq, AH, cH, FH, S, fun _ => rfl, f1, f2, f3, f4, f5, f6, f7, f8, f9, f10, o8_7, o9_1, o9_7, o9_8, o11_1, o11_9⟩
       · obtain rfl := inj_ ho
         have h0 := aft_ haf 0 rfl
         have nn := nofb hDi o11_1
         exact op_get 78 _ rfl S 5 (g := ga10) (C := #[jI jZ r, jS AN n cN, jS A5 k c5, jS AD n2 cD, jI jZ now]) (t := 81) (by simp only [gs_, gz_, cnd_f nn]) 2 (hev.at_ 0 22 rfl rfl h0 f0) Try.isAgg78 _ rfl ⟨_, rfl, AS, cS, FS, gq, AH, cH, FH, S, f0, fun _ => rfl, f2, f3, f4, f5, f6, f7, f8, f9, f10, o8_7, fun _ => rfl, o9_7, o9_8, fun _ => rfl, o11_9⟩
       · obtain rfl := inj_ ho
         exact op_field _ _ _ rfl ((hev.old 1 (by kernel_rfl)).trans rfl) (by kernel_rfl) ⟨_, rfl, AS, cS, FS, gq, AH, cH, FH, S, f0, f1, fun _ => rfl, f3, f4, f5, f6, f7, f8, f9, f10, o8_7, o9_1, o9_7, o9_8, o11_1, o11_9⟩
       · obtain rfl := inj_ ho
         have h2 := aft_ haf 2 rfl
         exact op_get 78 _ rfl S 2 rfl 2 (hev.at_ 2 24 rfl rfl h2 f2) Try.isAgg78 _ rfl ⟨_, rfl, AS, cS, FS, gq, AH, cH, FH, S, f0, f1, f2, fun _ => rfl, f4, f5, f6, f7, f8, f9, f10, o8_7, o9_1, o9_7, o9_8, o11_1, o11_9⟩
       · obtain rfl := inj_ ho
         exact op_move (.inl rfl) ((hev.old 4 (by kernel_rfl)).trans rfl) ⟨_, rfl, AS, cS, FS, gq, AH, cH, FH, S, f0, f1, f2, f3, fun _ => rfl, f5, f6, f7, f8, f9, f10, o8_7, o9_1, o9_7, o9_8, o11_1, o11_9⟩
       · obtain rfl := inj_ ho
         have h3 := aft_ haf 3 rfl
         have h4 := aft_ haf 4 rfl
         exact op_idx _ _ _ rfl 31 16 Try.underlying78 Try.sizeOf31 (hev.at_ 3 25 rfl rfl h3 f3) (hev.at_ 4 26 rfl rfl h4 f4) HLT.out ⟨_, rfl, AS, cS, FS, gq, AH, cH, FH, S, f0, f1, f2, f3, f4, fun _ => rfl, f6, f7, f8, f9, f10, o8_7, o9_1, o9_7, o9_8, o11_1, o11_9⟩
       · obtain rfl := inj_ ho
         have h5 := aft_ haf 5 rfl
         exact op_cells0 31 _ rfl S HB.out (hev.at_ 5 27 rfl rfl h5 f5) Try.isAgg31 [jI jZ x.pos, jI jZ x.cc, jI jZ x.ck, jI jZ x.cv, jI jZ x.cur, jI jZ x.want, jI jZ x.key, jI jZ x.kid, jI jZ x.old, jI jZ x.next, jI jZ x.new, jS A3 n3 c3, jI jZ x.thn, jI jZ x.beg, jI jZ x.rep, jI jZ x.out] HC.out (by kernel_rfl) #[jI jZ x.pos, jI jZ x.cc, jI jZ x.ck, jI jZ x.cv, jI jZ x.cur, jI jZ x.want, jI jZ x.key, jI jZ x.kid, jI jZ x.old, jI jZ x.next, jI jZ x.new, jS A3 n3 c3, jI jZ x.thn, jI jZ x.beg, jI jZ x.rep, jI jZ x.out] rfl ⟨_, rfl, AS, cS, FS, gq, AH, cH, FH, S, f0, f1, f2, f3, f4, f5, fun _ => rfl, f7, f8, f9, f10, o8_7, o9_1, o9_7, o9_8, o11_1, o11_9⟩
       · obtain rfl := inj_ ho
         have h6 := aft_ haf 6 rfl
         have hx0 := (hev.at_ 6 28 rfl rfl h6 f6)
         refine op_call _ _ _ rfl (enters_of Try.func42 (by kernel_rfl) rfl) #[.agg #[jI jZ x.pos, jI jZ x.cc, jI jZ x.ck, jI jZ x.cv, jI jZ x.cur, jI jZ x.want, jI jZ x.key, jI jZ x.kid, jI jZ x.old, jI jZ x.next, jI jZ x.new, jS A3 n3 c3, jI jZ x.thn, jI jZ x.beg, jI jZ x.rep, jI jZ x.out]] (by simp [hx0]) (CH.out w (S.rs HRX.out)) (fun e w2 hh => ?_)
         obtain ⟨A9, c9, F9, rfl, own, fr, b⟩ := hh
         have nn9 := nofb hDi o9_7
         have nn8 := nofb hDi o8_7
         have S2 := S.turn 6 (I := em) (by simp only [gs_, gz_, cnd_f hDi]) (Only.of_below b) (ow (jS A9 x.st.length c9) x.st F9) own (fun k hk => ⟨.inr (fr k hk).1, (fr k hk).2⟩)
         exact ⟨_, rfl, ⟨_, rfl, A9, c9, F9, gq, AH, cH, FH, (by have S3 := S2; rw [nn9, nn8] at S3; rw [show updB D 7 9 = false from nn9, show updB D 7 8 = false from nn8]; exact S3), f0, f1, f2, f3, f4, f5, f6, fun _ => rfl, f8, f9, f10, fun _ => rfl, o9_1, fun _ => rfl, o9_8, o11_1, o11_9⟩⟩
       · obtain rfl := inj_ ho
         have h7 := aft_ haf 7 rfl
         have hx0 := (hev.at_ 7 29 rfl rfl h7 f7)
         exact op_bsH1At _ rfl S 7 (by simp only [gs_, gz_, cnd_f hDi]) hx0 (fun g w S => ⟨_, rfl, AS, cS, FS, g, AH, cH, FH, S, f0, f1, f2, f3, f4, f5, f6, f7, fun _ => rfl, f9, f10, fun _ => h7, o9_1, o9_7, fun _ => rfl, o11_1, o11_9⟩)
       · obtain rfl := inj_ ho
         have h1 := aft_ haf 1 rfl
         have h8 := aft_ haf 8 rfl
         have h7 : D 7 = true := o8_7 h8
         have ns11 := nofb hDi o11_9
         have hx0 := (hev.at_ 1 23 rfl rfl h1 f1)
         have hx1 := (hev.at_ 8 30 rfl rfl h8 f8)
         exact op_appEl 78 16 144 kd_hand rfl Try.underlying78 (by omega) _ _ rfl S (v := jS A5 k c5) (xs := hs.take k) (F := F5) (C := #[jI jZ x.pos, jI jZ x.cc, jI jZ x.ck, jI jZ x.cv, jI jZ x.cur, jI jZ x.want, jI jZ x.key, jI jZ x.kid, jI jZ x.old, jI jZ x.next, jI jZ x.new, jS AS x.st.length cS, jI jZ x.thn, jI jZ x.beg, jI jZ x.rep, jI jZ x.out]) (J := ow (jS AS x.st.length cS) x.st FS) (y := x) 0 6 7 (by omega) (by simp only [List.getElem?_cons_zero, cnd_f hDi]) (by simp only [gs_, gz_, cnd_t h7, cnd_f hDi]) (by simp only [gs_, gz_, cnd_t h8]; rfl) (el_hand x AS cS FS) (by simp [Value.oneCell']) HLK.out (by have := HB1.out; have := HLT.out; omega) (by omega) hx0 hx1 (fun A9 c9 F9 w S => ⟨_, rfl, AS, cS, FS, gq, A9, c9, F9, (by have SS := S; rw [cnd_f ns11] at SS; rw [show updB D 9 11 = false from ns11, show updB D 9 7 = true from h7]; exact SS), f0, f1, f2, f3, f4, f5, f6, f7, f8, fun _ => rfl, f10, o8_7, fun _ => h1, fun _ => h7, fun _ => h8, o11_1, fun _ => rfl⟩)
       · obtain rfl := inj_ ho
         exact op_field _ _ _ rfl ((hev.old 3 (by kernel_rfl)).trans rfl) (by kernel_rfl) ⟨_, rfl, AS, cS, FS, gq, AH, cH, FH, S, f0, f1, f2, f3, f4, f5, f6, f7, f8, f9, fun _ => rfl, o8_7, o9_1, o9_7, o9_8, o11_1, o11_9⟩
       · obtain rfl := inj_ ho
         have h10 := aft_ haf 10 rfl
         have h9 := aft_ haf 9 rfl
         have h1 : D 1 = true := o9_1 h9
         exact op_put1 78 _ _ rfl S 5 (g := ga10) (C := #[jI jZ r, jS AN n cN, jS A5 k c5, jS AD n2 cD, jI jZ now]) (t := 81) (by simp only [gs_, gz_, cnd_f hDi]) 2 (hev.at_ 10 32 rfl rfl h10 f10) _ (hev.at_ 9 31 rfl rfl h9 f9) rfl (by kernel_rfl) (of_decide_eq_true rfl) (fun w S => ⟨_, rfl, AS, cS, FS, gq, AH, cH, FH, S, f0, f1, f2, f3, f4, f5, f6, f7, f8, f9, f10, o8_7, o9_1, o9_7, o9_8, fun _ => h1, fun _ => h9⟩)
       · exact absurd ho (by simp)
     intro V w hI
     obtain ⟨AS, cS, FS, gq, AH, cH, FH, S, f0, f1, f2, f3, f4, f5, f6, f7, f8, f9, f10, o8_7, o9_1, o9_7, o9_8, o11_1, o11_9⟩ := hI
     replace S : Hid (Sep noX w0 [ow (jS AH (k + 1) cH) (hs.take k ++ [x]) FH, bx rw #[jI jZ 0, jS none 0 0, jS none 0 0, jS none 0 0, jI jZ 0] 81, bx gw #[jI jZ r, jS A n c, jS (some ⟨b, off, none⟩) n1 c1, jS A2 n2 c2, jI jZ now] 81, ow (jS AN n cN) ns FN, ow (jS AD n2 cD) ds FD, bx ga10 #[jI jZ r, jS AN n cN, jS AH (k + 1) cH, jS AD n2 cD, jI jZ now] 81, em, bx gq #[jI jZ x.pos, jI jZ x.cc, jI jZ x.ck, jI jZ x.cv, jI jZ x.cur, jI jZ x.want, jI jZ x.key, jI jZ x.kid, jI jZ x.old, jI jZ x.next, jI jZ x.new, jS AS x.st.length cS, jI jZ x.thn, jI jZ x.beg, jI jZ x.rep, jI jZ x.out] 31] w) := Lib.hid S
     simp only [putF, Act.put, sa_, sb_, sc_, f0 rfl, f1 rfl, f2 rfl, f3 rfl, f4 rfl, f5 rfl, f6 rfl, f7 rfl, f8 rfl, f9 rfl, f10 rfl]
     clear f0 f1 f2 f3 f4 f5 f6 f7 f8 f9 f10 o8_7 o9_1 o9_7 o9_8 o11_1 o11_9
     replace S : Hid (Sep noX w0 [ow (jS AH (k + 1) cH) (hs.take k ++ [x]) FH, bx rw #[jI jZ 0, jS none 0 0, jS none 0 0, jS none 0 0, jI jZ 0] 81, bx gw #[jI jZ r, jS A n c, jS (some ⟨b, off, none⟩) n1 c1, jS A2 n2 c2, jI jZ now] 81, ow (jS AN n cN) ns FN, ow (jS AD n2 cD) ds FD, bx ga10 #[jI jZ r, jS AN n cN, jS AH (k + 1) cH, jS AD n2 cD, jI jZ now] 81] w) := Lib.hid (S.out.drop (List.sublist_append_left [ow (jS AH (k + 1) cH) (hs.take k ++ [x]) FH, bx rw #[jI jZ 0, jS none 0 0, jS none 0 0, jS none 0 0, jI jZ 0] 81, bx gw #[jI jZ r, jS A n c, jS (some ⟨b, off, none⟩) n1 c1, jS A2 n2 c2, jI jZ now] 81, ow (jS AN n cN) ns FN, ow (jS AD n2 cD) ds FD, bx ga10 #[jI jZ r, jS AN n cN, jS AH (k + 1) cH, jS AD n2 cD, jI jZ now] 81] [em, bx gq #[jI jZ x.pos, jI jZ x.cc, jI jZ x.ck, jI jZ x.cv, jI jZ x.cur, jI jZ x.want, jI jZ x.key, jI jZ x.kid, jI jZ x.old, jI jZ x.next, jI jZ x.new, jS AS x.st.length cS, jI jZ x.thn, jI jZ x.beg, jI jZ x.rep, jI jZ x.out] 31]))
     go_wp2_with fail
     go_roundw
     case rel => exact ⟨k + 1, AH, cH, FH, by go_num, by have := HLT.out; omega, by rw [HTE.out]; exact S⟩
     case measure => simp [intOf]; have := HLT.out; omega
   · obtain rfl : n1 = k := by omega
     have e9 : hs.take n1 = hs := by rw [← L1.out]; exact List.take_length
     rw [e9] at S
     clear e9 hlt hk hb1
     go_wp2_with (first
         | go_skip
         | (refine wpList_op rfl (op_get 78 _ rfl S.out 2 rfl _ rfl Try.isAgg78 _ rfl ?_))
         | (refine wpList_op rfl (op_row 81 _ rfl S.out 5 rfl rfl Try.isAgg81 (by kernel_rfl) ?_))
         | (refine wpList_op rfl (op_putR_1 81 _ _ rfl S rfl _ rfl rfl (by kernel_rfl) rfl ?_); clear S; intro w S))
     exact bodyPost_ret (results_c rfl _ S.out 1 rfl rfl Try.isAgg81 (by kernel_rfl)) rfl ⟨AN, cN, FN, A5, c5, F5, AD, cD, FD, by rw [LN.out, L1.out, L2.out], S.out.ownW 3 0 4 (by omega) (by omega) (by omega) rfl rfl rfl LN.out L1.out L2.out, (S.out.ends 3 rfl).2.1, (S.out.ends 0 rfl).2.1, (S.out.ends 4 rfl).2.1, S.out.below⟩
end Go.Proofs.Ytjookicpmjmdhaa

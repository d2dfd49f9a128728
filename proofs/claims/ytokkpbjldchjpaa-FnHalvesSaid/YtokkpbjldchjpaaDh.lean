/- The draw DrawHalves, walked. (Made by genDh.py.) -/
import Derived.Test.YtokkpbjldchjpaaZc
import Derived.Test.YtokkpbjldchjpaaCu
namespace Go.Proofs.Ytokkpbjldchjpaa
open Go.RowKit

theorem insL_keys_hit (zs : List Pr) (k v : Int) (h : hitB zs k = true) : (insL zs k v).map (·.1) = zs.map (·.1) ∧ k ∈ zs.map (·.1) := by
  unfold hitB at h
  simp only [Bool.and_eq_true, decide_eq_true_eq, beq_iff_eq] at h
  obtain ⟨h1, h2⟩ := h
  have hg : zs[geIx zs k]? = some (zs[geIx zs k]) := List.getElem?_eq_getElem h1
  have hk : (zs[geIx zs k]).1 = k := by
    unfold kAt at h2
    rw [List.getD_eq_getElem?_getD, hg] at h2
    exact h2
  have hz : zs = zs.take (geIx zs k) ++ [zs[geIx zs k]] ++ zs.drop (geIx zs k + 1) := by
    rw [List.append_assoc, List.singleton_append, ← List.drop_eq_getElem_cons h1, List.take_append_drop]
  refine ⟨?_, List.mem_map.2 ⟨_, List.getElem_mem h1, hk⟩⟩
  unfold insL
  rw [if_pos (by unfold hitB; simp [h1, h2])]
  have e := congrArg (List.map (·.1)) hz
  simp only [List.map_append, List.map_cons, List.map_nil, hk] at e ⊢
  exact e.symm
/-- The loop's state: the node so far, the cursor told exactly, how long it may go on. -/
def RHalf (w0 : World) (g6 gc r1 r2 : Nat) (lv hi ri ow_ : Int) (A : Option Addr) (n c : Nat) (w : World) (m : Nat) : Prop :=
  ∃ (zs : List Pr) (A' : Option Addr) (c' : Nat) (F' : FP) (i : Nat) (h : Int), Sep noX w0 [bx g6 #[.int .i64 lv, .slice A' zs.length c', .int .i64 hi, .int .i64 ri, .int .i64 ow_] 26, bx gc (curC A n c i h) 72, bx r2 #[.int .i64 0, .int .i64 0] 28, bx r1 #[.int .i64 0, .slice none 0 0, .int .i64 0, .int .i64 0, .int .i64 0] 26, ow (.slice A' zs.length c') zs F'] w ∧ zs.length ≤ 4 ∧ i ≤ n ∧ Bound n zs.length i h (zs.map (·.1)) m
/-- What DrawHalves answers. -/
def DrawnH (w : World) (e : Ending) (w' : World) : Prop :=
  ∃ (x : Nd) (A' : Option Addr) (c' : Nat) (F : FP) (k v at_ : Int), e = .returned (.tuple #[ndV x A' x.ps.length c', .agg #[.int .i64 k, .int .i64 v], .int .i64 at_]) ∧ OwnS w' (.slice A' x.ps.length c') x.ps F ∧ x.ps.length ≤ 41 ∧ Fresh F w w' ∧ Below w.heap.size w w'
theorem Sep.drawnH {w0 w : World} {L : List Item} (h : Sep noX w0 L w) (p : Nat) {x : Nd} {A' : Option Addr} {c' m : Nat} {F : FP} (k v at_ : Int) (e : L[p]? = some (ow (.slice A' m c') x.ps F)) (hm : x.ps.length = m) (hx : m ≤ 41) :
    DrawnH w0 (.returned (.tuple #[ndV x A' m c', .agg #[.int .i64 k, .int .i64 v], .int .i64 at_])) w := by
  subst hm
  obtain ⟨h1, h2, h3⟩ := h.ends p e
  exact ⟨x, A', c', F, k, v, at_, rfl, h1, hx, h2, h3⟩

set_option maxRecDepth 100000 in
set_option maxHeartbeats 16000000 in
theorem dHalves_any (A : Option Addr) (n c : Nat) (w0 : World) (hb : Bys w0 w0.heap.size A n) (hn : n ≤ 4096) :
    Calls Try.prog 7 #[.slice A n c] w0 (DrawnH w0) := by
  have HB := Lib.hid hb
  have HN := Lib.hid hn
  clear hb hn
  have S := Lib.hid (Sep.start noX w0)
  have tok0 : True := trivial
  have tok1 : True := trivial
  go_enter Try.func7, Try.ntmps7
  go_wp2_with (first
      | go_skip
      | (have _t := tok0; clear _t; refine wpList_op rfl (op_nx 26 rfl S.out _ Try.zeroValue26 ?_); clear S tok0; intro r1 w S; replace S := Lib.hid S)
      | (have _t := tok1; clear _t; refine wpList_op rfl (op_nx 28 rfl S.out _ Try.zeroValue28 ?_); clear S tok1; intro r2 w S; replace S := Lib.hid S))
  refine (new_any A n c _ (bys_on HB.out S.out.below) HN.out).mono ?_
  rintro e w1 ⟨gc, rfl, hg, hc, b⟩
  replace S := Lib.hid (S.out.newCur hc hg b)
  clear hc hg b
  go_wp2_with fail
  refine (nDraw_any gc A n c _ (S.out.curA 0 rfl HB.out HN.out)).mono ?_
  rintro e w2 ⟨⟨lv, zs, hi, ri, ow_⟩, A', c', rfl, ho, hz, hc, hgr⟩
  have hz4 : zs.length ≤ 4 := hz
  obtain ⟨F', S2⟩ := S.out.drawnN 0 rfl ho hc hgr
  replace S : Hid (Sep noX w0 [ow (.slice A' zs.length c') zs F', cuI gc A n c, bx r2 #[.int .i64 0, .int .i64 0] 28, bx r1 #[.int .i64 0, .slice none 0 0, .int .i64 0, .int .i64 0, .int .i64 0] 26] w2) := Lib.hid S2
  clear ho hz hc hgr S2
  unfold ndV
  simp only
  have tokA : True := trivial
  go_wp2_with (first
      | go_skip
      | (have _t := tokA; clear _t; refine wpList_op rfl (op_nx 26 rfl S.out _ Try.zeroValue26 ?_); clear S tokA; intro g6 w S; replace S := Lib.hid S; simp only [Act.put, List.setIfInBounds_toArray, List.set_cons_succ, List.set_cons_zero])
      | (refine wpList_op rfl (op_putR_0 26 _ _ rfl S rfl _ rfl rfl (by kernel_rfl) rfl ?_); clear S; intro w S; simp only [Act.put, List.setIfInBounds_toArray, List.set_cons_succ, List.set_cons_zero]))
  have S2 : Sep noX w0 [bx g6 #[.int .i64 lv, .slice A' zs.length c', .int .i64 hi, .int .i64 ri, .int .i64 ow_] 26, cuI gc A n c, bx r2 #[.int .i64 0, .int .i64 0] 28, bx r1 #[.int .i64 0, .slice none 0 0, .int .i64 0, .int .i64 0, .int .i64 0] 26, ow (.slice A' zs.length c') zs F'] w := S.out.perm (List.Perm.cons _ (List.perm_append_comm (l₁ := [ow (.slice A' zs.length c') zs F']) (l₂ := [cuI gc A n c, bx r2 #[.int .i64 0, .int .i64 0] 28, bx r1 #[.int .i64 0, .slice none 0 0, .int .i64 0, .int .i64 0, .int .i64 0] 26])))
  obtain ⟨i, h, hx, hi9⟩ := S2.get 1 rfl
  have S3 : Sep noX w0 [bx g6 #[.int .i64 lv, .slice A' zs.length c', .int .i64 hi, .int .i64 ri, .int .i64 ow_] 26, bx gc (curC A n c i h) 72, bx r2 #[.int .i64 0, .int .i64 0] 28, bx r1 #[.int .i64 0, .slice none 0 0, .int .i64 0, .int .i64 0, .int .i64 0] 26, ow (.slice A' zs.length c') zs F'] w := S2.recast 1 rfl (bx gc (curC A n c i h) 72) hx (fun k hk => hk)
  have st : ∃ m, RHalf w0 g6 gc r1 r2 lv hi ri ow_ A n c w m := by
    obtain ⟨m, hm⟩ := Bound.start n zs.length i h (zs.map (·.1)) (fun h => by rw [List.length_map]; omega)
    exact ⟨m, zs, A', c', F', i, h, S3, hz4, hi9, hm⟩
  have ST := Lib.hid st
  clear S S2 S3 st hx
  clear hi9 hz4
  go_loopw [] (fun wr => ∃ m, RHalf w0 g6 gc r1 r2 lv hi ri ow_ A n c wr m) (fun wr => leastM (RHalf w0 g6 gc r1 r2 lv hi ri ow_ A n c wr))
  case atStart => exact ST.out
  case round =>
    clear ST
    have hle := leastM_is hrel
    generalize hM : leastM (RHalf w0 g6 gc r1 r2 lv hi ri ow_ A n c wr) = M at *
    have HM := Lib.hid hM
    clear hM hrel
    obtain ⟨zs, A', c', F', i, h, S1, hz4, hi9, hB⟩ := hle
    have S := Lib.hid S1
    have BD := Lib.hid hB
    have HI := Lib.hid hi9
    clear S1 hB hi9
    obtain ⟨w, rfl⟩ : ∃ w, w = wr := ⟨_, rfl⟩
    by_cases hlt : zs.length < 4
    · have gt : decide ((zs.length : Int) < 4) = true := by simp; omega
      go_wp2_with (first
          | go_skip
          | (refine wpList_op rfl (op_get 24 _ rfl S.out 0 rfl _ rfl Try.isAgg24 _ rfl ?_)))
      refine wp_region_ev (by kernel_rfl) _ (by kernel_rfl) (by kernel_rfl) 49 rfl (by kernel_rfl) (fun D V w => ∃ k9 : Int, ∃ i1 : Nat, ∃ v1 : Int, ∃ i2 : Nat, ∃ A3 : Option Addr, ∃ c3 : Nat, ∃ F3 : FP, Sep noX w0 [cnd (D 9) (bx g6 #[.int .i64 lv, .slice A' zs.length c', .int .i64 hi, .int .i64 ri, .int .i64 ow_] 26) (bx g6 #[.int .i64 lv, .slice A3 (insL zs k9 v1).length c3, .int .i64 hi, .int .i64 ri, .int .i64 ow_] 26), cnd (D 3) (bx gc (curC A n c i h) 72) (cnd (D 5) (bx gc (curC A n c i1 (stepH h)) 72) (bx gc (curC A n c i2 (stepH (stepH h))) 72)), bx r2 #[.int .i64 0, .int .i64 0] 28, bx r1 #[.int .i64 0, .slice none 0 0, .int .i64 0, .int .i64 0, .int .i64 0] 26, ow (.slice A' zs.length c') zs F', cnd (D 7) em (ow (.slice A3 (insL zs k9 v1).length c3) (insL zs k9 v1) F3)] w ∧ (D 0 = true → V 0 = .pointer (some ⟨g6, 1, none⟩)) ∧ (D 1 = true → V 1 = .slice A' zs.length c') ∧ (D 2 = true → V 2 = .pointer (some ⟨gc, 0, none⟩)) ∧ (D 3 = true → V 3 = .int .i64 k9) ∧ (D 4 = true → V 4 = .pointer (some ⟨gc, 0, none⟩)) ∧ (D 5 = true → V 5 = .int .i64 v1) ∧ (D 6 = true → V 6 = .agg #[.int .i64 k9, .int .i64 v1]) ∧ (D 7 = true → V 7 = .slice A3 (insL zs k9 v1).length c3) ∧ (D 8 = true → V 8 = .pointer (some ⟨g6, 1, none⟩)) ∧ (D 5 = true → D 3 = true) ∧ (D 6 = true → D 3 = true) ∧ (D 6 = true → D 5 = true) ∧ (D 7 = true → D 1 = true) ∧ (D 7 = true → D 3 = true) ∧ (D 7 = true → D 5 = true) ∧ (D 9 = true → D 1 = true) ∧ (D 9 = true → D 3 = true) ∧ (D 9 = true → D 5 = true) ∧ (D 9 = true → D 7 = true) ∧ (D 3 = true → i1 ≤ n ∧ (i < n → i < i1) ∧ (i = n → i1 = n ∧ k9 = keyH h)) ∧ (D 5 = true → i2 ≤ n ∧ (i1 < n → i1 < i2) ∧ (i1 = n → i2 = n))) ?_ ?_ ?_
      · intro D hD
        have d3 := hD 3 (by decide)
        have d7 := hD 7 (by decide)
        have d9 := hD 9 (by decide)
        exact ⟨0, 0, 0, 0, none, 0, fun _ => False, by simp only [cnd_f d3, cnd_f d7, cnd_f d9]; exact S.out.drew.ems 1, (fun h => absurd h (by rw [hD 0 (by decide)]; exact Bool.false_ne_true)), (fun h => absurd h (by rw [hD 1 (by decide)]; exact Bool.false_ne_true)), (fun h => absurd h (by rw [hD 2 (by decide)]; exact Bool.false_ne_true)), (fun h => absurd h (by rw [hD 3 (by decide)]; exact Bool.false_ne_true)), (fun h => absurd h (by rw [hD 4 (by decide)]; exact Bool.false_ne_true)), (fun h => absurd h (by rw [hD 5 (by decide)]; exact Bool.false_ne_true)), (fun h => absurd h (by rw [hD 6 (by decide)]; exact Bool.false_ne_true)), (fun h => absurd h (by rw [hD 7 (by decide)]; exact Bool.false_ne_true)), (fun h => absurd h (by rw [hD 8 (by decide)]; exact Bool.false_ne_true)), (fun h => absurd h (by rw [hD 5 (by decide)]; exact Bool.false_ne_true)), (fun h => absurd h (by rw [hD 6 (by decide)]; exact Bool.false_ne_true)), (fun h => absurd h (by rw [hD 6 (by decide)]; exact Bool.false_ne_true)), (fun h => absurd h (by rw [hD 7 (by decide)]; exact Bool.false_ne_true)), (fun h => absurd h (by rw [hD 7 (by decide)]; exact Bool.false_ne_true)), (fun h => absurd h (by rw [hD 7 (by decide)]; exact Bool.false_ne_true)), (fun h => absurd h (by rw [hD 9 (by decide)]; exact Bool.false_ne_true)), (fun h => absurd h (by rw [hD 9 (by decide)]; exact Bool.false_ne_true)), (fun h => absurd h (by rw [hD 9 (by decide)]; exact Bool.false_ne_true)), (fun h => absurd h (by rw [hD 9 (by decide)]; exact Bool.false_ne_true)), (fun h => absurd h (by rw [hD 3 (by decide)]; exact Bool.false_ne_true)), (fun h => absurd h (by rw [hD 5 (by decide)]; exact Bool.false_ne_true))⟩
      · intro i o D V w a ho hI hDi haf hev
        obtain ⟨k9, i1, v1, i2, A3, c3, F3, S, f0, f1, f2, f3, f4, f5, f6, f7, f8, o5_3, o6_3, o6_5, o7_1, o7_3, o7_5, o9_1, o9_3, o9_5, o9_7, k0, k1⟩ := hI
        rcases i with _ | _ | _ | _ | _ | _ | _ | _ | _ | _ | i
        · obtain rfl := Option.some.inj (show some _ = some o from ho)
          exact op_field _ _ _ rfl ((hev.old 6 (by kernel_rfl)).trans rfl) (by kernel_rfl) ⟨_, rfl, k9, i1, v1, i2, A3, c3, F3, S, fun _ => rfl, f1, f2, f3, f4, f5, f6, f7, f8, o5_3, o6_3, o6_5, o7_1, o7_3, o7_5, o9_1, o9_3, o9_5, o9_7, k0, k1⟩
        · obtain rfl := Option.some.inj (show some _ = some o from ho)
          have h0 : D 0 = true := by first | exact haf ⟨0, .data⟩ (by simp) rfl | exact haf ⟨0, .phase⟩ (by simp) rfl | exact haf ⟨0, .chain⟩ (by simp) rfl
          have nn : D 9 = false := by
            cases hq : D 9 with
            | false => rfl
            | true => exact absurd (o9_1 hq) (by rw [hDi]; exact Bool.false_ne_true)
          exact op_get 24 _ rfl S 0 (g := g6) (C := #[.int .i64 lv, .slice A' zs.length c', .int .i64 hi, .int .i64 ri, .int .i64 ow_]) (t := 26) (by simp only [List.getElem?_cons_zero, cnd_f nn]) 1 ((hev.new 0 _ 16 rfl rfl h0).trans (f0 h0)) Try.isAgg24 _ rfl ⟨_, rfl, k9, i1, v1, i2, A3, c3, F3, S, f0, fun _ => rfl, f2, f3, f4, f5, f6, f7, f8, o5_3, o6_3, o6_5, fun _ => rfl, o7_3, o7_5, fun _ => rfl, o9_3, o9_5, o9_7, k0, k1⟩
        · obtain rfl := Option.some.inj (show some _ = some o from ho)
          exact op_move (.inl rfl) ((hev.old 5 (by kernel_rfl)).trans rfl) ⟨_, rfl, k9, i1, v1, i2, A3, c3, F3, S, f0, f1, fun _ => rfl, f3, f4, f5, f6, f7, f8, o5_3, o6_3, o6_5, o7_1, o7_3, o7_5, o9_1, o9_3, o9_5, o9_7, k0, k1⟩
        · obtain rfl := Option.some.inj (show some _ = some o from ho)
          have h2 : D 2 = true := by first | exact haf ⟨2, .data⟩ (by simp) rfl | exact haf ⟨2, .phase⟩ (by simp) rfl | exact haf ⟨2, .chain⟩ (by simp) rfl
          have ns9 : D 9 = false := by
            cases hq : D 9 with
            | false => rfl
            | true => exact absurd (o9_3 hq) (by rw [hDi]; exact Bool.false_ne_true)
          have hx0 := ((hev.new 2 _ 18 rfl rfl h2).trans (f2 h2))
          have cc := S.get 1 (I := bx gc (curC A n c i h) 72) (by simp only [List.getElem?_cons_succ, List.getElem?_cons_zero, cnd_f hDi])
          have by9 := S.bys (g := gc) 1 (I := bx gc (curC A n c i h) 72) (by simp only [List.getElem?_cons_succ, List.getElem?_cons_zero, cnd_f hDi]) rfl HB.out
          refine op_call _ _ _ rfl (enters_of Try.func25 (by kernel_rfl) rfl) #[.pointer (some ⟨gc, 0, none⟩), .int .i64 20] (by simp [hx0, eval_const]) (belowX_any gc A n c i h 20 w cc HI.out HN.out by9 (by omega) (by omega)) (fun e w2 hh => ?_)
          obtain ⟨r9, i9, rfl, p0, p1, p2, p3, p4, p5, p6⟩ := hh
          have S2 := S.turn 1 (I := bx gc (curC A n c i h) 72) (by simp only [List.getElem?_cons_succ, List.getElem?_cons_zero, cnd_f hDi]) (Only.of_grown p6 (fun k hk => (show gc = k by simpa using hk).symm)) (bx gc (curC A n c i9 (stepH h)) 72) p5 (fun k hk => ⟨.inl hk, by rw [show k = gc from hk]; exact row_lt p5⟩)
          have nn7 : D 7 = false := by
            cases hq : D 7 with
            | false => rfl
            | true => exact absurd (o7_3 hq) (by rw [hDi]; exact Bool.false_ne_true)
          have nn5 : D 5 = false := by
            cases hq : D 5 with
            | false => rfl
            | true => exact absurd (o5_3 hq) (by rw [hDi]; exact Bool.false_ne_true)
          exact ⟨_, rfl, ⟨_, rfl, r9, i9, v1, i2, A3, c3, F3, (by have SS := S2; rw [cnd_f ns9, cnd_f nn7] at SS; rw [show updB D 3 9 = false from ns9, show updB D 3 7 = false from nn7, show updB D 3 5 = false from nn5]; exact SS), f0, f1, f2, fun _ => rfl, f4, f5, (fun h => absurd (o6_3 h) (by rw [hDi]; exact Bool.false_ne_true)), (fun h => absurd (o7_3 h) (by rw [hDi]; exact Bool.false_ne_true)), f8, fun _ => rfl, fun _ => rfl, o6_5, o7_1, fun _ => rfl, o7_5, o9_1, fun _ => rfl, o9_5, o9_7, (fun _ => ⟨p2, p3, fun h0 => ⟨(p4 h0).1, (p4 h0).2⟩⟩), (fun h => absurd h (by rw [show updB D 3 5 = false from nn5]; exact Bool.false_ne_true))⟩⟩
        · obtain rfl := Option.some.inj (show some _ = some o from ho)
          exact op_move (.inl rfl) ((hev.old 5 (by kernel_rfl)).trans rfl) ⟨_, rfl, k9, i1, v1, i2, A3, c3, F3, S, f0, f1, f2, f3, fun _ => rfl, f5, f6, f7, f8, o5_3, o6_3, o6_5, o7_1, o7_3, o7_5, o9_1, o9_3, o9_5, o9_7, k0, k1⟩
        · obtain rfl := Option.some.inj (show some _ = some o from ho)
          have h4 : D 4 = true := by first | exact haf ⟨4, .data⟩ (by simp) rfl | exact haf ⟨4, .phase⟩ (by simp) rfl | exact haf ⟨4, .chain⟩ (by simp) rfl
          have h3 : D 3 = true := haf ⟨3, .chain⟩ (by simp) rfl
          have ns9 : D 9 = false := by
            cases hq : D 9 with
            | false => rfl
            | true => exact absurd (o9_5 hq) (by rw [hDi]; exact Bool.false_ne_true)
          have hx0 := ((hev.new 4 _ 20 rfl rfl h4).trans (f4 h4))
          have cc := S.get 1 (I := bx gc (curC A n c i1 (stepH h)) 72) (by simp only [List.getElem?_cons_succ, List.getElem?_cons_zero, cnd_t h3, cnd_f hDi])
          have by9 := S.bys (g := gc) 1 (I := bx gc (curC A n c i1 (stepH h)) 72) (by simp only [List.getElem?_cons_succ, List.getElem?_cons_zero, cnd_t h3, cnd_f hDi]) rfl HB.out
          refine op_call _ _ _ rfl (enters_of Try.func25 (by kernel_rfl) rfl) #[.pointer (some ⟨gc, 0, none⟩), .int .i64 9] (by simp [hx0, eval_const]) (belowX_any gc A n c i1 (stepH h) 9 w cc (k0 h3).1 HN.out by9 (by omega) (by omega)) (fun e w2 hh => ?_)
          obtain ⟨r9, i9, rfl, p0, p1, p2, p3, p4, p5, p6⟩ := hh
          have S2 := S.turn 1 (I := bx gc (curC A n c i1 (stepH h)) 72) (by simp only [List.getElem?_cons_succ, List.getElem?_cons_zero, cnd_t h3, cnd_f hDi]) (Only.of_grown p6 (fun k hk => (show gc = k by simpa using hk).symm)) (bx gc (curC A n c i9 (stepH (stepH h))) 72) p5 (fun k hk => ⟨.inl hk, by rw [show k = gc from hk]; exact row_lt p5⟩)
          have nn7 : D 7 = false := by
            cases hq : D 7 with
            | false => rfl
            | true => exact absurd (o7_5 hq) (by rw [hDi]; exact Bool.false_ne_true)
          exact ⟨_, rfl, ⟨_, rfl, k9, i1, r9, i9, A3, c3, F3, (by have SS := S2; rw [cnd_f ns9, cnd_f nn7] at SS; rw [show updB D 5 9 = false from ns9, show updB D 5 7 = false from nn7, show updB D 5 3 = true from h3]; exact SS), f0, f1, f2, f3, f4, fun _ => rfl, (fun h => absurd (o6_5 h) (by rw [hDi]; exact Bool.false_ne_true)), (fun h => absurd (o7_5 h) (by rw [hDi]; exact Bool.false_ne_true)), f8, fun _ => h3, o6_3, fun _ => rfl, o7_1, o7_3, fun _ => rfl, o9_1, o9_3, fun _ => rfl, o9_7, k0, (fun _ => ⟨p2, p3, fun h0 => (p4 h0).1⟩)⟩⟩
        · obtain rfl := Option.some.inj (show some _ = some o from ho)
          have h3 : D 3 = true := by first | exact haf ⟨3, .data⟩ (by simp) rfl | exact haf ⟨3, .phase⟩ (by simp) rfl | exact haf ⟨3, .chain⟩ (by simp) rfl
          have h5 : D 5 = true := by first | exact haf ⟨5, .data⟩ (by simp) rfl | exact haf ⟨5, .phase⟩ (by simp) rfl | exact haf ⟨5, .chain⟩ (by simp) rfl
          have hx0 := ((hev.new 3 _ 19 rfl rfl h3).trans (f3 h3))
          have hx1 := ((hev.new 5 _ 21 rfl rfl h5).trans (f5 h5))
          exact op_build _ _ rfl [(0, .int .i64 k9), (1, .int .i64 v1)] (by simp [hx0, hx1]) _ (by kernel_rfl) ⟨_, rfl, k9, i1, v1, i2, A3, c3, F3, S, f0, f1, f2, f3, f4, f5, fun _ => rfl, f7, f8, o5_3, fun _ => h3, fun _ => h5, o7_1, o7_3, o7_5, o9_1, o9_3, o9_5, o9_7, k0, k1⟩
        · obtain rfl := Option.some.inj (show some _ = some o from ho)
          have h1 : D 1 = true := by first | exact haf ⟨1, .data⟩ (by simp) rfl | exact haf ⟨1, .phase⟩ (by simp) rfl | exact haf ⟨1, .chain⟩ (by simp) rfl
          have h6 : D 6 = true := by first | exact haf ⟨6, .data⟩ (by simp) rfl | exact haf ⟨6, .phase⟩ (by simp) rfl | exact haf ⟨6, .chain⟩ (by simp) rfl
          have h3 : D 3 = true := o6_3 h6
          have h5 : D 5 = true := o6_5 h6
          have ns9 : D 9 = false := by
            cases hq : D 9 with
            | false => rfl
            | true => exact absurd (o9_7 hq) (by rw [hDi]; exact Bool.false_ne_true)
          have hx0 := ((hev.new 1 _ 17 rfl rfl h1).trans (f1 h1))
          have hx1 := ((hev.new 6 _ 22 rfl rfl h6).trans (f6 h6))
          have oo := S.get 4 (I := ow (.slice A' zs.length c') zs F') rfl
          refine op_call _ _ _ rfl (enters_of Try.func24 (by kernel_rfl) rfl) #[.slice A' zs.length c', .agg #[.int .i64 k9, .int .i64 v1]] (by simp [hx0, hx1]) (sPut_any A' zs.length c' zs k9 v1 w (OwnS.rs oo rfl).pairs (by omega) (OwnS.cap oo).1 (OwnS.cap oo).2) (fun e w2 hh => ?_)
          obtain ⟨A9, c9, rfl, own, bb⟩ := own_form hh
          have S2 := S.turn 5 (I := em) (by simp only [List.getElem?_cons_succ, List.getElem?_cons_zero, cnd_f hDi]) (Only.of_below bb) (ow (.slice A9 (insL zs k9 v1).length c9) (insL zs k9 v1) (blkF (Value.slice A9 (insL zs k9 v1).length c9).ownBlock)) (OwnS.of_pairs own (F := blkF _) (fun k hk => hk)) (fun k hk => by have := fresh_blk own (Nat.le_refl _) k hk; exact ⟨.inr this.1, this.2⟩)
          exact ⟨_, rfl, ⟨_, rfl, k9, i1, v1, i2, A9, c9, (blkF (Value.slice A9 (insL zs k9 v1).length c9).ownBlock), (by have SS := S2; rw [cnd_f ns9] at SS; rw [show updB D 7 9 = false from ns9]; exact SS), f0, f1, f2, f3, f4, f5, f6, fun _ => rfl, f8, o5_3, o6_3, o6_5, fun _ => h1, fun _ => h3, fun _ => h5, o9_1, o9_3, o9_5, fun _ => rfl, k0, k1⟩⟩
        · obtain rfl := Option.some.inj (show some _ = some o from ho)
          exact op_field _ _ _ rfl ((hev.old 6 (by kernel_rfl)).trans rfl) (by kernel_rfl) ⟨_, rfl, k9, i1, v1, i2, A3, c3, F3, S, f0, f1, f2, f3, f4, f5, f6, f7, fun _ => rfl, o5_3, o6_3, o6_5, o7_1, o7_3, o7_5, o9_1, o9_3, o9_5, o9_7, k0, k1⟩
        · obtain rfl := Option.some.inj (show some _ = some o from ho)
          have h8 : D 8 = true := by first | exact haf ⟨8, .data⟩ (by simp) rfl | exact haf ⟨8, .phase⟩ (by simp) rfl | exact haf ⟨8, .chain⟩ (by simp) rfl
          have h7 : D 7 = true := by first | exact haf ⟨7, .data⟩ (by simp) rfl | exact haf ⟨7, .phase⟩ (by simp) rfl | exact haf ⟨7, .chain⟩ (by simp) rfl
          have h1 : D 1 = true := o7_1 h7
          have h3 : D 3 = true := o7_3 h7
          have h5 : D 5 = true := o7_5 h7
          exact op_put1 24 _ _ rfl S 0 (g := g6) (C := #[.int .i64 lv, .slice A' zs.length c', .int .i64 hi, .int .i64 ri, .int .i64 ow_]) (t := 26) (by simp only [List.getElem?_cons_zero, cnd_f hDi]) 1 ((hev.new 8 _ 24 rfl rfl h8).trans (f8 h8)) _ ((hev.new 7 _ 23 rfl rfl h7).trans (f7 h7)) rfl (by kernel_rfl) (of_decide_eq_true rfl) (fun w S => ⟨_, rfl, k9, i1, v1, i2, A3, c3, F3, S, f0, f1, f2, f3, f4, f5, f6, f7, f8, o5_3, o6_3, o6_5, o7_1, o7_3, o7_5, fun _ => h1, fun _ => h3, fun _ => h5, fun _ => h7, k0, k1⟩)
        · exact absurd ho (by simp)
      intro V w hI
      obtain ⟨k9, i1, v1, i2, A3, c3, F3, S, f0, f1, f2, f3, f4, f5, f6, f7, f8, o5_3, o6_3, o6_5, o7_1, o7_3, o7_5, o9_1, o9_3, o9_5, o9_7, k0, k1⟩ := hI
      replace f0 := f0 rfl
      replace f1 := f1 rfl
      replace f2 := f2 rfl
      replace f3 := f3 rfl
      replace f4 := f4 rfl
      replace f5 := f5 rfl
      replace f6 := f6 rfl
      replace f7 := f7 rfl
      replace f8 := f8 rfl
      replace S : Hid (Sep noX w0 [bx g6 #[.int .i64 lv, .slice A3 (insL zs k9 v1).length c3, .int .i64 hi, .int .i64 ri, .int .i64 ow_] 26, bx gc (curC A n c i2 (stepH (stepH h))) 72, bx r2 #[.int .i64 0, .int .i64 0] 28, bx r1 #[.int .i64 0, .slice none 0 0, .int .i64 0, .int .i64 0, .int .i64 0] 26, ow (.slice A' zs.length c') zs F', ow (.slice A3 (insL zs k9 v1).length c3) (insL zs k9 v1) F3] w) := Lib.hid S
      simp only [putF, Act.put, List.setIfInBounds_toArray, List.set_cons_succ, List.set_cons_zero, f0, f1, f2, f3, f4, f5, f6, f7, f8]
      clear f0 f1 f2 f3 f4 f5 f6 f7 f8 o5_3 o6_3 o6_5 o7_1 o7_3 o7_5 o9_1 o9_3 o9_5 o9_7
      have S4 : Sep noX w0 [bx g6 #[.int .i64 lv, .slice A3 (insL zs k9 v1).length c3, .int .i64 hi, .int .i64 ri, .int .i64 ow_] 26, bx gc (curC A n c i2 (stepH (stepH h))) 72, bx r2 #[.int .i64 0, .int .i64 0] 28, bx r1 #[.int .i64 0, .slice none 0 0, .int .i64 0, .int .i64 0, .int .i64 0] 26, ow (.slice A3 (insL zs k9 v1).length c3) (insL zs k9 v1) F3] w := S.out.drop (List.Sublist.cons_cons _ (List.Sublist.cons_cons _ (List.Sublist.cons_cons _ (List.Sublist.cons_cons _ (List.Sublist.cons _ (List.Sublist.refl _))))))
      obtain ⟨q1, q2, q3⟩ := k0 rfl
      obtain ⟨q4, q5, q6⟩ := k1 rfl
      have nx : ∃ m', m' < M ∧ RHalf w0 g6 gc r1 r2 lv hi ri ow_ A n c w m' := by
        have hI := HI.out
        cases hh : hitB zs k9
        · have hl : (insL zs k9 v1).length = zs.length + 1 := by rw [insL_length, hh]; rfl
          obtain ⟨m', h1, h2⟩ := BD.out.more (i' := i2) (h' := stepH (stepH h)) (K' := (insL zs k9 v1).map (·.1)) HN.out hlt (by rw [List.length_map]; omega)
          exact ⟨m', h1, insL zs k9 v1, A3, c3, F3, i2, stepH (stepH h), S4, by omega, q4, by rw [hl]; exact h2⟩
        · obtain ⟨h3, h4⟩ := insL_keys_hit zs k9 v1 hh
          have hl : (insL zs k9 v1).length = zs.length := by have := congrArg List.length h3; simpa using this
          obtain ⟨m', h1, h2⟩ := BD.out.same (i' := i2) (r := k9) hlt (by rw [List.length_map]; omega) hI q4 (fun h0 => by have := q2 h0; omega) (fun h0 => q6 (q3 h0).1) (fun h0 => (q3 h0).2) h4
          exact ⟨m', h1, insL zs k9 v1, A3, c3, F3, i2, stepH (stepH h), S4, by omega, q4, by rw [hl, h3]; exact h2⟩
      clear S S4 k0 k1 q1 q2 q3 q4 q5 q6
      have NX := Lib.hid nx
      clear nx
      go_roundw
      case rel =>
        obtain ⟨m', _, h2⟩ := NX.out
        exact ⟨_, _, _, _, _, _, _, _, _, _, _, _, _, ⟨m', h2⟩, rfl⟩
      case measure =>
        obtain ⟨m', h1, h2⟩ := NX.out
        exact Nat.lt_of_le_of_lt (leastM_le h2) h1
    · have gt : decide ((zs.length : Int) < 4) = false := by simp; omega
      replace S : Hid (Sep noX w0 [bx g6 #[.int .i64 lv, .slice A' zs.length c', .int .i64 hi, .int .i64 ri, .int .i64 ow_] 26, cuI gc A n c, bx r2 #[.int .i64 0, .int .i64 0] 28, bx r1 #[.int .i64 0, .slice none 0 0, .int .i64 0, .int .i64 0, .int .i64 0] 26, ow (.slice A' zs.length c') zs F'] w) := Lib.hid (S.out.recast 1 rfl (cuI gc A n c) ⟨i, h, S.out.get 1 rfl, HI.out⟩ (fun k hk => hk))
      have H41 : Hid (zs.length ≤ 41) := Lib.hid (by omega)
      clear BD HI hz4 hlt HM
      go_wp2_with (first
          | go_skip
          | (refine wpList_op rfl (op_get 24 _ rfl S.out 0 rfl _ rfl Try.isAgg24 _ rfl ?_)))
      refine (once_any gc A n c _ _ (S.out.curA 1 rfl HB.out HN.out)).mono ?_
      rintro e w9 ⟨b1, rfl, hc9, hg9⟩
      replace S := Lib.hid (S.out.drawnA 1 rfl hc9 hg9)
      clear hc9 hg9
      cases b1
      · go_wp2_with fail
        refine (below_any gc A n c 26 _ (S.out.curA 1 rfl HB.out HN.out)).mono ?_
        rintro e w9 ⟨pk, rfl, _, hc9, hg9⟩
        replace S := Lib.hid (S.out.drawnA 1 rfl hc9 hg9)
        clear hc9 hg9
        go_wp2_with fail
        refine (below_any gc A n c 9 _ (S.out.curA 1 rfl HB.out HN.out)).mono ?_
        rintro e w9 ⟨pv, rfl, _, hc9, hg9⟩
        replace S := Lib.hid (S.out.drawnA 1 rfl hc9 hg9)
        clear hc9 hg9
        have tokP : True := trivial
        go_wp2_with (first
            | go_skip
            | (have _t := tokP; clear _t; refine wpList_op rfl (op_nx 28 rfl S.out _ Try.zeroValue28 ?_); clear S tokP; intro g7 w S; replace S := Lib.hid S)
            | (refine wpList_op rfl (op_putR_0 28 _ _ rfl S rfl _ rfl rfl (by kernel_rfl) rfl ?_); clear S; intro w S))
        refine (once_any gc A n c _ _ (S.out.curA 2 rfl HB.out HN.out)).mono ?_
        rintro e w9 ⟨b2, rfl, hc9, hg9⟩
        replace S := Lib.hid (S.out.drawnA 2 rfl hc9 hg9)
        clear hc9 hg9
        cases b2
        · go_wp2_with fail
          refine (once_any gc A n c _ _ (S.out.curA 2 rfl HB.out HN.out)).mono ?_
          rintro e w9 ⟨b3, rfl, hc9, hg9⟩
          replace S := Lib.hid (S.out.drawnA 2 rfl hc9 hg9)
          clear hc9 hg9
          cases b3
          · go_wp2_with fail
            refine wp_region_ev (by kernel_rfl) _ (by kernel_rfl) (by kernel_rfl) 49 rfl (by kernel_rfl) (fun D V w => ∃ z9 : Int, Sep noX w0 [bx g7 #[.int .i64 pk, .int .i64 pv] 28, bx g6 #[.int .i64 lv, .slice A' zs.length c', .int .i64 hi, .int .i64 ri, .int .i64 ow_] 26, cuI gc A n c, cnd (D 5) (bx r2 #[.int .i64 0, .int .i64 0] 28) (bx r2 #[.int .i64 pk, .int .i64 pv] 28), cnd (D 4) (bx r1 #[.int .i64 0, .slice none 0 0, .int .i64 0, .int .i64 0, .int .i64 0] 26) (bx r1 #[.int .i64 lv, .slice A' zs.length c', .int .i64 hi, .int .i64 ri, .int .i64 ow_] 26), ow (.slice A' zs.length c') zs F'] w ∧ (D 0 = true → V 0 = .agg #[.int .i64 lv, .slice A' zs.length c', .int .i64 hi, .int .i64 ri, .int .i64 ow_]) ∧ (D 1 = true → V 1 = .agg #[.int .i64 pk, .int .i64 pv]) ∧ (D 2 = true → V 2 = .pointer (some ⟨gc, 0, none⟩)) ∧ (D 3 = true → V 3 = .int .i64 z9) ∧ (D 6 = true → V 6 = .int .i64 z9) ∧ (D 6 = true → D 3 = true)) ?_ ?_ ?_
            · intro D hD
              have d4 := hD 4 (by decide)
              have d5 := hD 5 (by decide)
              exact ⟨0, by rw [cnd_f d5, cnd_f d4]; exact S.out.drew.ems 0, (fun h => absurd h (by rw [hD 0 (by decide)]; exact Bool.false_ne_true)), (fun h => absurd h (by rw [hD 1 (by decide)]; exact Bool.false_ne_true)), (fun h => absurd h (by rw [hD 2 (by decide)]; exact Bool.false_ne_true)), (fun h => absurd h (by rw [hD 3 (by decide)]; exact Bool.false_ne_true)), (fun h => absurd h (by rw [hD 6 (by decide)]; exact Bool.false_ne_true)), (fun h => absurd h (by rw [hD 6 (by decide)]; exact Bool.false_ne_true))⟩
            · intro i o D V w a ho hI hDi haf hev
              obtain ⟨z9, S, f0, f1, f2, f3, f6, o6_3⟩ := hI
              rcases i with _ | _ | _ | _ | _ | _ | _ | i
              · obtain rfl := Option.some.inj (show some _ = some o from ho)
                exact op_row 26 _ rfl S 1 rfl ((hev.old 6 (by kernel_rfl)).trans rfl) Try.isAgg26 (by kernel_rfl) ⟨_, rfl, z9, S, fun _ => rfl, f1, f2, f3, f6, o6_3⟩
              · obtain rfl := Option.some.inj (show some _ = some o from ho)
                exact op_row 28 _ rfl S 0 rfl ((hev.old 7 (by kernel_rfl)).trans rfl) Try.isAgg28 (by kernel_rfl) ⟨_, rfl, z9, S, f0, fun _ => rfl, f2, f3, f6, o6_3⟩
              · obtain rfl := Option.some.inj (show some _ = some o from ho)
                exact op_move (.inl rfl) ((hev.old 5 (by kernel_rfl)).trans rfl) ⟨_, rfl, z9, S, f0, f1, fun _ => rfl, f3, f6, o6_3⟩
              · obtain rfl := Option.some.inj (show some _ = some o from ho)
                have h2 : D 2 = true := by first | exact haf ⟨2, .data⟩ (by simp) rfl | exact haf ⟨2, .phase⟩ (by simp) rfl | exact haf ⟨2, .chain⟩ (by simp) rfl
                have hx0 := ((hev.new 2 _ 47 rfl rfl h2).trans (f2 h2))
                refine op_call _ _ _ rfl (enters_of Try.func25 (by kernel_rfl) rfl) #[.pointer (some ⟨gc, 0, none⟩), .int .i64 9] (by simp [hx0, eval_const]) (below_any gc A n c 9 w (S.curA 2 rfl HB.out HN.out)) (fun e w2 hh => ?_)
                obtain ⟨z, rfl, _, hc9, hg9⟩ := hh
                have S2 := S.drawnA 2 rfl hc9 hg9
                exact ⟨_, rfl, ⟨_, rfl, z, S2, f0, f1, f2, fun _ => rfl, (fun h => absurd (o6_3 h) (by rw [hDi]; exact Bool.false_ne_true)), fun _ => rfl⟩⟩
              · obtain rfl := Option.some.inj (show some _ = some o from ho)
                have h0 : D 0 = true := by first | exact haf ⟨0, .data⟩ (by simp) rfl | exact haf ⟨0, .phase⟩ (by simp) rfl | exact haf ⟨0, .chain⟩ (by simp) rfl
                exact op_putR 26 _ _ rfl S 4 (g := r1) (C := #[.int .i64 0, .slice none 0 0, .int .i64 0, .int .i64 0, .int .i64 0]) (t := 26) (by simp only [List.getElem?_cons_succ, List.getElem?_cons_zero, cnd_f hDi]) ((hev.old 2 (by kernel_rfl)).trans rfl) _ ((hev.new 0 _ 45 rfl rfl h0).trans (f0 h0)) rfl (by kernel_rfl) rfl (fun w S => ⟨_, rfl, z9, S, f0, f1, f2, f3, f6, o6_3⟩)
              · obtain rfl := Option.some.inj (show some _ = some o from ho)
                have h1 : D 1 = true := by first | exact haf ⟨1, .data⟩ (by simp) rfl | exact haf ⟨1, .phase⟩ (by simp) rfl | exact haf ⟨1, .chain⟩ (by simp) rfl
                exact op_putR 28 _ _ rfl S 3 (g := r2) (C := #[.int .i64 0, .int .i64 0]) (t := 28) (by simp only [List.getElem?_cons_succ, List.getElem?_cons_zero, cnd_f hDi]) ((hev.old 3 (by kernel_rfl)).trans rfl) _ ((hev.new 1 _ 46 rfl rfl h1).trans (f1 h1)) rfl (by kernel_rfl) rfl (fun w S => ⟨_, rfl, z9, S, f0, f1, f2, f3, f6, o6_3⟩)
              · obtain rfl := Option.some.inj (show some _ = some o from ho)
                have h3 : D 3 = true := by first | exact haf ⟨3, .data⟩ (by simp) rfl | exact haf ⟨3, .phase⟩ (by simp) rfl | exact haf ⟨3, .chain⟩ (by simp) rfl
                exact op_move (.inr rfl) ((hev.new 3 _ 48 rfl rfl h3).trans (f3 h3)) ⟨_, rfl, z9, S, f0, f1, f2, f3, fun _ => rfl, fun _ => h3⟩
              · exact absurd ho (by simp)
            intro V w hI
            obtain ⟨z9, S, f0, f1, f2, f3, f6, o6_3⟩ := hI
            replace f0 := f0 rfl
            replace f1 := f1 rfl
            replace f2 := f2 rfl
            replace f3 := f3 rfl
            replace f6 := f6 rfl
            replace S : Hid (Sep noX w0 [bx g7 #[.int .i64 pk, .int .i64 pv] 28, bx g6 #[.int .i64 lv, .slice A' zs.length c', .int .i64 hi, .int .i64 ri, .int .i64 ow_] 26, cuI gc A n c, bx r2 #[.int .i64 pk, .int .i64 pv] 28, bx r1 #[.int .i64 lv, .slice A' zs.length c', .int .i64 hi, .int .i64 ri, .int .i64 ow_] 26, ow (.slice A' zs.length c') zs F'] w) := Lib.hid S
            simp only [putF, Act.put, List.setIfInBounds_toArray, List.set_cons_succ, List.set_cons_zero, f0, f1, f2, f3, f6]
            clear f0 f1 f2 f3 f6 o6_3
            go_wp2_with fail
            exact bodyPost_ret (results_ccs rfl _ S.out 4 3 rfl rfl rfl rfl Try.isAgg26 Try.isAgg28 (by kernel_rfl) (by kernel_rfl)) rfl (by exact S.out.drawnH 5 (x := ⟨lv, zs, hi, ri, ow_⟩) _ _ _ rfl rfl H41.out)
          · go_wp2_with fail
            refine wp_region_ev (by kernel_rfl) _ (by kernel_rfl) (by kernel_rfl) 49 rfl (by kernel_rfl) (fun D V w => ∃ z9 : Int, Sep noX w0 [bx g7 #[.int .i64 pk, .int .i64 pv] 28, bx g6 #[.int .i64 lv, .slice A' zs.length c', .int .i64 hi, .int .i64 ri, .int .i64 ow_] 26, cuI gc A n c, cnd (D 5) (bx r2 #[.int .i64 0, .int .i64 0] 28) (bx r2 #[.int .i64 pk, .int .i64 pv] 28), cnd (D 4) (bx r1 #[.int .i64 0, .slice none 0 0, .int .i64 0, .int .i64 0, .int .i64 0] 26) (bx r1 #[.int .i64 lv, .slice A' zs.length c', .int .i64 hi, .int .i64 ri, .int .i64 ow_] 26), ow (.slice A' zs.length c') zs F'] w ∧ (D 0 = true → V 0 = .agg #[.int .i64 lv, .slice A' zs.length c', .int .i64 hi, .int .i64 ri, .int .i64 ow_]) ∧ (D 1 = true → V 1 = .agg #[.int .i64 pk, .int .i64 pv]) ∧ (D 2 = true → V 2 = .pointer (some ⟨gc, 0, none⟩)) ∧ (D 3 = true → V 3 = .int .i64 z9) ∧ (D 6 = true → V 6 = .int .i64 z9) ∧ (D 6 = true → D 3 = true)) ?_ ?_ ?_
            · intro D hD
              have d4 := hD 4 (by decide)
              have d5 := hD 5 (by decide)
              exact ⟨0, by rw [cnd_f d5, cnd_f d4]; exact S.out.drew.ems 0, (fun h => absurd h (by rw [hD 0 (by decide)]; exact Bool.false_ne_true)), (fun h => absurd h (by rw [hD 1 (by decide)]; exact Bool.false_ne_true)), (fun h => absurd h (by rw [hD 2 (by decide)]; exact Bool.false_ne_true)), (fun h => absurd h (by rw [hD 3 (by decide)]; exact Bool.false_ne_true)), (fun h => absurd h (by rw [hD 6 (by decide)]; exact Bool.false_ne_true)), (fun h => absurd h (by rw [hD 6 (by decide)]; exact Bool.false_ne_true))⟩
            · intro i o D V w a ho hI hDi haf hev
              obtain ⟨z9, S, f0, f1, f2, f3, f6, o6_3⟩ := hI
              rcases i with _ | _ | _ | _ | _ | _ | _ | i
              · obtain rfl := Option.some.inj (show some _ = some o from ho)
                exact op_row 26 _ rfl S 1 rfl ((hev.old 6 (by kernel_rfl)).trans rfl) Try.isAgg26 (by kernel_rfl) ⟨_, rfl, z9, S, fun _ => rfl, f1, f2, f3, f6, o6_3⟩
              · obtain rfl := Option.some.inj (show some _ = some o from ho)
                exact op_row 28 _ rfl S 0 rfl ((hev.old 7 (by kernel_rfl)).trans rfl) Try.isAgg28 (by kernel_rfl) ⟨_, rfl, z9, S, f0, fun _ => rfl, f2, f3, f6, o6_3⟩
              · obtain rfl := Option.some.inj (show some _ = some o from ho)
                exact op_move (.inl rfl) ((hev.old 5 (by kernel_rfl)).trans rfl) ⟨_, rfl, z9, S, f0, f1, fun _ => rfl, f3, f6, o6_3⟩
              · obtain rfl := Option.some.inj (show some _ = some o from ho)
                have h2 : D 2 = true := by first | exact haf ⟨2, .data⟩ (by simp) rfl | exact haf ⟨2, .phase⟩ (by simp) rfl | exact haf ⟨2, .chain⟩ (by simp) rfl
                have hx0 := ((hev.new 2 _ 43 rfl rfl h2).trans (f2 h2))
                refine op_call _ _ _ rfl (enters_of Try.func28 (by kernel_rfl) rfl) #[.pointer (some ⟨gc, 0, none⟩), .int .i64 39] (by simp [hx0, eval_const]) (num_any gc A n c 39 w (S.curA 2 rfl HB.out HN.out) (by omega) (by omega)) (fun e w2 hh => ?_)
                obtain ⟨z, rfl, _, hc9, hg9⟩ := hh
                have S2 := S.drawnA 2 rfl hc9 hg9
                exact ⟨_, rfl, ⟨_, rfl, z, S2, f0, f1, f2, fun _ => rfl, (fun h => absurd (o6_3 h) (by rw [hDi]; exact Bool.false_ne_true)), fun _ => rfl⟩⟩
              · obtain rfl := Option.some.inj (show some _ = some o from ho)
                have h0 : D 0 = true := by first | exact haf ⟨0, .data⟩ (by simp) rfl | exact haf ⟨0, .phase⟩ (by simp) rfl | exact haf ⟨0, .chain⟩ (by simp) rfl
                exact op_putR 26 _ _ rfl S 4 (g := r1) (C := #[.int .i64 0, .slice none 0 0, .int .i64 0, .int .i64 0, .int .i64 0]) (t := 26) (by simp only [List.getElem?_cons_succ, List.getElem?_cons_zero, cnd_f hDi]) ((hev.old 2 (by kernel_rfl)).trans rfl) _ ((hev.new 0 _ 41 rfl rfl h0).trans (f0 h0)) rfl (by kernel_rfl) rfl (fun w S => ⟨_, rfl, z9, S, f0, f1, f2, f3, f6, o6_3⟩)
              · obtain rfl := Option.some.inj (show some _ = some o from ho)
                have h1 : D 1 = true := by first | exact haf ⟨1, .data⟩ (by simp) rfl | exact haf ⟨1, .phase⟩ (by simp) rfl | exact haf ⟨1, .chain⟩ (by simp) rfl
                exact op_putR 28 _ _ rfl S 3 (g := r2) (C := #[.int .i64 0, .int .i64 0]) (t := 28) (by simp only [List.getElem?_cons_succ, List.getElem?_cons_zero, cnd_f hDi]) ((hev.old 3 (by kernel_rfl)).trans rfl) _ ((hev.new 1 _ 42 rfl rfl h1).trans (f1 h1)) rfl (by kernel_rfl) rfl (fun w S => ⟨_, rfl, z9, S, f0, f1, f2, f3, f6, o6_3⟩)
              · obtain rfl := Option.some.inj (show some _ = some o from ho)
                have h3 : D 3 = true := by first | exact haf ⟨3, .data⟩ (by simp) rfl | exact haf ⟨3, .phase⟩ (by simp) rfl | exact haf ⟨3, .chain⟩ (by simp) rfl
                exact op_move (.inr rfl) ((hev.new 3 _ 44 rfl rfl h3).trans (f3 h3)) ⟨_, rfl, z9, S, f0, f1, f2, f3, fun _ => rfl, fun _ => h3⟩
              · exact absurd ho (by simp)
            intro V w hI
            obtain ⟨z9, S, f0, f1, f2, f3, f6, o6_3⟩ := hI
            replace f0 := f0 rfl
            replace f1 := f1 rfl
            replace f2 := f2 rfl
            replace f3 := f3 rfl
            replace f6 := f6 rfl
            replace S : Hid (Sep noX w0 [bx g7 #[.int .i64 pk, .int .i64 pv] 28, bx g6 #[.int .i64 lv, .slice A' zs.length c', .int .i64 hi, .int .i64 ri, .int .i64 ow_] 26, cuI gc A n c, bx r2 #[.int .i64 pk, .int .i64 pv] 28, bx r1 #[.int .i64 lv, .slice A' zs.length c', .int .i64 hi, .int .i64 ri, .int .i64 ow_] 26, ow (.slice A' zs.length c') zs F'] w) := Lib.hid S
            simp only [putF, Act.put, List.setIfInBounds_toArray, List.set_cons_succ, List.set_cons_zero, f0, f1, f2, f3, f6]
            clear f0 f1 f2 f3 f6 o6_3
            go_wp2_with fail
            exact bodyPost_ret (results_ccs rfl _ S.out 4 3 rfl rfl rfl rfl Try.isAgg26 Try.isAgg28 (by kernel_rfl) (by kernel_rfl)) rfl (by exact S.out.drawnH 5 (x := ⟨lv, zs, hi, ri, ow_⟩) _ _ _ rfl rfl H41.out)
        · go_wp2_with fail
          refine (num_any gc A n c 999 _ (S.out.curA 2 rfl HB.out HN.out) (by omega) (by omega)).mono ?_
          rintro e w9 ⟨pw, rfl, _, hc9, hg9⟩
          replace S := Lib.hid (S.out.drawnA 2 rfl hc9 hg9)
          clear hc9 hg9
          go_wp2_with (first
              | go_skip
              | (refine wpList_op rfl (op_put1_0 2 _ _ rfl S _ rfl _ rfl rfl (by kernel_rfl) (of_decide_eq_true rfl) ?_); clear S; intro w S; replace S : Hid (Sep noX w0 [bx g7 #[.int .i64 pk, .int .i64 pw] 28, bx g6 #[.int .i64 lv, .slice A' zs.length c', .int .i64 hi, .int .i64 ri, .int .i64 ow_] 26, cuI gc A n c, bx r2 #[.int .i64 0, .int .i64 0] 28, bx r1 #[.int .i64 0, .slice none 0 0, .int .i64 0, .int .i64 0, .int .i64 0] 26, ow (.slice A' zs.length c') zs F'] w) := S))
          refine (once_any gc A n c _ _ (S.out.curA 2 rfl HB.out HN.out)).mono ?_
          rintro e w9 ⟨b3, rfl, hc9, hg9⟩
          replace S := Lib.hid (S.out.drawnA 2 rfl hc9 hg9)
          clear hc9 hg9
          cases b3
          · go_wp2_with fail
            refine wp_region_ev (by kernel_rfl) _ (by kernel_rfl) (by kernel_rfl) 49 rfl (by kernel_rfl) (fun D V w => ∃ z9 : Int, Sep noX w0 [bx g7 #[.int .i64 pk, .int .i64 pw] 28, bx g6 #[.int .i64 lv, .slice A' zs.length c', .int .i64 hi, .int .i64 ri, .int .i64 ow_] 26, cuI gc A n c, cnd (D 5) (bx r2 #[.int .i64 0, .int .i64 0] 28) (bx r2 #[.int .i64 pk, .int .i64 pw] 28), cnd (D 4) (bx r1 #[.int .i64 0, .slice none 0 0, .int .i64 0, .int .i64 0, .int .i64 0] 26) (bx r1 #[.int .i64 lv, .slice A' zs.length c', .int .i64 hi, .int .i64 ri, .int .i64 ow_] 26), ow (.slice A' zs.length c') zs F'] w ∧ (D 0 = true → V 0 = .agg #[.int .i64 lv, .slice A' zs.length c', .int .i64 hi, .int .i64 ri, .int .i64 ow_]) ∧ (D 1 = true → V 1 = .agg #[.int .i64 pk, .int .i64 pw]) ∧ (D 2 = true → V 2 = .pointer (some ⟨gc, 0, none⟩)) ∧ (D 3 = true → V 3 = .int .i64 z9) ∧ (D 6 = true → V 6 = .int .i64 z9) ∧ (D 6 = true → D 3 = true)) ?_ ?_ ?_
            · intro D hD
              have d4 := hD 4 (by decide)
              have d5 := hD 5 (by decide)
              exact ⟨0, by rw [cnd_f d5, cnd_f d4]; exact S.out.drew.ems 0, (fun h => absurd h (by rw [hD 0 (by decide)]; exact Bool.false_ne_true)), (fun h => absurd h (by rw [hD 1 (by decide)]; exact Bool.false_ne_true)), (fun h => absurd h (by rw [hD 2 (by decide)]; exact Bool.false_ne_true)), (fun h => absurd h (by rw [hD 3 (by decide)]; exact Bool.false_ne_true)), (fun h => absurd h (by rw [hD 6 (by decide)]; exact Bool.false_ne_true)), (fun h => absurd h (by rw [hD 6 (by decide)]; exact Bool.false_ne_true))⟩
            · intro i o D V w a ho hI hDi haf hev
              obtain ⟨z9, S, f0, f1, f2, f3, f6, o6_3⟩ := hI
              rcases i with _ | _ | _ | _ | _ | _ | _ | i
              · obtain rfl := Option.some.inj (show some _ = some o from ho)
                exact op_row 26 _ rfl S 1 rfl ((hev.old 6 (by kernel_rfl)).trans rfl) Try.isAgg26 (by kernel_rfl) ⟨_, rfl, z9, S, fun _ => rfl, f1, f2, f3, f6, o6_3⟩
              · obtain rfl := Option.some.inj (show some _ = some o from ho)
                exact op_row 28 _ rfl S 0 rfl ((hev.old 7 (by kernel_rfl)).trans rfl) Try.isAgg28 (by kernel_rfl) ⟨_, rfl, z9, S, f0, fun _ => rfl, f2, f3, f6, o6_3⟩
              · obtain rfl := Option.some.inj (show some _ = some o from ho)
                exact op_move (.inl rfl) ((hev.old 5 (by kernel_rfl)).trans rfl) ⟨_, rfl, z9, S, f0, f1, fun _ => rfl, f3, f6, o6_3⟩
              · obtain rfl := Option.some.inj (show some _ = some o from ho)
                have h2 : D 2 = true := by first | exact haf ⟨2, .data⟩ (by simp) rfl | exact haf ⟨2, .phase⟩ (by simp) rfl | exact haf ⟨2, .chain⟩ (by simp) rfl
                have hx0 := ((hev.new 2 _ 47 rfl rfl h2).trans (f2 h2))
                refine op_call _ _ _ rfl (enters_of Try.func25 (by kernel_rfl) rfl) #[.pointer (some ⟨gc, 0, none⟩), .int .i64 9] (by simp [hx0, eval_const]) (below_any gc A n c 9 w (S.curA 2 rfl HB.out HN.out)) (fun e w2 hh => ?_)
                obtain ⟨z, rfl, _, hc9, hg9⟩ := hh
                have S2 := S.drawnA 2 rfl hc9 hg9
                exact ⟨_, rfl, ⟨_, rfl, z, S2, f0, f1, f2, fun _ => rfl, (fun h => absurd (o6_3 h) (by rw [hDi]; exact Bool.false_ne_true)), fun _ => rfl⟩⟩
              · obtain rfl := Option.some.inj (show some _ = some o from ho)
                have h0 : D 0 = true := by first | exact haf ⟨0, .data⟩ (by simp) rfl | exact haf ⟨0, .phase⟩ (by simp) rfl | exact haf ⟨0, .chain⟩ (by simp) rfl
                exact op_putR 26 _ _ rfl S 4 (g := r1) (C := #[.int .i64 0, .slice none 0 0, .int .i64 0, .int .i64 0, .int .i64 0]) (t := 26) (by simp only [List.getElem?_cons_succ, List.getElem?_cons_zero, cnd_f hDi]) ((hev.old 2 (by kernel_rfl)).trans rfl) _ ((hev.new 0 _ 45 rfl rfl h0).trans (f0 h0)) rfl (by kernel_rfl) rfl (fun w S => ⟨_, rfl, z9, S, f0, f1, f2, f3, f6, o6_3⟩)
              · obtain rfl := Option.some.inj (show some _ = some o from ho)
                have h1 : D 1 = true := by first | exact haf ⟨1, .data⟩ (by simp) rfl | exact haf ⟨1, .phase⟩ (by simp) rfl | exact haf ⟨1, .chain⟩ (by simp) rfl
                exact op_putR 28 _ _ rfl S 3 (g := r2) (C := #[.int .i64 0, .int .i64 0]) (t := 28) (by simp only [List.getElem?_cons_succ, List.getElem?_cons_zero, cnd_f hDi]) ((hev.old 3 (by kernel_rfl)).trans rfl) _ ((hev.new 1 _ 46 rfl rfl h1).trans (f1 h1)) rfl (by kernel_rfl) rfl (fun w S => ⟨_, rfl, z9, S, f0, f1, f2, f3, f6, o6_3⟩)
              · obtain rfl := Option.some.inj (show some _ = some o from ho)
                have h3 : D 3 = true := by first | exact haf ⟨3, .data⟩ (by simp) rfl | exact haf ⟨3, .phase⟩ (by simp) rfl | exact haf ⟨3, .chain⟩ (by simp) rfl
                exact op_move (.inr rfl) ((hev.new 3 _ 48 rfl rfl h3).trans (f3 h3)) ⟨_, rfl, z9, S, f0, f1, f2, f3, fun _ => rfl, fun _ => h3⟩
              · exact absurd ho (by simp)
            intro V w hI
            obtain ⟨z9, S, f0, f1, f2, f3, f6, o6_3⟩ := hI
            replace f0 := f0 rfl
            replace f1 := f1 rfl
            replace f2 := f2 rfl
            replace f3 := f3 rfl
            replace f6 := f6 rfl
            replace S : Hid (Sep noX w0 [bx g7 #[.int .i64 pk, .int .i64 pw] 28, bx g6 #[.int .i64 lv, .slice A' zs.length c', .int .i64 hi, .int .i64 ri, .int .i64 ow_] 26, cuI gc A n c, bx r2 #[.int .i64 pk, .int .i64 pw] 28, bx r1 #[.int .i64 lv, .slice A' zs.length c', .int .i64 hi, .int .i64 ri, .int .i64 ow_] 26, ow (.slice A' zs.length c') zs F'] w) := Lib.hid S
            simp only [putF, Act.put, List.setIfInBounds_toArray, List.set_cons_succ, List.set_cons_zero, f0, f1, f2, f3, f6]
            clear f0 f1 f2 f3 f6 o6_3
            go_wp2_with fail
            exact bodyPost_ret (results_ccs rfl _ S.out 4 3 rfl rfl rfl rfl Try.isAgg26 Try.isAgg28 (by kernel_rfl) (by kernel_rfl)) rfl (by exact S.out.drawnH 5 (x := ⟨lv, zs, hi, ri, ow_⟩) _ _ _ rfl rfl H41.out)
          · go_wp2_with fail
            refine wp_region_ev (by kernel_rfl) _ (by kernel_rfl) (by kernel_rfl) 49 rfl (by kernel_rfl) (fun D V w => ∃ z9 : Int, Sep noX w0 [bx g7 #[.int .i64 pk, .int .i64 pw] 28, bx g6 #[.int .i64 lv, .slice A' zs.length c', .int .i64 hi, .int .i64 ri, .int .i64 ow_] 26, cuI gc A n c, cnd (D 5) (bx r2 #[.int .i64 0, .int .i64 0] 28) (bx r2 #[.int .i64 pk, .int .i64 pw] 28), cnd (D 4) (bx r1 #[.int .i64 0, .slice none 0 0, .int .i64 0, .int .i64 0, .int .i64 0] 26) (bx r1 #[.int .i64 lv, .slice A' zs.length c', .int .i64 hi, .int .i64 ri, .int .i64 ow_] 26), ow (.slice A' zs.length c') zs F'] w ∧ (D 0 = true → V 0 = .agg #[.int .i64 lv, .slice A' zs.length c', .int .i64 hi, .int .i64 ri, .int .i64 ow_]) ∧ (D 1 = true → V 1 = .agg #[.int .i64 pk, .int .i64 pw]) ∧ (D 2 = true → V 2 = .pointer (some ⟨gc, 0, none⟩)) ∧ (D 3 = true → V 3 = .int .i64 z9) ∧ (D 6 = true → V 6 = .int .i64 z9) ∧ (D 6 = true → D 3 = true)) ?_ ?_ ?_
            · intro D hD
              have d4 := hD 4 (by decide)
              have d5 := hD 5 (by decide)
              exact ⟨0, by rw [cnd_f d5, cnd_f d4]; exact S.out.drew.ems 0, (fun h => absurd h (by rw [hD 0 (by decide)]; exact Bool.false_ne_true)), (fun h => absurd h (by rw [hD 1 (by decide)]; exact Bool.false_ne_true)), (fun h => absurd h (by rw [hD 2 (by decide)]; exact Bool.false_ne_true)), (fun h => absurd h (by rw [hD 3 (by decide)]; exact Bool.false_ne_true)), (fun h => absurd h (by rw [hD 6 (by decide)]; exact Bool.false_ne_true)), (fun h => absurd h (by rw [hD 6 (by decide)]; exact Bool.false_ne_true))⟩
            · intro i o D V w a ho hI hDi haf hev
              obtain ⟨z9, S, f0, f1, f2, f3, f6, o6_3⟩ := hI
              rcases i with _ | _ | _ | _ | _ | _ | _ | i
              · obtain rfl := Option.some.inj (show some _ = some o from ho)
                exact op_row 26 _ rfl S 1 rfl ((hev.old 6 (by kernel_rfl)).trans rfl) Try.isAgg26 (by kernel_rfl) ⟨_, rfl, z9, S, fun _ => rfl, f1, f2, f3, f6, o6_3⟩
              · obtain rfl := Option.some.inj (show some _ = some o from ho)
                exact op_row 28 _ rfl S 0 rfl ((hev.old 7 (by kernel_rfl)).trans rfl) Try.isAgg28 (by kernel_rfl) ⟨_, rfl, z9, S, f0, fun _ => rfl, f2, f3, f6, o6_3⟩
              · obtain rfl := Option.some.inj (show some _ = some o from ho)
                exact op_move (.inl rfl) ((hev.old 5 (by kernel_rfl)).trans rfl) ⟨_, rfl, z9, S, f0, f1, fun _ => rfl, f3, f6, o6_3⟩
              · obtain rfl := Option.some.inj (show some _ = some o from ho)
                have h2 : D 2 = true := by first | exact haf ⟨2, .data⟩ (by simp) rfl | exact haf ⟨2, .phase⟩ (by simp) rfl | exact haf ⟨2, .chain⟩ (by simp) rfl
                have hx0 := ((hev.new 2 _ 43 rfl rfl h2).trans (f2 h2))
                refine op_call _ _ _ rfl (enters_of Try.func28 (by kernel_rfl) rfl) #[.pointer (some ⟨gc, 0, none⟩), .int .i64 39] (by simp [hx0, eval_const]) (num_any gc A n c 39 w (S.curA 2 rfl HB.out HN.out) (by omega) (by omega)) (fun e w2 hh => ?_)
                obtain ⟨z, rfl, _, hc9, hg9⟩ := hh
                have S2 := S.drawnA 2 rfl hc9 hg9
                exact ⟨_, rfl, ⟨_, rfl, z, S2, f0, f1, f2, fun _ => rfl, (fun h => absurd (o6_3 h) (by rw [hDi]; exact Bool.false_ne_true)), fun _ => rfl⟩⟩
              · obtain rfl := Option.some.inj (show some _ = some o from ho)
                have h0 : D 0 = true := by first | exact haf ⟨0, .data⟩ (by simp) rfl | exact haf ⟨0, .phase⟩ (by simp) rfl | exact haf ⟨0, .chain⟩ (by simp) rfl
                exact op_putR 26 _ _ rfl S 4 (g := r1) (C := #[.int .i64 0, .slice none 0 0, .int .i64 0, .int .i64 0, .int .i64 0]) (t := 26) (by simp only [List.getElem?_cons_succ, List.getElem?_cons_zero, cnd_f hDi]) ((hev.old 2 (by kernel_rfl)).trans rfl) _ ((hev.new 0 _ 41 rfl rfl h0).trans (f0 h0)) rfl (by kernel_rfl) rfl (fun w S => ⟨_, rfl, z9, S, f0, f1, f2, f3, f6, o6_3⟩)
              · obtain rfl := Option.some.inj (show some _ = some o from ho)
                have h1 : D 1 = true := by first | exact haf ⟨1, .data⟩ (by simp) rfl | exact haf ⟨1, .phase⟩ (by simp) rfl | exact haf ⟨1, .chain⟩ (by simp) rfl
                exact op_putR 28 _ _ rfl S 3 (g := r2) (C := #[.int .i64 0, .int .i64 0]) (t := 28) (by simp only [List.getElem?_cons_succ, List.getElem?_cons_zero, cnd_f hDi]) ((hev.old 3 (by kernel_rfl)).trans rfl) _ ((hev.new 1 _ 42 rfl rfl h1).trans (f1 h1)) rfl (by kernel_rfl) rfl (fun w S => ⟨_, rfl, z9, S, f0, f1, f2, f3, f6, o6_3⟩)
              · obtain rfl := Option.some.inj (show some _ = some o from ho)
                have h3 : D 3 = true := by first | exact haf ⟨3, .data⟩ (by simp) rfl | exact haf ⟨3, .phase⟩ (by simp) rfl | exact haf ⟨3, .chain⟩ (by simp) rfl
                exact op_move (.inr rfl) ((hev.new 3 _ 44 rfl rfl h3).trans (f3 h3)) ⟨_, rfl, z9, S, f0, f1, f2, f3, fun _ => rfl, fun _ => h3⟩
              · exact absurd ho (by simp)
            intro V w hI
            obtain ⟨z9, S, f0, f1, f2, f3, f6, o6_3⟩ := hI
            replace f0 := f0 rfl
            replace f1 := f1 rfl
            replace f2 := f2 rfl
            replace f3 := f3 rfl
            replace f6 := f6 rfl
            replace S : Hid (Sep noX w0 [bx g7 #[.int .i64 pk, .int .i64 pw] 28, bx g6 #[.int .i64 lv, .slice A' zs.length c', .int .i64 hi, .int .i64 ri, .int .i64 ow_] 26, cuI gc A n c, bx r2 #[.int .i64 pk, .int .i64 pw] 28, bx r1 #[.int .i64 lv, .slice A' zs.length c', .int .i64 hi, .int .i64 ri, .int .i64 ow_] 26, ow (.slice A' zs.length c') zs F'] w) := Lib.hid S
            simp only [putF, Act.put, List.setIfInBounds_toArray, List.set_cons_succ, List.set_cons_zero, f0, f1, f2, f3, f6]
            clear f0 f1 f2 f3 f6 o6_3
            go_wp2_with fail
            exact bodyPost_ret (results_ccs rfl _ S.out 4 3 rfl rfl rfl rfl Try.isAgg26 Try.isAgg28 (by kernel_rfl) (by kernel_rfl)) rfl (by exact S.out.drawnH 5 (x := ⟨lv, zs, hi, ri, ow_⟩) _ _ _ rfl rfl H41.out)
      · clear H41
        go_wp2_with fail
        refine (nDrawAny_any gc A n c _ (S.out.curA 1 rfl HB.out HN.out)).mono ?_
        rintro e w9 ⟨⟨lv2, zs2, hi2, ri2, ow_2⟩, A2, c2, rfl, ho, hz, hc, hgr⟩
        have H41 : Hid (zs2.length ≤ 41) := Lib.hid hz
        obtain ⟨F2, S2⟩ := S.out.drawnN 1 rfl ho hc hgr
        replace S : Hid (Sep noX w0 [ow (.slice A2 zs2.length c2) zs2 F2, bx g6 #[.int .i64 lv, .slice A' zs.length c', .int .i64 hi, .int .i64 ri, .int .i64 ow_] 26, cuI gc A n c, bx r2 #[.int .i64 0, .int .i64 0] 28, bx r1 #[.int .i64 0, .slice none 0 0, .int .i64 0, .int .i64 0, .int .i64 0] 26, ow (.slice A' zs.length c') zs F'] w9) := Lib.hid S2
        clear ho hz hc hgr S2
        unfold ndV
        simp only
        go_wp2_with (first
            | go_skip
            | (refine wpList_op rfl (op_putR_1 26 _ _ rfl S rfl _ rfl rfl (by kernel_rfl) rfl ?_); clear S; intro w S))
        replace S : Hid (Sep noX w0 [bx g6 #[.int .i64 lv2, .slice A2 zs2.length c2, .int .i64 hi2, .int .i64 ri2, .int .i64 ow_2] 26, cuI gc A n c, bx r2 #[.int .i64 0, .int .i64 0] 28, bx r1 #[.int .i64 0, .slice none 0 0, .int .i64 0, .int .i64 0, .int .i64 0] 26, ow (.slice A2 zs2.length c2) zs2 F2] w) := Lib.hid ((S.out.drop (L' := [ow (.slice A2 zs2.length c2) zs2 F2, bx g6 #[.int .i64 lv2, .slice A2 zs2.length c2, .int .i64 hi2, .int .i64 ri2, .int .i64 ow_2] 26, cuI gc A n c, bx r2 #[.int .i64 0, .int .i64 0] 28, bx r1 #[.int .i64 0, .slice none 0 0, .int .i64 0, .int .i64 0, .int .i64 0] 26]) (List.sublist_append_left [ow (.slice A2 zs2.length c2) zs2 F2, bx g6 #[.int .i64 lv2, .slice A2 zs2.length c2, .int .i64 hi2, .int .i64 ri2, .int .i64 ow_2] 26, cuI gc A n c, bx r2 #[.int .i64 0, .int .i64 0] 28, bx r1 #[.int .i64 0, .slice none 0 0, .int .i64 0, .int .i64 0, .int .i64 0] 26] [ow (.slice A' zs.length c') zs F'])).perm (List.perm_append_comm (l₁ := [ow (.slice A2 zs2.length c2) zs2 F2]) (l₂ := [bx g6 #[.int .i64 lv2, .slice A2 zs2.length c2, .int .i64 hi2, .int .i64 ri2, .int .i64 ow_2] 26, cuI gc A n c, bx r2 #[.int .i64 0, .int .i64 0] 28, bx r1 #[.int .i64 0, .slice none 0 0, .int .i64 0, .int .i64 0, .int .i64 0] 26])))
        refine (below_any gc A n c 26 _ (S.out.curA 1 rfl HB.out HN.out)).mono ?_
        rintro e w9 ⟨pk, rfl, _, hc9, hg9⟩
        replace S := Lib.hid (S.out.drawnA 1 rfl hc9 hg9)
        clear hc9 hg9
        go_wp2_with fail
        refine (below_any gc A n c 9 _ (S.out.curA 1 rfl HB.out HN.out)).mono ?_
        rintro e w9 ⟨pv, rfl, _, hc9, hg9⟩
        replace S := Lib.hid (S.out.drawnA 1 rfl hc9 hg9)
        clear hc9 hg9
        have tokP : True := trivial
        go_wp2_with (first
            | go_skip
            | (have _t := tokP; clear _t; refine wpList_op rfl (op_nx 28 rfl S.out _ Try.zeroValue28 ?_); clear S tokP; intro g7 w S; replace S := Lib.hid S)
            | (refine wpList_op rfl (op_putR_0 28 _ _ rfl S rfl _ rfl rfl (by kernel_rfl) rfl ?_); clear S; intro w S))
        refine (once_any gc A n c _ _ (S.out.curA 2 rfl HB.out HN.out)).mono ?_
        rintro e w9 ⟨b2, rfl, hc9, hg9⟩
        replace S := Lib.hid (S.out.drawnA 2 rfl hc9 hg9)
        clear hc9 hg9
        cases b2
        · go_wp2_with fail
          refine (once_any gc A n c _ _ (S.out.curA 2 rfl HB.out HN.out)).mono ?_
          rintro e w9 ⟨b3, rfl, hc9, hg9⟩
          replace S := Lib.hid (S.out.drawnA 2 rfl hc9 hg9)
          clear hc9 hg9
          cases b3
          · go_wp2_with fail
            refine wp_region_ev (by kernel_rfl) _ (by kernel_rfl) (by kernel_rfl) 49 rfl (by kernel_rfl) (fun D V w => ∃ z9 : Int, Sep noX w0 [bx g7 #[.int .i64 pk, .int .i64 pv] 28, bx g6 #[.int .i64 lv2, .slice A2 zs2.length c2, .int .i64 hi2, .int .i64 ri2, .int .i64 ow_2] 26, cuI gc A n c, cnd (D 5) (bx r2 #[.int .i64 0, .int .i64 0] 28) (bx r2 #[.int .i64 pk, .int .i64 pv] 28), cnd (D 4) (bx r1 #[.int .i64 0, .slice none 0 0, .int .i64 0, .int .i64 0, .int .i64 0] 26) (bx r1 #[.int .i64 lv2, .slice A2 zs2.length c2, .int .i64 hi2, .int .i64 ri2, .int .i64 ow_2] 26), ow (.slice A2 zs2.length c2) zs2 F2] w ∧ (D 0 = true → V 0 = .agg #[.int .i64 lv2, .slice A2 zs2.length c2, .int .i64 hi2, .int .i64 ri2, .int .i64 ow_2]) ∧ (D 1 = true → V 1 = .agg #[.int .i64 pk, .int .i64 pv]) ∧ (D 2 = true → V 2 = .pointer (some ⟨gc, 0, none⟩)) ∧ (D 3 = true → V 3 = .int .i64 z9) ∧ (D 6 = true → V 6 = .int .i64 z9) ∧ (D 6 = true → D 3 = true)) ?_ ?_ ?_
            · intro D hD
              have d4 := hD 4 (by decide)
              have d5 := hD 5 (by decide)
              exact ⟨0, by rw [cnd_f d5, cnd_f d4]; exact S.out.drew.ems 0, (fun h => absurd h (by rw [hD 0 (by decide)]; exact Bool.false_ne_true)), (fun h => absurd h (by rw [hD 1 (by decide)]; exact Bool.false_ne_true)), (fun h => absurd h (by rw [hD 2 (by decide)]; exact Bool.false_ne_true)), (fun h => absurd h (by rw [hD 3 (by decide)]; exact Bool.false_ne_true)), (fun h => absurd h (by rw [hD 6 (by decide)]; exact Bool.false_ne_true)), (fun h => absurd h (by rw [hD 6 (by decide)]; exact Bool.false_ne_true))⟩
            · intro i o D V w a ho hI hDi haf hev
              obtain ⟨z9, S, f0, f1, f2, f3, f6, o6_3⟩ := hI
              rcases i with _ | _ | _ | _ | _ | _ | _ | i
              · obtain rfl := Option.some.inj (show some _ = some o from ho)
                exact op_row 26 _ rfl S 1 rfl ((hev.old 6 (by kernel_rfl)).trans rfl) Try.isAgg26 (by kernel_rfl) ⟨_, rfl, z9, S, fun _ => rfl, f1, f2, f3, f6, o6_3⟩
              · obtain rfl := Option.some.inj (show some _ = some o from ho)
                exact op_row 28 _ rfl S 0 rfl ((hev.old 7 (by kernel_rfl)).trans rfl) Try.isAgg28 (by kernel_rfl) ⟨_, rfl, z9, S, f0, fun _ => rfl, f2, f3, f6, o6_3⟩
              · obtain rfl := Option.some.inj (show some _ = some o from ho)
                exact op_move (.inl rfl) ((hev.old 5 (by kernel_rfl)).trans rfl) ⟨_, rfl, z9, S, f0, f1, fun _ => rfl, f3, f6, o6_3⟩
              · obtain rfl := Option.some.inj (show some _ = some o from ho)
                have h2 : D 2 = true := by first | exact haf ⟨2, .data⟩ (by simp) rfl | exact haf ⟨2, .phase⟩ (by simp) rfl | exact haf ⟨2, .chain⟩ (by simp) rfl
                have hx0 := ((hev.new 2 _ 47 rfl rfl h2).trans (f2 h2))
                refine op_call _ _ _ rfl (enters_of Try.func25 (by kernel_rfl) rfl) #[.pointer (some ⟨gc, 0, none⟩), .int .i64 9] (by simp [hx0, eval_const]) (below_any gc A n c 9 w (S.curA 2 rfl HB.out HN.out)) (fun e w2 hh => ?_)
                obtain ⟨z, rfl, _, hc9, hg9⟩ := hh
                have S2 := S.drawnA 2 rfl hc9 hg9
                exact ⟨_, rfl, ⟨_, rfl, z, S2, f0, f1, f2, fun _ => rfl, (fun h => absurd (o6_3 h) (by rw [hDi]; exact Bool.false_ne_true)), fun _ => rfl⟩⟩
              · obtain rfl := Option.some.inj (show some _ = some o from ho)
                have h0 : D 0 = true := by first | exact haf ⟨0, .data⟩ (by simp) rfl | exact haf ⟨0, .phase⟩ (by simp) rfl | exact haf ⟨0, .chain⟩ (by simp) rfl
                exact op_putR 26 _ _ rfl S 4 (g := r1) (C := #[.int .i64 0, .slice none 0 0, .int .i64 0, .int .i64 0, .int .i64 0]) (t := 26) (by simp only [List.getElem?_cons_succ, List.getElem?_cons_zero, cnd_f hDi]) ((hev.old 2 (by kernel_rfl)).trans rfl) _ ((hev.new 0 _ 45 rfl rfl h0).trans (f0 h0)) rfl (by kernel_rfl) rfl (fun w S => ⟨_, rfl, z9, S, f0, f1, f2, f3, f6, o6_3⟩)
              · obtain rfl := Option.some.inj (show some _ = some o from ho)
                have h1 : D 1 = true := by first | exact haf ⟨1, .data⟩ (by simp) rfl | exact haf ⟨1, .phase⟩ (by simp) rfl | exact haf ⟨1, .chain⟩ (by simp) rfl
                exact op_putR 28 _ _ rfl S 3 (g := r2) (C := #[.int .i64 0, .int .i64 0]) (t := 28) (by simp only [List.getElem?_cons_succ, List.getElem?_cons_zero, cnd_f hDi]) ((hev.old 3 (by kernel_rfl)).trans rfl) _ ((hev.new 1 _ 46 rfl rfl h1).trans (f1 h1)) rfl (by kernel_rfl) rfl (fun w S => ⟨_, rfl, z9, S, f0, f1, f2, f3, f6, o6_3⟩)
              · obtain rfl := Option.some.inj (show some _ = some o from ho)
                have h3 : D 3 = true := by first | exact haf ⟨3, .data⟩ (by simp) rfl | exact haf ⟨3, .phase⟩ (by simp) rfl | exact haf ⟨3, .chain⟩ (by simp) rfl
                exact op_move (.inr rfl) ((hev.new 3 _ 48 rfl rfl h3).trans (f3 h3)) ⟨_, rfl, z9, S, f0, f1, f2, f3, fun _ => rfl, fun _ => h3⟩
              · exact absurd ho (by simp)
            intro V w hI
            obtain ⟨z9, S, f0, f1, f2, f3, f6, o6_3⟩ := hI
            replace f0 := f0 rfl
            replace f1 := f1 rfl
            replace f2 := f2 rfl
            replace f3 := f3 rfl
            replace f6 := f6 rfl
            replace S : Hid (Sep noX w0 [bx g7 #[.int .i64 pk, .int .i64 pv] 28, bx g6 #[.int .i64 lv2, .slice A2 zs2.length c2, .int .i64 hi2, .int .i64 ri2, .int .i64 ow_2] 26, cuI gc A n c, bx r2 #[.int .i64 pk, .int .i64 pv] 28, bx r1 #[.int .i64 lv2, .slice A2 zs2.length c2, .int .i64 hi2, .int .i64 ri2, .int .i64 ow_2] 26, ow (.slice A2 zs2.length c2) zs2 F2] w) := Lib.hid S
            simp only [putF, Act.put, List.setIfInBounds_toArray, List.set_cons_succ, List.set_cons_zero, f0, f1, f2, f3, f6]
            clear f0 f1 f2 f3 f6 o6_3
            go_wp2_with fail
            exact bodyPost_ret (results_ccs rfl _ S.out 4 3 rfl rfl rfl rfl Try.isAgg26 Try.isAgg28 (by kernel_rfl) (by kernel_rfl)) rfl (by exact S.out.drawnH 5 (x := ⟨lv2, zs2, hi2, ri2, ow_2⟩) _ _ _ rfl rfl H41.out)
          · go_wp2_with fail
            refine wp_region_ev (by kernel_rfl) _ (by kernel_rfl) (by kernel_rfl) 49 rfl (by kernel_rfl) (fun D V w => ∃ z9 : Int, Sep noX w0 [bx g7 #[.int .i64 pk, .int .i64 pv] 28, bx g6 #[.int .i64 lv2, .slice A2 zs2.length c2, .int .i64 hi2, .int .i64 ri2, .int .i64 ow_2] 26, cuI gc A n c, cnd (D 5) (bx r2 #[.int .i64 0, .int .i64 0] 28) (bx r2 #[.int .i64 pk, .int .i64 pv] 28), cnd (D 4) (bx r1 #[.int .i64 0, .slice none 0 0, .int .i64 0, .int .i64 0, .int .i64 0] 26) (bx r1 #[.int .i64 lv2, .slice A2 zs2.length c2, .int .i64 hi2, .int .i64 ri2, .int .i64 ow_2] 26), ow (.slice A2 zs2.length c2) zs2 F2] w ∧ (D 0 = true → V 0 = .agg #[.int .i64 lv2, .slice A2 zs2.length c2, .int .i64 hi2, .int .i64 ri2, .int .i64 ow_2]) ∧ (D 1 = true → V 1 = .agg #[.int .i64 pk, .int .i64 pv]) ∧ (D 2 = true → V 2 = .pointer (some ⟨gc, 0, none⟩)) ∧ (D 3 = true → V 3 = .int .i64 z9) ∧ (D 6 = true → V 6 = .int .i64 z9) ∧ (D 6 = true → D 3 = true)) ?_ ?_ ?_
            · intro D hD
              have d4 := hD 4 (by decide)
              have d5 := hD 5 (by decide)
              exact ⟨0, by rw [cnd_f d5, cnd_f d4]; exact S.out.drew.ems 0, (fun h => absurd h (by rw [hD 0 (by decide)]; exact Bool.false_ne_true)), (fun h => absurd h (by rw [hD 1 (by decide)]; exact Bool.false_ne_true)), (fun h => absurd h (by rw [hD 2 (by decide)]; exact Bool.false_ne_true)), (fun h => absurd h (by rw [hD 3 (by decide)]; exact Bool.false_ne_true)), (fun h => absurd h (by rw [hD 6 (by decide)]; exact Bool.false_ne_true)), (fun h => absurd h (by rw [hD 6 (by decide)]; exact Bool.false_ne_true))⟩
            · intro i o D V w a ho hI hDi haf hev
              obtain ⟨z9, S, f0, f1, f2, f3, f6, o6_3⟩ := hI
              rcases i with _ | _ | _ | _ | _ | _ | _ | i
              · obtain rfl := Option.some.inj (show some _ = some o from ho)
                exact op_row 26 _ rfl S 1 rfl ((hev.old 6 (by kernel_rfl)).trans rfl) Try.isAgg26 (by kernel_rfl) ⟨_, rfl, z9, S, fun _ => rfl, f1, f2, f3, f6, o6_3⟩
              · obtain rfl := Option.some.inj (show some _ = some o from ho)
                exact op_row 28 _ rfl S 0 rfl ((hev.old 7 (by kernel_rfl)).trans rfl) Try.isAgg28 (by kernel_rfl) ⟨_, rfl, z9, S, f0, fun _ => rfl, f2, f3, f6, o6_3⟩
              · obtain rfl := Option.some.inj (show some _ = some o from ho)
                exact op_move (.inl rfl) ((hev.old 5 (by kernel_rfl)).trans rfl) ⟨_, rfl, z9, S, f0, f1, fun _ => rfl, f3, f6, o6_3⟩
              · obtain rfl := Option.some.inj (show some _ = some o from ho)
                have h2 : D 2 = true := by first | exact haf ⟨2, .data⟩ (by simp) rfl | exact haf ⟨2, .phase⟩ (by simp) rfl | exact haf ⟨2, .chain⟩ (by simp) rfl
                have hx0 := ((hev.new 2 _ 43 rfl rfl h2).trans (f2 h2))
                refine op_call _ _ _ rfl (enters_of Try.func28 (by kernel_rfl) rfl) #[.pointer (some ⟨gc, 0, none⟩), .int .i64 39] (by simp [hx0, eval_const]) (num_any gc A n c 39 w (S.curA 2 rfl HB.out HN.out) (by omega) (by omega)) (fun e w2 hh => ?_)
                obtain ⟨z, rfl, _, hc9, hg9⟩ := hh
                have S2 := S.drawnA 2 rfl hc9 hg9
                exact ⟨_, rfl, ⟨_, rfl, z, S2, f0, f1, f2, fun _ => rfl, (fun h => absurd (o6_3 h) (by rw [hDi]; exact Bool.false_ne_true)), fun _ => rfl⟩⟩
              · obtain rfl := Option.some.inj (show some _ = some o from ho)
                have h0 : D 0 = true := by first | exact haf ⟨0, .data⟩ (by simp) rfl | exact haf ⟨0, .phase⟩ (by simp) rfl | exact haf ⟨0, .chain⟩ (by simp) rfl
                exact op_putR 26 _ _ rfl S 4 (g := r1) (C := #[.int .i64 0, .slice none 0 0, .int .i64 0, .int .i64 0, .int .i64 0]) (t := 26) (by simp only [List.getElem?_cons_succ, List.getElem?_cons_zero, cnd_f hDi]) ((hev.old 2 (by kernel_rfl)).trans rfl) _ ((hev.new 0 _ 41 rfl rfl h0).trans (f0 h0)) rfl (by kernel_rfl) rfl (fun w S => ⟨_, rfl, z9, S, f0, f1, f2, f3, f6, o6_3⟩)
              · obtain rfl := Option.some.inj (show some _ = some o from ho)
                have h1 : D 1 = true := by first | exact haf ⟨1, .data⟩ (by simp) rfl | exact haf ⟨1, .phase⟩ (by simp) rfl | exact haf ⟨1, .chain⟩ (by simp) rfl
                exact op_putR 28 _ _ rfl S 3 (g := r2) (C := #[.int .i64 0, .int .i64 0]) (t := 28) (by simp only [List.getElem?_cons_succ, List.getElem?_cons_zero, cnd_f hDi]) ((hev.old 3 (by kernel_rfl)).trans rfl) _ ((hev.new 1 _ 42 rfl rfl h1).trans (f1 h1)) rfl (by kernel_rfl) rfl (fun w S => ⟨_, rfl, z9, S, f0, f1, f2, f3, f6, o6_3⟩)
              · obtain rfl := Option.some.inj (show some _ = some o from ho)
                have h3 : D 3 = true := by first | exact haf ⟨3, .data⟩ (by simp) rfl | exact haf ⟨3, .phase⟩ (by simp) rfl | exact haf ⟨3, .chain⟩ (by simp) rfl
                exact op_move (.inr rfl) ((hev.new 3 _ 44 rfl rfl h3).trans (f3 h3)) ⟨_, rfl, z9, S, f0, f1, f2, f3, fun _ => rfl, fun _ => h3⟩
              · exact absurd ho (by simp)
            intro V w hI
            obtain ⟨z9, S, f0, f1, f2, f3, f6, o6_3⟩ := hI
            replace f0 := f0 rfl
            replace f1 := f1 rfl
            replace f2 := f2 rfl
            replace f3 := f3 rfl
            replace f6 := f6 rfl
            replace S : Hid (Sep noX w0 [bx g7 #[.int .i64 pk, .int .i64 pv] 28, bx g6 #[.int .i64 lv2, .slice A2 zs2.length c2, .int .i64 hi2, .int .i64 ri2, .int .i64 ow_2] 26, cuI gc A n c, bx r2 #[.int .i64 pk, .int .i64 pv] 28, bx r1 #[.int .i64 lv2, .slice A2 zs2.length c2, .int .i64 hi2, .int .i64 ri2, .int .i64 ow_2] 26, ow (.slice A2 zs2.length c2) zs2 F2] w) := Lib.hid S
            simp only [putF, Act.put, List.setIfInBounds_toArray, List.set_cons_succ, List.set_cons_zero, f0, f1, f2, f3, f6]
            clear f0 f1 f2 f3 f6 o6_3
            go_wp2_with fail
            exact bodyPost_ret (results_ccs rfl _ S.out 4 3 rfl rfl rfl rfl Try.isAgg26 Try.isAgg28 (by kernel_rfl) (by kernel_rfl)) rfl (by exact S.out.drawnH 5 (x := ⟨lv2, zs2, hi2, ri2, ow_2⟩) _ _ _ rfl rfl H41.out)
        · go_wp2_with fail
          refine (num_any gc A n c 999 _ (S.out.curA 2 rfl HB.out HN.out) (by omega) (by omega)).mono ?_
          rintro e w9 ⟨pw, rfl, _, hc9, hg9⟩
          replace S := Lib.hid (S.out.drawnA 2 rfl hc9 hg9)
          clear hc9 hg9
          go_wp2_with (first
              | go_skip
              | (refine wpList_op rfl (op_put1_0 2 _ _ rfl S _ rfl _ rfl rfl (by kernel_rfl) (of_decide_eq_true rfl) ?_); clear S; intro w S; replace S : Hid (Sep noX w0 [bx g7 #[.int .i64 pk, .int .i64 pw] 28, bx g6 #[.int .i64 lv2, .slice A2 zs2.length c2, .int .i64 hi2, .int .i64 ri2, .int .i64 ow_2] 26, cuI gc A n c, bx r2 #[.int .i64 0, .int .i64 0] 28, bx r1 #[.int .i64 0, .slice none 0 0, .int .i64 0, .int .i64 0, .int .i64 0] 26, ow (.slice A2 zs2.length c2) zs2 F2] w) := S))
          refine (once_any gc A n c _ _ (S.out.curA 2 rfl HB.out HN.out)).mono ?_
          rintro e w9 ⟨b3, rfl, hc9, hg9⟩
          replace S := Lib.hid (S.out.drawnA 2 rfl hc9 hg9)
          clear hc9 hg9
          cases b3
          · go_wp2_with fail
            refine wp_region_ev (by kernel_rfl) _ (by kernel_rfl) (by kernel_rfl) 49 rfl (by kernel_rfl) (fun D V w => ∃ z9 : Int, Sep noX w0 [bx g7 #[.int .i64 pk, .int .i64 pw] 28, bx g6 #[.int .i64 lv2, .slice A2 zs2.length c2, .int .i64 hi2, .int .i64 ri2, .int .i64 ow_2] 26, cuI gc A n c, cnd (D 5) (bx r2 #[.int .i64 0, .int .i64 0] 28) (bx r2 #[.int .i64 pk, .int .i64 pw] 28), cnd (D 4) (bx r1 #[.int .i64 0, .slice none 0 0, .int .i64 0, .int .i64 0, .int .i64 0] 26) (bx r1 #[.int .i64 lv2, .slice A2 zs2.length c2, .int .i64 hi2, .int .i64 ri2, .int .i64 ow_2] 26), ow (.slice A2 zs2.length c2) zs2 F2] w ∧ (D 0 = true → V 0 = .agg #[.int .i64 lv2, .slice A2 zs2.length c2, .int .i64 hi2, .int .i64 ri2, .int .i64 ow_2]) ∧ (D 1 = true → V 1 = .agg #[.int .i64 pk, .int .i64 pw]) ∧ (D 2 = true → V 2 = .pointer (some ⟨gc, 0, none⟩)) ∧ (D 3 = true → V 3 = .int .i64 z9) ∧ (D 6 = true → V 6 = .int .i64 z9) ∧ (D 6 = true → D 3 = true)) ?_ ?_ ?_
            · intro D hD
              have d4 := hD 4 (by decide)
              have d5 := hD 5 (by decide)
              exact ⟨0, by rw [cnd_f d5, cnd_f d4]; exact S.out.drew.ems 0, (fun h => absurd h (by rw [hD 0 (by decide)]; exact Bool.false_ne_true)), (fun h => absurd h (by rw [hD 1 (by decide)]; exact Bool.false_ne_true)), (fun h => absurd h (by rw [hD 2 (by decide)]; exact Bool.false_ne_true)), (fun h => absurd h (by rw [hD 3 (by decide)]; exact Bool.false_ne_true)), (fun h => absurd h (by rw [hD 6 (by decide)]; exact Bool.false_ne_true)), (fun h => absurd h (by rw [hD 6 (by decide)]; exact Bool.false_ne_true))⟩
            · intro i o D V w a ho hI hDi haf hev
              obtain ⟨z9, S, f0, f1, f2, f3, f6, o6_3⟩ := hI
              rcases i with _ | _ | _ | _ | _ | _ | _ | i
              · obtain rfl := Option.some.inj (show some _ = some o from ho)
                exact op_row 26 _ rfl S 1 rfl ((hev.old 6 (by kernel_rfl)).trans rfl) Try.isAgg26 (by kernel_rfl) ⟨_, rfl, z9, S, fun _ => rfl, f1, f2, f3, f6, o6_3⟩
              · obtain rfl := Option.some.inj (show some _ = some o from ho)
                exact op_row 28 _ rfl S 0 rfl ((hev.old 7 (by kernel_rfl)).trans rfl) Try.isAgg28 (by kernel_rfl) ⟨_, rfl, z9, S, f0, fun _ => rfl, f2, f3, f6, o6_3⟩
              · obtain rfl := Option.some.inj (show some _ = some o from ho)
                exact op_move (.inl rfl) ((hev.old 5 (by kernel_rfl)).trans rfl) ⟨_, rfl, z9, S, f0, f1, fun _ => rfl, f3, f6, o6_3⟩
              · obtain rfl := Option.some.inj (show some _ = some o from ho)
                have h2 : D 2 = true := by first | exact haf ⟨2, .data⟩ (by simp) rfl | exact haf ⟨2, .phase⟩ (by simp) rfl | exact haf ⟨2, .chain⟩ (by simp) rfl
                have hx0 := ((hev.new 2 _ 47 rfl rfl h2).trans (f2 h2))
                refine op_call _ _ _ rfl (enters_of Try.func25 (by kernel_rfl) rfl) #[.pointer (some ⟨gc, 0, none⟩), .int .i64 9] (by simp [hx0, eval_const]) (below_any gc A n c 9 w (S.curA 2 rfl HB.out HN.out)) (fun e w2 hh => ?_)
                obtain ⟨z, rfl, _, hc9, hg9⟩ := hh
                have S2 := S.drawnA 2 rfl hc9 hg9
                exact ⟨_, rfl, ⟨_, rfl, z, S2, f0, f1, f2, fun _ => rfl, (fun h => absurd (o6_3 h) (by rw [hDi]; exact Bool.false_ne_true)), fun _ => rfl⟩⟩
              · obtain rfl := Option.some.inj (show some _ = some o from ho)
                have h0 : D 0 = true := by first | exact haf ⟨0, .data⟩ (by simp) rfl | exact haf ⟨0, .phase⟩ (by simp) rfl | exact haf ⟨0, .chain⟩ (by simp) rfl
                exact op_putR 26 _ _ rfl S 4 (g := r1) (C := #[.int .i64 0, .slice none 0 0, .int .i64 0, .int .i64 0, .int .i64 0]) (t := 26) (by simp only [List.getElem?_cons_succ, List.getElem?_cons_zero, cnd_f hDi]) ((hev.old 2 (by kernel_rfl)).trans rfl) _ ((hev.new 0 _ 45 rfl rfl h0).trans (f0 h0)) rfl (by kernel_rfl) rfl (fun w S => ⟨_, rfl, z9, S, f0, f1, f2, f3, f6, o6_3⟩)
              · obtain rfl := Option.some.inj (show some _ = some o from ho)
                have h1 : D 1 = true := by first | exact haf ⟨1, .data⟩ (by simp) rfl | exact haf ⟨1, .phase⟩ (by simp) rfl | exact haf ⟨1, .chain⟩ (by simp) rfl
                exact op_putR 28 _ _ rfl S 3 (g := r2) (C := #[.int .i64 0, .int .i64 0]) (t := 28) (by simp only [List.getElem?_cons_succ, List.getElem?_cons_zero, cnd_f hDi]) ((hev.old 3 (by kernel_rfl)).trans rfl) _ ((hev.new 1 _ 46 rfl rfl h1).trans (f1 h1)) rfl (by kernel_rfl) rfl (fun w S => ⟨_, rfl, z9, S, f0, f1, f2, f3, f6, o6_3⟩)
              · obtain rfl := Option.some.inj (show some _ = some o from ho)
                have h3 : D 3 = true := by first | exact haf ⟨3, .data⟩ (by simp) rfl | exact haf ⟨3, .phase⟩ (by simp) rfl | exact haf ⟨3, .chain⟩ (by simp) rfl
                exact op_move (.inr rfl) ((hev.new 3 _ 48 rfl rfl h3).trans (f3 h3)) ⟨_, rfl, z9, S, f0, f1, f2, f3, fun _ => rfl, fun _ => h3⟩
              · exact absurd ho (by simp)
            intro V w hI
            obtain ⟨z9, S, f0, f1, f2, f3, f6, o6_3⟩ := hI
            replace f0 := f0 rfl
            replace f1 := f1 rfl
            replace f2 := f2 rfl
            replace f3 := f3 rfl
            replace f6 := f6 rfl
            replace S : Hid (Sep noX w0 [bx g7 #[.int .i64 pk, .int .i64 pw] 28, bx g6 #[.int .i64 lv2, .slice A2 zs2.length c2, .int .i64 hi2, .int .i64 ri2, .int .i64 ow_2] 26, cuI gc A n c, bx r2 #[.int .i64 pk, .int .i64 pw] 28, bx r1 #[.int .i64 lv2, .slice A2 zs2.length c2, .int .i64 hi2, .int .i64 ri2, .int .i64 ow_2] 26, ow (.slice A2 zs2.length c2) zs2 F2] w) := Lib.hid S
            simp only [putF, Act.put, List.setIfInBounds_toArray, List.set_cons_succ, List.set_cons_zero, f0, f1, f2, f3, f6]
            clear f0 f1 f2 f3 f6 o6_3
            go_wp2_with fail
            exact bodyPost_ret (results_ccs rfl _ S.out 4 3 rfl rfl rfl rfl Try.isAgg26 Try.isAgg28 (by kernel_rfl) (by kernel_rfl)) rfl (by exact S.out.drawnH 5 (x := ⟨lv2, zs2, hi2, ri2, ow_2⟩) _ _ _ rfl rfl H41.out)
          · go_wp2_with fail
            refine wp_region_ev (by kernel_rfl) _ (by kernel_rfl) (by kernel_rfl) 49 rfl (by kernel_rfl) (fun D V w => ∃ z9 : Int, Sep noX w0 [bx g7 #[.int .i64 pk, .int .i64 pw] 28, bx g6 #[.int .i64 lv2, .slice A2 zs2.length c2, .int .i64 hi2, .int .i64 ri2, .int .i64 ow_2] 26, cuI gc A n c, cnd (D 5) (bx r2 #[.int .i64 0, .int .i64 0] 28) (bx r2 #[.int .i64 pk, .int .i64 pw] 28), cnd (D 4) (bx r1 #[.int .i64 0, .slice none 0 0, .int .i64 0, .int .i64 0, .int .i64 0] 26) (bx r1 #[.int .i64 lv2, .slice A2 zs2.length c2, .int .i64 hi2, .int .i64 ri2, .int .i64 ow_2] 26), ow (.slice A2 zs2.length c2) zs2 F2] w ∧ (D 0 = true → V 0 = .agg #[.int .i64 lv2, .slice A2 zs2.length c2, .int .i64 hi2, .int .i64 ri2, .int .i64 ow_2]) ∧ (D 1 = true → V 1 = .agg #[.int .i64 pk, .int .i64 pw]) ∧ (D 2 = true → V 2 = .pointer (some ⟨gc, 0, none⟩)) ∧ (D 3 = true → V 3 = .int .i64 z9) ∧ (D 6 = true → V 6 = .int .i64 z9) ∧ (D 6 = true → D 3 = true)) ?_ ?_ ?_
            · intro D hD
              have d4 := hD 4 (by decide)
              have d5 := hD 5 (by decide)
              exact ⟨0, by rw [cnd_f d5, cnd_f d4]; exact S.out.drew.ems 0, (fun h => absurd h (by rw [hD 0 (by decide)]; exact Bool.false_ne_true)), (fun h => absurd h (by rw [hD 1 (by decide)]; exact Bool.false_ne_true)), (fun h => absurd h (by rw [hD 2 (by decide)]; exact Bool.false_ne_true)), (fun h => absurd h (by rw [hD 3 (by decide)]; exact Bool.false_ne_true)), (fun h => absurd h (by rw [hD 6 (by decide)]; exact Bool.false_ne_true)), (fun h => absurd h (by rw [hD 6 (by decide)]; exact Bool.false_ne_true))⟩
            · intro i o D V w a ho hI hDi haf hev
              obtain ⟨z9, S, f0, f1, f2, f3, f6, o6_3⟩ := hI
              rcases i with _ | _ | _ | _ | _ | _ | _ | i
              · obtain rfl := Option.some.inj (show some _ = some o from ho)
                exact op_row 26 _ rfl S 1 rfl ((hev.old 6 (by kernel_rfl)).trans rfl) Try.isAgg26 (by kernel_rfl) ⟨_, rfl, z9, S, fun _ => rfl, f1, f2, f3, f6, o6_3⟩
              · obtain rfl := Option.some.inj (show some _ = some o from ho)
                exact op_row 28 _ rfl S 0 rfl ((hev.old 7 (by kernel_rfl)).trans rfl) Try.isAgg28 (by kernel_rfl) ⟨_, rfl, z9, S, f0, fun _ => rfl, f2, f3, f6, o6_3⟩
              · obtain rfl := Option.some.inj (show some _ = some o from ho)
                exact op_move (.inl rfl) ((hev.old 5 (by kernel_rfl)).trans rfl) ⟨_, rfl, z9, S, f0, f1, fun _ => rfl, f3, f6, o6_3⟩
              · obtain rfl := Option.some.inj (show some _ = some o from ho)
                have h2 : D 2 = true := by first | exact haf ⟨2, .data⟩ (by simp) rfl | exact haf ⟨2, .phase⟩ (by simp) rfl | exact haf ⟨2, .chain⟩ (by simp) rfl
                have hx0 := ((hev.new 2 _ 43 rfl rfl h2).trans (f2 h2))
                refine op_call _ _ _ rfl (enters_of Try.func28 (by kernel_rfl) rfl) #[.pointer (some ⟨gc, 0, none⟩), .int .i64 39] (by simp [hx0, eval_const]) (num_any gc A n c 39 w (S.curA 2 rfl HB.out HN.out) (by omega) (by omega)) (fun e w2 hh => ?_)
                obtain ⟨z, rfl, _, hc9, hg9⟩ := hh
                have S2 := S.drawnA 2 rfl hc9 hg9
                exact ⟨_, rfl, ⟨_, rfl, z, S2, f0, f1, f2, fun _ => rfl, (fun h => absurd (o6_3 h) (by rw [hDi]; exact Bool.false_ne_true)), fun _ => rfl⟩⟩
              · obtain rfl := Option.some.inj (show some _ = some o from ho)
                have h0 : D 0 = true := by first | exact haf ⟨0, .data⟩ (by simp) rfl | exact haf ⟨0, .phase⟩ (by simp) rfl | exact haf ⟨0, .chain⟩ (by simp) rfl
                exact op_putR 26 _ _ rfl S 4 (g := r1) (C := #[.int .i64 0, .slice none 0 0, .int .i64 0, .int .i64 0, .int .i64 0]) (t := 26) (by simp only [List.getElem?_cons_succ, List.getElem?_cons_zero, cnd_f hDi]) ((hev.old 2 (by kernel_rfl)).trans rfl) _ ((hev.new 0 _ 41 rfl rfl h0).trans (f0 h0)) rfl (by kernel_rfl) rfl (fun w S => ⟨_, rfl, z9, S, f0, f1, f2, f3, f6, o6_3⟩)
              · obtain rfl := Option.some.inj (show some _ = some o from ho)
                have h1 : D 1 = true := by first | exact haf ⟨1, .data⟩ (by simp) rfl | exact haf ⟨1, .phase⟩ (by simp) rfl | exact haf ⟨1, .chain⟩ (by simp) rfl
                exact op_putR 28 _ _ rfl S 3 (g := r2) (C := #[.int .i64 0, .int .i64 0]) (t := 28) (by simp only [List.getElem?_cons_succ, List.getElem?_cons_zero, cnd_f hDi]) ((hev.old 3 (by kernel_rfl)).trans rfl) _ ((hev.new 1 _ 42 rfl rfl h1).trans (f1 h1)) rfl (by kernel_rfl) rfl (fun w S => ⟨_, rfl, z9, S, f0, f1, f2, f3, f6, o6_3⟩)
              · obtain rfl := Option.some.inj (show some _ = some o from ho)
                have h3 : D 3 = true := by first | exact haf ⟨3, .data⟩ (by simp) rfl | exact haf ⟨3, .phase⟩ (by simp) rfl | exact haf ⟨3, .chain⟩ (by simp) rfl
                exact op_move (.inr rfl) ((hev.new 3 _ 44 rfl rfl h3).trans (f3 h3)) ⟨_, rfl, z9, S, f0, f1, f2, f3, fun _ => rfl, fun _ => h3⟩
              · exact absurd ho (by simp)
            intro V w hI
            obtain ⟨z9, S, f0, f1, f2, f3, f6, o6_3⟩ := hI
            replace f0 := f0 rfl
            replace f1 := f1 rfl
            replace f2 := f2 rfl
            replace f3 := f3 rfl
            replace f6 := f6 rfl
            replace S : Hid (Sep noX w0 [bx g7 #[.int .i64 pk, .int .i64 pw] 28, bx g6 #[.int .i64 lv2, .slice A2 zs2.length c2, .int .i64 hi2, .int .i64 ri2, .int .i64 ow_2] 26, cuI gc A n c, bx r2 #[.int .i64 pk, .int .i64 pw] 28, bx r1 #[.int .i64 lv2, .slice A2 zs2.length c2, .int .i64 hi2, .int .i64 ri2, .int .i64 ow_2] 26, ow (.slice A2 zs2.length c2) zs2 F2] w) := Lib.hid S
            simp only [putF, Act.put, List.setIfInBounds_toArray, List.set_cons_succ, List.set_cons_zero, f0, f1, f2, f3, f6]
            clear f0 f1 f2 f3 f6 o6_3
            go_wp2_with fail
            exact bodyPost_ret (results_ccs rfl _ S.out 4 3 rfl rfl rfl rfl Try.isAgg26 Try.isAgg28 (by kernel_rfl) (by kernel_rfl)) rfl (by exact S.out.drawnH 5 (x := ⟨lv2, zs2, hi2, ri2, ow_2⟩) _ _ _ rfl rfl H41.out)
end Go.Proofs.Ytokkpbjldchjpaa

/- The code's own RowOf: the iterator along a row. -/
import Derived.Test.YtlmhcifnikdliaaDoorB27
namespace Go.Proofs.YtlmhcifnikdliaaDoor
open Go.RowKit Go.Shelf

attribute [local go_sem] Oper.semAt_some

structure KeepB (B Bt : Nat) (W W' : World) : Prop where
  size : W.heap.size ≤ W'.heap.size
  block : ∀ k, k < B ∨ k = Bt → W'.heap[k]? = W.heap[k]?
theorem KeepB.refl (B Bt : Nat) (W : World) : KeepB B Bt W W := ⟨Nat.le_refl _, fun _ _ => rfl⟩
theorem KeepB.trans {B Bt : Nat} {X Y Z : World} (h : KeepB B Bt X Y) (k : KeepB B Bt Y Z) : KeepB B Bt X Z := ⟨Nat.le_trans h.size k.size, fun i hi => (k.block i hi).trans (h.block i hi)⟩
theorem keepB_t {B Bt : Nat} {X Y Z : World} (h : KeepB B Bt X Y) (k : KeepB B Bt Y Z) : KeepB B Bt X Z := h.trans k
theorem putObj_other (W : World) (l k : Nat) (o' : Obj) (h : k ≠ l) : (W.putObj l o').heap[k]? = W.heap[k]? := by
  by_cases hk : k < W.heap.size
  · exact (grownBy_putObj' W l o').block k hk (by intro e; cases e; exact h rfl)
  · have e2 : (W.putObj l o').heap.size = W.heap.size := by simp [World.putObj]
    simp [hk, e2]
theorem keepB_b {B Bt : Nat} {w : World} (hn : B ≤ w.heap.size) (ht : Bt < w.heap.size) (W : World) (l : Nat) (o o' : Obj) (hl : w.heap.size ≤ l) (_ : W.heap[l]? = some o) (_ : o.isCells = false) (_ : o.isWalk = false) : KeepB B Bt W (W.putObj l o') :=
  ⟨(grownBy_putObj' W l o').size, fun k hk => putObj_other W l k o' (by omega)⟩
theorem KeepB.cell {B Bt : Nat} {W W' : World} (h : KeepB B Bt W W') (p : Addr) (hb : p.block < B) : W'.cell? p = W.cell? p := by
  unfold World.cell?
  rw [h.block _ (.inl hb)]

set_option maxRecDepth 100000 in
set_option maxHeartbeats 1000000 in
theorem along1_in (F : Fence) (nn : Nat) (hF : F.fn 65) (hro : F.round = none) (hnn : 1 ≤ nn) (l Bx Bt B : Nat) (r x0 : Int) (xs : List Nd) (A : Option Addr) (n c : Nat)
    (hR : Right n r xs) (hx0 : x0 < n) (hx1 : -1 ≤ x0) (J Jx : List Int → World → Prop)
    (hY : ∀ pre x W, J pre W → pre.length < 40 → YieldAt F (nn - 1) Tryd.prog l #[.int .i64 x] W fun e W' =>
      (e = .returned (.bool true) ∧ J (pre ++ [x]) W' ∧ KeepB B Bt W W') ∨ (e = .returned (.bool false) ∧ Jx (pre ++ [x]) W'))
    (W : World) (hbx : W.heap[Bx]? = some (.cells #[.int .i64 x0] 2 (0, 0))) (hbt : W.heap[Bt]? = some (.cells #[.int .i64 r, .slice A n c] 29 (0, 0)))
    (hT : RS W B A n xs) (h0 : J [] W) :
    CallsIn F nn Tryd.prog 65 #[.func (.yield l) #[] #[], .pointer (some ⟨Bx, 0, none⟩), .pointer (some ⟨Bt, 0, none⟩)] W fun e W' => (∃ v, e = .returned v) ∧
      ((∃ ys, ys = rowF xs 40 x0 ∧ J ys W') ∨ (∃ pre, pre <+: rowF xs 40 x0 ∧ Jx pre W')) := by
  have HR := Lib.hid hR
  have HT := Lib.hid hT
  have D0 : Hid (∀ wx, KeepB B Bt W wx → wx.cell? ⟨Bt, 1, none⟩ = some (.slice A n c)) := Lib.hid (fun wx hk => by rw [cell_of_row _ _ 1 _ _ _ ((hk.block _ (.inr rfl)).trans hbt)]; rfl)
  have hcx : W.cell? ⟨Bx, 0, none⟩ = some (.int .i64 x0) := by rw [cell_of_row _ _ 0 _ _ _ hbx]; rfl
  have HK : Hid (∀ wx, KeepB B Bt W wx → ∀ p : Addr, p.block < B → wx.cell? p = W.cell? p) := Lib.hid (fun wx hk p hp => hk.cell p hp)
  have HX0 := Lib.hid hx0
  have HX1 := Lib.hid hx1
  have HY := Lib.hid hY
  have H0 := Lib.hid h0
  clear hR hT hbt hbx hx0 hx1 hY h0
  refine callsIn_of_wp Tryd.func65 rfl hF ?_ hro
  simp only [Tryd.ntmps65, List.size_toArray, List.length_cons, List.length_nil, Nat.reduceAdd, Nat.reduceSub, Array.replicate_succ, Array.replicate_zero, List.push_toArray, List.append_toArray, List.nil_append, List.cons_append]
  gi_wp2
  gi_loopw [4, 6] (fun a i wr => ∃ (k : Nat) (x : Int) (pre : List Int), a = .int .i64 x ∧ i = .int .i64 k ∧ k ≤ 40 ∧ Hid (pre.length = k) ∧ Hid (rowF xs 40 x0 = pre ++ rowF xs (40 - k) x) ∧ Hid (x < n) ∧ Hid (-1 ≤ x) ∧ Hid (KeepB B Bt W wr) ∧ Hid (J pre wr))
    (fun _ i _ => 40 - (intOf i).toNat)
  case atStart => exact ⟨0, x0, [], rfl, rfl, by omega, Lib.hid rfl, Lib.hid rfl, HX0, HX1, Lib.hid (KeepB.refl _ _ _), H0⟩
  case round =>
    obtain ⟨k, x, pre, rfl, rfl, hk, hpl, hrow, hx, hx1, hkb, hJ⟩ := hrel
    clear hcx
    by_cases hk4 : k < 40
    · have g1 : decide ((k : Int) < 40) = true := by simp; omega
      by_cases hm : x = -1
      · have g2 : (x == -1) = true := by simpa using hm
        have E : Hid (rowF xs 40 x0 = pre) := Lib.hid (by rw [hrow.out, rowF_end _ _ _ (by omega)]; simp)
        clear hm
        gi_wp2
        refine ⟨fun _ h => (by cases h), ?_⟩
        gi_wp2
        refine bodyPost_ret (results_none rfl _ _ _) rfl ?_
        exact ⟨⟨_, rfl⟩, .inl ⟨pre, E.out.symm, hJ.out⟩⟩
      · have g2 : (x == -1) = false := by simpa using hm
        obtain ⟨a, rfl⟩ : ∃ a : Nat, x = a := ⟨x.toNat, by have := hx1.out; omega⟩
        have ha : a < n := by have := hx.out; omega
        obtain ⟨f, hf⟩ : ∃ f, 40 - k = f + 1 := ⟨39 - k, by omega⟩
        have hf2 : Hid (40 - (k + 1) = f) := Lib.hid (by omega)
        have E : Hid (rowF xs 40 x0 = (pre ++ [(a : Int)]) ++ rowF xs f (riAt xs a)) := Lib.hid (by rw [hrow.out, hf, rowF_go]; simp)
        clear hm hf
        obtain ⟨fn, tmps, assign, body, hy, hYR⟩ := HY.out pre (a : Int) wr hJ.out (by rw [hpl.out]; exact hk4)
        gi_wp2
        refine hYR.mono ?_
        rintro e W3 (⟨rfl, hJ3, hk3⟩ | ⟨rfl, hJx3⟩)
        · have hkW := hkb.out.trans hk3
          have d1 := D0.out _ hkW
          obtain ⟨b, off, rfl, hb, hc⟩ := HT.out.nd (by omega)
          obtain ⟨_, _, _, _, _, _, c3, _, _, _⟩ := (hc a ha).keep (w' := W3) hb (fun p hp => HK.out _ hkW p hp)
          change W3.cell? _ = some (.int .i64 (riAt xs a)) at c3
          have HJ3 := Lib.hid hJ3
          have HKW := Lib.hid hkW
          have R1 := Lib.hid (HR.out.ri a ha)
          have R2 := Lib.hid (HR.out.ri_ge a ha)
          clear hc hJ3 hkW hk3
          generalize riAt xs a = z at *
          gi_wp2
          go_roundw
          case rel => exact ⟨k + 1, z, pre ++ [(a : Int)], rfl, by go_num, by omega, Lib.hid (by rw [List.length_append, hpl.out]; rfl), Lib.hid (by rw [hf2.out]; exact E.out), R1, R2, HKW, HJ3⟩
          case measure => simp [intOf]; omega
        · gi_wp2
          refine bodyPost_ret (results_none rfl _ _ _) rfl ?_
          exact ⟨⟨_, rfl⟩, .inr ⟨pre ++ [(a : Int)], ⟨rowF xs f (riAt xs a), E.out.symm⟩, hJx3⟩⟩
    · have g1 : decide ((k : Int) < 40) = false := by simp; omega
      obtain rfl : k = 40 := by omega
      have E : Hid (rowF xs 40 x0 = pre) := Lib.hid (by rw [hrow.out]; simp [rowF])
      gi_wp2
      go_end0
      exact ⟨⟨_, rfl⟩, .inl ⟨pre, E.out.symm, hJ.out⟩⟩

set_option maxHeartbeats 1000000 in
theorem along_in (F : Fence) (nn : Nat) (hF : F.fn 48) (hro : F.round = none) (r x : Int) (A : Option Addr) (n c : Nat) (w : World) :
    CallsIn F nn Tryd.prog 48 #[.agg #[.int .i64 r, .slice A n c], .int .i64 x] w fun e w' => e = .returned (.func (.func 65) #[] #[.pointer (some ⟨w.heap.size + 1, 0, none⟩), .pointer (some ⟨w.heap.size, 0, none⟩)]) ∧
      w' = (w.alloc (.cells #[.int .i64 r, .slice A n c] 29)).alloc (.cells #[.int .i64 x] 2) := by
  refine callsIn_of_wp Tryd.func48 rfl hF ?_ hro
  simp only [Tryd.ntmps48, List.size_toArray, List.length_cons, List.length_nil, Nat.reduceAdd, Nat.reduceSub, Array.replicate_succ, Array.replicate_zero, List.push_toArray, List.append_toArray, List.nil_append, List.cons_append]
  gi_wp2
  go_ret
  exact ⟨rfl, rfl⟩

theorem along_stops (F : Fence) (nn : Nat) (hF : F.fn 65) (hro : F.round = none) (hnn : 1 ≤ nn) (Bx Bt B : Nat) (r x0 : Int) (xs : List Nd) (A : Option Addr) (n c : Nat)
    (hR : Right n r xs) (hx0 : x0 < n) (hx1 : -1 ≤ x0) (w : World) (hbx : w.heap[Bx]? = some (.cells #[.int .i64 x0] 2 (0, 0))) (hbt : w.heap[Bt]? = some (.cells #[.int .i64 r, .slice A n c] 29 (0, 0)))
    (hT : RS w B A n xs) (hB : B ≤ w.heap.size) :
    SeqStopsK F nn Tryd.prog 65 #[.pointer (some ⟨Bx, 0, none⟩), .pointer (some ⟨Bt, 0, none⟩)] (fun x : Int => #[Value.int .i64 x]) (KeepB B Bt) (fun ys => ys = rowF xs 40 x0) (fun pre => pre <+: rowF xs 40 x0) 40 w := fun l J Jx W hW _ _ hY h0 =>
  along1_in F nn hF hro hnn l Bx Bt B r x0 xs A n c hR hx0 hx1 J Jx hY W (box_on hW hbx) (box_on hW hbt) (hT.below (hW.mono hB)) h0
end Go.Proofs.YtlmhcifnikdliaaDoor

/- The code's own functions of chapter 7: Sound, PairsIn, ToldIn: what they answer, where the flaws' variables hold what the program's text lays. -/
import Derived.Test.YtlmhcifnikdliaaDoorC32
import Derived.Deep.RegionHeld3
import Derived.Deep.RegionWith
import Derived.Test.YtlmhcifnikdliaaDoorC04
import Derived.ProofKit
import Derived.OpenShut
import Derived.ChangeOld
import Derived.Deep.SlicePairs
import Derived.Test.YtlmhcifnikdliaaDoorC06
namespace Go.Proofs.YtlmhcifnikdliaaDoor
open Go.RowKit

structure Gl (a0 a1 : Addr) (w : World) : Prop where
  g0 : w.cell? ⟨0, 0, none⟩ = some (.iface 128 (.pointer (some a0)))
  g1 : w.cell? ⟨1, 0, none⟩ = some (.iface 128 (.pointer (some a1)))
  lt : 1 < w.heap.size
  ne : a0 ≠ a1
  h0 : ∃ c t, w.heap[a0.block]? = some (.cells c t (0, 0))
  h1 : ∃ c t, w.heap[a1.block]? = some (.cells c t (0, 0))
theorem Gl.on {a0 a1 : Addr} {w w' : World} (h : Gl a0 a1 w) (hb : Below w.heap.size w w') : Gl a0 a1 w' := by
  have hl := h.lt
  refine ⟨by rw [hb.cell (p := ⟨0, 0, none⟩) (by show 0 < _; omega)]; exact h.g0, by rw [hb.cell (p := ⟨1, 0, none⟩) (by show 1 < _; omega)]; exact h.g1, Nat.lt_of_lt_of_le hl hb.size, h.ne, ?_, ?_⟩
  · obtain ⟨c, t, e⟩ := h.h0
    exact ⟨c, t, box_on hb e⟩
  · obtain ⟨c, t, e⟩ := h.h1
    exact ⟨c, t, box_on hb e⟩
def Ge (w : World) : Prop := w.cell? ⟨2, 0, none⟩ = some (.iface 101 (.agg #[.pointer (some ⟨3, 48, none⟩)])) ∧ 2 < w.heap.size
theorem Ge.on {w w' : World} (h : Ge w) (hb : Below w.heap.size w w') : Ge w' := ⟨by rw [hb.cell (p := ⟨2, 0, none⟩) h.2]; exact h.1, Nat.lt_of_lt_of_le h.2 hb.size⟩

theorem as7_flawT {a0 a1 : Addr} {r : Int} {xs : List Nd} {v : Value} {w : World} {g : Nat} {o0 o1 : Value} {tt : TypeId} (h : FlawT a0 a1 r xs v) (hg : Ge w) (hx : w.heap[g]? = some (.cells #[o0, o1] tt (0, 0))) :
    Calls Tryd.prog 32 #[v, .iface 58 (.pointer (some ⟨g, 0, none⟩))] w fun e w' => e = .returned (.bool (!toldB r xs)) ∧ ∀ B, B ≤ g → Below B w w' := by
  cases hs : soundB r xs
  · obtain ⟨s, rfl⟩ := h.bad hs
    rw [toldB_not hs]
    exact as7_hit s a0 g o0 o1 tt w hg.1 hx
  · cases ht : toldB r xs
    · obtain ⟨s, rfl⟩ := h.late hs ht
      exact as7_hit s a1 g o0 o1 tt w hg.1 hx
    · obtain rfl := h.good hs ht
      exact (as7_nil _ w).mono fun e w' ⟨he, hw⟩ => ⟨he, fun B _ => by rw [hw]; exact Below.refl _ _⟩

set_option maxRecDepth 100000 in
set_option maxHeartbeats 1000000 in
theorem iToldIn_any (r : Int) (xs : List Nd) (A : Option Addr) (n c : Nat) (a0 a1 : Addr) (w : World) (h : RS w w.heap.size A n xs) (hs : Small.sm xs) (hc : n ≤ c) (hc2 : c ≤ 9223372036854775807) (hg : Gl a0 a1 w) (he : Ge w) :
    Calls Tryd.prog 18 #[.agg #[.int .i64 r, .slice A n c]] w fun e w' => e = .returned (.bool (toldB r xs)) ∧ Below w.heap.size w w' := by
  obtain ⟨w0, hw0⟩ : ∃ w0, w0 = w.alloc (.cells #[.int .i64 r, .slice A n c] 29) := ⟨_, rfl⟩
  have b0 : Below w.heap.size w w0 := by rw [hw0]; exact (Below.refl _ _).alloc (Nat.le_refl _) _
  have x0 : w0.heap[w.heap.size]? = some (.cells #[.int .i64 r, .slice A n c] 29 (0, 0)) := by rw [hw0]; exact heap_alloc_new _ _
  have s0 : w0.heap.size = w.heap.size + 1 := by rw [hw0]; simp
  obtain ⟨w1, hw1⟩ : ∃ w1, w1 = w0.alloc (.cells #[.string ⟨#[]⟩, .nilIface] 56) := ⟨_, rfl⟩
  have b1 : Below w0.heap.size w0 w1 := by rw [hw1]; exact (Below.refl _ _).alloc (Nat.le_refl _) _
  have x1 : w1.heap[w.heap.size + 1]? = some (.cells #[.string ⟨#[]⟩, .nilIface] 56 (0, 0)) := by rw [hw1, ← s0]; exact heap_alloc_new _ _
  have D0 : Hid (∀ wx, Below w0.heap.size w0 wx → wx.cell? ⟨w.heap.size, 0, none⟩ = some (.int .i64 r) ∧ wx.cell? ⟨w.heap.size, 1, none⟩ = some (.slice A n c)) := Lib.hid (fun wx hb => ⟨by rw [cell_of_row _ _ 0 _ _ _ (box_on hb x0)]; rfl, by rw [cell_of_row _ _ 1 _ _ _ (box_on hb x0)]; rfl⟩)
  have B1 : Hid (Below w.heap.size w w1) := Lib.hid (b0.trans (b1.mono b0.size))
  have TK : Hid (Calls Tryd.prog 26 #[.agg #[.int .i64 r, .slice A n c]] w1 fun e w'' => ∃ v, e = .returned v ∧ FlawT a0 a1 r xs v ∧ Below w1.heap.size w1 w'') := Lib.hid (
    have g := hg.on B1.out
    tflaw_any r xs A n c a0 a1 w1 (h.on B1.out) hs hc hc2 g.g0 g.g1 (by have := g.lt; omega))
  have AK : Hid (∀ w' v, Below w1.heap.size w1 w' → FlawT a0 a1 r xs v → Calls Tryd.prog 32 #[v, .iface 58 (.pointer (some ⟨w.heap.size + 1, 0, none⟩))] w' fun e w'' => e = .returned (.bool (!toldB r xs)) ∧ ∀ B, B ≤ w.heap.size + 1 → Below B w' w'') :=
    Lib.hid (fun w' v hb hv => as7_flawT hv ((he.on B1.out).on hb) (box_on hb x1))
  have d := D0.out _ b1
  have HW := Lib.hid hw0
  have HW1 := Lib.hid hw1
  clear h hs hc hc2 hg he hw0 hw1 b0 x0 x1 b1 s0 D0
  obtain ⟨d0, d1⟩ := d
  generalize toldB r xs = q at *
  rw [HW1.out, HW.out] at d0 d1
  go_enter Tryd.func18, Tryd.ntmps18
  go_wp2_with fail
  rw [← HW.out, ← HW1.out]
  refine TK.out.mono ?_
  rintro e w4 ⟨v4, rfl, f4, b4⟩
  have B4 := Lib.hid b4
  have F4 := Lib.hid f4
  clear b4 f4 d0 d1
  go_wp2_with fail
  refine (AK.out _ _ B4.out F4.out).mono ?_
  rintro e w5 ⟨rfl, b5⟩
  have B5 := Lib.hid (B1.out.trans ((B4.out.mono B1.out.size).trans (b5 w.heap.size (by omega))))
  clear b5
  go_wp2
  go_ret
  exact ⟨rfl, B5.out⟩

end Go.Proofs.YtlmhcifnikdliaaDoor
namespace Go.Proofs.YtlmhcifnikdliaaDoor
open Go.ChangeShapes Go.WideShapes Go.ChangeAt Go.RowKit Go.Deep

set_option maxRecDepth 100000 in
theorem own : ownKnob Tryd.prog.godebug = none := by kernel_rfl
set_option maxRecDepth 100000 in
theorem laidOut : laidOutB Tryd.prog = true := by kernel_rfl
set_option maxRecDepth 100000 in
theorem pair_cells2 : Tryd.prog.cellsOf 120 = 2 := by kernel_rfl
set_option maxRecDepth 100000 in
theorem int_cells : Tryd.prog.cellsOf 2 = 1 := by kernel_rfl

def Fits (zs : List Pr) : Prop := ∀ i, i < zs.length → (Lit.int .i64 (kAt zs i)).wf = true ∧ (Lit.int .i64 (vAt zs i)).wf = true

set_option maxRecDepth 100000 in
theorem RP_of_cells {H : Type} {enc : TypeId × Value → H} {W : World} {fuel : Nat} {cs : List Value} {x : DataW H × List MemPlace}
    (hf : DataW.trod enc Tryd.prog W 0 (fun _ => true) true fuel 60 cs = some x) :
    ∃ A n c zs, cs = [.slice A n c] ∧ RP W W.heap.size A n zs ∧ n ≤ 9223372036854775807 ∧ Fits zs := by
  rcases open_slice_pairs Tryd.underlying60 Tryd.underlying120 pair_cells2 rfl rfl int_cells int_cells hf with ⟨hcs, _⟩ | ⟨a, len0, cap0, m, k, V0, V1, D0, D1, P0, P1, hcs, _, hl, hm, hmm, _, hx⟩
  · exact ⟨_, _, _, [], hcs, RP.nil _ _ _, by omega, fun i hi => absurd hi (by simp)⟩
  · have hm2 : m = cap0 := by simpa using hmm
    have each : ∀ i, i < len0 → ∃ x y : Int, W.cell? (a.add (i * 2)) = some (.int .i64 x) ∧ W.cell? (a.add (i * 2 + 1)) = some (.int .i64 y) ∧ (Lit.int .i64 x).wf = true ∧ (Lit.int .i64 y).wf = true := by
      intro i hi
      obtain ⟨h0, h1, h2, h3⟩ := hx i (by omega)
      obtain ⟨x, e0, _, w0⟩ := DataW.trod_int Tryd.underlying2 h2
      obtain ⟨y, e1, _, w1⟩ := DataW.trod_int Tryd.underlying2 h3
      simp at e0 e1
      exact ⟨x, y, by rw [h0, e0], by rw [h1, e1], w0, w1⟩
    let f : Nat → Pr := fun i => (intOf ((W.cell? (a.add (i * 2))).getD undef), intOf ((W.cell? (a.add (i * 2 + 1))).getD undef))
    have hk : ∀ i, i < len0 → kAt ((List.range len0).map f) i = (f i).1 ∧ vAt ((List.range len0).map f) i = (f i).2 := fun i hi => by simp [kAt, vAt, hi]
    refine ⟨_, _, _, (List.range len0).map f, hcs, ⟨by simp, fun hn => ?_⟩, by unfold maxLen at hm; omega, ?_⟩
    · obtain ⟨x, y, h0, _, _, _⟩ := each 0 hn
      obtain ⟨b, off, spot⟩ := a
      have hspot : spot = none := by
        have := World.cell?_spot h0
        simpa [Addr.add] using this
      subst hspot
      refine ⟨b, off, rfl, ?_, fun i hi => ?_⟩
      · have := World.block_lt_of_cell? _ _ h0
        simpa [Addr.add] using this
      · obtain ⟨x, y, h0, h1, _, _⟩ := each i hi
        obtain ⟨e0, e1⟩ := hk i hi
        have a0 : (⟨b, off, none⟩ : Addr).add (i * 2) = ⟨b, off + i * 2, none⟩ := by unfold Addr.add; split <;> simp_all
        have a1 : (⟨b, off, none⟩ : Addr).add (i * 2 + 1) = ⟨b, off + i * 2 + 1, none⟩ := by unfold Addr.add; split <;> simp_all [Nat.add_assoc]
        rw [e0, e1]
        simp only [f]
        rw [a0] at h0
        rw [a1] at h1
        simp only [a0, a1, h0, h1, Option.getD_some, intOf]
        exact ⟨trivial, trivial⟩
    · intro i hi
      have hi : i < len0 := by simpa using hi
      obtain ⟨x, y, h0, h1, w0, w1⟩ := each i hi
      obtain ⟨e0, e1⟩ := hk i hi
      rw [e0, e1]
      simp only [f, h0, h1, Option.getD_some, intOf]
      exact ⟨w0, w1⟩

end Go.Proofs.YtlmhcifnikdliaaDoor
namespace Go.Proofs.YtlmhcifnikdliaaDoor
open Go.ChangeShapes Go.WideShapes Go.ChangeAt Go.RowKit Go.Deep

set_option maxRecDepth 100000 in
theorem node_cells : Tryd.prog.cellsOf 62 = 5 := by kernel_rfl
set_option maxRecDepth 100000 in
theorem slice_cells : Tryd.prog.cellsOf 60 = 1 := by kernel_rfl

set_option maxRecDepth 100000 in
theorem Nd_of_cells {H : Type} {enc : TypeId × Value → H} {W : World} {fuel : Nat} {cs : List Value} {x : DataW H × List MemPlace}
    (hf : DataW.trod enc Tryd.prog W 0 (fun _ => true) true fuel 62 cs = some x) :
    ∃ (y : Nd) (A : Option Addr) (n c : Nat), cs = [.int .i64 y.lv, .slice A n c, .int .i64 y.hi, .int .i64 y.ri, .int .i64 y.ow] ∧ RP W W.heap.size A n y.ps ∧ n ≤ 9223372036854775807 := by
  obtain ⟨xs, m, _, _, hlen, hxl, hg⟩ := DataW.trod_struct Tryd.underlying62 hf
  rw [node_cells] at hlen
  match cs, hlen with
  | [v0, v1, v2, v3, v4], _ =>
    match xs, hxl with
    | [y0, y1, y2, y3, y4], _ =>
      have h0 := hg 0 _ rfl
      have h1 := hg 1 _ rfl
      have h2 := hg 2 _ rfl
      have h3 := hg 3 _ rfl
      have h4 := hg 4 _ rfl
      simp [int_cells, slice_cells] at h0 h1 h2 h3 h4
      obtain ⟨a0, e0, _, _⟩ := DataW.trod_int Tryd.underlying2 h0
      obtain ⟨A, n, c, zs, e1, hR, hn, _⟩ := RP_of_cells h1
      obtain ⟨a2, e2, _, _⟩ := DataW.trod_int Tryd.underlying2 h2
      obtain ⟨a3, e3, _, _⟩ := DataW.trod_int Tryd.underlying2 h3
      obtain ⟨a4, e4, _, _⟩ := DataW.trod_int Tryd.underlying2 h4
      simp at e0 e1 e2 e3 e4
      subst e0 e1 e2 e3 e4
      exact ⟨⟨a0, zs, a2, a3, a4⟩, A, n, c, rfl, hR, hn⟩

end Go.Proofs.YtlmhcifnikdliaaDoor

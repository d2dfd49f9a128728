/- errors.Is by its contracts, at what the code of chapter 7 hands it: nil, a flaw that wraps the target, a flaw that wraps another. -/
import Derived.Test.YtlmhcifnikdliaaDoorA30
import Derived.WalkKit
import Derived.LaidEql
import Derived.Stop.Asserts
import Derived.RowKitTokens
import Derived.Deep.RegionHeld3
import Derived.Deep.RegionWith
namespace Go.Proofs.YtlmhcifnikdliaaDoor
open Go.RowKit Go.Extern.Stop Go.Stop Go.Extern

theorem isTypeOf7 (v : Value) (w : World) : (Extern.ReflectliteType.typeOf #[.iface 128 v]).run Tryd.prog w = .ok (.iface 101 (.agg #[.pointer (some ⟨3, 128, none⟩)])) w := by kernel_rfl
theorem isComparable7 (w : World) : ((Extern.ReflectliteType.method fun t => do Go.Extern.Rtype.noPackHeld "Comparable" t; (fun a => Value.bool a.comparable) <$> typeInfo t) #[.agg #[.pointer (some ⟨3, 128, none⟩)]]).run Tryd.prog w = .ok (.bool true) w := by kernel_rfl
theorem isMethodComparable7 (v : Value) (w : World) : (Go.method 261 101 v "Comparable").run Tryd.prog w = .ok (112, v) w := by kernel_rfl
theorem isComp7 : (Tryd.prog.info? 128).map (·.comparable) = some true := by kernel_rfl
theorem isSize7 : (Tryd.prog.info? 150).map (·.size) = some 1 := by kernel_rfl
theorem noIsE7 (v : Value) (xT : TypeId) (w : World) : (Instr.typeAssert (.iface 128 v) xT 103 true).run Tryd.prog w = .ok (.tuple #[.nilIface, .bool false]) w := run_typeAssert_lacksB Tryd.underlying103 (by kernel_rfl) (by kernel_rfl) v xT w
theorem noUnwrapE7 (v : Value) (xT : TypeId) (w : World) : (Instr.typeAssert (.iface 128 v) xT 106 true).run Tryd.prog w = .ok (.tuple #[.nilIface, .bool false]) w := run_typeAssert_lacksB Tryd.underlying106 (by kernel_rfl) (by kernel_rfl) v xT w
theorem noUnwrapsE7 (v : Value) (xT : TypeId) (w : World) : (Instr.typeAssert (.iface 128 v) xT 107 true).run Tryd.prog w = .ok (.tuple #[.nilIface, .bool false]) w := run_typeAssert_lacksB Tryd.underlying107 (by kernel_rfl) (by kernel_rfl) v xT w
theorem noIsF7 (v : Value) (xT : TypeId) (w : World) : (Instr.typeAssert (.iface 56 v) xT 103 true).run Tryd.prog w = .ok (.tuple #[.nilIface, .bool false]) w := run_typeAssert_lacksB Tryd.underlying103 (by kernel_rfl) (by kernel_rfl) v xT w
theorem hasUnwrapF7 (v : Value) (xT : TypeId) (w : World) : (Instr.typeAssert (.iface 56 v) xT 106 true).run Tryd.prog w = .ok (.tuple #[.iface 56 v, .bool true]) w := run_typeAssert_hasB Tryd.underlying106 (by kernel_rfl) v xT w
theorem methodUnwrap7 (v : Value) (w : World) : (Go.method 261 56 v "Unwrap").run Tryd.prog w = .ok (106, v) w := by kernel_rfl

theorem is7_nil (b : Addr) (w : World) : Calls Tryd.prog 25 #[.nilIface, .iface 128 (.pointer (some b))] w fun e w' => e = .returned (.bool false) ∧ Below w.heap.size w w' := by
  have hn := run_eql_iface_nil_left (P := Tryd.prog) w 128 (.pointer (some b)) Tryd.underlying48
  go_enter Tryd.func25, Tryd.ntmps25
  go_wp2
  go_ret
  exact ⟨rfl, Below.refl _ _⟩

set_option maxRecDepth 100000 in
theorem is7_same (s : ByteArray) (b : Addr) (w : World) : Calls Tryd.prog 25 #[flawV s b, .iface 128 (.pointer (some b))] w fun e w' => e = .returned (.bool true) ∧ Below w.heap.size w w' := by
  obtain ⟨i, hi, hcmp⟩ := Option.map_eq_some_iff.1 isComp7
  obtain ⟨j, hj, hjs⟩ := Option.map_eq_some_iff.1 isSize7
  have h8 := @run_callFunc_extern Tryd.prog 40 _ Extern.ReflectliteType.typeOf Tryd.func40 (by kernel_rfl) (by kernel_rfl) (by kernel_rfl) (by kernel_rfl)
  have h32 := @run_callFunc_extern Tryd.prog 112 _ (Extern.ReflectliteType.method fun t => do Go.Extern.Rtype.noPackHeld "Comparable" t; pure (.bool (← typeInfo t).comparable)) Tryd.func112 (by kernel_rfl) (by kernel_rfl) (by kernel_rfl) (by kernel_rfl)
  have tT := isTypeOf7
  have cT := isComparable7
  have mR := isMethodComparable7
  have nE := noIsE7
  have uE := noUnwrapE7
  have vE := noUnwrapsE7
  have nW := noIsF7
  have uW := hasUnwrapF7
  have mU := methodUnwrap7
  have heq := fun w => run_eql_iface_ptr_same (P := Tryd.prog) w b Tryd.underlying48 Tryd.underlying128 hi hcmp hj
  have hty := run_eql_iface_types (P := Tryd.prog) 56 128 (.agg #[.string s, .iface 128 (.pointer (some b))]) (.pointer (some b)) Tryd.underlying48 (by decide) w
  unfold flawV
  go_enter Tryd.func25, Tryd.ntmps25
  go_wp2
  refine wp_loop_rounds 2 ?_
  rw [rounds_succ]
  go_wp2
  rw [rounds_succ]
  go_wp2
  go_ret
  exact ⟨rfl, (Below.refl _ _).alloc (Nat.le_refl _) _⟩

set_option maxRecDepth 100000 in
theorem is7_other (s : ByteArray) (a b : Addr) (ca cb : Array Value) (ta tb : TypeId) (w : World) (hne : a ≠ b) (ha : w.heap[a.block]? = some (.cells ca ta (0, 0))) (hb : w.heap[b.block]? = some (.cells cb tb (0, 0))) :
    Calls Tryd.prog 25 #[flawV s a, .iface 128 (.pointer (some b))] w fun e w' => e = .returned (.bool false) ∧ Below w.heap.size w w' := by
  obtain ⟨i, hi, hcmp⟩ := Option.map_eq_some_iff.1 isComp7
  obtain ⟨j, hj, hjs⟩ := Option.map_eq_some_iff.1 isSize7
  have h8 := @run_callFunc_extern Tryd.prog 40 _ Extern.ReflectliteType.typeOf Tryd.func40 (by kernel_rfl) (by kernel_rfl) (by kernel_rfl) (by kernel_rfl)
  have h32 := @run_callFunc_extern Tryd.prog 112 _ (Extern.ReflectliteType.method fun t => do Go.Extern.Rtype.noPackHeld "Comparable" t; pure (.bool (← typeInfo t).comparable)) Tryd.func112 (by kernel_rfl) (by kernel_rfl) (by kernel_rfl) (by kernel_rfl)
  have tT := isTypeOf7
  have cT := isComparable7
  have mR := isMethodComparable7
  have nE := noIsE7
  have uE := noUnwrapE7
  have vE := noUnwrapsE7
  have nW := noIsF7
  have uW := hasUnwrapF7
  have mU := methodUnwrap7
  have hla := (Array.getElem?_eq_some_iff.1 ha).1
  have hlb := (Array.getElem?_eq_some_iff.1 hb).1
  have heq := run_eql_iface_ptr_other (P := Tryd.prog) (w.alloc (.cells #[.string s, .iface 128 (.pointer (some a))] 56)) Tryd.underlying48 Tryd.underlying128 hi hcmp hj (by rw [hjs]; decide) hne ((Below.heap_alloc _ _ _ hla).trans ha) ((Below.heap_alloc _ _ _ hlb).trans hb)
  have hty := run_eql_iface_types (P := Tryd.prog) 56 128 (.agg #[.string s, .iface 128 (.pointer (some a))]) (.pointer (some b)) Tryd.underlying48 (by decide) w
  unfold flawV
  go_enter Tryd.func25, Tryd.ntmps25
  go_wp2
  refine wp_loop_rounds 2 ?_
  rw [rounds_succ]
  go_wp2
  rw [rounds_succ]
  go_wp2
  go_ret
  exact ⟨rfl, (Below.refl _ _).alloc (Nat.le_refl _) _⟩
end Go.Proofs.YtlmhcifnikdliaaDoor
namespace Go.Proofs.YtlmhcifnikdliaaDoor
open Go.RowKit

structure Gl (a0 a1 : Addr) (w : World) : Prop where
  g0 : w.cell? ⟨0, 0, none⟩ = some (.iface 128 (.pointer (some a0)))
  g1 : w.cell? ⟨1, 0, none⟩ = some (.iface 128 (.pointer (some a1)))
  lt : 1 < w.heap.size
  ne : a0 ≠ a1
  h0 : ∃ c t, w.heap[a0.block]? = some (.cells c t (0, 0))
  h1 : ∃ c t, w.heap[a1.block]? = some (.cells c t (0, 0))
theorem Gl.on {a0 a1 : Addr} {w w' : World} (h : Gl a0 a1 w) (hb : Below w.heap.size w w') : Gl a0 a1 w' := by
  have hl := h.lt
  refine ⟨by rw [hb.cell (p := ⟨0, 0, none⟩) (by show 0 < _; omega)]; exact h.g0, by rw [hb.cell (p := ⟨1, 0, none⟩) (by show 1 < _; omega)]; exact h.g1, Nat.lt_of_lt_of_le hl hb.size, h.ne, ?_, ?_⟩
  · obtain ⟨c, t, e⟩ := h.h0
    exact ⟨c, t, box_on hb e⟩
  · obtain ⟨c, t, e⟩ := h.h1
    exact ⟨c, t, box_on hb e⟩
def Ge (w : World) : Prop := w.cell? ⟨2, 0, none⟩ = some (.iface 101 (.agg #[.pointer (some ⟨3, 48, none⟩)])) ∧ 2 < w.heap.size
theorem Ge.on {w w' : World} (h : Ge w) (hb : Below w.heap.size w w') : Ge w' := ⟨by rw [hb.cell (p := ⟨2, 0, none⟩) h.2]; exact h.1, Nat.lt_of_lt_of_le h.2 hb.size⟩

theorem is7_flawT {a0 a1 : Addr} {r : Int} {xs : List Nd} {v : Value} {w : World} (h : FlawT a0 a1 r xs v) (hg : Gl a0 a1 w) :
    Calls Tryd.prog 25 #[v, .iface 128 (.pointer (some a0))] w fun e w' => e = .returned (.bool (!soundB r xs)) ∧ Below w.heap.size w w' := by
  cases hs : soundB r xs
  · obtain ⟨s, rfl⟩ := h.bad hs
    exact is7_same s a0 w
  · cases ht : toldB r xs
    · obtain ⟨s, rfl⟩ := h.late hs ht
      obtain ⟨c0, t0, e0⟩ := hg.h0
      obtain ⟨c1, t1, e1⟩ := hg.h1
      exact is7_other s a1 a0 c1 c0 t1 t0 w hg.ne.symm e1 e0
    · obtain rfl := h.good hs ht
      exact is7_nil a0 w
set_option maxRecDepth 100000 in
set_option maxHeartbeats 1000000 in
theorem iSound_any (r : Int) (xs : List Nd) (A : Option Addr) (n c : Nat) (a0 a1 : Addr) (w : World) (h : RS w w.heap.size A n xs) (hs : Small.sm xs) (hc : n ≤ c) (hc2 : c ≤ 9223372036854775807) (hg : Gl a0 a1 w) :
    Calls Tryd.prog 9 #[.agg #[.int .i64 r, .slice A n c]] w fun e w' => e = .returned (.bool (soundB r xs)) ∧ Below w.heap.size w w' := by
  obtain ⟨w0, hw0⟩ : ∃ w0, w0 = w.alloc (.cells #[.int .i64 r, .slice A n c] 29) := ⟨_, rfl⟩
  have b0 : Below w.heap.size w w0 := by rw [hw0]; exact (Below.refl _ _).alloc (Nat.le_refl _) _
  have x0 : w0.heap[w.heap.size]? = some (.cells #[.int .i64 r, .slice A n c] 29 (0, 0)) := by rw [hw0]; exact heap_alloc_new _ _
  have D0 : Hid (∀ wx, Below w0.heap.size w0 wx → wx.cell? ⟨w.heap.size, 0, none⟩ = some (.int .i64 r) ∧ wx.cell? ⟨w.heap.size, 1, none⟩ = some (.slice A n c)) := Lib.hid (fun wx hb => ⟨by rw [cell_of_row _ _ 0 _ _ _ (box_on hb x0)]; rfl, by rw [cell_of_row _ _ 1 _ _ _ (box_on hb x0)]; rfl⟩)
  have GL := Lib.hid (hg.on b0)
  have TK : Hid (∀ w', Below w0.heap.size w0 w' → Calls Tryd.prog 26 #[.agg #[.int .i64 r, .slice A n c]] w' fun e w'' => ∃ v, e = .returned v ∧ FlawT a0 a1 r xs v ∧ Below w'.heap.size w' w'') := Lib.hid (fun w' hb =>
    have g := GL.out.on hb
    tflaw_any r xs A n c a0 a1 w' ((h.on b0).on hb) hs hc hc2 g.g0 g.g1 (by have := g.lt; omega))
  have IK : Hid (∀ w' v, Below w0.heap.size w0 w' → FlawT a0 a1 r xs v → Calls Tryd.prog 25 #[v, .iface 128 (.pointer (some a0))] w' fun e w'' => e = .returned (.bool (!soundB r xs)) ∧ Below w'.heap.size w' w'') := Lib.hid (fun w' v hb hv => is7_flawT hv (GL.out.on hb))
  have K : Hid (∀ wx, Below w0.heap.size w0 wx → wx.cell? ⟨w.heap.size, 0, none⟩ = some (.int .i64 r) ∧ wx.cell? ⟨w.heap.size, 1, none⟩ = some (.slice A n c) ∧ wx.cell? ⟨0, 0, none⟩ = some (.iface 128 (.pointer (some a0)))) := Lib.hid (fun wx hb => ⟨(D0.out _ hb).1, (D0.out _ hb).2, (GL.out.on hb).g0⟩)
  have B0 := Lib.hid b0
  have HW := Lib.hid hw0
  clear h hs hc hc2 hg hw0 b0 x0
  generalize soundB r xs = q at *
  go_enter Tryd.func9, Tryd.ntmps9
  go_wp2_with fail
  rw [← HW.out]
  obtain ⟨d0, d1, d2⟩ := K.out _ (Below.refl _ _)
  go_region_held3 (fun w' => w'.cell? ⟨w.heap.size, 0, none⟩ = some (.int .i64 r) ∧ w'.cell? ⟨w.heap.size, 1, none⟩ = some (.slice A n c) ∧ w'.cell? ⟨0, 0, none⟩ = some (.iface 128 (.pointer (some a0))))
    (first
      | exact K.out _ (Below.refl _ _)
      | exact K.out _ (Below.refl _ _).drew
      | exact K.out _ (bel_on (bel_drew b4) b5)
      | exact K.out _ (bel_drew b4))
    (first
      | (go_at_call 26; refine (TK.out _ (Below.refl _ _).drew).mono ?_; rintro e w4 ⟨v4, rfl, f4, b4⟩)
      | (go_at_call 25; refine (IK.out _ _ (bel_drew b4) f4).mono ?_; rintro e w5 ⟨rfl, b5⟩))
  have B6 := Lib.hid (B0.out.trans ((bel_on (bel_drew b4) b5).mono B0.out.size))
  clear b4 b5 f4 d0 d1 d2 TK IK K
  go_wp2
  go_ret
  exact ⟨rfl, B6.out⟩

end Go.Proofs.YtlmhcifnikdliaaDoor

/- errors.Is by its contracts, at what the code of chapter 7 hands it: nil, a flaw that wraps the target, a flaw that wraps another. -/
import Derived.Test.YtlmhcifnikdliaaDoorB30
import Derived.WalkKit
import Derived.LaidEql
import Derived.Stop.Asserts
import Derived.RowKitTokens
namespace Go.Proofs.YtlmhcifnikdliaaDoor
open Go.RowKit Go.Extern.Stop Go.Stop Go.Extern

theorem isTypeOf7 (v : Value) (w : World) : (Extern.ReflectliteType.typeOf #[.iface 128 v]).run Tryd.prog w = .ok (.iface 101 (.agg #[.pointer (some ⟨3, 128, none⟩)])) w := by kernel_rfl
theorem isComparable7 (w : World) : ((Extern.ReflectliteType.method fun t => do Go.Extern.Rtype.noPackHeld "Comparable" t; (fun a => Value.bool a.comparable) <$> typeInfo t) #[.agg #[.pointer (some ⟨3, 128, none⟩)]]).run Tryd.prog w = .ok (.bool true) w := by kernel_rfl
theorem isMethodComparable7 (v : Value) (w : World) : (Go.method 261 101 v "Comparable").run Tryd.prog w = .ok (112, v) w := by kernel_rfl
theorem isComp7 : (Tryd.prog.info? 128).map (·.comparable) = some true := by kernel_rfl
theorem isSize7 : (Tryd.prog.info? 150).map (·.size) = some 1 := by kernel_rfl
theorem noIsE7 (v : Value) (xT : TypeId) (w : World) : (Instr.typeAssert (.iface 128 v) xT 103 true).run Tryd.prog w = .ok (.tuple #[.nilIface, .bool false]) w := run_typeAssert_lacksB Tryd.underlying103 (by kernel_rfl) (by kernel_rfl) v xT w
theorem noUnwrapE7 (v : Value) (xT : TypeId) (w : World) : (Instr.typeAssert (.iface 128 v) xT 106 true).run Tryd.prog w = .ok (.tuple #[.nilIface, .bool false]) w := run_typeAssert_lacksB Tryd.underlying106 (by kernel_rfl) (by kernel_rfl) v xT w
theorem noUnwrapsE7 (v : Value) (xT : TypeId) (w : World) : (Instr.typeAssert (.iface 128 v) xT 107 true).run Tryd.prog w = .ok (.tuple #[.nilIface, .bool false]) w := run_typeAssert_lacksB Tryd.underlying107 (by kernel_rfl) (by kernel_rfl) v xT w
theorem noIsF7 (v : Value) (xT : TypeId) (w : World) : (Instr.typeAssert (.iface 56 v) xT 103 true).run Tryd.prog w = .ok (.tuple #[.nilIface, .bool false]) w := run_typeAssert_lacksB Tryd.underlying103 (by kernel_rfl) (by kernel_rfl) v xT w
theorem hasUnwrapF7 (v : Value) (xT : TypeId) (w : World) : (Instr.typeAssert (.iface 56 v) xT 106 true).run Tryd.prog w = .ok (.tuple #[.iface 56 v, .bool true]) w := run_typeAssert_hasB Tryd.underlying106 (by kernel_rfl) v xT w
theorem methodUnwrap7 (v : Value) (w : World) : (Go.method 261 56 v "Unwrap").run Tryd.prog w = .ok (106, v) w := by kernel_rfl

theorem is7_nil (b : Addr) (w : World) : Calls Tryd.prog 25 #[.nilIface, .iface 128 (.pointer (some b))] w fun e w' => e = .returned (.bool false) ∧ Below w.heap.size w w' := by
  have hn := run_eql_iface_nil_left (P := Tryd.prog) w 128 (.pointer (some b)) Tryd.underlying48
  go_enter Tryd.func25, Tryd.ntmps25
  go_wp2
  go_ret
  exact ⟨rfl, Below.refl _ _⟩

set_option maxRecDepth 100000 in
theorem is7_same (s : ByteArray) (b : Addr) (w : World) : Calls Tryd.prog 25 #[flawV s b, .iface 128 (.pointer (some b))] w fun e w' => e = .returned (.bool true) ∧ Below w.heap.size w w' := by
  obtain ⟨i, hi, hcmp⟩ := Option.map_eq_some_iff.1 isComp7
  obtain ⟨j, hj, hjs⟩ := Option.map_eq_some_iff.1 isSize7
  have h8 := @run_callFunc_extern Tryd.prog 40 _ Extern.ReflectliteType.typeOf Tryd.func40 (by kernel_rfl) (by kernel_rfl) (by kernel_rfl) (by kernel_rfl)
  have h32 := @run_callFunc_extern Tryd.prog 112 _ (Extern.ReflectliteType.method fun t => do Go.Extern.Rtype.noPackHeld "Comparable" t; pure (.bool (← typeInfo t).comparable)) Tryd.func112 (by kernel_rfl) (by kernel_rfl) (by kernel_rfl) (by kernel_rfl)
  have tT := isTypeOf7
  have cT := isComparable7
  have mR := isMethodComparable7
  have nE := noIsE7
  have uE := noUnwrapE7
  have vE := noUnwrapsE7
  have nW := noIsF7
  have uW := hasUnwrapF7
  have mU := methodUnwrap7
  have heq := fun w => run_eql_iface_ptr_same (P := Tryd.prog) w b Tryd.underlying48 Tryd.underlying128 hi hcmp hj
  have hty := run_eql_iface_types (P := Tryd.prog) 56 128 (.agg #[.string s, .iface 128 (.pointer (some b))]) (.pointer (some b)) Tryd.underlying48 (by decide) w
  unfold flawV
  go_enter Tryd.func25, Tryd.ntmps25
  go_wp2
  refine wp_loop_rounds 2 ?_
  rw [rounds_succ]
  go_wp2
  rw [rounds_succ]
  go_wp2
  go_ret
  exact ⟨rfl, (Below.refl _ _).alloc (Nat.le_refl _) _⟩

set_option maxRecDepth 100000 in
theorem is7_other (s : ByteArray) (a b : Addr) (ca cb : Array Value) (ta tb : TypeId) (w : World) (hne : a ≠ b) (ha : w.heap[a.block]? = some (.cells ca ta (0, 0))) (hb : w.heap[b.block]? = some (.cells cb tb (0, 0))) :
    Calls Tryd.prog 25 #[flawV s a, .iface 128 (.pointer (some b))] w fun e w' => e = .returned (.bool false) ∧ Below w.heap.size w w' := by
  obtain ⟨i, hi, hcmp⟩ := Option.map_eq_some_iff.1 isComp7
  obtain ⟨j, hj, hjs⟩ := Option.map_eq_some_iff.1 isSize7
  have h8 := @run_callFunc_extern Tryd.prog 40 _ Extern.ReflectliteType.typeOf Tryd.func40 (by kernel_rfl) (by kernel_rfl) (by kernel_rfl) (by kernel_rfl)
  have h32 := @run_callFunc_extern Tryd.prog 112 _ (Extern.ReflectliteType.method fun t => do Go.Extern.Rtype.noPackHeld "Comparable" t; pure (.bool (← typeInfo t).comparable)) Tryd.func112 (by kernel_rfl) (by kernel_rfl) (by kernel_rfl) (by kernel_rfl)
  have tT := isTypeOf7
  have cT := isComparable7
  have mR := isMethodComparable7
  have nE := noIsE7
  have uE := noUnwrapE7
  have vE := noUnwrapsE7
  have nW := noIsF7
  have uW := hasUnwrapF7
  have mU := methodUnwrap7
  have hla := (Array.getElem?_eq_some_iff.1 ha).1
  have hlb := (Array.getElem?_eq_some_iff.1 hb).1
  have heq := run_eql_iface_ptr_other (P := Tryd.prog) (w.alloc (.cells #[.string s, .iface 128 (.pointer (some a))] 56)) Tryd.underlying48 Tryd.underlying128 hi hcmp hj (by rw [hjs]; decide) hne ((Below.heap_alloc _ _ _ hla).trans ha) ((Below.heap_alloc _ _ _ hlb).trans hb)
  have hty := run_eql_iface_types (P := Tryd.prog) 56 128 (.agg #[.string s, .iface 128 (.pointer (some a))]) (.pointer (some b)) Tryd.underlying48 (by decide) w
  unfold flawV
  go_enter Tryd.func25, Tryd.ntmps25
  go_wp2
  refine wp_loop_rounds 2 ?_
  rw [rounds_succ]
  go_wp2
  rw [rounds_succ]
  go_wp2
  go_ret
  exact ⟨rfl, (Below.refl _ _).alloc (Nat.le_refl _) _⟩
end Go.Proofs.YtlmhcifnikdliaaDoor

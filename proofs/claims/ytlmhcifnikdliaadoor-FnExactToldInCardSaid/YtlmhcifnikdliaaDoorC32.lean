/- errors.As by its contracts, at what the code of chapter 7 hands it: nil, a flaw at a flaw's variable. -/
import Derived.Test.YtlmhcifnikdliaaDoorC31
import Derived.WalkKit
import Derived.LaidEql
import Derived.Stop.Asserts
import Derived.RowKitTokens
namespace Go.Proofs.YtlmhcifnikdliaaDoor
open Go.RowKit Go.Extern.Stop Go.Stop Go.Extern

theorem as7_nil (t : Value) (w : World) : Calls Tryd.prog 32 #[.nilIface, t] w fun e w' => e = .returned (.bool false) ∧ w' = w := by
  go_enter Tryd.func32, Tryd.ntmps32
  go_wp2
  go_ret
  exact ⟨rfl, rfl⟩

theorem valueOfP7 (t : Addr) (w : World) : (ReflectliteValue.unpack (.iface 58 (.pointer (some t)))).run Tryd.prog w
    = .ok (.agg #[.pointer (some ⟨3, 58, none⟩), .pointer (some ⟨w.heap.size, 0, none⟩), .int .u64 150]) (w.alloc (.cells #[.pointer (some t)] 58)) := by kernel_rfl
theorem typeP7 (a : Addr) (w : World) : (ReflectliteValue.methodAny (ReflectliteValue.valueError "reflectlite.Value.Type" 0) (fun t _ _ _ => ReflectliteType.toType t) #[.agg #[.pointer (some ⟨3, 58, none⟩), .pointer (some a), .int .u64 150]]).run Tryd.prog w
    = .ok (.iface 101 (.agg #[.pointer (some ⟨3, 58, none⟩)])) w := by kernel_rfl
theorem methodKind7 (h : Value) (w : World) : (Go.method 261 101 (.agg #[h]) "Kind").run Tryd.prog w = .ok (101, h) w := by kernel_rfl
theorem kindP7 (w : World) : ((ReflectliteType.abiMethod fun t => (fun a : Nat => Value.int IntKind.u8 (a : Int)) <$> Rtype.kind t) #[.pointer (some ⟨3, 58, none⟩)]).run Tryd.prog w = .ok (.int .u8 22) w := by kernel_rfl
theorem kindF7 (w : World) : ((ReflectliteType.abiMethod fun t => (fun a : Nat => Value.int IntKind.u8 (a : Int)) <$> Rtype.kind t) #[.pointer (some ⟨3, 56, none⟩)]).run Tryd.prog w = .ok (.int .u8 25) w := by kernel_rfl
theorem rlm7 (z : Sem Value) (f : TypeId → Addr → Nat → Nat → Sem Value) (v : Value) :
    ReflectliteValue.method z f #[v] = (do match ← ReflectliteValue.parts v with | none => z | some (t, a, fl) => f t a fl (fl % 32)) := rfl
theorem partsP7 (a : Addr) (w : World) : (ReflectliteValue.parts (.agg #[.pointer (some ⟨3, 58, none⟩), .pointer (some a), .int .u64 150])).run Tryd.prog w = .ok (some (58, a, 150)) w := by kernel_rfl
theorem isNilP7 (a p : Addr) (W : World) (ha : W.cell? a = some (.pointer (some p))) :
    (ReflectliteValue.method (ReflectliteValue.valueError "reflectlite.Value.IsNil" 0) ReflectliteValue.isNil #[.agg #[.pointer (some ⟨3, 58, none⟩), .pointer (some a), .int .u64 150]]).run Tryd.prog W = .ok (.bool false) W := by
  rw [rlm7]
  simp only [Sem.run_bind, partsP7, Result.andThen]
  simp [ReflectliteValue.isNil, loadVar, isAgg, underlying, Tryd.underlying58, ha, Result.andThen]
theorem methodElem7 (h : Value) (w : World) : (Go.method 261 101 (.agg #[h]) "Elem").run Tryd.prog w = .ok (113, .agg #[h]) w := by kernel_rfl
theorem methodImplements7 (h : Value) (w : World) : (Go.method 261 101 (.agg #[h]) "Implements").run Tryd.prog w = .ok (114, .agg #[h]) w := by kernel_rfl
theorem methodAssignableTo7 (h : Value) (w : World) : (Go.method 261 101 (.agg #[h]) "AssignableTo").run Tryd.prog w = .ok (111, .agg #[h]) w := by kernel_rfl
theorem elemP7 (w : World) : (ReflectliteType.method ReflectliteType.elem #[.agg #[.pointer (some ⟨3, 58, none⟩)]]).run Tryd.prog w = .ok (.iface 101 (.agg #[.pointer (some ⟨3, 56, none⟩)])) w := by kernel_rfl
theorem implementsF7 (w : World) : (ReflectliteType.relation "Implements" ReflectliteType.implements_ #[.agg #[.pointer (some ⟨3, 56, none⟩)], .iface 101 (.agg #[.pointer (some ⟨3, 48, none⟩)])]).run Tryd.prog w = .ok (.bool true) w := by kernel_rfl
theorem typeOfF7 (v : Value) (w : World) : (ReflectliteType.typeOf #[.iface 56 v]).run Tryd.prog w = .ok (.iface 101 (.agg #[.pointer (some ⟨3, 56, none⟩)])) w := by kernel_rfl
theorem assignableF7 (w : World) : (ReflectliteType.relation "AssignableTo" ReflectliteType.assignableTo #[.agg #[.pointer (some ⟨3, 56, none⟩)], .iface 101 (.agg #[.pointer (some ⟨3, 56, none⟩)])]).run Tryd.prog w = .ok (.bool true) w := by kernel_rfl
theorem valueOfF7 (s e : Value) (w : World) : (ReflectliteValue.unpack (.iface 56 (.agg #[s, e]))).run Tryd.prog w
    = .ok (.agg #[.pointer (some ⟨3, 56, none⟩), .pointer (some ⟨w.heap.size, 0, none⟩), .int .u64 153]) (w.alloc (.cells #[s, e] 56)) := by kernel_rfl
theorem elemOfP7 (w : World) : (Rtype.elem? 58).run Tryd.prog w = .ok (some 56) w := by kernel_rfl
theorem mkF7 (p : Addr) (w : World) : (ReflectliteValue.mk 56 p ReflectliteValue.flagAddr).run Tryd.prog w = .ok (.agg #[.pointer (some ⟨3, 56, none⟩), .pointer (some p), .int .u64 409]) w := by kernel_rfl
theorem elemVP7 (a p : Addr) (W : World) (ha : W.cell? a = some (.pointer (some p))) :
    (ReflectliteValue.method (ReflectliteValue.valueError "reflectlite.Value.Elem" 0) ReflectliteValue.elem #[.agg #[.pointer (some ⟨3, 58, none⟩), .pointer (some a), .int .u64 150]]).run Tryd.prog W
      = .ok (.agg #[.pointer (some ⟨3, 56, none⟩), .pointer (some p), .int .u64 409]) W := by
  rw [rlm7]
  simp only [Sem.run_bind, partsP7, Result.andThen]
  simp [ReflectliteValue.elem, loadVar, isAgg, underlying, Tryd.underlying58, ha, Result.andThen, elemOfP7, mkF7]
theorem rls7 (v x : Value) : ReflectliteValue.set #[v, x] = (do
    let (some (dst, a, fl), some (src, b, _)) := (← ReflectliteValue.parts v, ← ReflectliteValue.parts x)
      | unsupported (.noEntry "extern/(internal/reflectlite.Value).Set.zeroValue")
    if fl / ReflectliteValue.flagAddr % 2 == 0 then unsupported (.noEntry "extern/(internal/reflectlite.Value).Set.unaddressable")
    let val ← loadVar src b
    if ← Rtype.directlyAssignable dst src then storeVar dst a val
    else if ← Rtype.implements dst src then
      if (← Rtype.kind src) == 20 then
        match val with
        | .nilIface => unsupported (.noEntry "extern/reflectlite: a nil value of one interface type handed on as a value of another")
        | _ => storeVar dst a val
      else storeVar dst a (.iface src val)
    else panicString ("reflectlite.Set: value of type " ++ (← Rtype.spelt src) ++ " is not assignable to type " ++ (← Rtype.spelt dst))
    pure (.tuple #[])) := rfl
theorem partsFa7 (a : Addr) (w : World) : (ReflectliteValue.parts (.agg #[.pointer (some ⟨3, 56, none⟩), .pointer (some a), .int .u64 409])).run Tryd.prog w = .ok (some (56, a, 409)) w := by kernel_rfl
theorem partsF7 (a : Addr) (w : World) : (ReflectliteValue.parts (.agg #[.pointer (some ⟨3, 56, none⟩), .pointer (some a), .int .u64 153])).run Tryd.prog w = .ok (some (56, a, 153)) w := by kernel_rfl
theorem directF7 (w : World) : (Rtype.directlyAssignable 56 56).run Tryd.prog w = .ok true w := by kernel_rfl
theorem sizeF7 (w : World) : (sizeOf 56).run Tryd.prog w = .ok 2 w := by kernel_rfl
theorem isAggF7 (w : World) : (isAgg 56).run Tryd.prog w = .ok true w := by kernel_rfl
theorem loadF7 (b : Nat) (s e : Value) (W : World) (h0 : W.cell? ⟨b, 0, none⟩ = some s) (h1 : W.cell? ⟨b, 1, none⟩ = some e) : (loadVar 56 ⟨b, 0, none⟩).run Tryd.prog W = .ok (.agg #[s, e]) W := by
  have hl := run_loadCells_list (P := Tryd.prog) W ⟨b, 0, none⟩ [s, e] (fun j v hv => by
    rcases j with _ | _ | j
    · simp at hv; subst hv; exact h0
    · simp at hv; subst hv; exact h1
    · simp at hv)
  simp only [loadVar, Sem.run_bind, isAggF7, Result.andThen, if_true, sizeF7]
  simp at hl
  simp [hl]
theorem storeF7 (g : Nat) (s e o0 o1 : Value) (hs : s.oneCell' = true) (he : e.oneCell' = true) (W : World) (h0 : W.cell? ⟨g, 0, none⟩ = some o0) (h1 : W.cell? ⟨g, 1, none⟩ = some o1) (f0 : W.frozen? ⟨g, 0, none⟩ = false) (f1 : W.frozen? ⟨g, 1, none⟩ = false) :
    (storeVar 56 ⟨g, 0, none⟩ (.agg #[s, e])).run Tryd.prog W = .ok () ((W.setCell ⟨g, 0, none⟩ s).setCell ⟨g, 1, none⟩ e) := by
  have k1 : (W.setCell ⟨g, 0, none⟩ s).cell? ⟨g, 1, none⟩ = some o1 := by
    have e := World.cell?_setCell_other (w := W) (a := ⟨g, 0, none⟩) (b := ⟨g, 1, none⟩) (v := s) (by simp)
    exact e.trans h1
  have k2 : (W.setCell ⟨g, 0, none⟩ s).frozen? ⟨g, 1, none⟩ = false := by
    rw [World.frozen?_setCell]
    exact f1
  simp only [storeVar, Sem.run_bind, sizeF7, Result.andThen, Value.cells]
  simp [storeCells, Addr.add]
  rw [run_store Tryd.prog W ⟨g, 0, none⟩ _ _ (by exact hs)]
  simp only [h0, f0, Result.andThen]
  rw [if_neg (by simp)]
  simp only
  rw [run_store Tryd.prog _ ⟨g, 1, none⟩ _ _ (by exact he)]
  simp [k1, k2]
theorem setF7 (g b : Nat) (s e o0 o1 : Value) (hs : s.oneCell' = true) (he : e.oneCell' = true) (W : World) (h0 : W.cell? ⟨g, 0, none⟩ = some o0) (h1 : W.cell? ⟨g, 1, none⟩ = some o1) (f0 : W.frozen? ⟨g, 0, none⟩ = false) (f1 : W.frozen? ⟨g, 1, none⟩ = false)
    (b0 : W.cell? ⟨b, 0, none⟩ = some s) (b1 : W.cell? ⟨b, 1, none⟩ = some e) :
    (ReflectliteValue.set #[.agg #[.pointer (some ⟨3, 56, none⟩), .pointer (some ⟨g, 0, none⟩), .int .u64 409], .agg #[.pointer (some ⟨3, 56, none⟩), .pointer (some ⟨b, 0, none⟩), .int .u64 153]]).run Tryd.prog W
      = .ok (.tuple #[]) ((W.setCell ⟨g, 0, none⟩ s).setCell ⟨g, 1, none⟩ e) := by
  rw [rls7]
  simp only [Sem.run_bind, partsFa7, partsF7, Result.andThen]
  have hl := loadF7 b s e W b0 b1
  have hst := storeF7 g s e o0 o1 hs he W h0 h1 f0 f1
  simp [ReflectliteValue.flagAddr, hl, hst, Result.andThen, directF7]

set_option maxRecDepth 100000 in
set_option maxHeartbeats 4000000 in
theorem as7_hit (s : ByteArray) (a : Addr) (g : Nat) (o0 o1 : Value) (tt : TypeId) (w : World) (hg2 : w.cell? ⟨2, 0, none⟩ = some (.iface 101 (.agg #[.pointer (some ⟨3, 48, none⟩)]))) (hx : w.heap[g]? = some (.cells #[o0, o1] tt (0, 0))) :
    Calls Tryd.prog 32 #[flawV s a, .iface 58 (.pointer (some ⟨g, 0, none⟩))] w fun ev w' => ev = .returned (.bool true) ∧ ∀ B, B ≤ g → Below B w w' := by
  have h6 := @run_callFunc_extern Tryd.prog 50 _ (fun args => ReflectliteValue.unpack (args.getD 0 (.tuple #[]))) Tryd.func50 (by kernel_rfl) (by kernel_rfl) (by kernel_rfl) (by kernel_rfl)
  have h7 := @run_callFunc_extern Tryd.prog 51 _ (ReflectliteValue.methodAny (ReflectliteValue.valueError "reflectlite.Value.Type" 0) (fun t _ _ _ => ReflectliteType.toType t)) Tryd.func51 (by kernel_rfl) (by kernel_rfl) (by kernel_rfl) (by kernel_rfl)
  have h8 := @run_callFunc_extern Tryd.prog 52 _ (ReflectliteValue.method (ReflectliteValue.valueError "reflectlite.Value.IsNil" 0) ReflectliteValue.isNil) Tryd.func52 (by kernel_rfl) (by kernel_rfl) (by kernel_rfl) (by kernel_rfl)
  have h27 := @run_callFunc_extern Tryd.prog 101 _ (ReflectliteType.abiMethod fun t => do pure (.int .u8 (← Rtype.kind t))) Tryd.func101 (by kernel_rfl) (by kernel_rfl) (by kernel_rfl) (by kernel_rfl)
  have h37 := @run_callFunc_extern Tryd.prog 113 _ (ReflectliteType.method ReflectliteType.elem) Tryd.func113 (by kernel_rfl) (by kernel_rfl) (by kernel_rfl) (by kernel_rfl)
  have h38 := @run_callFunc_extern Tryd.prog 114 _ (ReflectliteType.relation "Implements" ReflectliteType.implements_) Tryd.func114 (by kernel_rfl) (by kernel_rfl) (by kernel_rfl) (by kernel_rfl)
  have h10 := @run_callFunc_extern Tryd.prog 40 _ ReflectliteType.typeOf Tryd.func40 (by kernel_rfl) (by kernel_rfl) (by kernel_rfl) (by kernel_rfl)
  have h35 := @run_callFunc_extern Tryd.prog 111 _ (ReflectliteType.relation "AssignableTo" ReflectliteType.assignableTo) Tryd.func111 (by kernel_rfl) (by kernel_rfl) (by kernel_rfl) (by kernel_rfl)
  have h11 := @run_callFunc_extern Tryd.prog 66 _ (ReflectliteValue.method (ReflectliteValue.valueError "reflectlite.Value.Elem" 0) ReflectliteValue.elem) Tryd.func66 (by kernel_rfl) (by kernel_rfl) (by kernel_rfl) (by kernel_rfl)
  have h12 := @run_callFunc_extern Tryd.prog 67 _ ReflectliteValue.set Tryd.func67 (by kernel_rfl) (by kernel_rfl) (by kernel_rfl) (by kernel_rfl)
  have tO := typeOfF7
  have mA := methodAssignableTo7
  have a25 := assignableF7
  have v25 := valueOfF7
  have f6 := valueOfP7
  have f7 := typeP7
  have mK := methodKind7
  have mE := methodElem7
  have mI := methodImplements7
  have k27 := kindP7
  have k25 := kindF7
  have e27 := elemP7
  have i25 := implementsF7
  have htl : g < w.heap.size := (Array.getElem?_eq_some_iff.1 hx).1
  have h2l : 2 < w.heap.size := by
    rcases Nat.lt_or_ge 2 w.heap.size with h | h
    · exact h
    · simp [World.cell?, Array.getElem?_eq_none h] at hg2
  obtain ⟨w1, hw1⟩ : ∃ w1, w1 = w.alloc (.cells #[.pointer (some ⟨g, 0, none⟩)] 58) := ⟨_, rfl⟩
  obtain ⟨w2, hw2⟩ : ∃ w2, w2 = w1.alloc (.cells #[.pointer (some ⟨3, 58, none⟩), .pointer (some ⟨w.heap.size, 0, none⟩), .int .u64 150] 88) := ⟨_, rfl⟩
  obtain ⟨w3, hw3⟩ : ∃ w3, w3 = w2.alloc (.cells #[.pointer (some ⟨3, 58, none⟩), .pointer (some ⟨w.heap.size, 0, none⟩), .int .u64 150] 88) := ⟨_, rfl⟩
  obtain ⟨w4, hw4⟩ : ∃ w4, w4 = w3.alloc (.cells #[.string s, .iface 128 (.pointer (some a))] 56) := ⟨_, rfl⟩
  have s1 : w1.heap.size = w.heap.size + 1 := by rw [hw1]; simp
  have s2 : w2.heap.size = w.heap.size + 1 + 1 := by rw [hw2]; simp [s1]
  have s3 : w3.heap.size = w.heap.size + 1 + 1 + 1 := by rw [hw3]; simp [s2]
  have b1 : Below w.heap.size w w1 := by rw [hw1]; exact (Below.refl _ _).alloc (Nat.le_refl _) _
  have b2 : Below w.heap.size w w2 := by rw [hw2]; exact b1.alloc (by omega) _
  have b3 : Below w.heap.size w w3 := by rw [hw3]; exact b2.alloc (by omega) _
  have b4 : Below w.heap.size w w4 := by rw [hw4]; exact b3.alloc (by omega) _
  have x1 : w1.heap[w.heap.size]? = some (.cells #[.pointer (some ⟨g, 0, none⟩)] 58 (0, 0)) := by rw [hw1]; exact heap_alloc_new _ _
  have x4 : w4.heap[w.heap.size + 1 + 1 + 1]? = some (.cells #[.string s, .iface 128 (.pointer (some a))] 56 (0, 0)) := by rw [hw4, ← s3]; exact heap_alloc_new _ _
  have xg := box_on b4 hx
  have n8 := isNilP7 ⟨w.heap.size, 0, none⟩ ⟨g, 0, none⟩ w2 (by rw [hw2, World.cell?_alloc_lt _ _ ⟨w.heap.size, 0, none⟩ (by rw [s1]; simp), cell_of_row _ _ 0 _ _ _ x1]; rfl)
  have el := elemVP7 ⟨w.heap.size, 0, none⟩ ⟨g, 0, none⟩ w3 (by rw [hw3, World.cell?_alloc_lt _ _ ⟨w.heap.size, 0, none⟩ (by rw [s2]; simp; omega), hw2, World.cell?_alloc_lt _ _ ⟨w.heap.size, 0, none⟩ (by rw [s1]; simp), cell_of_row _ _ 0 _ _ _ x1]; rfl)
  have st := setF7 g (w.heap.size + 1 + 1 + 1) (.string s) (.iface 128 (.pointer (some a))) o0 o1 rfl rfl w4 (by rw [cell_of_row _ _ 0 _ _ _ xg]; rfl) (by rw [cell_of_row _ _ 1 _ _ _ xg]; rfl) (by simp [World.frozen?, xg]) (by simp [World.frozen?, xg]) (by rw [cell_of_row _ _ 0 _ _ _ x4]; rfl) (by rw [cell_of_row _ _ 1 _ _ _ x4]; rfl)
  have hg2' : w2.cell? ⟨2, 0, none⟩ = some (.iface 101 (.agg #[.pointer (some ⟨3, 48, none⟩)])) := (b2.cell (p := ⟨2, 0, none⟩) h2l).trans hg2
  have fin : ∀ B, B ≤ g → Below B w ((w4.setCell ⟨g, 0, none⟩ (.string s)).setCell ⟨g, 1, none⟩ (.iface 128 (.pointer (some a)))) := fun B hB => ((b4.mono (Nat.le_trans hB (Nat.le_of_lt htl))).setCell hB _).setCell hB _
  have FIN := Lib.hid fin
  unfold flawV
  rw [hw2, hw1] at hg2' n8
  rw [hw3, hw2, hw1] at el
  rw [hw4, hw3, hw2, hw1] at st FIN
  clear fin x1 x4 xg b1 b2 b3 b4 s1 s2 s3 hw1 hw2 hw3 hw4 hx
  go_enter Tryd.func32, Tryd.ntmps32
  go_wp2
  refine wp_loop_rounds 1 ?_
  rw [rounds_succ]
  go_wp2
  go_ret
  exact ⟨rfl, FIN.out⟩
end Go.Proofs.YtlmhcifnikdliaaDoor

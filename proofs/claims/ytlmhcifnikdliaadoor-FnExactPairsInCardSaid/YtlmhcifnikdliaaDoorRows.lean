/-
  NARROWER THAN 'FOR EVERY INPUT', by the rows' own cells (each row's printed sentence says how): FnExactSound: ifaces, laid · FnExactPairsIn: ifaces, laid · FnExactToldIn: ifaces, laid.
  DERIVED. THE GIVEN ROWS OF THIS SEAT. 3 by the template 'for every input the law returns true; each argument reads behind the call as it read before'; 0 by the template 'total and deterministic' (their statements: YtlmhcifnikdliaaDoorTotals.lean).
  GIVEN WITH THE SEED: the statements are not yours to turn. If you find one false, say at which input.
  Laid BY PROGRAM, IN A SANDBOX (cutbox-rows.mjs): the forced cells as the released guide's own fill.sh prints them over the translation e7c2f8d396fc1735… (all of the seat's roots in one cut). By AI agents, Wed Nov 11 2026. No macro, syntax, notation, axiom, sorry.
-/
import Derived.Test.YtlmhcifnikdliaaDoorChecked
import GoSem.Claim
import GoSem.ClaimJoined
import GoSem.ClaimMapViews
import Derived.JoinedTies
import Derived.KernelRfl
namespace Go.Proofs.YtlmhcifnikdliaaDoor
/- THE CELL 'sum', in the pinned program and in every row, IS THE sha256 OF THE DUMP (.gsa) THAT YtlmhcifnikdliaaDoorProg.lean LOADS. Nothing in Lean hashes anything: it is a label: what it is worth is what the hold of that sum in a sandbox is worth. -/
noncomputable def Tryd.pinned : Pinned := { name := "ytlmhcifnikdliaadoor", sum := "e7c2f8d396fc17356d28e74a5648eae14c63b801a199be2ae66a682b5298dc1c", checked := Tryd.checked }
namespace Rows
def none {H : Type} : Left H := { results := [], args := [] }

/- WHAT THE LISTED PACKAGE-LEVEL VARIABLES READ AS WHEN THE CALL BEGINS. Each datum BY PROGRAM (the guide's laid-datum.mjs) off the statement by which the dump's own 'gosem.cut.vars' lays the variable. In a bare row this is a premise. The card (YtlmhcifnikdliaaDoorCards.lean) ties it to the program's text. -/
def laid_loop_example_g00796_impl_errUnsound {H : Type} : DataW H := .iface "*errors.errorString" (.ptr (.agg [.lit (.string [110, 111, 116, 32, 115, 111, 117, 110, 100])]))
def laid_loop_example_g00796_impl_errUntold {H : Type} : DataW H := .iface "*errors.errorString" (.ptr (.agg [.lit (.string [110, 111, 116, 32, 116, 111, 108, 100])]))
def laid_errors_errorType {H : Type} : DataW H := .iface "internal/reflectlite.rtype" (.agg [.ptr (.lit (.string [101, 114, 114, 111, 114]))])

/-- 'laws.FnExactSound': WHATEVER THE INPUT: true; the input reads as it did. -/
def fnExactSoundSpec : ChangeSpec := { name := "fnExactSound", vars := ["loop.example/g00796/impl.errUnsound", "loop.example/g00796/impl.errUntold"], fn := fun _ => fun
  | [d, g1, g2] => { results := [.lit (.bool true)], args := [d], vars := [g1, g2] }
  | _ => none }
def fnExactSoundRow : OpenClaim := { program := "ytlmhcifnikdliaadoor", sum := "e7c2f8d396fc17356d28e74a5648eae14c63b801a199be2ae66a682b5298dc1c", func := "loop.example/g00796/laws.FnExactSound", spec := "fnExactSound", inPlace := ["maps.clone", "internal/reflectlite.TypeOf"], unfollowed := true, recurses := true, named := ["loop.example/g00796/impl.errUnsound", "loop.example/g00796/impl.errUntold"], ifaces := true, apart := false, laid := [("loop.example/g00796/impl.errUnsound", laid_loop_example_g00796_impl_errUnsound), ("loop.example/g00796/impl.errUntold", laid_loop_example_g00796_impl_errUntold)] }
def FnExactSoundSaid : Prop := fnExactSoundRow.holds Tryd.pinned (OpenSpec.ofChange fnExactSoundSpec)

/-- ITS FALSE NEIGHBOUR: 'it returns false'. Refute it at one input. -/
def fnExactSoundWrong : ChangeSpec := { name := "fnExactSound", vars := ["loop.example/g00796/impl.errUnsound", "loop.example/g00796/impl.errUntold"], fn := fun _ => fun
  | [d, g1, g2] => { results := [.lit (.bool false)], args := [d], vars := [g1, g2] }
  | _ => none }
def FnExactSoundWrongFalsely : Prop := fnExactSoundRow.holds Tryd.pinned (OpenSpec.ofChange fnExactSoundWrong)

/-- 'laws.FnExactPairsIn': WHATEVER THE INPUT: true; the input reads as it did. -/
def fnExactPairsInSpec : ChangeSpec := { name := "fnExactPairsIn", vars := ["loop.example/g00796/impl.errUnsound", "loop.example/g00796/impl.errUntold"], fn := fun _ => fun
  | [d, g1, g2] => { results := [.lit (.bool true)], args := [d], vars := [g1, g2] }
  | _ => none }
def fnExactPairsInRow : OpenClaim := { program := "ytlmhcifnikdliaadoor", sum := "e7c2f8d396fc17356d28e74a5648eae14c63b801a199be2ae66a682b5298dc1c", func := "loop.example/g00796/laws.FnExactPairsIn", spec := "fnExactPairsIn", inPlace := ["maps.clone", "internal/reflectlite.TypeOf"], unfollowed := true, recurses := true, named := ["loop.example/g00796/impl.errUnsound", "loop.example/g00796/impl.errUntold"], ifaces := true, apart := false, laid := [("loop.example/g00796/impl.errUnsound", laid_loop_example_g00796_impl_errUnsound), ("loop.example/g00796/impl.errUntold", laid_loop_example_g00796_impl_errUntold)] }
def FnExactPairsInSaid : Prop := fnExactPairsInRow.holds Tryd.pinned (OpenSpec.ofChange fnExactPairsInSpec)

/-- ITS FALSE NEIGHBOUR: 'it returns false'. Refute it at one input. -/
def fnExactPairsInWrong : ChangeSpec := { name := "fnExactPairsIn", vars := ["loop.example/g00796/impl.errUnsound", "loop.example/g00796/impl.errUntold"], fn := fun _ => fun
  | [d, g1, g2] => { results := [.lit (.bool false)], args := [d], vars := [g1, g2] }
  | _ => none }
def FnExactPairsInWrongFalsely : Prop := fnExactPairsInRow.holds Tryd.pinned (OpenSpec.ofChange fnExactPairsInWrong)

/-- 'laws.FnExactToldIn': WHATEVER THE INPUT: true; the input reads as it did. -/
def fnExactToldInSpec : ChangeSpec := { name := "fnExactToldIn", vars := ["loop.example/g00796/impl.errUntold", "loop.example/g00796/impl.errUnsound"], fn := fun _ => fun
  | [d, g1, g2] => { results := [.lit (.bool true)], args := [d], vars := [g1, g2] }
  | _ => none }
def fnExactToldInRow : OpenClaim := { program := "ytlmhcifnikdliaadoor", sum := "e7c2f8d396fc17356d28e74a5648eae14c63b801a199be2ae66a682b5298dc1c", func := "loop.example/g00796/laws.FnExactToldIn", spec := "fnExactToldIn", inPlace := ["maps.clone", "internal/reflectlite.ValueOf", "(internal/reflectlite.Value).Type", "(internal/reflectlite.Value).IsNil", "internal/reflectlite.TypeOf", "(internal/reflectlite.Value).Elem", "(internal/reflectlite.Value).Set"], unfollowed := true, recurses := true, named := ["loop.example/g00796/impl.errUntold", "loop.example/g00796/impl.errUnsound", "errors.errorType"], ifaces := true, apart := false, laid := [("errors.errorType", laid_errors_errorType), ("loop.example/g00796/impl.errUnsound", laid_loop_example_g00796_impl_errUnsound), ("loop.example/g00796/impl.errUntold", laid_loop_example_g00796_impl_errUntold)] }
def FnExactToldInSaid : Prop := fnExactToldInRow.holds Tryd.pinned (OpenSpec.ofChange fnExactToldInSpec)

/-- ITS FALSE NEIGHBOUR: 'it returns false'. Refute it at one input. -/
def fnExactToldInWrong : ChangeSpec := { name := "fnExactToldIn", vars := ["loop.example/g00796/impl.errUntold", "loop.example/g00796/impl.errUnsound"], fn := fun _ => fun
  | [d, g1, g2] => { results := [.lit (.bool false)], args := [d], vars := [g1, g2] }
  | _ => none }
def FnExactToldInWrongFalsely : Prop := fnExactToldInRow.holds Tryd.pinned (OpenSpec.ofChange fnExactToldInWrong)

/- THE SECOND FORM. 'bulk': how many values and letters a reading holds, each counted each time it is reached (what is shared counts as often as it is met; a slice's spare places count too). A statement '..UptoSaid' is the law's where the arguments, and the package variables that the reading takes, are together of bulk at most 1048576: NARROWER than '..Said'. Prove '..Said' where nothing that the law and all that it calls make is longer than what came in: it says more and counts as full. Else prove '..UptoSaid'. A law counts once. -/
mutual
def uptoBulk {H : Type} : DataW H → Nat
  | .lit (.string bytes) => bytes.length + 1
  | .lit _ => 1
  | .nil => 1
  | .ptr d => uptoBulk d + 1
  | .slice elems spare => uptoBulkAll elems + uptoBulkAll spare + 1
  | .agg parts => uptoBulkAll parts + 1
  | .iface _ d => uptoBulk d + 1
  | .map entries => uptoBulkEntries entries + 1
  | .held _ => 1
def uptoBulkAll {H : Type} : List (DataW H) → Nat
  | [] => 0
  | d :: r => uptoBulk d + uptoBulkAll r
def uptoBulkEntries {H : Type} : List (Lit × DataW H) → Nat
  | [] => 0
  | x :: r => uptoBulkEntry x + uptoBulkEntries r
def uptoBulkEntry {H : Type} : Lit × DataW H → Nat
  | (.string bytes, d) => bytes.length + uptoBulk d + 1
  | (_, d) => uptoBulk d + 1
 end
def uptoSmall : (H : Type) → List (DataW H) → Bool := fun _ ds => decide (uptoBulkAll ds ≤ 1048576)
def OpenSpec.upto (s : _root_.Go.ChangeSpec) : _root_.Go.OpenSpec := { _root_.Go.OpenSpec.ofChange s with cond := some uptoSmall }

/-- 'laws.FnExactSound', WHERE WHAT IT READS IS OF BULK AT MOST 1048576: true; the input reads as it did. -/
def fnExactSoundUptoRow : OpenClaim := { program := "ytlmhcifnikdliaadoor", sum := "e7c2f8d396fc17356d28e74a5648eae14c63b801a199be2ae66a682b5298dc1c", func := "loop.example/g00796/laws.FnExactSound", spec := "fnExactSound", inPlace := ["maps.clone", "internal/reflectlite.TypeOf"], unfollowed := true, recurses := true, named := ["loop.example/g00796/impl.errUnsound", "loop.example/g00796/impl.errUntold"], ifaces := true, apart := false, laid := [("loop.example/g00796/impl.errUnsound", laid_loop_example_g00796_impl_errUnsound), ("loop.example/g00796/impl.errUntold", laid_loop_example_g00796_impl_errUntold)], narrowed := true }
def FnExactSoundUptoSaid : Prop := fnExactSoundUptoRow.holds Tryd.pinned (OpenSpec.upto fnExactSoundSpec)

/-- 'laws.FnExactPairsIn', WHERE WHAT IT READS IS OF BULK AT MOST 1048576: true; the input reads as it did. -/
def fnExactPairsInUptoRow : OpenClaim := { program := "ytlmhcifnikdliaadoor", sum := "e7c2f8d396fc17356d28e74a5648eae14c63b801a199be2ae66a682b5298dc1c", func := "loop.example/g00796/laws.FnExactPairsIn", spec := "fnExactPairsIn", inPlace := ["maps.clone", "internal/reflectlite.TypeOf"], unfollowed := true, recurses := true, named := ["loop.example/g00796/impl.errUnsound", "loop.example/g00796/impl.errUntold"], ifaces := true, apart := false, laid := [("loop.example/g00796/impl.errUnsound", laid_loop_example_g00796_impl_errUnsound), ("loop.example/g00796/impl.errUntold", laid_loop_example_g00796_impl_errUntold)], narrowed := true }
def FnExactPairsInUptoSaid : Prop := fnExactPairsInUptoRow.holds Tryd.pinned (OpenSpec.upto fnExactPairsInSpec)

/-- 'laws.FnExactToldIn', WHERE WHAT IT READS IS OF BULK AT MOST 1048576: true; the input reads as it did. -/
def fnExactToldInUptoRow : OpenClaim := { program := "ytlmhcifnikdliaadoor", sum := "e7c2f8d396fc17356d28e74a5648eae14c63b801a199be2ae66a682b5298dc1c", func := "loop.example/g00796/laws.FnExactToldIn", spec := "fnExactToldIn", inPlace := ["maps.clone", "internal/reflectlite.ValueOf", "(internal/reflectlite.Value).Type", "(internal/reflectlite.Value).IsNil", "internal/reflectlite.TypeOf", "(internal/reflectlite.Value).Elem", "(internal/reflectlite.Value).Set"], unfollowed := true, recurses := true, named := ["loop.example/g00796/impl.errUntold", "loop.example/g00796/impl.errUnsound", "errors.errorType"], ifaces := true, apart := false, laid := [("errors.errorType", laid_errors_errorType), ("loop.example/g00796/impl.errUnsound", laid_loop_example_g00796_impl_errUnsound), ("loop.example/g00796/impl.errUntold", laid_loop_example_g00796_impl_errUntold)], narrowed := true }
def FnExactToldInUptoSaid : Prop := fnExactToldInUptoRow.holds Tryd.pinned (OpenSpec.upto fnExactToldInSpec)

end Rows
end Go.Proofs.YtlmhcifnikdliaaDoor

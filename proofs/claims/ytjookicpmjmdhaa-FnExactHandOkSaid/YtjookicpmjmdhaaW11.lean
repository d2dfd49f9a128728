/- A list's tail as the model cuts it, its address under one name. -/
import Derived.Test.YtjookicpmjmdhaaW10
namespace Go.Proofs.Ytjookicpmjmdhaa
open Go.RowKit
set_option linter.unusedVariables false

/-- Where the tail of a slice begins. -/
def dropA (A : Option Addr) (c k : Nat) : Option Addr := if c = k then A else A.map (·.add (k * 2))
theorem RP.tail {w : World} {B n c : Nat} {A : Option Addr} {zs : List Pr} (h : RP w B A n zs) {k : Nat} (hk : k ≤ n) (hc : n ≤ c) : RP w B (dropA A c k) (n - k) (zs.drop k) := h.drop hk hc
theorem run_tail (A : Option Addr) (n c k : Nat) (i : Int) (hi : i = k) (hk : k ≤ n) (hc : n ≤ c) (hc2 : c ≤ 9223372036854775807) (w : World) :
    (Instr.slice 99 (.slice A n c) (some (.int .i64 i)) none none).run Try.prog w = .ok (.slice (dropA A c k) (n - k) (c - k)) w := by
  subst hi
  have h1 : (0 : Int) ≤ (k : Int) := by omega
  have h2 : (k : Int) ≤ (n : Int) := by omega
  have hs : ∀ w, (Go.sizeOf 86).run Try.prog w = .ok 2 w := fun w => by kernel_rfl
  simp [Instr.slice, Instr.sliceBounds, run_underlying Try.underlying99, go_sem, h1, h2, hs, dropA]
end Go.Proofs.Ytjookicpmjmdhaa

/- The walks of the model's nodes: NodeOk, Within, KidFor. -/
import Derived.Test.YtjookicpmjmdhaaE04
import Derived.WalkSpells
import Derived.WalkLawsBesides
import Derived.Lib.AppendZerosOnto
import Derived.StillTailTactics
namespace Go.Proofs.Ytjookicpmjmdhaa
open Go.RowKit

structure Nd where
  lv : Int
  ps : List Pr
  hi : Int
  ri : Int
  ow : Int

def numB (x : Int) : Bool := inB x 0 39
def kidsTo (zs : List Pr) (k : Nat) : Prop := ∀ j, j < k → numB (vAt zs j) = true
def kidsB (zs : List Pr) : Bool := (List.range zs.length).all (fun j => numB (vAt zs j)) && decide (0 < zs.length)
theorem kidsB_iff (zs : List Pr) : kidsB zs = true ↔ (kidsTo zs zs.length ∧ 0 < zs.length) := by
  unfold kidsB kidsTo
  simp only [Bool.and_eq_true, List.all_eq_true, List.mem_range, decide_eq_true_eq]
def lastK (zs : List Pr) : Int := kAt zs (zs.length - 1)
def nodeOk (x : Nd) : Bool :=
  inB x.lv 0 6 && decide (x.ps.length ≤ 4) && pOk x.ps && (decide (x.lv ≤ 0) || kidsB x.ps) && inB x.ow 0 6 &&
  (if x.hi = -1 then decide (x.ri = -1) else inB x.hi 1 100 && numB x.ri && (decide (x.ps.length = 0) || decide (lastK x.ps < x.hi)))

theorem num_is (x : Int) (w : World) :
    Calls Try.prog 48 #[.int .i64 x] w fun e w' => e = .returned (.bool (numB x)) ∧ w = w' := by
  go_enter Try.func48, Try.ntmps48
  go_wp2_with (go_at_call 44; refine (in_any _ _ _ _).mono ?_; rintro e w' ⟨rfl, rfl⟩)
  go_ret
  exact ⟨rfl, rfl⟩

end Go.Proofs.Ytjookicpmjmdhaa
namespace Go.Proofs.Ytjookicpmjmdhaa
open Go.RowKit

theorem nodeOk_kids {x : Nd} (h : nodeOk x = true) (hl : 0 < x.lv) : 0 < x.ps.length := by
  unfold nodeOk at h
  simp only [Bool.and_eq_true, Bool.or_eq_true, decide_eq_true_eq] at h
  rcases h.1.1.2 with h' | h'
  · omega
  · exact ((kidsB_iff _).1 h').2
end Go.Proofs.Ytjookicpmjmdhaa
namespace Go.Proofs.Ytjookicpmjmdhaa
open Go.RowKit

theorem RP.take {w : World} {B n : Nat} {A : Option Addr} {zs : List Pr} (h : RP w B A n zs) {k : Nat} (hk : k ≤ n) : RP w B A k (zs.take k) := by
  have hl := h.1
  refine ⟨by rw [List.length_take]; omega, fun h0 => ?_⟩
  obtain ⟨b, off, e, hb, hc⟩ := h.2 (by omega)
  refine ⟨b, off, e, hb, fun i hi => ?_⟩
  have e1 : kAt (zs.take k) i = kAt zs i := by simp [kAt, hi]
  have e2 : vAt (zs.take k) i = vAt zs i := by simp [vAt, hi]
  rw [e1, e2]
  exact hc i (by omega)
theorem RP.drop {w : World} {B n c : Nat} {A : Option Addr} {zs : List Pr} (h : RP w B A n zs) {k : Nat} (hk : k ≤ n) (hc : n ≤ c) :
    RP w B (if c = k then A else A.map (·.add (k * 2))) (n - k) (zs.drop k) := by
  have hl := h.1
  refine ⟨by rw [List.length_drop]; omega, fun h0 => ?_⟩
  obtain ⟨b, off, e, hb, hcell⟩ := h.2 (by omega)
  refine ⟨b, off + k * 2, ?_, hb, fun i hi => ?_⟩
  · rw [if_neg (by omega), e]
    simp only [Option.map_some, Option.some.injEq]
    unfold Addr.add
    split <;> simp_all
  · have e1 : kAt (zs.drop k) i = kAt zs (k + i) := by simp [kAt]
    have e2 : vAt (zs.drop k) i = vAt zs (k + i) := by simp [vAt]
    rw [e1, e2]
    have := hcell (k + i) (by omega)
    rw [show off + k * 2 + i * 2 = off + (k + i) * 2 from by omega]
    exact this

theorem run_app_nil {P : Program} (w : World) (base : Nat) (t ty e : TypeId) (i : TypeInfo) (size : Nat) (ht : P.underlying t = some (.slice e)) (hi : P.info? e = some i)
    (v : Value) (n : Nat) (xs : List Value) (hown : w.ownsRow base e size v n xs) (c : Nat) : (Builtin.append_ #[t, t] ty #[v, .slice none 0 c]).run P w = .ok v w := by
  rcases hown.2 with ⟨rfl, rfl⟩ | ⟨g, cap, cur, rfl, _, _, hnc, _⟩
  · simp [Builtin.append_, run_underlying ht, sizeOf, typeInfo, hi, Builtin.lenOf, Builtin.firstCells]
  · simp [Builtin.append_, run_underlying ht, sizeOf, typeInfo, hi, Builtin.lenOf, Builtin.firstCells, hnc, storeCells]

end Go.Proofs.Ytjookicpmjmdhaa
namespace Go.Proofs.Ytjookicpmjmdhaa
open Go.RowKit
set_option linter.unusedVariables false

def dropA (A : Option Addr) (c k : Nat) : Option Addr := if c = k then A else A.map (·.add (k * 2))
theorem RP.tail {w : World} {B n c : Nat} {A : Option Addr} {zs : List Pr} (h : RP w B A n zs) {k : Nat} (hk : k ≤ n) (hc : n ≤ c) : RP w B (dropA A c k) (n - k) (zs.drop k) := h.drop hk hc
end Go.Proofs.Ytjookicpmjmdhaa
namespace Go.Proofs.Ytjookicpmjmdhaa
open Go.RowKit

def markTo (zs : List Pr) (k : Nat) (j : Nat) : List Pr := ((List.range j).map fun i : Nat => ((k : Int) + 2 * (i : Int), (k : Int) + 2 * (i : Int) + 1)) ++ zs.drop j
end Go.Proofs.Ytjookicpmjmdhaa

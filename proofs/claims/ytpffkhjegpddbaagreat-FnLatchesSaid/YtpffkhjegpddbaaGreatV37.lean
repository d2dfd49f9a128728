/- What l11Make and l11Halve answer. -/
import Derived.Test.YtpffkhjegpddbaaGreatV34
import Derived.Test.YtpffkhjegpddbaaGreatV32
open Go.Value renaming int → jI, slice → jS
open Go.IntKind renaming i64 → jZ
namespace Go.Proofs.YtpffkhjegpddbaaGreat
open Go.RowKit

def halfN (xs : List Nd) (hd : Hd) (at_ : Int) : Bool := halfB (ndAt xs hd.cur.toNat) hd.key (pairV hd) at_
def upNd (xs : List Nd) (hd : Hd) (at_ : Int) : Nd := upH (ndAt xs hd.cur.toNat) hd.key (pairV hd) at_
def loNd (xs : List Nd) (hd : Hd) (at_ : Int) : Nd := loH (ndAt xs hd.cur.toNat) hd.key (pairV hd) at_
def makeX (xs : List Nd) (hd : Hd) : List Nd := if 40 ≤ xs.length then xs else if halfN xs hd xs.length then xs ++ [upNd xs hd xs.length] else xs
def makeH (xs : List Nd) (hd : Hd) : Hd := if 40 ≤ xs.length then freeH (if hd.want = 0 then { hd with rep := 3 } else hd) 0 else if halfN xs hd xs.length then { hd with new := xs.length, pos := 7 } else hd
def makeB (xs : List Nd) (hd : Hd) : Bool := decide (40 ≤ xs.length) || halfN xs hd xs.length
theorem makeS_eq (r : Int) (xs : List Nd) (hd : Hd) : makeS ⟨r, xs⟩ hd = if makeB xs hd then doneS ⟨r, makeX xs hd⟩ (makeH xs hd) else noneS := by
 unfold makeS makeX makeH makeB halfN upNd nodeT
 by_cases h : 40 ≤ xs.length
 · simp [h]
 · by_cases h2 : halfB (ndAt xs hd.cur.toNat) hd.key (pairV hd) xs.length = true
   · simp [h, h2]
   · simp [h, h2]
theorem makeH_st (xs : List Nd) (hd : Hd) : (makeH xs hd).st = hd.st := by
 unfold makeH freeH
 split
 · split <;> rfl
 · split <;> rfl
def GivesTH (F : FP) (w0 : World) (r : Int) (ys : List Nd) (h2 : Hd) (b : Bool) (A' : Option Addr) (n' c' : Nat) (e : Ending) (w' : World) : Prop :=
 ∃ A5 c5, e = .returned (.tuple #[.agg #[jI jZ r, jS A5 ys.length c5], hdV h2 A' n' c', .bool b]) ∧ Turned F w0 (jS A5 ys.length c5) ys w'

end Go.Proofs.YtpffkhjegpddbaaGreat

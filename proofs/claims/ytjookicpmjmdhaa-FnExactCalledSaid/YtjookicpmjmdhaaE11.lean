/- The walks of the model's l3Row and RowOf. -/
import Derived.Test.YtjookicpmjmdhaaE10
import Derived.Test.YtjookicpmjmdhaaE05
import Derived.Deep.LoopGhost
import Derived.Deep.RegionLaw
namespace Go.Proofs.Ytjookicpmjmdhaa
open Go.RowKit


def IL (xs : List Int) : List Value := xs.map fun x => .int .i64 x
theorem IL_append (a b : List Int) : IL (a ++ b) = IL a ++ IL b := by simp [IL]
theorem IL_flat (xs : List Int) : IL xs = (xs.map fun x => [Value.int .i64 x]).flatten := by
  induction xs with
  | nil => rfl
  | cons x r ih => unfold IL at *; simp [ih]
theorem OwnS.of_ints {w : World} {base : Nat} {v : Value} {n : Nat} {xs : List Int} {F : FP} (h : w.ownsRow base 2 1 v n (IL xs)) (hF : ∀ k, v.ownBlock = some k → F k) : OwnS w v xs F := by
  have hl : xs.length = n := by have := h.1; unfold IL at this; simpa using this
  refine ⟨xs.map fun x => [Value.int .i64 x], fun _ _ => False, by rw [← IL_flat, hl]; exact own_zero h, by simp, fun i hi => ?_, fun i hi k hk => absurd hk id, fun i j hi hj hij k hk => absurd hk id, hF⟩
  show (xs.map fun x => [Value.int .i64 x]).getD i [] = [.int .i64 (xs.getD i 0)]
  simp [hi]
theorem int_info : (Try.prog.info? 2).map (fun i => (i.zero, i.size, i.bytes)) = some (some (.int .i64 0), 1, 8) := by kernel_rfl

def riAt (xs : List Nd) (i : Nat) : Int := (ndAt xs i).ri
theorem Right.ri {n : Nat} {r : Int} {xs : List Nd} (h : Right n r xs) (i : Nat) (hi : i < n) : riAt xs i < n := (h.good i hi).2.1
end Go.Proofs.Ytjookicpmjmdhaa
namespace Go.Proofs.Ytjookicpmjmdhaa
open Go.RowKit



structure Hd where
  pos : Int
  cc : Int
  ck : Int
  cv : Int
  cur : Int
  want : Int
  key : Int
  kid : Int
  old : Int
  next : Int
  new : Int
  st : List Int
  thn : Int
  beg : Int
  rep : Int
  out : Int
def zeroH : Hd := ⟨0, 0, 0, 0, 0, 0, 0, 0, 0, 0, 0, [], 0, 0, 0, 0⟩
def callOk (c k v : Int) : Bool := inB c 1 3 && (inB k 0 99 && (if c = 2 then inB v 0 999 else decide (v = 0)))
def stackOk (st : List Int) : Bool := decide (st.length ≤ 6) && st.all numB
def handOk (h : Hd) : Bool :=
  inB h.pos 0 11 && ((callOk h.cc h.ck h.cv || (decide (h.pos = 0) && (decide (h.cc = 0) && (decide (h.ck = 0) && decide (h.cv = 0))))) && (stackOk h.st &&
  (numB h.cur && (numB h.kid && (numB h.old && (numB h.next && (numB h.new && (inB h.want 0 6 && (inB h.key 0 99 &&
  (inB h.thn 0 2 && (inB h.beg 0 20000 && (inB h.rep 0 3 && inB h.out 0 999))))))))))))
def calledC (h : Hd) (c k v : Int) : Int := if handOk h then (if h.pos = 0 then (if callOk c k v then 0 else 2) else 1) else 3
def calledH (h : Hd) (c k v : Int) : Hd := if handOk h then (if h.pos = 0 then (if callOk c k v then { zeroH with pos := 1, cc := c, ck := k, cv := v, key := k } else h) else h) else zeroH


structure StR where
  t : Tr
  h : Hd
  b : Bool

structure Dl where
  task : Int
  cc : Int
  ck : Int
  cv : Int
  beg : Int
  fin : Int
  rep : Int
  out : Int
structure Wd where
  root : Int
  ns : List Nd
  hs : List Hd
  ds : List Dl
  now : Int
end Go.Proofs.Ytjookicpmjmdhaa

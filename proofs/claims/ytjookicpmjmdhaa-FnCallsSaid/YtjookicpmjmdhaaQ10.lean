/- What the model's Halves answers, as plain functions. -/
import Derived.Test.YtjookicpmjmdhaaQ04
import Derived.Test.YtjookicpmjmdhaaQ05
import Derived.Test.YtjookicpmjmdhaaQ06
import Derived.Test.YtjookicpmjmdhaaQ08
import Derived.Test.YtjookicpmjmdhaaQ09
open Go.Value renaming int → jI, slice → jS
open Go.IntKind renaming i64 → jZ
namespace Go.Proofs.Ytjookicpmjmdhaa
open Go.RowKit


def guardH (x : Nd) (k v at_ : Int) : Bool := nodeOk x && (decide (x.ps.length = 4) && (rightB k v && (!hitB x.ps k && (inside x k && numB at_))))
def upN (x : Nd) (k v : Int) : Nd := ⟨x.lv, (insL x.ps k v).drop 3, x.hi, x.ri, 0⟩
def loN (x : Nd) (k v at_ : Int) : Nd := ⟨x.lv, (insL x.ps k v).take 3, kAt (insL x.ps k v) 3, at_, x.ow⟩
def halfB (x : Nd) (k v at_ : Int) : Bool := guardH x k v at_ && (nodeOk (loN x k v at_) && nodeOk (upN x k v))
def zeroN : Nd := ⟨0, [], 0, 0, 0⟩
def loH (x : Nd) (k v at_ : Int) : Nd := if halfB x k v at_ then loN x k v at_ else zeroN
def upH (x : Nd) (k v at_ : Int) : Nd := if halfB x k v at_ then upN x k v else zeroN
end Go.Proofs.Ytjookicpmjmdhaa
namespace Go.Proofs.Ytjookicpmjmdhaa
open Go.RowKit



structure Hd where
 pos : Int
 cc : Int
 ck : Int
 cv : Int
 cur : Int
 want : Int
 key : Int
 kid : Int
 old : Int
 next : Int
 new : Int
 st : List Int
 thn : Int
 beg : Int
 rep : Int
 out : Int
def zeroH : Hd := ⟨0, 0, 0, 0, 0, 0, 0, 0, 0, 0, 0, [], 0, 0, 0, 0⟩
def callOk (c k v : Int) : Bool := inB c 1 3 && (inB k 0 99 && (if c = 2 then inB v 0 999 else decide (v = 0)))
def replyOk (c k v rep : Int) : Bool := callOk c k v && (inB rep 1 3 && (decide (c = 2) || !decide (rep = 3)))
def stackOk (st : List Int) : Bool := decide (st.length ≤ 6) && st.all numB
def handOk (h : Hd) : Bool :=
 inB h.pos 0 11 && ((callOk h.cc h.ck h.cv || (decide (h.pos = 0) && (decide (h.cc = 0) && (decide (h.ck = 0) && decide (h.cv = 0))))) && (stackOk h.st &&
 (numB h.cur && (numB h.kid && (numB h.old && (numB h.next && (numB h.new && (inB h.want 0 6 && (inB h.key 0 99 &&
 (inB h.thn 0 2 && (inB h.beg 0 20000 && (inB h.rep 0 3 && inB h.out 0 999))))))))))))
def restH (rep out : Int) : Hd := { zeroH with rep := rep, out := out }
def calledC (h : Hd) (c k v : Int) : Int := if handOk h then (if h.pos = 0 then (if callOk c k v then 0 else 2) else 1) else 3
def calledH (h : Hd) (c k v : Int) : Hd := if handOk h then (if h.pos = 0 then (if callOk c k v then { zeroH with pos := 1, cc := c, ck := k, cv := v, key := k } else h) else h) else zeroH


structure StR where
 t : Tr
 h : Hd
 b : Bool
def noneS : StR := ⟨⟨0, []⟩, zeroH, false⟩
def ok9 (t : Tr) (task : Int) (h : Hd) (lo hi : Int) : Bool :=
 treeOk t.root t.ns && (inB task 0 5 && (handOk h && (inB h.pos lo hi && (h.st ++ [h.cur, h.kid, h.old, h.next, h.new]).all (hasB t.ns.length))))
def doneS (t : Tr) (h : Hd) : StR := if treeOk t.root t.ns && handOk h then ⟨t, h, true⟩ else noneS
def nodeT (t : Tr) (a : Int) : Nd := ndAt t.ns a.toNat
def hereH (t : Tr) (h : Hd) : Hd :=
 if h.cc = 1 then (if valB (nodeT t h.cur).ps h.key then restH 1 (valN (nodeT t h.cur).ps h.key) else restH 2 0) else { h with pos := 3 }
def downD (t : Tr) (h : Hd) : StR :=
 let p := nextP t.ns h.cur.toNat h.key h.want
 if p.2 = 1 then doneS t { h with cur := p.1 }
 else if p.2 = 2 then doneS t { h with st := h.st ++ [h.cur], cur := p.1 }
 else if p.2 = 3 then doneS t (hereH t h)
 else noneS
def downS (t : Tr) (task : Int) (h : Hd) : StR :=
 if ok9 t task h 1 3 && !(decide (h.pos = 3) && decide (h.cc = 1)) then
   (if h.pos = 1 then doneS t { h with cur := t.root, st := [], pos := 2 }
    else if h.pos = 2 then downD t h
    else if latchedB t.root t.ns h.cur task then doneS ⟨latchedR t.root t.ns h.cur task, latchedX t.root t.ns h.cur task⟩ { h with pos := 4 } else ⟨t, h, false⟩)
 else noneS

def ok10 (t : Tr) (task : Int) (h : Hd) (lo hi : Int) : Bool := ok9 t task h lo hi && (!decide (h.cc = 1) && ((decide (h.cc = 2) || decide (h.want = 0)) && decide ((nodeT t h.cur).ow = task + 1)))
def pairV (h : Hd) : Int := if h.want = 0 then h.cv else h.kid
def freeH (h : Hd) (thn : Int) : Hd := { h with thn := thn, pos := 8 }
def checkH (t : Tr) (h : Hd) : Hd :=
 let n := nodeT t h.cur
 let there := decide (0 ≤ whereI n.ps h.key)
 if !inside n h.key then freeH { h with next := n.ri } 1
 else if decide (h.cc = 3) && !there then freeH { h with rep := 2 } 0
 else if decide (0 < h.want) && there then freeH h 0
 else { h with pos := if !there && decide (4 ≤ n.ps.length) then 6 else 5 }
def setN (t : Tr) (a : Int) (x : Nd) : Tr := ⟨t.root, t.ns.set a.toNat x⟩
def writeH (t : Tr) (h : Hd) : Hd :=
 let there := decide (0 ≤ whereI (nodeT t h.cur).ps h.key)
 if h.cc = 3 then freeH { h with rep := 1 } 0
 else freeH (if h.want = 0 then { h with rep := if there then 2 else 1 } else h) 0
def writeT (t : Tr) (h : Hd) : Tr :=
 let n := nodeT t h.cur
 if h.cc = 3 then setN t h.cur { n with ps := leftTo n.ps h.key n.ps.length } else setN t h.cur { n with ps := insL n.ps h.key (pairV h) }
def leafS (t : Tr) (task : Int) (h : Hd) : StR :=
 if ok10 t task h 4 5 then (if h.pos = 4 then doneS t (checkH t h) else doneS (writeT t h) (writeH t h)) else noneS

def makeS (t : Tr) (h : Hd) : StR :=
 if 40 ≤ t.ns.length then doneS t (freeH (if h.want = 0 then { h with rep := 3 } else h) 0)
 else if halfB (nodeT t h.cur) h.key (pairV h) t.ns.length then doneS ⟨t.root, t.ns ++ [upH (nodeT t h.cur) h.key (pairV h) t.ns.length]⟩ { h with new := t.ns.length, pos := 7 }
 else noneS
def halveS (t : Tr) (h : Hd) : StR :=
 if halfB (nodeT t h.cur) h.key (pairV h) h.new then
   doneS (setN t h.cur (loH (nodeT t h.cur) h.key (pairV h) h.new))
     (freeH { h with old := h.cur, key := kAt (upH (nodeT t h.cur) h.key (pairV h) h.new).ps 0, kid := h.new, rep := if h.want = 0 then 1 else h.rep } 2)
 else noneS
def thenH (h : Hd) : Hd :=
 if h.thn = 0 then restH h.rep 0
 else if h.thn = 1 then { h with cur := h.next, pos := 3 }
 else if 0 < h.st.length then { h with want := h.want + 1, cur := iAt h.st (h.st.length - 1), st := h.st.take (h.st.length - 1), pos := 3 }
 else { h with want := h.want + 1, pos := 9 }
def splitS (t : Tr) (task : Int) (h : Hd) : StR :=
 if ok10 t task h 6 8 then
   (if h.pos = 6 then makeS t h
    else if h.pos = 7 then halveS t h
    else doneS ⟨freedR t.root t.ns h.cur task, freedX t.root t.ns h.cur task⟩ (thenH h))
 else noneS

def topS (t : Tr) (h : Hd) : StR :=
 if t.root = h.old then doneS t { h with pos := 10 }
 else if h.want ≤ (nodeT t t.root).lv then doneS t { h with cur := t.root, st := [], pos := 2 }
 else if 40 ≤ t.ns.length then doneS t (restH h.rep 0)
 else ⟨t, h, false⟩
def rootN (h : Hd) : Nd := ⟨h.want, [(0, h.old), (h.key, h.kid)], -1, -1, 0⟩
def raiseS (t : Tr) (h : Hd) : StR :=
 if 40 ≤ t.ns.length then doneS t (restH h.rep 0)
 else doneS ⟨t.root, t.ns ++ [rootN h]⟩ { h with new := t.ns.length, pos := 11 }
def upS (t : Tr) (task : Int) (h : Hd) : StR :=
 if ok9 t task h 9 11 && (decide (h.cc = 2) && !decide (h.want = 0)) then
   (if h.pos = 9 then topS t h
    else if h.pos = 10 then raiseS t h
    else if t.root = h.old then doneS ⟨h.new, t.ns⟩ (restH h.rep 0) else doneS t { h with pos := 9 })
 else noneS
def stepS (t : Tr) (task : Int) (h : Hd) : StR :=
 if 1 ≤ h.pos ∧ h.pos ≤ 3 then downS t task h
 else if 4 ≤ h.pos ∧ h.pos ≤ 5 then leafS t task h
 else if 6 ≤ h.pos ∧ h.pos ≤ 8 then splitS t task h
 else upS t task h

structure Dl where
 task : Int
 cc : Int
 ck : Int
 cv : Int
 beg : Int
 fin : Int
 rep : Int
 out : Int
structure Wd where
 root : Int
 ns : List Nd
 hs : List Hd
 ds : List Dl
 now : Int
def zeroW : Wd := ⟨0, [], [], [], 0⟩
def hdAt (hs : List Hd) (i : Nat) : Hd := hs.getD i zeroH
def dealOk (n : Nat) (now : Int) (d : Dl) : Bool := hasB n d.task && (replyOk d.cc d.ck d.cv d.rep && (inB d.beg 0 now && (inB d.fin 0 now && inB d.out 0 999)))
def worldOk (w : Wd) : Bool :=
 treeOk w.root w.ns && (decide (1 ≤ w.hs.length) && (decide (w.hs.length ≤ 6) && (decide (w.ds.length ≤ 1000) && (inB w.now 0 20000 &&
 (w.hs.all (fun h => handOk h && decide (h.beg ≤ w.now)) && w.ds.all (dealOk w.hs.length w.now))))))
def newW (tasks : Int) : Wd := if inB tasks 1 6 then ⟨0, [newNd], List.replicate tasks.toNat (restH 0 0), [], 0⟩ else zeroW
def askedC (w : Wd) (who c k v : Int) : Int :=
 if worldOk w && hasB w.hs.length who then (if calledC (hdAt w.hs who.toNat) c k v = 0 then (if w.now = 20000 then 1 else 0) else calledC (hdAt w.hs who.toNat) c k v) else 3
def askedW (w : Wd) (who c k v : Int) : Wd :=
 if worldOk w && hasB w.hs.length who then
   (if askedC w who c k v = 0 then { w with now := w.now + 1, hs := w.hs.set who.toNat { calledH (hdAt w.hs who.toNat) c k v with beg := w.now + 1 } } else w)
 else zeroW
def stepsB (w : Wd) (who : Nat) : Bool :=
 let s := stepS ⟨w.root, w.ns⟩ who (hdAt w.hs who)
 s.b && (!decide (w.now = 20000) && (!decide (s.h.pos = 0) || (decide (w.ds.length < 1000) && replyOk (hdAt w.hs who).cc (hdAt w.hs who).ck (hdAt w.hs who).cv s.h.rep)))
def stepW (w : Wd) (who : Nat) : Wd :=
 let s := stepS ⟨w.root, w.ns⟩ who (hdAt w.hs who)
 let h := hdAt w.hs who
 if stepsB w who then
   { root := s.t.root, ns := s.t.ns, hs := w.hs.set who s.h, now := w.now + 1,
     ds := if s.h.pos = 0 then w.ds ++ [⟨who, h.cc, h.ck, h.cv, h.beg, w.now + 1, s.h.rep, s.h.out⟩] else w.ds }
 else w
def aloneF (who : Nat) : Nat → Wd → Wd × Nat
 | 0, w => (w, 0)
 | f + 1, w => if (hdAt w.hs who).pos = 0 then (w, 0) else if stepsB w who then (let p := aloneF who f (stepW w who); (p.1, p.2 + 1)) else (w, 0)
def aloneW (w : Wd) (who most : Int) : Wd := if worldOk w && hasB w.hs.length who then (if inB most 0 20000 then (aloneF who.toNat most.toNat w).1 else w) else zeroW
def aloneN (w : Wd) (who most : Int) : Int := if worldOk w && hasB w.hs.length who then (if inB most 0 20000 then ((aloneF who.toNat most.toNat w).2 : Int) else -1) else -1
end Go.Proofs.Ytjookicpmjmdhaa

/- What l11Halve answers; the key of a pair of an own list. -/
import Derived.Test.YtjookicpmjmdhaaQ38
open Go.Value renaming int → jI, slice → jS
open Go.IntKind renaming i64 → jZ
namespace Go.Proofs.Ytjookicpmjmdhaa
open Go.RowKit

theorem op_keyOf {X : FP} {w0 w : World} {L : List Item} {o : Oper} {a : Act} {K : Act → World → Prop} {Q : Exit → Act → World → Prop} (ty : TypeId) (x : Operand) (ho : o.op = .load ty x) (h : Sep X w0 L w) (p : Nat) {b n c : Nat} {zs : List Pr} {F : FP} (e : L[p]? = some (ow (jS (some ⟨b, 0, none⟩) n c) zs F)) (i : Nat) (hi : i < n)
   (hx : a.eval x = .pointer (some ⟨b, 0 + i * 2, none⟩)) (hu : ∀ w, (isAgg ty).run Try.prog w = .ok false w) (hK : K (a.put o.dst (jI jZ (kAt zs i))) w) : o.wp Try.prog a w K Q := by
 have h1 : OwnS w (jS (some ⟨b, 0, none⟩) n c) zs F := h.get p e
 obtain ⟨A', c', hv, hc, hm⟩ := h1.form
 have hn : n = zs.length := by
   have := hv
   simp at this
   exact this.2.1
 have h2 := RS.pairs (OwnS.rs h1 hn.symm)
 obtain ⟨b', off, hA, hb, hcell⟩ := h2.2 (by omega)
 obtain ⟨rfl, rfl⟩ : b = b' ∧ 0 = off := by simpa using hA
 exact op_cell ty x ho hx hu (hcell i hi).1 hK
theorem up_two {x : Nd} {k v at_ : Int} (h : halfB x k v at_ = true) : (upH x k v at_).ps.length = 2 := by
 have hu : upH x k v at_ = upN x k v := by unfold upH; rw [h]; rfl
 rw [hu]
 unfold halfB guardH at h
 unfold upN
 simp only [Bool.and_eq_true, decide_eq_true_eq] at h
 have h5 := insL_length x.ps k v
 obtain ⟨⟨_, h4, _, hh, _⟩, _⟩ := h
 have hh : hitB x.ps k = false := by simpa using hh
 rw [hh] at h5
 simp only [List.length_drop]
 simp at h5
 omega
def halveX (xs : List Nd) (hd : Hd) : List Nd := if halfN xs hd hd.new then xs.set hd.cur.toNat (loNd xs hd hd.new) else xs
def halvedH (xs : List Nd) (hd : Hd) : Hd := { hd with old := hd.cur, key := kAt (upNd xs hd hd.new).ps 0, kid := hd.new }
def halveH (xs : List Nd) (hd : Hd) : Hd := if halfN xs hd hd.new then freeH (if hd.want = 0 then { halvedH xs hd with rep := 1 } else halvedH xs hd) 2 else hd
theorem halveS_eq (r : Int) (xs : List Nd) (hd : Hd) : halveS ⟨r, xs⟩ hd = if halfN xs hd hd.new then doneS ⟨r, halveX xs hd⟩ (halveH xs hd) else noneS := by
 unfold halveS halveX halveH halvedH setN upNd loNd
 have e : nodeT ⟨r, xs⟩ hd.cur = ndAt xs hd.cur.toNat := rfl
 rw [e]
 by_cases h2 : halfN xs hd hd.new = true
 · have h3 : halfB (ndAt xs hd.cur.toNat) hd.key (pairV hd) hd.new = true := h2
   rw [if_pos h3, if_pos h2, if_pos h2, if_pos h2]
   by_cases hw : hd.want = 0 <;> simp [hw, freeH]
 · have h3 : ¬ halfB (ndAt xs hd.cur.toNat) hd.key (pairV hd) hd.new = true := h2
   rw [if_neg h3, if_neg h2]
theorem halveH_st (xs : List Nd) (hd : Hd) : (halveH xs hd).st = hd.st := by
 unfold halveH freeH halvedH
 split
 · split <;> rfl
 · rfl
theorem halveX_len (xs : List Nd) (hd : Hd) : (halveX xs hd).length = xs.length := by
 unfold halveX
 split
 · simp
 · rfl

end Go.Proofs.Ytjookicpmjmdhaa

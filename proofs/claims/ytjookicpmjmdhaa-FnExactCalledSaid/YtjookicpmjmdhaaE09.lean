/- Small facts that the laws' walks share. -/
import Derived.Test.YtjookicpmjmdhaaE05
import Derived.Test.YtjookicpmjmdhaaE08
namespace Go.Proofs.Ytjookicpmjmdhaa
open Go.RowKit

theorem RP.own {w : World} {base : Nat} {e : TypeId} {A : Option Addr} {n c : Nat} {zs : List Pr} (h : w.ownsRow base e 2 (.slice A n c) n (PL zs)) : RP w w.heap.size A n zs := by
  obtain ⟨A', c', e, r⟩ := RP.of_own h; cases e; exact r

end Go.Proofs.Ytjookicpmjmdhaa
namespace Go.Proofs.Ytjookicpmjmdhaa
open Go.RowKit


instance encPr : Enc Pr where
  ty := 86
  sz := 2
  dflt := (0, 0)
  Is := fun _ _ cs x => cs = [.int .i64 x.1, .int .i64 x.2]
  Own := fun _ cs x _ => cs = [.int .i64 x.1, .int .i64 x.2]
  is_len := fun h => by rw [h]; rfl
  is_keep := fun h _ => h
  is_more := fun h _ => h
  own_is := fun h => h
  own_keep := fun h _ => h
  own_more := fun h _ => h
instance : Mk Pr where
  cnt := fun _ => 2
  put := fun k _ => ((k : Int), ((k + 1 : Nat) : Int))

theorem PL_flat (zs : List Pr) : PL zs = (zs.map fun p => [Value.int .i64 p.1, .int .i64 p.2]).flatten := by
  induction zs with
  | nil => rfl
  | cons p r ih => simp only [PL, List.map_cons, List.flatten_cons, ih]; rfl
theorem OwnS.pairs {w : World} {v : Value} {zs : List Pr} {F : FP} (h : OwnS w v zs F) : w.ownsRow 0 86 2 v zs.length (PL zs) ∧ ∀ k, v.ownBlock = some k → F k := by
  obtain ⟨css, f, h1, h2, h3, h4, h5, h6⟩ := h
  refine ⟨?_, h6⟩
  have e : css = zs.map fun p => [Value.int .i64 p.1, .int .i64 p.2] := by
    apply List.ext_getElem (by simpa using h2)
    intro i hi hi'
    have h : css.getD i [] = [.int .i64 (zs.getD i (0, 0)).1, .int .i64 (zs.getD i (0, 0)).2] := h3 i (by simpa using hi')
    have hz : i < zs.length := by simpa using hi'
    simpa [hi, hz] using h
  rw [PL_flat, ← e]
  exact h1
theorem RS.pairs {w : World} {B n : Nat} {A : Option Addr} {zs : List Pr} (h : RS w B A n zs) : RP w B A n zs :=
  ⟨h.1, fun hn => by
    obtain ⟨b, off, e, hb, hc⟩ := h.2 hn
    refine ⟨b, off, e, hb, fun i hi => ?_⟩
    obtain ⟨cs, h1, h2⟩ := hc i hi
    have h1' : cs = [.int .i64 (kAt zs i), .int .i64 (vAt zs i)] := h1
    subst h1'
    exact ⟨h2 0 _ rfl, h2 1 _ rfl⟩⟩
theorem cntS_pairs (zs : List Pr) : cntS zs = 2 * zs.length := by
  unfold cntS
  induction zs with
  | nil => rfl
  | cons p r ih =>
    simp only [List.map_cons, List.sum_cons, List.length_cons]
    rw [ih]
    show 2 + _ = _
    omega
end Go.Proofs.Ytjookicpmjmdhaa

/- Lists of pairs as data in cells; the kinds of values that the laws hand about. -/
import Derived.Test.YtjookicpmjmdhaaT3
import Derived.Test.YtjookicpmjmdhaaLaw
namespace Go.Proofs.Ytjookicpmjmdhaa
open Go.RowKit

/-! ### Pairs -/

instance encPr : Enc Pr where
  ty := 86
  sz := 2
  dflt := (0, 0)
  Is := fun _ _ cs x => cs = [.int .i64 x.1, .int .i64 x.2]
  Own := fun _ cs x _ => cs = [.int .i64 x.1, .int .i64 x.2]
  is_len := fun h => by rw [h]; rfl
  is_keep := fun h _ => h
  is_more := fun h _ => h
  own_is := fun h => h
  own_keep := fun h _ => h
  own_more := fun h _ => h
instance : Mk Pr where
  cnt := fun _ => 2
  put := fun k _ => ((k : Int), ((k + 1 : Nat) : Int))

theorem PL_flat (zs : List Pr) : PL zs = (zs.map fun p => [Value.int .i64 p.1, .int .i64 p.2]).flatten := by
  induction zs with
  | nil => rfl
  | cons p r ih => simp only [PL, List.map_cons, List.flatten_cons, ih]; rfl
theorem OwnS.of_pairs {w : World} {base : Nat} {v : Value} {n : Nat} {zs : List Pr} {F : FP} (h : w.ownsRow base 86 2 v n (PL zs)) (hF : ∀ k, v.ownBlock = some k → F k) : OwnS w v zs F := by
  have hl : zs.length = n := by have := h.1; rw [PL_length] at this; omega
  refine ⟨zs.map fun p => [Value.int .i64 p.1, .int .i64 p.2], fun _ _ => False, by rw [← PL_flat, hl]; exact own_zero h, by simp, fun i hi => ?_, fun i hi k hk => absurd hk id, fun i j hi hj hij k hk => absurd hk id, hF⟩
  show (zs.map fun p => [Value.int .i64 p.1, .int .i64 p.2]).getD i [] = [.int .i64 (zs.getD i (0, 0)).1, .int .i64 (zs.getD i (0, 0)).2]
  simp [hi]
theorem OwnS.pairs {w : World} {v : Value} {zs : List Pr} {F : FP} (h : OwnS w v zs F) : w.ownsRow 0 86 2 v zs.length (PL zs) ∧ ∀ k, v.ownBlock = some k → F k := by
  obtain ⟨css, f, h1, h2, h3, h4, h5, h6⟩ := h
  refine ⟨?_, h6⟩
  have e : css = zs.map fun p => [Value.int .i64 p.1, .int .i64 p.2] := by
    apply List.ext_getElem (by simpa using h2)
    intro i hi hi'
    have h : css.getD i [] = [.int .i64 (zs.getD i (0, 0)).1, .int .i64 (zs.getD i (0, 0)).2] := h3 i (by simpa using hi')
    have hz : i < zs.length := by simpa using hi'
    simpa [hi, hz] using h
  rw [PL_flat, ← e]
  exact h1
theorem RS.of_pairs {w : World} {B n : Nat} {A : Option Addr} {zs : List Pr} (h : RP w B A n zs) : RS w B A n zs :=
  ⟨h.1, fun hn => by
    obtain ⟨b, off, e, hb, hc⟩ := h.2 hn
    refine ⟨b, off, e, hb, fun i hi => ⟨[.int .i64 (kAt zs i), .int .i64 (vAt zs i)], rfl, fun j u hu => ?_⟩⟩
    match j, hu with
    | 0, hu => cases hu; exact (hc i hi).1
    | 1, hu => cases hu; exact (hc i hi).2
    | j + 2, hu => simp at hu⟩
theorem RS.pairs {w : World} {B n : Nat} {A : Option Addr} {zs : List Pr} (h : RS w B A n zs) : RP w B A n zs :=
  ⟨h.1, fun hn => by
    obtain ⟨b, off, e, hb, hc⟩ := h.2 hn
    refine ⟨b, off, e, hb, fun i hi => ?_⟩
    obtain ⟨cs, h1, h2⟩ := hc i hi
    have h1' : cs = [.int .i64 (kAt zs i), .int .i64 (vAt zs i)] := h1
    subst h1'
    exact ⟨h2 0 _ rfl, h2 1 _ rfl⟩⟩
theorem mkS_pairs (k : Nat) (zs : List Pr) : mkS k zs = markTo zs k zs.length := by
  apply List.ext_getElem (by rw [mkS_length, markTo_length _ _ _ (Nat.le_refl _)])
  intro i hi hi'
  rw [mkS_length] at hi
  have hc : cntS (zs.take i) = 2 * i := by
    unfold cntS
    have : (zs.take i).map (Mk.cnt (α := Pr)) = List.replicate i 2 := by
      apply List.ext_getElem (by simp; omega)
      intro j h1 h2
      simp only [List.getElem_map, List.getElem_replicate]
      rfl
    rw [this]; simp; omega
  have h1 := mkS_get k zs i (0, 0) hi
  rw [hc] at h1
  have e1 : (mkS k zs)[i] = (mkS k zs).getD i (0, 0) := by simp [mkS_length, hi]
  have e2 : (markTo zs k zs.length)[i] = (kAt (markTo zs k zs.length) i, vAt (markTo zs k zs.length) i) := by rw [kAt_eq _ _ hi', vAt_eq _ _ hi']
  rw [e1, h1, e2, markTo_fst _ _ _ _ hi, markTo_snd _ _ _ _ hi]
  show (((k + 2 * i : Nat) : Int), ((k + 2 * i + 1 : Nat) : Int)) = _
  simp only [Int.natCast_add, Int.natCast_mul]
  rfl
theorem cntS_pairs (zs : List Pr) : cntS zs = 2 * zs.length := by
  unfold cntS
  induction zs with
  | nil => rfl
  | cons p r ih =>
    simp only [List.map_cons, List.sum_cons, List.length_cons]
    rw [ih]
    show 2 + _ = _
    omega
end Go.Proofs.Ytjookicpmjmdhaa

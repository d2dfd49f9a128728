/- A list of pairs that came in, opened: what the form reads as data is what the walks read as cells. -/
import Derived.Test.YtlmhcifnikdliaaDoorA04
import Derived.ProofKit
import Derived.OpenShut
import Derived.ChangeOld
import Derived.Deep.SlicePairs
import Derived.Test.YtlmhcifnikdliaaDoorA06
import Derived.Test.YtlmhcifnikdliaaDoorA10
namespace Go.Proofs.YtlmhcifnikdliaaDoor
open Go.ChangeShapes Go.WideShapes Go.ChangeAt Go.RowKit Go.Deep

set_option maxRecDepth 100000 in
theorem own : ownKnob Tryd.prog.godebug = none := by kernel_rfl
set_option maxRecDepth 100000 in
theorem laidOut : laidOutB Tryd.prog = true := by kernel_rfl
set_option maxRecDepth 100000 in
theorem pair_cells2 : Tryd.prog.cellsOf 120 = 2 := by kernel_rfl
set_option maxRecDepth 100000 in
theorem int_cells : Tryd.prog.cellsOf 2 = 1 := by kernel_rfl

def Fits (zs : List Pr) : Prop := ∀ i, i < zs.length → (Lit.int .i64 (kAt zs i)).wf = true ∧ (Lit.int .i64 (vAt zs i)).wf = true

set_option maxRecDepth 100000 in
theorem RP_of_cells {H : Type} {enc : TypeId × Value → H} {W : World} {fuel : Nat} {cs : List Value} {x : DataW H × List MemPlace}
    (hf : DataW.trod enc Tryd.prog W 0 (fun _ => true) true fuel 60 cs = some x) :
    ∃ A n c zs, cs = [.slice A n c] ∧ RP W W.heap.size A n zs ∧ n ≤ 9223372036854775807 ∧ Fits zs := by
  rcases open_slice_pairs Tryd.underlying60 Tryd.underlying120 pair_cells2 rfl rfl int_cells int_cells hf with ⟨hcs, _⟩ | ⟨a, len0, cap0, m, k, V0, V1, D0, D1, P0, P1, hcs, _, hl, hm, hmm, _, hx⟩
  · exact ⟨_, _, _, [], hcs, RP.nil _ _ _, by omega, fun i hi => absurd hi (by simp)⟩
  · have hm2 : m = cap0 := by simpa using hmm
    have each : ∀ i, i < len0 → ∃ x y : Int, W.cell? (a.add (i * 2)) = some (.int .i64 x) ∧ W.cell? (a.add (i * 2 + 1)) = some (.int .i64 y) ∧ (Lit.int .i64 x).wf = true ∧ (Lit.int .i64 y).wf = true := by
      intro i hi
      obtain ⟨h0, h1, h2, h3⟩ := hx i (by omega)
      obtain ⟨x, e0, _, w0⟩ := DataW.trod_int Tryd.underlying2 h2
      obtain ⟨y, e1, _, w1⟩ := DataW.trod_int Tryd.underlying2 h3
      simp at e0 e1
      exact ⟨x, y, by rw [h0, e0], by rw [h1, e1], w0, w1⟩
    let f : Nat → Pr := fun i => (intOf ((W.cell? (a.add (i * 2))).getD undef), intOf ((W.cell? (a.add (i * 2 + 1))).getD undef))
    have hk : ∀ i, i < len0 → kAt ((List.range len0).map f) i = (f i).1 ∧ vAt ((List.range len0).map f) i = (f i).2 := fun i hi => by simp [kAt, vAt, hi]
    refine ⟨_, _, _, (List.range len0).map f, hcs, ⟨by simp, fun hn => ?_⟩, by unfold maxLen at hm; omega, ?_⟩
    · obtain ⟨x, y, h0, _, _, _⟩ := each 0 hn
      obtain ⟨b, off, spot⟩ := a
      have hspot : spot = none := by
        have := World.cell?_spot h0
        simpa [Addr.add] using this
      subst hspot
      refine ⟨b, off, rfl, ?_, fun i hi => ?_⟩
      · have := World.block_lt_of_cell? _ _ h0
        simpa [Addr.add] using this
      · obtain ⟨x, y, h0, h1, _, _⟩ := each i hi
        obtain ⟨e0, e1⟩ := hk i hi
        have a0 : (⟨b, off, none⟩ : Addr).add (i * 2) = ⟨b, off + i * 2, none⟩ := by unfold Addr.add; split <;> simp_all
        have a1 : (⟨b, off, none⟩ : Addr).add (i * 2 + 1) = ⟨b, off + i * 2 + 1, none⟩ := by unfold Addr.add; split <;> simp_all [Nat.add_assoc]
        rw [e0, e1]
        simp only [f]
        rw [a0] at h0
        rw [a1] at h1
        simp only [a0, a1, h0, h1, Option.getD_some, intOf]
        exact ⟨trivial, trivial⟩
    · intro i hi
      have hi : i < len0 := by simpa using hi
      obtain ⟨x, y, h0, h1, w0, w1⟩ := each i hi
      obtain ⟨e0, e1⟩ := hk i hi
      rw [e0, e1]
      simp only [f, h0, h1, Option.getD_some, intOf]
      exact ⟨w0, w1⟩

end Go.Proofs.YtlmhcifnikdliaaDoor
namespace Go.Proofs.YtlmhcifnikdliaaDoor
open Go.ChangeShapes Go.WideShapes Go.ChangeAt Go.RowKit Go.Deep

set_option maxRecDepth 100000 in
theorem node_cells : Tryd.prog.cellsOf 62 = 5 := by kernel_rfl
set_option maxRecDepth 100000 in
theorem slice_cells : Tryd.prog.cellsOf 60 = 1 := by kernel_rfl

set_option maxRecDepth 100000 in
theorem Nd_of_cells {H : Type} {enc : TypeId × Value → H} {W : World} {fuel : Nat} {cs : List Value} {x : DataW H × List MemPlace}
    (hf : DataW.trod enc Tryd.prog W 0 (fun _ => true) true fuel 62 cs = some x) :
    ∃ (y : Nd) (A : Option Addr) (n c : Nat), cs = [.int .i64 y.lv, .slice A n c, .int .i64 y.hi, .int .i64 y.ri, .int .i64 y.ow] ∧ RP W W.heap.size A n y.ps ∧ n ≤ 9223372036854775807 := by
  obtain ⟨xs, m, _, _, hlen, hxl, hg⟩ := DataW.trod_struct Tryd.underlying62 hf
  rw [node_cells] at hlen
  match cs, hlen with
  | [v0, v1, v2, v3, v4], _ =>
    match xs, hxl with
    | [y0, y1, y2, y3, y4], _ =>
      have h0 := hg 0 _ rfl
      have h1 := hg 1 _ rfl
      have h2 := hg 2 _ rfl
      have h3 := hg 3 _ rfl
      have h4 := hg 4 _ rfl
      simp [int_cells, slice_cells] at h0 h1 h2 h3 h4
      obtain ⟨a0, e0, _, _⟩ := DataW.trod_int Tryd.underlying2 h0
      obtain ⟨A, n, c, zs, e1, hR, hn, _⟩ := RP_of_cells h1
      obtain ⟨a2, e2, _, _⟩ := DataW.trod_int Tryd.underlying2 h2
      obtain ⟨a3, e3, _, _⟩ := DataW.trod_int Tryd.underlying2 h3
      obtain ⟨a4, e4, _, _⟩ := DataW.trod_int Tryd.underlying2 h4
      simp at e0 e1 e2 e3 e4
      subst e0 e1 e2 e3 e4
      exact ⟨⟨a0, zs, a2, a3, a4⟩, A, n, c, rfl, hR, hn⟩

end Go.Proofs.YtlmhcifnikdliaaDoor
namespace Go.Proofs.YtlmhcifnikdliaaDoor
open Go.ChangeShapes Go.WideShapes Go.ChangeAt Go.RowKit Go.Deep

set_option maxRecDepth 100000 in
theorem cap_of_cells {H : Type} {enc : TypeId × Value → H} {W : World} {t el : TypeId} {fuel : Nat} {A : Option Addr} {n c : Nat} {x : DataW H × List MemPlace} (ht : Tryd.prog.underlying t = some (.slice el))
    (hf : DataW.trod enc Tryd.prog W 0 (fun _ => true) true fuel t [.slice A n c] = some x) : n ≤ c ∧ c ≤ 9223372036854775807 := by
  rcases open_slice ht hf with ⟨hcs, _⟩ | ⟨a, len0, cap0, m, k, D, Pl, hcs, _, hl, hm, _⟩
  · simp at hcs
    omega
  · simp at hcs
    unfold maxLen at hm
    omega

set_option maxRecDepth 100000 in
theorem Nd_of_cells2 {H : Type} {enc : TypeId × Value → H} {W : World} {fuel : Nat} {cs : List Value} {x : DataW H × List MemPlace}
    (hf : DataW.trod enc Tryd.prog W 0 (fun _ => true) true fuel 62 cs = some x) :
    ∃ (y : Nd) (A : Option Addr) (n c : Nat), cs = [.int .i64 y.lv, .slice A n c, .int .i64 y.hi, .int .i64 y.ri, .int .i64 y.ow] ∧ RP W W.heap.size A n y.ps ∧ n ≤ c ∧ c ≤ 9223372036854775807 := by
  obtain ⟨y, A, n, c, rfl, hR, _⟩ := Nd_of_cells hf
  obtain ⟨xs, m, _, _, hlen, hxl, hg⟩ := DataW.trod_struct Tryd.underlying62 hf
  match xs, hxl with
  | [y0, y1, y2, y3, y4], _ =>
    have h1 := hg 1 _ rfl
    simp [slice_cells] at h1
    have := cap_of_cells Tryd.underlying60 h1
    exact ⟨y, A, n, c, rfl, hR, this.1, this.2⟩
instance : Inhabited Nd := ⟨⟨0, [], 0, 0, 0⟩⟩

set_option maxRecDepth 100000 in
theorem Addr.add_none (b o k : Nat) : (⟨b, o, none⟩ : Addr).add k = ⟨b, o + k, none⟩ := by unfold Addr.add; split <;> simp_all

set_option maxRecDepth 100000 in
theorem RSN_of_cells {H : Type} {enc : TypeId × Value → H} {W : World} {fuel : Nat} {cs : List Value} {x : DataW H × List MemPlace}
    (hf : DataW.trod enc Tryd.prog W 0 (fun _ => true) true fuel 22 cs = some x) :
    ∃ A n c, ∃ xs : List Nd, cs = [.slice A n c] ∧ RS W W.heap.size A n xs ∧ n ≤ c ∧ c ≤ 9223372036854775807 ∧ ∀ i, i < n → (ndAt xs i).ps.length ≤ 9223372036854775807 := by
  rcases open_slice Tryd.underlying22 hf with ⟨hcs, _⟩ | ⟨a, len0, cap0, m, k, D, Pl, hcs, _, hl, hm, hmm, _, hx⟩
  · exact ⟨_, _, _, [], hcs, RS.nil _ _ _, by omega, by omega, fun i hi => absurd hi (by omega)⟩
  · have hm2 : m = cap0 := by simpa using hmm
    have each : ∀ i, i < len0 → ∃ y : Nd, ∃ cs', encNd.Is W W.heap.size cs' y ∧ (∀ j u, cs'[j]? = some u → W.cell? ((a.add (i * 5)).add j) = some u) := by
      intro i hi
      obtain ⟨cs', h1, h2⟩ := hx i (by omega)
      rw [node_cells] at h1
      obtain ⟨y, A, n, c, rfl, hR, hc⟩ := Nd_of_cells2 h2
      obtain ⟨_, hlen, hcell⟩ := World.cells?_some h1
      refine ⟨y, _, ⟨A, n, c, rfl, hR, hc⟩, fun j u hu => ?_⟩
      have hj : j < 5 := by have := (List.getElem?_eq_some_iff.1 hu).1; simpa using this
      rw [hcell j hj]
      exact hu
    obtain ⟨f, hf'⟩ := choose_lt (α := Nd) (p := fun i y => ∃ cs', encNd.Is W W.heap.size cs' y ∧ (∀ j u, cs'[j]? = some u → W.cell? ((a.add (i * 5)).add j) = some u)) each
    have hget : ∀ i, i < len0 → ((List.range len0).map f).getD i encNd.dflt = f i := fun i hi => by simp [hi]
    have hpl : ∀ i, i < len0 → (f i).ps.length ≤ 9223372036854775807 := fun i hi => by
      obtain ⟨cs', ⟨A, n, c, _, hR, hc⟩, _⟩ := hf' i hi
      have := hR.1
      omega
    refine ⟨_, _, _, (List.range len0).map f, hcs, ⟨by simp, fun hn => ?_⟩, hl, by unfold maxLen at hm; omega, fun i hi => ?_⟩
    · obtain ⟨b, off, spot⟩ := a
      obtain ⟨cs0, ⟨A, n, c, h0, _⟩, h1⟩ := hf' 0 hn
      subst h0
      have h2 := h1 0 _ rfl
      have hspot : spot = none := by
        have := World.cell?_spot h2
        simpa [Addr.add] using this
      subst hspot
      refine ⟨b, off, rfl, ?_, fun i hi => ?_⟩
      · have := World.block_lt_of_cell? _ _ h2
        simpa [Addr.add] using this
      · obtain ⟨cs', h3, h4⟩ := hf' i hi
        refine ⟨cs', by rw [hget i hi]; exact h3, fun j u hu => ?_⟩
        have := h4 j u hu
        rw [Addr.add_none, Addr.add_none] at this
        exact this
    · show (((List.range len0).map f).getD i encNd.dflt).ps.length ≤ _
      rw [hget i hi]
      exact hpl i hi

set_option maxRecDepth 100000 in
theorem tree_cells : Tryd.prog.cellsOf 24 = 2 := by kernel_rfl
set_option maxRecDepth 100000 in
theorem nodes_cells : Tryd.prog.cellsOf 22 = 1 := by kernel_rfl

set_option maxRecDepth 100000 in
theorem Tr_of_cells {H : Type} {enc : TypeId × Value → H} {W : World} {fuel : Nat} {cs : List Value} {x : DataW H × List MemPlace}
    (hf : DataW.trod enc Tryd.prog W 0 (fun _ => true) true fuel 24 cs = some x) :
    ∃ (r : Int) (xs : List Nd) (A : Option Addr) (n c : Nat), cs = [.int .i64 r, .slice A n c] ∧ RS W W.heap.size A n xs ∧ n ≤ c ∧ c ≤ 9223372036854775807 ∧ ∀ i, i < n → (ndAt xs i).ps.length ≤ 9223372036854775807 := by
  obtain ⟨xs, m, _, _, hlen, hxl, hg⟩ := DataW.trod_struct Tryd.underlying24 hf
  rw [tree_cells] at hlen
  match cs, hlen with
  | [v0, v1], _ =>
    match xs, hxl with
    | [y0, y1], _ =>
      have h0 := hg 0 _ rfl
      have h1 := hg 1 _ rfl
      simp [int_cells, nodes_cells] at h0 h1
      obtain ⟨a0, e0, _, _⟩ := DataW.trod_int Tryd.underlying2 h0
      obtain ⟨A, n, c, zs, e1, hR⟩ := RSN_of_cells h1
      simp at e0 e1
      subst e0 e1
      exact ⟨a0, zs, A, n, c, rfl, hR⟩
set_option maxRecDepth 100000 in
theorem Tr_of_trod {H : Type} {enc : TypeId × Value → H} {W : World} {r : Reach} {base : Nat} {v : Value} {d : DataW H} {p : List MemPlace}
    (hv : Value.okWide Tryd.prog W r base 24 v) (h : DataW.Trod enc Tryd.prog W 0 (fun _ => true) true 24 v d p) :
    ∃ (r : Int) (xs : List Nd) (A : Option Addr) (n c : Nat), v = .agg #[.int .i64 r, .slice A n c] ∧ RS W W.heap.size A n xs ∧ n ≤ c ∧ c ≤ 9223372036854775807 ∧ ∀ i, i < n → (ndAt xs i).ps.length ≤ 9223372036854775807 := by
  obtain ⟨cs, rfl, _⟩ := okWide_struct Tryd.underlying24 hv
  obtain ⟨fuel, hf⟩ := h
  obtain ⟨r0, xs, A, n, c, hcs, hR⟩ := Tr_of_cells hf
  obtain ⟨l⟩ := cs
  simp [Value.cells] at hcs
  subst hcs
  exact ⟨r0, xs, A, n, c, rfl, hR⟩
end Go.Proofs.YtlmhcifnikdliaaDoor

/- The walks of l1New and l1Draw. -/
import Derived.Test.YtokkpbjldchjpaaD3
namespace Go.Proofs.Ytokkpbjldchjpaa
open Go.RowKit

theorem grown_below {w w' : World} {row : Option Nat} (hb : Below w.heap.size w w') : w.grownBy w' row := ⟨hb.os, hb.tape, hb.output, hb.size, fun k hk _ => hb.block k hk⟩
theorem own_cap {w : World} {base : Nat} {e : TypeId} {size n c : Nat} {A : Option Addr} {xs : List Value} (h : w.ownsRow base e size (.slice A n c) n xs) : n ≤ c ∧ c ≤ 9223372036854775807 := by
  rcases h.2 with ⟨h', h0⟩ | ⟨g, cap, cur, h', _, _, hnc, hcm, _⟩
  · simp at h'; omega
  · simp at h'; unfold maxLen at hcm; omega

/-- What a draw of a list leaves: a list of the call's own, of at most m pairs; a cursor still. -/
def DrawnL (g : Nat) (A : Option Addr) (n c m : Nat) (w : World) (e : Ending) (w' : World) : Prop :=
  ∃ (A' : Option Addr) (c' : Nat) (zs : List Pr), e = .returned (.slice A' zs.length c') ∧ w'.ownsRow w.heap.size 28 2 (.slice A' zs.length c') zs.length (PL zs) ∧ zs.length ≤ m ∧ Cur w' g A n c ∧ w.grownBy w' (some g)

theorem and30 (x : Int) : 0 ≤ bits .and .i64 x 1073741823 ∧ bits .and .i64 x 1073741823 ≤ 1073741823 := andMask x 1073741823 (by omega)
theorem new_any (A : Option Addr) (n c : Nat) (w : World) (hb : Bys w w.heap.size A n) (hn : n ≤ 4096) :
    Calls Try.prog 22 #[.slice A n c] w fun e w' => ∃ g, e = .returned (.pointer (some ⟨g, 0, none⟩)) ∧ w.heap.size ≤ g ∧ Cur w' g A n c ∧ Below w.heap.size w w' := by
  have HB := Lib.hid hb
  clear hb
  go_enter Try.func22, Try.ntmps22
  go_wp2
  go_loopw [3, 4] (fun h i wr => ∃ (k : Nat) (x : Int), i = .int .i64 k ∧ k ≤ n ∧ h = .int .i64 x ∧ 0 ≤ x ∧ x ≤ 1073741823 ∧ Hid (Below w.heap.size w wr) ∧ Hid (wr.heap.size = w.heap.size)) (fun _ i _ => n - (intOf i).toNat)
  case atStart => exact ⟨0, 510047 + n, rfl, by omega, by go_num, by omega, by omega, Lib.hid (Below.refl _ _), Lib.hid rfl⟩
  case round =>
    obtain ⟨k, x, rfl, hk, rfl, x0, x1, hbw, hs⟩ := hrel
    by_cases hlt : k < n
    · obtain ⟨b, off, rfl, hbl, hc⟩ := HB.out (by omega)
      obtain ⟨y, cy, y0, y1⟩ := hc k hlt
      have cy2 := (hbw.out.cell (p := ⟨b, off + k, none⟩) hbl).trans cy
      clear hc cy
      go_wp2
      have M := and30 (x * 281 + y + 11)
      go_roundw
      case rel => exact ⟨k + 1, _, by go_num, by omega, rfl, M.1, M.2, hbw, hs⟩
      case measure => simp [intOf]; omega
    · go_wp2
      go_ret
      refine ⟨wr.heap.size, rfl, hbw.out.size, ⟨⟨0, x, heap_alloc_new wr _, by omega⟩, hn, fun h0 => ?_⟩, hbw.out.alloc hbw.out.size _⟩
      obtain ⟨b, off, e, hbl, hc⟩ := HB.out h0
      refine ⟨b, off, e, Nat.lt_of_lt_of_le hbl hbw.out.size, fun i hi => ?_⟩
      obtain ⟨y, cy, y0, y1⟩ := hc i hi
      exact ⟨y, by rw [← cy]; exact (hbw.out.alloc hbw.out.size _).cell hbl, y0, y1⟩

theorem draw_any (g : Nat) (A : Option Addr) (n c : Nat) (w : World) (hC : Cur w g A n c) :
    Calls Try.prog 64 #[.pointer (some ⟨g, 0, none⟩)] w (DrawnL g A n c 40 w) := by
  have HC := Lib.hid hC
  have hlt := hC.lt
  clear hC
  go_enter Try.func64, Try.ntmps64
  go_wp2_with fail
  refine (below_any g A n c 7 _ (HC.out.below ((Below.refl _ _).alloc (Nat.le_refl _) _))).mono ?_
  rintro e w1 ⟨r, rfl, ⟨_, hr⟩, hc, hg⟩
  obtain ⟨r0, r1⟩ := hr (by omega)
  have HC1 := Lib.hid hc
  have HG1 := Lib.hid (grown_trans (World.grownBy_alloc w (.cells #[] 28) (some g)) hg)
  have HO1 := Lib.hid (own_far (empty_row w) hg (fun b e => by simp [Value.ownBlock] at e; simp; omega))
  clear hc hg hr
  go_wp2_with fail
  go_loopw [3, 4] (fun v i wr => ∃ (A' : Option Addr) (c' : Nat) (zs : List Pr) (q : Int), i = .int .i64 q ∧ q ≤ 6 ∧ v = .slice A' zs.length c' ∧ Hid (wr.ownsRow w.heap.size 28 2 (.slice A' zs.length c') zs.length (PL zs)) ∧ zs.length ≤ 40 ∧ Hid (Cur wr g A n c) ∧ Hid (w.grownBy wr (some g))) (fun _ i _ => (intOf i).toNat)
  case atStart => exact ⟨_, _, [], r, rfl, by omega, rfl, HO1, by simp, HC1, HG1⟩
  case round =>
    obtain ⟨A', c', zs, q, rfl, hq, rfl, ho, hz, hcu, hgr⟩ := hrel
    clear HO1 HC1 HG1
    generalize hl : zs.length = l at *
    have HLL := Lib.hid hl
    clear hl
    by_cases hq0 : 0 < q
    · go_wp2_with fail
      refine (below_any g A n c 20 _ hcu.out).mono ?_
      rintro e w2 ⟨x, rfl, _, hc2, hg2⟩
      have C2 := Lib.hid hc2
      have G2 := Lib.hid (grown_trans hgr.out hg2)
      have O2 := Lib.hid (own_far ho.out hg2 (fun b e => by have := (ho.out.lt b e).1; simp; omega))
      clear hc2 hg2 hcu hgr ho
      go_wp2_with fail
      refine (below_any g A n c 100 _ C2.out).mono ?_
      rintro e w3 ⟨y, rfl, _, hc3, hg3⟩
      have C3 := Lib.hid hc3
      have G3 := Lib.hid (grown_trans G2.out hg3)
      have O3 := Lib.hid (own_far O2.out hg3 (fun b e => by have := (O2.out.lt b e).1; simp; omega))
      clear hc3 hg3 C2 G2 O2
      go_wp2_with fail
      refine (spPut_any _ _ _ zs x y _ (RP.own O3.out) (by omega) (own_cap O3.out).1 (own_cap O3.out).2).mono ?_
      intro e w4 hP
      obtain ⟨A4, c4, rfl, o4, b4⟩ := form2 hP
      have O4 := Lib.hid (own_base o4 G3.out.size)
      have C4 := Lib.hid (C3.out.below b4)
      have G4 := Lib.hid (grown_trans G3.out (grown_below b4))
      have L4 := putL_le zs x y
      clear o4 b4 hP C3 G3 O3
      generalize putL zs x y = z2 at *
      generalize putB zs x y = b2 at *
      go_wp2_with fail
      go_roundw
      case rel => exact ⟨A4, c4, z2, q - 1, by go_num, by omega, rfl, O4, L4, C4, G4⟩
      case measure => simp [intOf]; omega
    · go_wp2
      go_ret
      exact ⟨A', c', zs, by rw [HLL.out]; rfl, by rw [HLL.out]; exact ho.out, by rw [HLL.out]; exact hz, hcu.out, hgr.out⟩
end Go.Proofs.Ytokkpbjldchjpaa

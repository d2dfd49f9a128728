/- The walks of take and release. -/
import Derived.Test.YtpffkhjegpddbaaGreatV50
open Go.Value renaming int → jI, slice → jS
open Go.IntKind renaming i64 → jZ
namespace Go.Proofs.YtpffkhjegpddbaaGreat
open Go.RowKit

theorem hasKey {x : Int} (hx : (Lit.int .i64 x).wf = true) : keyOf Tryz.prog 2 (.int .i64 x) = some (.int .i64 x) := Maps.keyOf_int_mk Tryz.underlying2 hx

set_option maxRecDepth 100000 in
theorem take_any (b n : Nat) (o : Int → Int) (x q : Int) (w : World) (h : Held w b n o) (hx : (Lit.int .i64 x).wf = true) (hq : 1 ≤ q ∧ q ≤ 6) (hn : n ≤ 1048576) :
   Calls Tryz.prog 23 #[.map (some b), .int .i64 x, .int .i64 q] w fun e w' => e = .returned (.bool (decide (o x = 0))) ∧ Held w' b (n + 1) (if o x = 0 then upd o x q else o) ∧ w.grownBy w' (some b) := by
 obtain ⟨D, hown, hkeep⟩ := h
 have KP := Lib.hid hkeep
 have ON := Lib.hid hown
 clear hown hkeep
 by_cases hz : o x = 0
 · go_enter Tryz.func23, Tryz.ntmps23
   go_wp2_with (first
     | (at_lookup; refine wpList_lookup_own_int _ rfl _ _ 44 rfl 2 2 .i64 lawI Tryz.underlying44 Tryz.underlying2 (zeroI _) b n _ rfl ON.out _ _ rfl (hasKey hx) ?_; intro c hat hwc; obtain rfl := (KP.out.at hat).symm.trans hz; clear hat hwc)
     | (at_mapUpdate; refine wpList_mapUpdate_own _ rfl _ _ _ 44 rfl 2 2 lawI Tryz.underlying44 _ b n _ rfl ON.out (by unfold maxLen; omega) _ _ _ rfl rfl (hasKey hx) _ [] (plainElem_int Tryz.underlying2 (wf_small (by omega) (by omega))) ?_; intro w5 hown5 hgrow5; go_frame))
   go_ret
   exact ⟨rfl, ⟨_, hown5, KP.out.put _ _ (by omega)⟩, hgrow5⟩
 · go_enter Tryz.func23, Tryz.ntmps23
   go_wp2_with (at_lookup; refine wpList_lookup_own_int _ rfl _ _ 44 rfl 2 2 .i64 lawI Tryz.underlying44 Tryz.underlying2 (zeroI _) b n _ rfl ON.out _ _ rfl (hasKey hx) ?_; intro c hat hwc; have gz : (c != 0) = true := (by rw [← KP.out.at hat]; simpa using hz); clear hat hwc)
   go_ret
   exact ⟨rfl, ⟨D, ON.out.mono (Nat.le_succ _), KP.out⟩, World.grownBy.refl _ _⟩

set_option maxRecDepth 100000 in
theorem release_any (b n : Nat) (o : Int → Int) (x q : Int) (w : World) (h : Held w b n o) (hx : (Lit.int .i64 x).wf = true) :
   Calls Tryz.prog 30 #[.map (some b), .int .i64 x, .int .i64 q] w fun e w' => e = .returned (.bool (decide (o x = q))) ∧ Held w' b n (if o x = q then upd o x 0 else o) ∧ w.grownBy w' (some b) := by
 obtain ⟨D, hown, hkeep⟩ := h
 have KP := Lib.hid hkeep
 have ON := Lib.hid hown
 clear hown hkeep
 by_cases hz : o x = q
 · have hqq : (q != q) = false := by simp
   go_enter Tryz.func30, Tryz.ntmps30
   go_wp2_with (first
     | (at_lookup; refine wpList_lookup_own_int _ rfl _ _ 44 rfl 2 2 .i64 lawI Tryz.underlying44 Tryz.underlying2 (zeroI _) b n _ rfl ON.out _ _ rfl (hasKey hx) ?_; intro c hat hwc; obtain rfl := (KP.out.at hat).symm.trans hz; clear hat hwc)
     | (at_delete; refine wpList_delete_own _ rfl _ _ 44 2 rfl 2 lawI Tryz.underlying44 _ b n _ rfl ON.out _ _ rfl (hasKey hx) ?_; intro w5 hown5 hturn5; go_frame))
   go_ret
   exact ⟨rfl, ⟨_, hown5, KP.out.del _⟩, hturn5.grown⟩
 · go_enter Tryz.func30, Tryz.ntmps30
   go_wp2_with (at_lookup; refine wpList_lookup_own_int _ rfl _ _ 44 rfl 2 2 .i64 lawI Tryz.underlying44 Tryz.underlying2 (zeroI _) b n _ rfl ON.out _ _ rfl (hasKey hx) ?_; intro c hat hwc; have gz : (c != q) = true := (by rw [← KP.out.at hat]; simpa using hz); clear hat hwc)
   go_ret
   exact ⟨rfl, ⟨D, ON.out, KP.out⟩, World.grownBy.refl _ _⟩
end Go.Proofs.YtpffkhjegpddbaaGreat
namespace Go.Proofs.YtpffkhjegpddbaaGreat
open Go.RowKit

theorem RS.cells {w : World} {B n : Nat} {A : Option Addr} {xs : List Nd} (h : RS w B A n xs) (hn : 0 < n) :
   ∃ (css : List (List Value)) (b off : Nat), css.length = n ∧ (∀ i, i < n → encNd.Is w B (css.getD i []) (xs.getD i encNd.dflt)) ∧ A = some ⟨b, off, none⟩ ∧ b < B ∧ ∀ j u, css.flatten[j]? = some u → w.cell? ⟨b, off + j, none⟩ = some u := by
 obtain ⟨b, off, e, hb, hc⟩ := h.2 hn
 have hch : ∀ i : Fin n, ∃ cs, encNd.Is w B cs (xs.getD i encNd.dflt) ∧ ∀ j u, cs[j]? = some u → w.cell? ⟨b, off + i * 5 + j, none⟩ = some u := fun i => hc i i.2
 obtain ⟨F, hF⟩ := Classical.axiomOfChoice hch
 have hget : ∀ i (hi : i < n), (List.ofFn F).getD i [] = F ⟨i, hi⟩ := fun i hi => by
   simp [List.getD, hi]
 have hlen : ∀ c ∈ List.ofFn F, c.length = 5 := fun c hc => by
   rw [List.mem_ofFn] at hc
   obtain ⟨i, rfl⟩ := hc
   exact encNd.is_len (hF i).1
 refine ⟨List.ofFn F, b, off, by simp, fun i hi => by rw [hget i hi]; exact (hF ⟨i, hi⟩).1, e, hb, fun j u hu => ?_⟩
 have hj : j < (List.ofFn F).flatten.length := (List.getElem?_eq_some_iff.1 hu).1
 rw [flat_len hlen, List.length_ofFn] at hj
 have hi : j / 5 < n := by omega
 obtain ⟨e1, e2⟩ := flat_split hlen (j / 5) (by simpa using hi)
 have hcl : ((List.ofFn F).getD (j / 5) []).length = 5 := by rw [hget _ hi]; exact encNd.is_len (hF _).1
 have h3 : j / 5 * 5 + j % 5 = j := by omega
 have hm := mid_get (pre := ((List.ofFn F).take (j / 5)).flatten) (cs := (List.ofFn F).getD (j / 5) []) (post := ((List.ofFn F).drop (j / 5 + 1)).flatten) e2 (j := j % 5) (by rw [hcl]; omega)
 rw [← e1, h3] at hm
 rw [hm, hget _ hi] at hu
 have := (hF ⟨j / 5, hi⟩).2 (j % 5) u hu
 rwa [show off + j / 5 * 5 + j % 5 = off + j from by omega] at this

theorem cells_one {w : World} {B : Nat} {css : List (List Value)} {xs : List Nd} (h : ∀ i, i < css.length → encNd.Is w B (css.getD i []) (xs.getD i encNd.dflt)) : ∀ u ∈ css.flatten, u.oneCell' = true := by
 intro u hu
 obtain ⟨c, hc, hu⟩ := List.mem_flatten.1 hu
 obtain ⟨i, hi, rfl⟩ := List.getElem_of_mem hc
 obtain ⟨A, n, c, e, _⟩ := h i hi
 rw [show css.getD i [] = css[i] from by simp [hi]] at e
 rw [e] at hu
 simp only [List.mem_cons, List.not_mem_nil, or_false] at hu
 rcases hu with rfl | rfl | rfl | rfl | rfl <;> rfl

def GivesN (w : World) (xs : List Nd) (n : Nat) (e : Ending) (w' : World) : Prop := ∃ (g cap : Nat) (css : List (List Value)), e = .returned (jS (some ⟨g, 0, none⟩) n cap) ∧ css.length = n ∧ w'.ownsRow w.heap.size 53 5 (jS (some ⟨g, 0, none⟩) n cap) n css.flatten ∧
 (∀ i, i < n → encNd.Is w w.heap.size (css.getD i []) (xs.getD i encNd.dflt)) ∧ Below w.heap.size w w'

theorem empty_rowN (w : World) : (w.alloc (.cells #[] 53)).ownsRow w.heap.size 53 5 (jS (some ⟨w.heap.size, 0, none⟩) 0 0) 0 [] :=
 World.ownsRow_made w #[] 0 (Nat.le_refl _) (by unfold maxLen; omega) (by simp)

theorem cloneN_any (A : Option Addr) (n c : Nat) (xs : List Nd) (w : World) (h : RS w w.heap.size A n xs) (hn1 : 1 ≤ n) (hn : n ≤ 1048576) :
   Calls Tryz.prog 39 #[jS A n c] w (GivesN w xs n) := by
 obtain ⟨css, b, off, hl, hi, rfl, hb, hc⟩ := h.cells hn1
 have HL := Lib.hid hl
 have HI := Lib.hid hi
 have HC := Lib.hid hc
 have HB := Lib.hid hb
 have H1 := Lib.hid (cells_one (fun i hi' => hi i (by omega)) : ∀ u ∈ css.flatten, u.oneCell' = true)
 have HF := Lib.hid (show css.flatten.length = n * 5 from by rw [flat_len (s := 5) (fun c hc' => by obtain ⟨i, hi', rfl⟩ := List.getElem_of_mem hc'; have h5 := encNd.is_len (hi i (by omega)); rw [show css.getD i [] = css[i] from by simp [hi']] at h5; exact h5), hl])
 clear h hl hi hc hb
 have hnil := fun (A : Option Addr) (w : World) => Lib.run_eql_slice_nil (P := Tryz.prog) w 24 53 A n c 0 0 Tryz.underlying24
 obtain ⟨i0, hi0, hz0, hz1, hz2⟩ := info_parts node_info
 have I0 := Lib.hid hi0
 have Z0 := Lib.hid hz0
 have Z1 := Lib.hid hz1
 have Z2 := Lib.hid hz2
 clear hi0 hz0 hz1 hz2
 have aa : Hid (∀ k, (⟨b, off, none⟩ : Addr).add k = ⟨b, off + k, none⟩) := Lib.hid (by intro k; unfold Addr.add; split <;> simp_all)
 go_enter Tryz.func39, Tryz.ntmps39
 go_wp2_with (at_builtin; refine wpList_append_own _ rfl (.tmp 5) (.tmp 6) 24 rfl w.heap.size 53 i0 _ 5 56 Tryz.underlying24 I0.out Z0.out Z1.out Z2.out rfl (by omega) (jS (some ⟨w.heap.size, 0, none⟩) 0 0) 0 [] rfl (empty_rowN w) ⟨b, off, none⟩ n c css.flatten rfl HF.out (fun j u hu => by rw [aa.out, ((Below.refl _ _).alloc (Nat.le_refl _) _ : Below w.heap.size w _).cell HB.out]; exact HC.out j u hu) H1.out (by unfold maxLen; omega) (by omega) (by simp) ?_)
 intro v' w' hown hg _
 have HO := Lib.hid hown
 have HG := Lib.hid hg
 clear hown hg
 go_wp2
 go_ret
 have HO2 := HO.out
 obtain ⟨g, cap, rfl, _, hlt⟩ := HO2.form (by omega)
 refine ⟨g, cap, css, rfl, HL.out, HO2, HI.out, ?_⟩
 exact ((Below.refl _ _).alloc (Nat.le_refl _) _).grown HG.out (by simp) (by intro k hk; simp [Value.ownBlock] at hk; omega)
end Go.Proofs.YtpffkhjegpddbaaGreat
namespace Go.Proofs.YtpffkhjegpddbaaGreat
open Go.RowKit

theorem Held.setCell {w : World} {b n : Nat} {o : Int → Int} (h : Held w b n o) {a : Addr} (ha : b ≠ a.block) (u : Value) : Held (w.setCell a u) b n o := by
 obtain ⟨D, h1, h2⟩ := h
 exact ⟨D, h1.setCell ha u, h2⟩
theorem Held.lt {w : World} {b n : Nat} {o : Int → Int} (h : Held w b n o) : b < w.heap.size := by
 obtain ⟨D, h1, _⟩ := h
 exact h1.lt

def heldNd (xs : List Nd) (o : Int → Int) (i : Nat) : Nd := { ndAt xs i with ow := o i }
def heldXs (xs : List Nd) (o : Int → Int) (n : Nat) : List Nd := (List.range n).map (heldNd xs o)
theorem heldXs_len (xs : List Nd) (o : Int → Int) (n : Nat) : (heldXs xs o n).length = n := by simp [heldXs]
theorem heldXs_get (xs : List Nd) (o : Int → Int) (n i : Nat) (hi : i < n) : (heldXs xs o n).getD i encNd.dflt = heldNd xs o i := by simp [heldXs, List.getD, hi]

def HalfA (wr : World) (B g cap n k : Nat) (xs : List Nd) (o : Int → Int) : Prop :=
 B ≤ g ∧ ∃ (css : List (List Value)) (f : Nat → FP), wr.ownsRow 0 53 5 (jS (some ⟨g, 0, none⟩) n cap) n css.flatten ∧ css.length = n ∧
   (∀ i, i < k → encNd.Own wr (css.getD i []) (heldNd xs o i) (f i)) ∧ (∀ i, i < k → ∀ q, f i q → B ≤ q ∧ q < wr.heap.size ∧ q ≠ g) ∧
   (∀ i j, i < k → j < k → i ≠ j → Apart (f i) (f j)) ∧ (∀ i, k ≤ i → i < n → encNd.Is wr B (css.getD i []) (ndAt xs i))

theorem HalfA.start {w w' : World} {xs : List Nd} {n g cap : Nat} {css : List (List Value)} (o : Int → Int) (hl : css.length = n) (hr : w'.ownsRow w.heap.size 53 5 (jS (some ⟨g, 0, none⟩) n cap) n css.flatten)
   (hi : ∀ i, i < n → encNd.Is w w.heap.size (css.getD i []) (xs.getD i encNd.dflt)) (hb : Below w.heap.size w w') : HalfA w' w.heap.size g cap n 0 xs o :=
 ⟨(hr.lt g rfl).1, css, fun _ _ => False, own_zero hr, hl, fun i h => absurd h (by omega), fun i h => absurd h (by omega), fun i j h => absurd h (by omega), fun i _ h => encNd.is_keep (hi i h) (fun p hp => hb.cell hp)⟩

theorem HalfA.on {wr wx : World} {B g cap n k : Nat} {xs : List Nd} {o : Int → Int} (h : HalfA wr B g cap n k xs o) (hB : B ≤ wr.heap.size) (hb : Below wr.heap.size wr wx) : HalfA wx B g cap n k xs o := by
 obtain ⟨hg, css, f, h1, h2, h3, h4, h5, h6⟩ := h
 exact ⟨hg, css, f, own_on h1 hb, h2, fun i hi => encNd.own_keep (h3 i hi) (fun q _ hlt => hb.block q hlt), fun i hi q hq => by have := h4 i hi q hq; have := hb.size; exact ⟨by omega, by omega, by omega⟩, h5,
   fun i hk hi => encNd.is_keep (h6 i hk hi) (fun p hp => hb.cell (by omega))⟩

theorem HalfA.at {wr : World} {B g cap n k : Nat} {xs : List Nd} {o : Int → Int} (h : HalfA wr B g cap n k xs o) (hk : k < n) : g < wr.heap.size ∧ B ≤ g ∧ (∀ i, wr.frozen? ⟨g, i, none⟩ = false) ∧ NdIn wr B g (k * 5) (ndAt xs k) := by
 obtain ⟨hg, css, f, h1, h2, h3, h4, h5, h6⟩ := h
 have hlen : ∀ c ∈ css, c.length = 5 := fun c hc => by
   obtain ⟨i, hi, rfl⟩ := List.getElem_of_mem hc
   have e : css.getD i [] = css[i] := by simp [hi]
   rcases Nat.lt_or_ge i k with hik | hik
   · have := encNd.is_len (encNd.own_is (h3 i hik)); rw [e] at this; exact this
   · have := encNd.is_len (h6 i hik (by omega)); rw [e] at this; exact this
 obtain ⟨A, m, c, hcs, hR, hc1, hc2⟩ := h6 k (Nat.le_refl _) hk
 obtain ⟨e1, e2⟩ := flat_split hlen k (by omega)
 have hcl : (css.getD k []).length = 5 := by rw [hcs]; rfl
 have rd : ∀ j u, (css.getD k [])[j]? = some u → wr.cell? ⟨g, k * 5 + j, none⟩ = some u := fun j u hu => by
   have hj : j < (css.getD k []).length := (List.getElem?_eq_some_iff.1 hu).1
   rw [h1.cellAt _ (by omega), e1, mid_get e2 hj, hu]
 rw [hcs] at rd
 exact ⟨(h1.lt g rfl).2, hg, fun i => h1.frozenAt _, A, m, c, rd 0 _ rfl, rd 1 _ rfl, rd 2 _ rfl, rd 3 _ rfl, rd 4 _ rfl, hR, hc1, hc2⟩

theorem HalfA.next {wr wb : World} {B C g cap n k : Nat} {xs : List Nd} {o : Int → Int} {v : Value} (h : HalfA wr B g cap n k xs o) (_hB : B ≤ wr.heap.size) (hk : k < n) (hb : Below wr.heap.size wr wb) (hC : wr.heap.size ≤ C)
   (hv : wb.ownsRow C 68 2 v (ndAt xs k).ps.length (PL (ndAt xs k).ps)) :
   HalfA ((wb.setCell ⟨g, k * 5 + 1, none⟩ v).setCell ⟨g, k * 5 + 4, none⟩ (.int .i64 (o k))) B g cap n (k + 1) xs o := by
 have hgl := (h.at hk).1
 have hgB := (h.at hk).2.1
 obtain ⟨hg, css, f, h1, h2, h3, h4, h5, h6⟩ := h
 replace h1 := own_on h1 hb
 replace h3 : ∀ i, i < k → encNd.Own wb (css.getD i []) (heldNd xs o i) (f i) := fun i hi => encNd.own_keep (h3 i hi) (fun q _ hlt => hb.block q hlt)
 replace h6 : ∀ i, k ≤ i → i < n → encNd.Is wb B (css.getD i []) (ndAt xs i) := fun i hk hi => encNd.is_keep (h6 i hk hi) (fun p hp => hb.cell (by omega))
 have hbs := hb.size
 have hlen : ∀ c ∈ css, c.length = 5 := fun c hc => by
   obtain ⟨i, hi, rfl⟩ := List.getElem_of_mem hc
   have e : css.getD i [] = css[i] := by simp [hi]
   rcases Nat.lt_or_ge i k with hik | hik
   · have := encNd.is_len (encNd.own_is (h3 i hik)); rw [e] at this; exact this
   · have := encNd.is_len (h6 i hik (by omega)); rw [e] at this; exact this
 obtain ⟨A, m, c, hcs, hR, hc1, hc2⟩ := h6 k (Nat.le_refl _) hk
 obtain ⟨e1, e2⟩ := flat_split hlen k (by omega)
 rw [e1, hcs] at h1
 have r1 := own_mid h1 e2 (j := 1) (by simp) v
 have r4 := own_mid r1 e2 (j := 4) (by simp) (.int .i64 (o k))
 simp only [List.set_cons_succ, List.set_cons_zero] at r4
 rw [← flat_set k (by omega)] at r4
 obtain ⟨w2, hw2⟩ : ∃ w2, w2 = (wb.setCell ⟨g, k * 5 + 1, none⟩ v).setCell ⟨g, k * 5 + 4, none⟩ (.int .i64 (o k)) := ⟨_, rfl⟩
 have hsz : w2.heap.size = wb.heap.size := by rw [hw2]; simp [World.setCell]
 have hblk : ∀ q, q ≠ g → w2.heap[q]? = wb.heap[q]? := fun q hq => by rw [hw2, Below.heap_setCell _ _ _ _ hq, Below.heap_setCell _ _ _ _ hq]
 have hcell : ∀ p : Addr, p.block ≠ g → w2.cell? p = wb.cell? p := fun p hp => World.cell?_of_block (hblk _ hp)
 rw [← hw2] at r4 ⊢
 have hgetC : ∀ (cs : List Value) j, j ≠ k → (css.set k cs).getD j [] = css.getD j [] := fun cs j hne => by
   simp only [List.getD_eq_getElem?_getD]; rw [List.getElem?_set_ne (by omega)]
 have hgetK : ∀ cs : List Value, (css.set k cs).getD k [] = cs := fun cs => by simp [h2, hk]
 have hvb : ∀ q, v.ownBlock = some q → wr.heap.size ≤ q ∧ q < wb.heap.size := fun q hq => by have := hv.lt q hq; exact ⟨by omega, this.2⟩
 refine ⟨hg, css.set k _, fun i => if i = k then blkF v.ownBlock else f i, r4, by simp [h2], fun i hi => ?_, fun i hi q hq => ?_, fun i j hi hj hij => ?_, fun i hki hi => ?_⟩
 · by_cases e : i = k
   · subst e
     rw [hgetK]
     simp only [↓reduceIte]
     exact ⟨v, rfl, own_same (own_zero hv) (fun q hq _ => hblk q (by have := hvb q hq; omega)), fun q hq => hq⟩
   · rw [hgetC _ _ e]
     simp only [if_neg e]
     exact encNd.own_keep (h3 i (by omega)) (fun q hq _ => hblk q (h4 i (by omega) q hq).2.2)
 · replace hq : (if i = k then blkF v.ownBlock else f i) q := hq
   by_cases e : i = k
   · rw [if_pos e] at hq
     have := hvb q hq
     exact ⟨by omega, by omega, by omega⟩
   · rw [if_neg e] at hq
     have := h4 i (by omega) q hq
     exact ⟨by omega, by omega, by omega⟩
 · show Apart (if i = k then blkF v.ownBlock else f i) (if j = k then blkF v.ownBlock else f j)
   have ap : ∀ i, i < k → Apart (f i) (blkF v.ownBlock) := fun i hi q hq hv' => by
     have h7 := hvb q hv'
     have h8 := h4 i hi q hq
     omega
   by_cases ei : i = k
   · by_cases ej : j = k
     · omega
     · rw [if_pos ei, if_neg ej]
       exact (ap j (by omega)).symm
   · by_cases ej : j = k
     · rw [if_neg ei, if_pos ej]
       exact ap i (by omega)
     · rw [if_neg ei, if_neg ej]
       exact h5 i j (by omega) (by omega) hij
 · rw [hgetC _ _ (by omega)]
   exact encNd.is_keep (h6 i (by omega) hi) (fun p hp => hcell p (by omega))

theorem HalfA.done {wr : World} {B g cap n : Nat} {xs : List Nd} {o : Int → Int} (h : HalfA wr B g cap n n xs o) : OwnS wr (jS (some ⟨g, 0, none⟩) n cap) (heldXs xs o n) (fun q => B ≤ q ∧ q < wr.heap.size) := by
 obtain ⟨hg, css, f, h1, h2, h3, h4, h5, h6⟩ := h
 have hl := heldXs_len xs o n
 refine ⟨css, f, by rw [hl]; exact h1, by rw [hl]; exact h2, fun i hi => ?_, fun i hi q hq => ?_, fun i j hi hj => h5 i j (by omega) (by omega), fun q hq => ?_⟩
 · rw [heldXs_get xs o n i (by omega)]
   exact h3 i (by omega)
 · have := h4 i (by omega) q hq
   exact ⟨⟨this.1, this.2.1⟩, fun e => this.2.2 (by simpa [Value.ownBlock] using e.symm)⟩
 · have : g = q := by simpa [Value.ownBlock] using hq
   subst this
   exact ⟨hg, (h1.lt g rfl).2⟩
end Go.Proofs.YtpffkhjegpddbaaGreat
namespace Go.Proofs.YtpffkhjegpddbaaGreat
open Go.RowKit

set_option maxRecDepth 100000 in
set_option maxHeartbeats 1000000 in
theorem iheldAs_any (r : Int) (xs : List Nd) (A : Option Addr) (n c bm nm : Nat) (o : Int → Int) (w : World) (h : RS w w.heap.size A n xs) (hn1 : 1 ≤ n) (hn : n ≤ 40) (hp : ∀ i, i < n → (ndAt xs i).ps.length ≤ 1048576) (hm : Held w bm nm o) :
   Calls Tryz.prog 24 #[.agg #[.int .i64 r, jS A n c], .map (some bm)] w fun e w' => ∃ v F, e = .returned (.agg #[.int .i64 r, v]) ∧ OwnS w' v (heldXs xs o n) F ∧ Fresh F w w' ∧ Below w.heap.size w w' := by
 obtain ⟨w0, hw0⟩ : ∃ w0, w0 = (w.alloc (.cells #[.int .i64 r, jS A n c] 26)).alloc (.cells #[.int .i64 0, jS none 0 0] 26) := ⟨_, rfl⟩
 have b0 : Below w.heap.size w w0 := by rw [hw0]; exact ((Below.refl _ _).alloc (Nat.le_refl _) _).alloc (by simp) _
 have x0 : w0.heap[w.heap.size]? = some (.cells #[.int .i64 r, jS A n c] 26 (0, 0)) := by
   rw [hw0, Below.heap_alloc _ _ _ (by simp)]; exact heap_alloc_new _ _
 have x1 : w0.heap[w.heap.size + 1]? = some (.cells #[.int .i64 0, jS none 0 0] 26 (0, 0)) := by
   have hz := heap_alloc_new (w.alloc (.cells #[.int .i64 r, jS A n c] 26)) (.cells #[.int .i64 0, jS none 0 0] 26)
   rw [hw0]
   rwa [show (w.alloc (.cells #[.int .i64 r, jS A n c] 26)).heap.size = w.heap.size + 1 from by simp] at hz
 have s0 : w0.heap.size = w.heap.size + 2 := by rw [hw0]; simp
 have HH := Lib.hid (h.on b0)
 have HM := Lib.hid (hm.on b0)
 have HML := Lib.hid hm.lt
 have B0 := Lib.hid b0
 have S0 := Lib.hid s0
 have X0 := Lib.hid x0
 have X1 := Lib.hid x1
 have HW := Lib.hid hw0
 have HP := Lib.hid hp
 have CN := Lib.hid (fun w h => cloneN_any A n c xs w h hn1 (by omega))
 clear h hm b0 s0 x0 x1 hw0 hp
 go_enter Tryz.func24, Tryz.ntmps24
 go_wp2_with fail
 rw [← HW.out]
 refine (CN.out _ HH.out).mono ?_
 rintro e w1 ⟨g, cap, css, rfl, hl, hr, hi, b1⟩
 have A1 := Lib.hid (HalfA.start o hl hr hi b1)
 have B1 := Lib.hid b1
 clear hl hr hi b1
 go_wp2
 go_loopw [13] (fun i wr => ∃ k : Nat, i = .int .i64 k ∧ k ≤ n ∧ Hid (HalfA wr w0.heap.size g cap n k xs o) ∧ Hid (Below w0.heap.size w0 wr)) (fun i _ => n - (intOf i).toNat)
 case atStart => exact ⟨0, rfl, by omega, A1, B1⟩
 case round =>
   obtain ⟨k, rfl, hk, ha, hbw⟩ := hrel
   by_cases hlt : k < n
   · obtain ⟨hg1, hg2, fz, A2, n2, c2, c0, c1, c2', c3, c4, hR, _⟩ := ha.out.at hlt
     have hps := HP.out k hlt
     have hx := ha.out
     have HN : Hid (∀ wb C v, Below wr.heap.size wr wb → wr.heap.size ≤ C → wb.ownsRow C 68 2 v (ndAt xs k).ps.length (PL (ndAt xs k).ps) → HalfA ((wb.setCell ⟨g, k * 5 + 1, none⟩ v).setCell ⟨g, k * 5 + 4, none⟩ (.int .i64 (o k))) w0.heap.size g cap n (k + 1) xs o) :=
       Lib.hid (fun wb C v hb hC hv => hx.next hbw.out.size hlt hb hC hv)
     clear hx
     have hR1 : RP wr wr.heap.size A2 n2 (ndAt xs k).ps := hR.more hbw.out.size
     have hn2 : n2 ≤ 1048576 := by rw [← hR.1]; exact hps
     generalize ndAt xs k = y at *
     obtain ⟨lv, zs, hi, ri, ow⟩ := y
     simp only at *
     obtain ⟨wb, hwb⟩ : ∃ wb, wb = wr.alloc (.cells #[.int .i64 lv, jS A2 n2 c2, .int .i64 hi, .int .i64 ri, .int .i64 ow] 53) := ⟨_, rfl⟩
     have bb : Below wr.heap.size wr wb := by rw [hwb]; exact (Below.refl _ _).alloc (Nat.le_refl _) _
     have HB := Lib.hid hwb
     have RB := Lib.hid (hR1.on bb)
     have BB := Lib.hid bb
     have CL := Lib.hid (fun w h => clone_any A2 n2 c2 zs w h hn2)
     clear hR hR1 bb hwb hps
     go_wp2_with fail
     rw [← HB.out]
     refine (CL.out _ RB.out).mono ?_
     rintro e w5 ⟨v, rfl, o5, b5⟩
     obtain ⟨A5, c5, rfl, _, _⟩ := own_shape o5
     have b25 := bel_on BB.out b5
     have N5 := Lib.hid (HN.out w5 wb.heap.size _ b25 BB.out.size o5)
     have B5 := Lib.hid (bel_on hbw.out b25)
     have M5 := Lib.hid ((HM.out.on B5.out).setCell (a := ⟨g, k * 5 + 1, none⟩) (by have := HML.out; have := S0.out; simp; omega) (jS A5 zs.length c5))
     have fz5 : ∀ i, w5.frozen? ⟨g, i, none⟩ = false := fun i => (b25.frozen (p := ⟨g, i, none⟩) hg1).trans (fz i)
     have d1 : w5.cell? ⟨g, k * 5 + 1, none⟩ = some (.slice A2 n2 c2) := (b25.cell (p := ⟨g, k * 5 + 1, none⟩) hg1).trans c1
     have d4 : w5.cell? ⟨g, k * 5 + 4, none⟩ = some (.int .i64 ow) := (b25.cell (p := ⟨g, k * 5 + 4, none⟩) hg1).trans c4
     clear c0 c1 c2' c3 c4 fz o5 b5 b25
     obtain ⟨D, hown, hkeep⟩ := M5.out
     have KP := Lib.hid hkeep
     have ON := Lib.hid hown
     clear hown hkeep
     go_wp2_with (at_lookup; refine wpList_lookup_own_int _ rfl _ _ 44 rfl 2 2 .i64 lawI Tryz.underlying44 Tryz.underlying2 (zeroI _) bm nm _ rfl ON.out _ _ rfl (keyI (by omega) (by omega)) ?_; intro c hat hwc; obtain rfl := (KP.out.at hat).symm; clear hat hwc)
     have S6 : Hid (Below w0.heap.size w0 ((w5.setCell ⟨g, k * 5 + 1, none⟩ (jS A5 zs.length c5)).setCell ⟨g, k * 5 + 4, none⟩ (.int .i64 (o k)))) := Lib.hid ((B5.out.setCell (by simpa using hg2) _).setCell (by simpa using hg2) _)
     generalize (w5.setCell ⟨g, k * 5 + 1, none⟩ (jS A5 zs.length c5)).setCell ⟨g, k * 5 + 4, none⟩ (.int .i64 (o k)) = w6 at *
     go_roundw
     case rel => exact ⟨k + 1, by go_num, by omega, N5, S6⟩
     case measure => simp [intOf]; omega
   · obtain rfl : k = n := by omega
     have d0 : wr.cell? ⟨w.heap.size, 0, none⟩ = some (.int .i64 r) := by rw [cell_of_row _ _ 0 _ _ _ (box_on hbw.out X0.out)]; rfl
     have q0 : wr.cell? ⟨w.heap.size + 1, 0, none⟩ = some (.int .i64 0) := by rw [cell_of_row _ _ 0 _ _ _ (box_on hbw.out X1.out)]; rfl
     have q1 : wr.cell? ⟨w.heap.size + 1, 1, none⟩ = some (.slice none 0 0) := by rw [cell_of_row _ _ 1 _ _ _ (box_on hbw.out X1.out)]; rfl
     have f1 : ∀ i, wr.frozen? ⟨w.heap.size + 1, i, none⟩ = false := fun i => frozen_of_row _ _ i _ _ (box_on hbw.out X1.out)
     go_wp2
     refine bodyPost_ret (v := .agg #[.int .i64 r, jS (some ⟨g, 0, none⟩) k cap]) (by simp [results, Tryz.results24, go_sem, q0, q1]) rfl ⟨_, _, rfl, ha.out.done.keep (fun q hq _ => ?_), fun q hq => ?_, ?_⟩
     · have := S0.out
       have := hq.1
       rw [Below.heap_setCell _ _ _ _ (by simp; omega), Below.heap_setCell _ _ _ _ (by simp; omega)]
     · have := S0.out
       refine ⟨by have := hq.1; omega, ?_⟩
       simp only [World.setCell, Array.size_modify]
       exact hq.2
     · exact ((B0.out.trans (hbw.out.mono B0.out.size)).setCell (by simp) _).setCell (by simp) _
end Go.Proofs.YtpffkhjegpddbaaGreat

/- The walks of the model's l3Row and RowOf. -/
import Derived.Test.YtlmhcifnikdliaaDoorB13
import Derived.Test.YtlmhcifnikdliaaDoorB07
import Derived.Deep.LoopGhost
import Derived.Test.YtlmhcifnikdliaaDoorB11
import Derived.Deep.RegionLaw
import Derived.Test.YtlmhcifnikdliaaDoorB06
namespace Go.Proofs.YtlmhcifnikdliaaDoor
open Go.RowKit


def IL (xs : List Int) : List Value := xs.map fun x => .int .i64 x
theorem IL_append (a b : List Int) : IL (a ++ b) = IL a ++ IL b := by simp [IL]
theorem IL_flat (xs : List Int) : IL xs = (xs.map fun x => [Value.int .i64 x]).flatten := by
  induction xs with
  | nil => rfl
  | cons x r ih => unfold IL at *; simp [ih]
theorem OwnS.of_ints {w : World} {base : Nat} {v : Value} {n : Nat} {xs : List Int} {F : FP} (h : w.ownsRow base 2 1 v n (IL xs)) (hF : ∀ k, v.ownBlock = some k → F k) : OwnS w v xs F := by
  have hl : xs.length = n := by have := h.1; unfold IL at this; simpa using this
  refine ⟨xs.map fun x => [Value.int .i64 x], fun _ _ => False, by rw [← IL_flat, hl]; exact own_zero h, by simp, fun i hi => ?_, fun i hi k hk => absurd hk id, fun i j hi hj hij k hk => absurd hk id, hF⟩
  show (xs.map fun x => [Value.int .i64 x]).getD i [] = [.int .i64 (xs.getD i 0)]
  simp [hi]
theorem int_info : (Tryd.prog.info? 2).map (fun i => (i.zero, i.size, i.bytes)) = some (some (.int .i64 0), 1, 8) := by kernel_rfl
theorem wpList_appI {w : World} {ops : Array Oper} {rest : List Oper} {o : Oper} {a : Act} {Q : Exit → Act → World → Prop} (hgd : o.guard = none) (s x : Operand)
    (ho : o.op = .call { callee := .builtin .append, args := #[s, x], argTypes := #[41, 41] })
    (base : Nat) (v : Value) (n : Nat) (xs : List Int) (hs : a.eval s = v) (hown : w.ownsRow base 2 1 v n (IL xs))
    (g : Nat) (y : Int) (hx : a.eval x = .slice (some ⟨g, 0, none⟩) 1 1) (hc : w.cell? ⟨g, 0, none⟩ = some (.int .i64 y)) (hsz : n ≤ 4194304) (hbase : base ≤ w.heap.size)
    (h : ∀ v' w', w'.ownsRow base 2 1 v' (n + 1) (IL (xs ++ [y])) → w.grownBy w' v.ownBlock → wpList Tryd.prog ops Q rest (a.put o.dst v') w') : wpList Tryd.prog ops Q (o :: rest) a w := by
  obtain ⟨i0, hi0, hz0, hz1, hz2⟩ := info_parts int_info
  refine wpList_append_own w hgd s x 41 ho base 2 i0 _ 1 8 Tryd.underlying41 hi0 hz0 hz1 hz2 rfl (by omega) v n (IL xs) hs hown ⟨g, 0, none⟩ 1 1 [.int .i64 y] hx rfl
    (fun j u hu => by
      match j, hu with
      | 0, hu => cases hu; exact hc
      | j + 1, hu => simp at hu) (by simp [Value.oneCell']) (by unfold maxLen; omega) (by omega) hbase (fun v' w' h1 h2 _ => h v' w' ?_ h2)
  rw [IL_append]
  exact h1


def riAt (xs : List Nd) (i : Nat) : Int := (ndAt xs i).ri
def rowF (xs : List Nd) : Nat → Int → List Int
  | 0, _ => []
  | f + 1, a => if 0 ≤ a then a :: rowF xs f (riAt xs a.toNat) else []
def rowT (r : Int) (xs : List Nd) (lev : Int) : List Int := rowF xs 40 (firstT r xs lev)
theorem rowF_end (xs : List Nd) (f : Nat) (a : Int) (h : ¬ 0 ≤ a) : rowF xs f a = [] := by
  cases f with
  | zero => rfl
  | succ f => simp only [rowF]; rw [if_neg h]
theorem rowF_go (xs : List Nd) (f a : Nat) : rowF xs (f + 1) a = (a : Int) :: rowF xs f (riAt xs a) := by
  simp only [rowF]; rw [if_pos (by omega), Int.toNat_natCast]
theorem Right.ri {n : Nat} {r : Int} {xs : List Nd} (h : Right n r xs) (i : Nat) (hi : i < n) : riAt xs i < n := (h.good i hi).2.1
theorem firstF_lt {n : Nat} {r : Int} {xs : List Nd} (h : Right n r xs) (lev : Int) : ∀ (f a : Nat), a < n → firstF xs lev f a < n := by
  intro f
  induction f with
  | zero => intro a ha; simp only [firstF]; omega
  | succ f ih =>
    intro a ha
    by_cases hg : lev < lvAt xs a ∧ 0 ≤ lev
    · by_cases hk : lvAt xs (kid0 xs a) = lvAt xs a - 1
      · rw [firstF_down xs lev f a hg hk]
        exact ih _ (h.kid a ha (by omega)).2.1
      · rw [firstF_none xs lev f a hg hk]; omega
    · rw [firstF_here xs lev f a hg]
      split <;> omega
theorem firstT_lt {n : Nat} {r : Int} {xs : List Nd} (h : Right n r xs) (lev : Int) : firstT r xs lev < n := firstF_lt h lev 7 _ (by have := h.root; omega)

set_option maxRecDepth 100000 in
set_option maxHeartbeats 1000000 in
theorem row_any (r : Int) (xs : List Nd) (A : Option Addr) (n c : Nat) (lev : Int) (w : World) (h : RS w w.heap.size A n xs) (hR : Right n r xs) :
    Calls Tryd.prog 21 #[.agg #[.int .i64 r, .slice A n c], .int .i64 lev] w fun e w' => ∃ v, e = .returned v ∧ w'.ownsRow w.heap.size 2 1 v (rowT r xs lev).length (IL (rowT r xs lev)) ∧ Below w.heap.size w w' := by
  have HR := Lib.hid hR
  have hn40 := hR.most
  have hft := firstT_lt hR lev
  have fk : ∀ w, RS w w.heap.size A n xs → Calls Tryd.prog 36 #[.agg #[.int .i64 r, .slice A n c], .int .i64 lev] w fun e w' => e = .returned (.int .i64 (firstT r xs lev)) ∧ Below w.heap.size w w' := fun w h => first_any r xs A n c lev w h hR
  unfold rowT
  generalize firstT r xs lev = a0 at *
  have FK := Lib.hid fk
  obtain ⟨w0, hw0⟩ : ∃ w0, w0 = w.alloc (.cells #[.int .i64 r, .slice A n c] 29) := ⟨_, rfl⟩
  have b0 : Below w.heap.size w w0 := by rw [hw0]; exact (Below.refl _ _).alloc (Nat.le_refl _) _
  have x0 : w0.heap[w.heap.size]? = some (.cells #[.int .i64 r, .slice A n c] 29 (0, 0)) := by rw [hw0]; exact heap_alloc_new _ _
  have D0 : Hid (∀ wx, Below w0.heap.size w0 wx → wx.cell? ⟨w.heap.size, 0, none⟩ = some (.int .i64 r) ∧ wx.cell? ⟨w.heap.size, 1, none⟩ = some (.slice A n c)) := Lib.hid (fun wx hb => ⟨by rw [cell_of_row _ _ 0 _ _ _ (box_on hb x0)]; rfl, by rw [cell_of_row _ _ 1 _ _ _ (box_on hb x0)]; rfl⟩)
  have HH := Lib.hid (h.on b0)
  have B0 := Lib.hid b0
  have HW := Lib.hid hw0
  have HFT := Lib.hid hft
  clear h hw0 b0 x0 hR fk hft
  go_enter Tryd.func21, Tryd.ntmps21
  go_wp2_with fail
  obtain ⟨w1, hw1⟩ : ∃ w1, w1 = w0.alloc (.cells #[] 2) := ⟨_, rfl⟩
  have b1 : Below w0.heap.size w0 w1 := by rw [hw1]; exact (Below.refl _ _).alloc (Nat.le_refl _) _
  have o1 : w1.ownsRow w0.heap.size 2 1 (.slice (some ⟨w.heap.size + 1, 0, none⟩) 0 0) 0 (IL []) := by
    have h1 := World.ownsRow_made (e := 2) (size := 1) w0 #[] 0 (Nat.le_refl _) (by unfold maxLen; omega) (by simp)
    have hs : w0.heap.size = w.heap.size + 1 := by rw [HW.out]; simp
    rw [hw1, ← hs]
    exact h1
  rw [← HW.out, ← hw1]
  refine (FK.out _ (HH.out.on b1)).mono ?_
  rintro e w2 ⟨rfl, b2⟩
  have O2 : Hid (w2.ownsRow w0.heap.size 2 1 (.slice (some ⟨w.heap.size + 1, 0, none⟩) 0 0) 0 (IL [])) := Lib.hid (own_on o1 b2)
  have B2 := Lib.hid (bel_on b1 b2)
  clear b1 b2 o1 hw1
  go_wp2
  go_loopg [5, 6] 40 (fun f o a wr => ∃ (Ao : Option Addr) (m co : Nat) (x : Int) (l : List Int), o = .slice Ao m co ∧ a = .int .i64 x ∧ m + f = 40 ∧ Hid (wr.ownsRow w0.heap.size 2 1 (.slice Ao m co) m (IL l)) ∧ Hid (rowF xs 40 a0 = l ++ rowF xs f x) ∧ Hid (x < n) ∧ Hid (Below w0.heap.size w0 wr))
  case atStart => exact ⟨_, 0, 0, a0, [], rfl, rfl, rfl, O2, Lib.hid rfl, HFT, B2⟩
  case round =>
    obtain ⟨Ao, m, co, x, l, rfl, rfl, hm, ho, hl, hx, hbw⟩ := hrel
    clear O2
    have d1 := (D0.out _ hbw.out).2
    by_cases hx0 : 0 ≤ x
    · obtain ⟨k, rfl⟩ : ∃ k : Nat, x = k := ⟨x.toNat, by omega⟩
      by_cases hm4 : m < 40
      · have hk : k < n := by have := hx.out; omega
        have g4 : decide ((m : Int) < 40) = true := by simp; omega
        obtain ⟨f, rfl⟩ : ∃ f, gk = f + 1 := ⟨gk - 1, by omega⟩
        have hst : w.heap.size ≤ wr.heap.size := Nat.le_trans B0.out.size hbw.out.size
        go_wp2_with (at_builtin; refine wpList_appI rfl (.tmp 24) (.tmp 26) rfl w0.heap.size _ m l rfl (ho.out.alloc _) wr.heap.size k rfl (by simp) (by omega) (by have := hbw.out.size; simp; omega) ?_)
        intro v5 w5 o5 g5
        obtain ⟨A5, c5, rfl, _, _⟩ := own_shape o5
        have B5 := Lib.hid (((hbw.out.alloc hbw.out.size _).grown g5 (by have := hbw.out.size; simp; omega) (fun q hq => (ho.out.lt q hq).1)) : Below w0.heap.size w0 w5)
        have O5 := Lib.hid o5
        clear o5 g5 d1
        have d1 := (D0.out _ B5.out).2
        obtain ⟨b, off, rfl, hb, hc⟩ := HH.out.nd (by omega)
        obtain ⟨_, _, _, _, _, _, c3, _, _, _⟩ := (hc k hk).keep (w' := w5) hb (fun p hp => B5.out.cell hp)
        change w5.cell? _ = some (.int .i64 (riAt xs k)) at c3
        have hrk := HR.out.ri k hk
        have HRK := Lib.hid hrk
        have HLL : Hid (rowF xs 40 a0 = (l ++ [(k : Int)]) ++ rowF xs f (riAt xs k)) := Lib.hid (by rw [hl.out, rowF_go]; simp)
        generalize riAt xs k = z at *
        clear hc hrk
        go_wp2
        go_roundg f
        case measure => omega
        case rel => exact ⟨A5, m + 1, c5, z, l ++ [(k : Int)], rfl, rfl, by omega, O5, HLL, HRK, B5⟩
      · have g4 : decide ((m : Int) < 40) = false := by simp; omega
        obtain rfl : gk = 0 := by omega
        go_wp2
        go_ret
        have e : rowF xs 40 a0 = l := by rw [hl.out]; simp [rowF]
        have e2 : l.length = m := by have := ho.out.1; unfold IL at this; simpa using this
        refine ⟨_, rfl, ?_, B0.out.trans (hbw.out.mono B0.out.size)⟩
        rw [e, e2]
        exact own_base ho.out B0.out.size
    · have g3 : decide ((0 : Int) ≤ x) = false := by simpa using hx0
      go_wp2
      go_ret
      have e : rowF xs 40 a0 = l := by rw [hl.out, rowF_end _ _ _ (by omega)]; simp
      have e2 : l.length = m := by have := ho.out.1; unfold IL at this; simpa using this
      refine ⟨_, rfl, ?_, B0.out.trans (hbw.out.mono B0.out.size)⟩
      rw [e, e2]
      exact own_base ho.out B0.out.size

def rowOfT (r : Int) (xs : List Nd) (lev : Int) : List Int := if treeOk r xs then rowT r xs lev else []
theorem rowF_len (xs : List Nd) : ∀ (f : Nat) (a : Int), (rowF xs f a).length ≤ f := by
  intro f
  induction f with
  | zero => intro a; simp [rowF]
  | succ f ih =>
    intro a
    simp only [rowF]
    split
    · have := ih (riAt xs a.toNat)
      simp; omega
    · simp
end Go.Proofs.YtlmhcifnikdliaaDoor
namespace Go.Proofs.YtlmhcifnikdliaaDoor
open Go.RowKit


def lowAt (xs : List Nd) (row : List Int) (i : Nat) : Int := if i = 0 then 0 else (ndAt xs (iAt row (i - 1)).toNat).hi
def twiceB (row : List Int) : Bool := (List.range row.length).any fun i => (List.range i).any fun k => iAt row i == iAt row k
def placeB (xs : List Nd) (row : List Int) (lev : Int) (i : Nat) : Bool :=
  let n := ndAt xs (iAt row i).toNat
  decide (n.lv = lev) && (!(!decide (n.hi = -1) && decide (n.hi ≤ lowAt xs row i)) && (!(decide (0 < n.ps.length) && decide (kAt n.ps 0 < lowAt xs row i)) && !(decide (0 < lev) && !decide (kAt n.ps 0 = lowAt xs row i))))
def rowB (xs : List Nd) (row : List Int) (lev : Int) : Bool :=
  decide (0 < row.length) && (!twiceB row && (decide ((ndAt xs (iAt row (row.length - 1)).toNat).ri = -1) && (List.range row.length).all (placeB xs row lev)))
def leadsB (xs : List Nd) (below : List Int) (p : Pr) : Bool := (List.range below.length).any fun j => iAt below j == p.2 && lowAt xs below j == p.1
def overB (xs : List Nd) (row below : List Int) : Bool := (List.range row.length).all fun i => (ndAt xs (iAt row i).toNat).ps.all (leadsB xs below)
def levelB (r : Int) (xs : List Nd) (lev : Nat) : Bool := rowB xs (rowT r xs lev) lev && (decide (lev = 0) || overB xs (rowT r xs lev) (rowT r xs ((lev : Int) - 1)))
def soundB (r : Int) (xs : List Nd) : Bool := treeOk r xs && (List.range ((lvAt xs r.toNat).toNat + 1)).all (levelB r xs)
def pairsT (r : Int) (xs : List Nd) : List Pr := if soundB r xs then ((rowT r xs 0).map fun a => (ndAt xs a.toNat).ps).flatten else []
def hasPair (xs : List Nd) (above : List Int) (a : Int) : Bool := (List.range above.length).any fun k => (ndAt xs (iAt above k).toNat).ps.any fun p => p.2 == a
def toldRow (xs : List Nd) (row above : List Int) : Bool := (List.range row.length).all fun i => hasPair xs above (iAt row i)
def toldB (r : Int) (xs : List Nd) : Bool := soundB r xs && (List.range (lvAt xs r.toNat).toNat).all fun l => toldRow xs (rowT r xs l) (rowT r xs ((l : Int) + 1))


structure Hd where
  pos : Int
  cc : Int
  ck : Int
  cv : Int
  cur : Int
  want : Int
  key : Int
  kid : Int
  old : Int
  next : Int
  new : Int
  st : List Int
  thn : Int
  beg : Int
  rep : Int
  out : Int

structure StR where
  t : Tr
  h : Hd
  b : Bool

structure Dl where
  task : Int
  cc : Int
  ck : Int
  cv : Int
  beg : Int
  fin : Int
  rep : Int
  out : Int
structure Wd where
  root : Int
  ns : List Nd
  hs : List Hd
  ds : List Dl
  now : Int
end Go.Proofs.YtlmhcifnikdliaaDoor

/- Words for memory that the proofs of this seat share: worlds that only grew, slices that read as lists of cells. -/
import Derived.Below
import Derived.Laws.OwnMore
import Derived.Deep.AppendLies
import Derived.Deep.Draws
import Derived.Deep.QuietTactic
import Derived.BigQuiet
import Derived.Lib.Hide
import Derived.WalkKit
import Derived.Test.YtlmhcifnikdliaaDoorRows
import Derived.Test.YtlmhcifnikdliaaDoorA01
namespace Go.Proofs.YtlmhcifnikdliaaDoor
open Go.RowKit

def Later (W : World) : Type := { w : World // Below W.heap.size W w }
instance Later.inhab (W : World) : Nonempty (Later W) := ⟨⟨W, Below.refl _ _⟩⟩
def Later.wd {W : World} (s : Later W) : World := s.1
theorem Later.below {W : World} (s : Later W) : Below W.heap.size W s.wd := s.2
theorem Later.cell {W : World} (s : Later W) {p : Addr} (h : p.block < W.heap.size) : s.wd.cell? p = W.cell? p := s.2.cell h
theorem Later.frozen {W : World} (s : Later W) {p : Addr} (h : p.block < W.heap.size) : s.wd.frozen? p = W.frozen? p := s.2.frozen h

theorem Later.of_cell {w wr : World} {p : Addr} {v : Value} (hc : w.cell? p = some v) (hb : Below w.heap.size w wr) (hp : p.block < w.heap.size) : ∀ s : Later wr, s.wd.cell? p = some v := fun s => by
  rw [s.cell (Nat.lt_of_lt_of_le hp hb.size), hb.cell hp, hc]
theorem Later.below_of {w wr : World} (hb : Below w.heap.size w wr) (s : Later wr) : Below w.heap.size w s.wd := hb.trans (s.2.mono hb.size)

theorem Calls.later {P : Program} {f : FuncId} {args : Array Value} {W : World} {s : Later W} {v : Value}
    (h : Calls P f args s.wd fun e w' => e = .returned v ∧ Below s.wd.heap.size s.wd w') : Calls P f args s.wd fun e w'' => e = .returned v ∧ ∃ s' : Later W, w'' = s'.wd :=
  h.mono fun _ w'' ⟨he, hb⟩ => ⟨he, ⟨w'', s.2.trans (hb.mono s.2.size)⟩, rfl⟩

theorem wp_region_later {P : Program} {id : Nat} {Q : Exit → Act → World → Prop} {a : Act} {W : World} {l : List Oper} (hm : P.follows .mixedOrders = true) (hB : Region.lexB .any l.toArray = true)
    (h : wpQuiet P l.toArray (fun w' => ∃ s : Later W, w' = s.wd) (fun a' => ∀ w', (∃ s : Later W, w' = s.wd) → Q .normal a' w') l a) : (Code.region id l.toArray true).wp P Q a W :=
  wp_region_quiet (C := fun w' => ∃ s : Later W, w' = s.wd) hm hB ⟨⟨_, (Below.refl _ W).drew⟩, rfl⟩ (by simpa using h)

end Go.Proofs.YtlmhcifnikdliaaDoor
namespace Go.Proofs.YtlmhcifnikdliaaDoor
open Go.RowKit

def inB (x lo hi : Int) : Bool := decide (lo ≤ x ∧ x ≤ hi)
def rightB (k v : Int) : Bool := decide (0 ≤ k ∧ k ≤ 99 ∧ 0 ≤ v ∧ v ≤ 999)
theorem ret_bool {a b : Bool} (h : a = b) : Ending.returned (.bool a) = .returned (.bool b) := by rw [h]
theorem ret_int {a b : Int} (h : a = b) : Ending.returned (.int .i64 a) = .returned (.int .i64 b) := by rw [h]

theorem rightB_of {k v : Int} {b : Bool} (h : b = true ↔ (0 ≤ k ∧ k ≤ 99 ∧ 0 ≤ v ∧ v ≤ 999)) : b = rightB k v := by
  rw [Bool.eq_iff_iff, h]; simp [rightB]

theorem in_any (x lo hi : Int) (w : World) :
    Calls Tryd.prog 55 #[.int .i64 x, .int .i64 lo, .int .i64 hi] w fun e w' => e = .returned (.bool (inB x lo hi)) ∧ w = w' := by
  by_cases h1 : lo ≤ x
  · have h1' : decide (lo ≤ x) = true := by simpa using h1
    go_enter Tryd.func55, Tryd.ntmps55
    go_wp2
    go_ret
    exact ⟨ret_bool (by simp [inB, h1]), rfl⟩
  · have h1' : decide (lo ≤ x) = false := by simpa using h1
    go_enter Tryd.func55, Tryd.ntmps55
    go_wp2
    go_ret
    exact ⟨ret_bool (by simp [inB]; omega), rfl⟩

theorem key_any (x : Int) (w : World) :
    Calls Tryd.prog 77 #[.int .i64 x] w fun e w' => e = .returned (.bool (inB x 0 99)) ∧ w = w' := by
  go_enter Tryd.func77, Tryd.ntmps77
  go_wp2_with (go_at_call 55; refine (in_any _ _ _ _).mono ?_; rintro e w' ⟨rfl, rfl⟩)
  go_ret
  exact ⟨rfl, rfl⟩

theorem pair_any (k v : Int) (w : World) :
    Calls Tryd.prog 68 #[.agg #[.int .i64 k, .int .i64 v]] w fun e w' => e = .returned (.bool (rightB k v)) ∧ Below w.heap.size w w' := by
  by_cases h : inB k 0 99 = true
  · have c1 : ∀ w, Calls Tryd.prog 77 #[.int .i64 k] w fun e w' => e = .returned (.bool true) ∧ w = w' := fun w => by
      rw [← h]; exact key_any k w
    go_enter Tryd.func68, Tryd.ntmps68
    go_wp2_with (first | (go_at_call 77; refine (c1 _).mono ?_; rintro e w' ⟨rfl, rfl⟩) | (go_at_call 55; refine (in_any _ _ _ _).mono ?_; rintro e w' ⟨rfl, rfl⟩))
    go_ret
    exact ⟨ret_bool (rightB_of (by simp [inB] at h ⊢; omega)), (Below.refl _ _).alloc (Nat.le_refl _) _⟩
  · have h : inB k 0 99 = false := by simpa using h
    have c1 : ∀ w, Calls Tryd.prog 77 #[.int .i64 k] w fun e w' => e = .returned (.bool false) ∧ w = w' := fun w => by
      rw [← h]; exact key_any k w
    go_enter Tryd.func68, Tryd.ntmps68
    go_wp2_with (go_at_call 77; refine (c1 _).mono ?_; rintro e w' ⟨rfl, rfl⟩)
    go_ret
    exact ⟨ret_bool (rightB_of (by simp [inB] at h ⊢; omega)), (Below.refl _ _).alloc (Nat.le_refl _) _⟩

theorem keyNumber_any (x : Int) (w : World) :
    Calls Tryd.prog 86 #[.int .i64 x] w fun e w' => e = .returned (.bool (inB x 0 99)) ∧ w = w' := by
  by_cases h1 : 0 ≤ x
  · have h1' : decide (0 ≤ x) = true := by simpa using h1
    go_enter Tryd.func86, Tryd.ntmps86
    go_wp2
    go_ret
    exact ⟨ret_bool (by simp [inB, h1]), rfl⟩
  · have h1' : decide (0 ≤ x) = false := by simpa using h1
    go_enter Tryd.func86, Tryd.ntmps86
    go_wp2
    go_ret
    exact ⟨ret_bool (by simp [inB]; omega), rfl⟩

theorem right_any (k v : Int) (w : World) :
    Calls Tryd.prog 83 #[.agg #[.int .i64 k, .int .i64 v]] w fun e w' => e = .returned (.bool (rightB k v)) ∧ Below w.heap.size w w' := by
  by_cases h : inB k 0 99 = true
  · have c1 : ∀ w, Calls Tryd.prog 86 #[.int .i64 k] w fun e w' => e = .returned (.bool true) ∧ w = w' := fun w => by
      rw [← h]; exact keyNumber_any k w
    by_cases h3 : 0 ≤ v
    · have g3 : decide (0 ≤ v) = true := by simpa using h3
      go_enter Tryd.func83, Tryd.ntmps83
      go_wp2_with (go_at_call 86; refine (c1 _).mono ?_; rintro e w' ⟨rfl, rfl⟩)
      go_ret
      exact ⟨ret_bool (rightB_of (by simp [inB] at h ⊢; omega)), (Below.refl _ _).alloc (Nat.le_refl _) _⟩
    · have g3 : decide (0 ≤ v) = false := by simpa using h3
      go_enter Tryd.func83, Tryd.ntmps83
      go_wp2_with (go_at_call 86; refine (c1 _).mono ?_; rintro e w' ⟨rfl, rfl⟩)
      go_ret
      exact ⟨ret_bool (rightB_of (by simp [inB] at h ⊢; omega)), (Below.refl _ _).alloc (Nat.le_refl _) _⟩
  · have h : inB k 0 99 = false := by simpa using h
    have c1 : ∀ w, Calls Tryd.prog 86 #[.int .i64 k] w fun e w' => e = .returned (.bool false) ∧ w = w' := fun w => by
      rw [← h]; exact keyNumber_any k w
    go_enter Tryd.func83, Tryd.ntmps83
    go_wp2_with (go_at_call 86; refine (c1 _).mono ?_; rintro e w' ⟨rfl, rfl⟩)
    go_ret
    exact ⟨ret_bool (rightB_of (by simp [inB] at h ⊢; omega)), (Below.refl _ _).alloc (Nat.le_refl _) _⟩

theorem rkey_any (k v : Int) (w : World) :
    Calls Tryd.prog 104 #[.agg #[.int .i64 k, .int .i64 v]] w fun e w' => e = .returned (.int .i64 k) ∧ Below w.heap.size w w' := by
  go_enter Tryd.func104, Tryd.ntmps104
  go_wp2
  go_ret
  exact ⟨rfl, (Below.refl _ _).alloc (Nat.le_refl _) _⟩

theorem toPair_any (k v : Int) (w : World) :
    Calls Tryd.prog 69 #[.agg #[.int .i64 k, .int .i64 v]] w fun e w' => e = .returned (.agg #[.int .i64 k, .int .i64 v]) ∧ Below w.heap.size w w' := by
  go_enter Tryd.func69, Tryd.ntmps69
  go_wp2
  exact bodyPost_ret (v := .agg #[.int .i64 k, .int .i64 v]) (by simp [results, Tryd.results69, go_sem]) rfl ⟨rfl, (((Below.refl _ _).alloc (Nat.le_refl _) _).alloc (by simp) _).alloc (by simp; omega) _⟩

theorem eqPair_yes (k v : Int) (w : World) :
    Calls Tryd.prog 29 #[.agg #[.int .i64 k, .int .i64 v], .agg #[.int .i64 k, .int .i64 v]] w fun e w' => e = .returned (.bool true) ∧ Below w.heap.size w w' := by
  go_enter Tryd.func29, Tryd.ntmps29
  go_wp2
  go_ret
  exact ⟨rfl, ((Below.refl _ _).alloc (Nat.le_refl _) _).alloc (by simp) _⟩

end Go.Proofs.YtlmhcifnikdliaaDoor
namespace Go.Proofs.YtlmhcifnikdliaaDoor
open Go.RowKit


def atKey (zs : List Pr) (key : Int) : Nat := zs.findIdx (fun p => p.1 == key)
end Go.Proofs.YtlmhcifnikdliaaDoor
namespace Go.Proofs.YtlmhcifnikdliaaDoor
open Go.RowKit

def okTo (zs : List Pr) (k : Nat) : Prop := ∀ j, j < k → rightB (kAt zs j) (vAt zs j) = true ∧ (0 < j → kAt zs (j - 1) < kAt zs j)
def pOk (zs : List Pr) : Bool := decide (zs.length ≤ 40) && (List.range zs.length).all fun j => rightB (kAt zs j) (vAt zs j) && (j == 0 || decide (kAt zs (j - 1) < kAt zs j))
theorem pOk_iff (zs : List Pr) : pOk zs = true ↔ (okTo zs zs.length ∧ zs.length ≤ 40) := by
  unfold pOk okTo
  simp only [Bool.and_eq_true, decide_eq_true_eq, List.all_eq_true, List.mem_range, Bool.or_eq_true, beq_iff_eq]
  constructor
  · rintro ⟨h1, h2⟩
    exact ⟨fun j hj => ⟨(h2 j hj).1, fun h0 => by rcases (h2 j hj).2 with h | h; omega; exact h⟩, h1⟩
  · rintro ⟨h1, h2⟩
    exact ⟨h2, fun j hj => ⟨(h1 j hj).1, by rcases Nat.eq_zero_or_pos j with h | h; exact .inl h; exact .inr ((h1 j hj).2 h)⟩⟩
theorem pOk_false (zs : List Pr) (h : ¬ (okTo zs zs.length ∧ zs.length ≤ 40)) : pOk zs = false := by
  cases e : pOk zs with
  | false => rfl
  | true => exact absurd ((pOk_iff zs).1 e) h

theorem okTo_snoc {zs : List Pr} {k : Nat} (h : okTo zs k) (hr : rightB (kAt zs k) (vAt zs k) = true) (hl : 0 < k → kAt zs (k - 1) < kAt zs k) : okTo zs (k + 1) := by
  intro j hj
  rcases Nat.lt_or_ge j k with h' | h'
  · exact h j h'
  · obtain rfl : j = k := by omega
    exact ⟨hr, hl⟩

theorem spOk_any (A : Option Addr) (n c : Nat) (zs : List Pr) (w : World) (h : RP w w.heap.size A n zs) (hn : n ≤ 1048576) :
    Calls Tryd.prog 56 #[.slice A n c] w fun e w' => e = .returned (.bool (pOk zs)) ∧ Below w.heap.size w w' := by
  have hl := h.1
  have HL := Lib.hid hl
  clear hl
  have HH := Lib.hid h
  clear h
  go_enter Tryd.func56, Tryd.ntmps56
  go_wp2
  go_loopw [3] (fun i wr => ∃ k : Nat, i = .int .i64 k ∧ k ≤ n ∧ Hid (okTo zs k) ∧ Hid (Below w.heap.size w wr)) (fun i _ => n - (intOf i).toNat)
  case atStart => exact ⟨0, rfl, by omega, Lib.hid (by intro j hj; omega), Lib.hid (Below.refl _ _)⟩
  case round =>
    obtain ⟨k, rfl, hk, ho, hbw⟩ := hrel
    by_cases hlt : k < n
    · obtain ⟨b, off, rfl, hb, hc⟩ := HH.out.2 (by omega)
      have c1 := hc k hlt
      have c2 := Later.of_cell c1.1 hbw.out hb
      have c3 := Later.of_cell c1.2 hbw.out hb
      clear c1
      by_cases hr : rightB (kAt zs k) (vAt zs k) = true
      · have p1 : ∀ w, Calls Tryd.prog 68 #[.agg #[.int .i64 (kAt zs k), .int .i64 (vAt zs k)]] w fun e w' => e = .returned (.bool true) ∧ Below w.heap.size w w' := fun w => by
          rw [← hr]; exact pair_any _ _ w
        by_cases hk0 : 0 < k
        · have g0 : decide (0 < k) = true := by simpa using hk0
          have c4 := Later.of_cell (hc (k - 1) (by omega)).1 hbw.out hb
          clear hc
          by_cases hle : kAt zs k ≤ kAt zs (k - 1)
          · have g1 : decide (kAt zs k ≤ kAt zs (k - 1)) = true := by simpa using hle
            go_wp2
            refine wp_region_later (by kernel_rfl) (by kernel_rfl) ?_
            repeat (go_big_quiet_step ((go_at_call 68; exact Calls.later (p1 _))))
            refine wpQuiet_nil ?_
            intro _ hw'
            obtain ⟨s, rfl⟩ := hw'
            go_wp2
            go_ret
            exact ⟨ret_bool (pOk_false zs (fun h => by have := (h.1 k (by have := HL.out; omega)).2 hk0; omega)).symm, s.below_of hbw.out⟩
          · have g1 : decide (kAt zs k ≤ kAt zs (k - 1)) = false := by simpa using hle
            go_wp2
            refine wp_region_later (by kernel_rfl) (by kernel_rfl) ?_
            repeat (go_big_quiet_step ((go_at_call 68; exact Calls.later (p1 _))))
            refine wpQuiet_nil ?_
            intro _ hw'
            obtain ⟨s, rfl⟩ := hw'
            go_wp2
            go_roundw
            case rel => exact ⟨k + 1, by go_num, by omega, Lib.hid (okTo_snoc ho.out hr (fun _ => by omega)), Lib.hid (s.below_of hbw.out)⟩
            case measure => simp [intOf]; omega
        · have g0 : decide (0 < k) = false := by simpa using hk0
          clear hc
          go_wp2
          refine wp_region_later (by kernel_rfl) (by kernel_rfl) ?_
          repeat (go_big_quiet_step ((go_at_call 68; exact Calls.later (p1 _))))
          refine wpQuiet_nil ?_
          intro _ hw'
          obtain ⟨s, rfl⟩ := hw'
          go_wp2
          go_roundw
          case rel => exact ⟨k + 1, by go_num, by omega, Lib.hid (okTo_snoc ho.out hr (fun h => absurd h hk0)), Lib.hid (s.below_of hbw.out)⟩
          case measure => simp [intOf]; omega
      · have hr : rightB (kAt zs k) (vAt zs k) = false := by simpa using hr
        have p1 : ∀ w, Calls Tryd.prog 68 #[.agg #[.int .i64 (kAt zs k), .int .i64 (vAt zs k)]] w fun e w' => e = .returned (.bool false) ∧ Below w.heap.size w w' := fun w => by
          rw [← hr]; exact pair_any _ _ w
        clear hc
        go_wp2
        refine wp_region_later (by kernel_rfl) (by kernel_rfl) ?_
        repeat (go_big_quiet_step ((go_at_call 68; exact Calls.later (p1 _))))
        refine wpQuiet_nil ?_
        intro _ hw'
        obtain ⟨s, rfl⟩ := hw'
        go_wp2
        go_ret
        exact ⟨ret_bool (pOk_false zs (fun h => by have := (h.1 k (by have := HL.out; omega)).1; rw [hr] at this; cases this)).symm, s.below_of hbw.out⟩
    · go_wp2
      go_ret
      have hz : zs.length = n := HL.out
      have hk' : k = zs.length := by omega
      refine ⟨ret_bool ?_, hbw.out⟩
      rw [Bool.eq_iff_iff, pOk_iff]
      simp only [decide_eq_true_eq]
      exact ⟨fun h => ⟨by rw [← hk']; exact ho.out, by omega⟩, fun h => by omega⟩
end Go.Proofs.YtlmhcifnikdliaaDoor

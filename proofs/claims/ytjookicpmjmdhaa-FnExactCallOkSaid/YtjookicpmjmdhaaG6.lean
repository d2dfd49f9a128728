/- Hands as a kind of the laws' values: the same contracts as of trees and nodes. -/
import Derived.Test.YtjookicpmjmdhaaV5
namespace Go.Proofs.Ytjookicpmjmdhaa
open Go.RowKit

theorem szH1 (pos cc ck cv cur want key kid old next new thn beg rep out : Int) (xs : List Int) (A : Option Addr) (n c L : Nat) (hL : L ≤ 1048576) (hm : n ≤ 9223372036854775807) (w : World) (h : RS w w.heap.size A n xs) :
    Calls Try.prog 27 #[.agg #[.int .i64 pos, .int .i64 cc, .int .i64 ck, .int .i64 cv, .int .i64 cur, .int .i64 want, .int .i64 key, .int .i64 kid, .int .i64 old, .int .i64 next, .int .i64 new, .slice A n c, .int .i64 thn, .int .i64 beg, .int .i64 rep, .int .i64 out], .int .i64 L] w fun e w' => e = .returned (.int .i64 (leftI L xs.length)) ∧ Below w.heap.size w w' := by
  rw [h.1]
  exact szH_any ⟨pos, cc, ck, cv, cur, want, key, kid, old, next, new, xs, thn, beg, rep, out⟩ A n c L w hL hm
theorem toH1 (pos cc ck cv cur want key kid old next new thn beg rep out : Int) (xs : List Int) (A : Option Addr) (n c : Nat) (w : World) (h : RS w w.heap.size A n xs) (hs : Small.sm xs) :
    Calls Try.prog 28 #[.agg #[.int .i64 pos, .int .i64 cc, .int .i64 ck, .int .i64 cv, .int .i64 cur, .int .i64 want, .int .i64 key, .int .i64 kid, .int .i64 old, .int .i64 next, .int .i64 new, .slice A n c, .int .i64 thn, .int .i64 beg, .int .i64 rep, .int .i64 out]] w fun e w' => ∃ A' c' F, e = .returned (.agg #[.int .i64 pos, .int .i64 cc, .int .i64 ck, .int .i64 cv, .int .i64 cur, .int .i64 want, .int .i64 key, .int .i64 kid, .int .i64 old, .int .i64 next, .int .i64 new, .slice A' n c', .int .i64 thn, .int .i64 beg, .int .i64 rep, .int .i64 out]) ∧ OwnS w' (.slice A' n c') xs F ∧ Fresh F w w' ∧ Below w.heap.size w w' := by
  have hl := h.1
  refine (toH_any ⟨pos, cc, ck, cv, cur, want, key, kid, old, next, new, xs, thn, beg, rep, out⟩ A n c w h (by rw [← hl]; exact hs)).mono ?_
  rintro e w' ⟨A', c', F, rfl, ho, hf, hb⟩
  simp only [hl] at ho ⊢
  exact ⟨A', c', F, rfl, ho, hf, hb⟩
theorem eqH1 (pos cc ck cv cur want key kid old next new thn beg rep out : Int) (xs : List Int) (A B : Option Addr) (n c d : Nat) (w : World) (h : RS w w.heap.size A n xs) (h' : RS w w.heap.size B n xs) (hs : Small.sm xs) :
    Calls Try.prog 29 #[.agg #[.int .i64 pos, .int .i64 cc, .int .i64 ck, .int .i64 cv, .int .i64 cur, .int .i64 want, .int .i64 key, .int .i64 kid, .int .i64 old, .int .i64 next, .int .i64 new, .slice A n c, .int .i64 thn, .int .i64 beg, .int .i64 rep, .int .i64 out], .agg #[.int .i64 pos, .int .i64 cc, .int .i64 ck, .int .i64 cv, .int .i64 cur, .int .i64 want, .int .i64 key, .int .i64 kid, .int .i64 old, .int .i64 next, .int .i64 new, .slice B n d, .int .i64 thn, .int .i64 beg, .int .i64 rep, .int .i64 out]] w fun e w' => e = .returned (.bool true) ∧ Below w.heap.size w w' :=
  eqH_yes ⟨pos, cc, ck, cv, cur, want, key, kid, old, next, new, xs, thn, beg, rep, out⟩ A B n c d w h h' (by rw [← h.1]; exact hs)
theorem mkH1 (pos cc ck cv cur want key kid old next new thn beg rep out : Int) (xs : List Int) (A : Option Addr) (n c k : Nat) (F : FP) (w : World) (h : OwnS w (.slice A n c) xs F) (hl : xs.length = n) (hs : Small.sm xs) (hk : k ≤ 562949953421312) :
    Calls Try.prog 30 #[.agg #[.int .i64 pos, .int .i64 cc, .int .i64 ck, .int .i64 cv, .int .i64 cur, .int .i64 want, .int .i64 key, .int .i64 kid, .int .i64 old, .int .i64 next, .int .i64 new, .slice A n c, .int .i64 thn, .int .i64 beg, .int .i64 rep, .int .i64 out], .int .i64 k] w fun e w' => e = .returned (.int .i64 ((k + cntS xs : Nat) : Int)) ∧ OwnS w' (.slice A n c) (mkS k xs) F ∧ Only F w w' :=
  mkH_any ⟨pos, cc, ck, cv, cur, want, key, kid, old, next, new, xs, thn, beg, rep, out⟩ A n c k F w h (by rw [← hl]; exact hs) (by omega)
theorem hdH1 (pos cc ck cv cur want key kid old next new thn beg rep out : Int) (xs : List Int) (A : Option Addr) (n c k : Nat) (w : World) (h : RS w w.heap.size A n (mkS k xs)) (hs : Small.sm xs) (hk : k ≤ 562949953421312) :
    Calls Try.prog 31 #[.agg #[.int .i64 pos, .int .i64 cc, .int .i64 ck, .int .i64 cv, .int .i64 cur, .int .i64 want, .int .i64 key, .int .i64 kid, .int .i64 old, .int .i64 next, .int .i64 new, .slice A n c, .int .i64 thn, .int .i64 beg, .int .i64 rep, .int .i64 out], .int .i64 k] w fun e w' => e = .returned (.int .i64 ((k + cntS xs : Nat) : Int)) ∧ Below w.heap.size w w' := by
  have hl := h.1
  rw [mkS_length] at hl
  exact hdH_any ⟨pos, cc, ck, cv, cur, want, key, kid, old, next, new, xs, thn, beg, rep, out⟩ A n c k w xs h (by rw [← hl]; exact hs) (by omega)
theorem lhand_size : (Try.prog.info? 49).map (·.size) = some 16 := by kernel_rfl
theorem hC_one (pos cc ck cv cur want key kid old next new thn beg rep out : Int) (A : Option Addr) (n c : Nat) : Array.all #[Value.int .i64 pos, Value.int .i64 cc, Value.int .i64 ck, Value.int .i64 cv, Value.int .i64 cur, Value.int .i64 want, Value.int .i64 key, Value.int .i64 kid, Value.int .i64 old, Value.int .i64 next, Value.int .i64 new, .slice A n c, Value.int .i64 thn, Value.int .i64 beg, Value.int .i64 rep, Value.int .i64 out] (·.oneCell') = true := hdC_one ⟨pos, cc, ck, cv, cur, want, key, kid, old, next, new, [], thn, beg, rep, out⟩ A n c
end Go.Proofs.Ytjookicpmjmdhaa

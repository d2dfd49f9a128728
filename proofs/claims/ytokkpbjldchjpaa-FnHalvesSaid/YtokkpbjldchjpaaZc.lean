/- The cursor's numbers behind the last byte: whatever they start from, a key that is none of three comes up at last. No program in sight. -/
import Derived.Below
import Derived.Laws.Entries
import Derived.Laws.BitsLemmas
import Derived.Test.YtokkpbjldchjpaaD9
namespace Go.Proofs.Ytokkpbjldchjpaa
open Go.RowKit

/-- The cursor's next number. -/
def stepH (h : Int) : Int := wrap64 (wrap64 (h * 6364136223846793005) + 1442695040888963407)
/-- The byte that it makes. -/
def byteH (h : Int) : Int := bits .and .i64 (bits .xor .i64 (h / 8589934592) (h / 35184372088832)) 255
def iterH : Nat → Int → Int
  | 0, h => h
  | k + 1, h => iterH k (stepH h)
/-- The key that is drawn where the cursor's number is h. -/
def keyH (h : Int) : Int := byteH (stepH h) % 20

theorem wrap64_mod (x : Int) : (wrap64 x) % 18446744073709551616 = x % 18446744073709551616 := by
  unfold wrap64
  omega
theorem stepH_mod (h : Int) : (stepH h - (6364136223846793005 * h + 1442695040888963407)) % 18446744073709551616 = 0 := by
  unfold stepH
  have h1 := wrap64_mod (wrap64 (h * 6364136223846793005) + 1442695040888963407)
  have h2 := wrap64_mod (h * 6364136223846793005)
  omega
theorem iterH_add (a b : Nat) (h : Int) : iterH (a + b) h = iterH b (iterH a h) := by
  induction a generalizing h with
  | zero => simp [iterH]
  | succ a ih => rw [Nat.succ_add]; exact ih (stepH h)
theorem iterH_step (a : Nat) (h : Int) : iterH a (stepH h) = stepH (iterH a h) := by
  have h1 := iterH_add 1 a h
  have h2 := iterH_add a 1 h
  rw [Nat.add_comm] at h1
  rw [h1] at h2
  exact h2
/-- 2^j steps at once. -/
def acH : Nat → Nat × Nat
  | 0 => (6364136223846793005, 1442695040888963407)
  | j + 1 => ((acH j).1 * (acH j).1 % 18446744073709551616, ((acH j).1 * (acH j).2 + (acH j).2) % 18446744073709551616)
theorem acH_is (j : Nat) (h : Int) : (iterH (2 ^ j) h - ((acH j).1 * h + (acH j).2)) % 18446744073709551616 = 0 := by
  induction j generalizing h with
  | zero =>
    show (stepH h - _) % _ = 0
    exact stepH_mod h
  | succ j ih =>
    have e : 2 ^ (j + 1) = 2 ^ j + 2 ^ j := by omega
    rw [e, iterH_add]
    have h1 := ih h
    have h2 := ih (iterH (2 ^ j) h)
    simp only [acH]
    generalize iterH (2 ^ j) h = x at *
    generalize iterH (2 ^ j) x = y at *
    generalize (acH j).1 = A at *
    generalize (acH j).2 = C at *
    obtain ⟨q1, hq1⟩ : ∃ q, x = A * h + C + 18446744073709551616 * q := ⟨(x - (A * h + C)) / 18446744073709551616, by omega⟩
    obtain ⟨q2, hq2⟩ : ∃ q, y = A * x + C + 18446744073709551616 * q := ⟨(y - (A * x + C)) / 18446744073709551616, by omega⟩
    have e1 : ((A * A % 18446744073709551616 : Nat) : Int) = (A : Int) * A - 18446744073709551616 * ((A : Int) * A / 18446744073709551616) := by
      rw [Int.natCast_emod, Int.natCast_mul]
      have := Int.emod_add_mul_ediv ((A : Int) * A) 18446744073709551616
      omega
    have e2 : (((A * C + C) % 18446744073709551616 : Nat) : Int) = (A : Int) * C + C - 18446744073709551616 * (((A : Int) * C + C) / 18446744073709551616) := by
      rw [Int.natCast_emod, Int.natCast_add, Int.natCast_mul]
      have := Int.emod_add_mul_ediv ((A : Int) * C + C) 18446744073709551616
      omega
    rw [e1, e2]
    generalize (A : Int) * A / 18446744073709551616 = d1
    generalize ((A : Int) * C + C) / 18446744073709551616 = d2
    have e3 : y - (((A : Int) * A - 18446744073709551616 * d1) * h + ((A : Int) * C + C - 18446744073709551616 * d2)) = 18446744073709551616 * (A * q1 + q2 + d1 * h + d2) := by
      rw [hq2, hq1]
      grind
    rw [e3]
    exact Int.mul_emod_right _ _
set_option maxRecDepth 100000 in
theorem ac51 : (acH 51).1 % 9007199254740992 = 1 ∧ (acH 51).2 % 2251799813685248 = 0 ∧ ((acH 51).2 / 2251799813685248) % 2 = 1 := by decide +kernel
/-- 2^51 steps at once: the low 51 bits stay, bit 51 turns. -/
theorem iter51 : ∃ o : Int, (o = 1 ∨ o = 3) ∧ ∀ h : Int, (iterH 2251799813685248 h) % 9007199254740992 = (h + o * 2251799813685248) % 9007199254740992 := by
  obtain ⟨a1, a2, a3⟩ := ac51
  have hj : ∀ h, (iterH 2251799813685248 h - ((acH 51).1 * h + (acH 51).2)) % 18446744073709551616 = 0 := acH_is 51
  generalize (acH 51).1 = A at *
  generalize (acH 51).2 = C at *
  refine ⟨((C / 2251799813685248) % 4 : Nat), by omega, fun h => ?_⟩
  have h1 := hj h
  generalize iterH 2251799813685248 h = x at *
  obtain ⟨q, hq⟩ : ∃ q : Int, (A : Int) = 1 + 9007199254740992 * q := ⟨(A : Int) / 9007199254740992, by omega⟩
  rw [hq] at h1
  have e : (1 + 9007199254740992 * q) * h = h + 9007199254740992 * (q * h) := by grind
  rw [e] at h1
  generalize q * h = y at *
  omega
def lowH (h : Int) : Nat := (h / 8589934592 % 256).toNat
def topH (h : Int) : Nat := (h / 35184372088832 % 256).toNat
theorem byteH_is (h : Int) : byteH h = ((lowH h ^^^ topH h : Nat) : Int) := by
  unfold byteH bits lowH topH
  have h64 : IntKind.i64.bits = 64 := rfl
  simp only [BitVec.toNat_and, BitVec.toNat_xor, BitVec.toNat_ofInt, h64]
  have e : (((255 : Int) % ((2 ^ 64 : Nat) : Int)).toNat) = 255 := by omega
  have ea : ∀ m : Nat, m &&& 255 = m % 256 := fun m => Nat.and_two_pow_sub_one_eq_mod m 8
  have ex : ∀ a b : Nat, (a ^^^ b) % 256 = (a % 256) ^^^ (b % 256) := fun a b => Nat.xor_mod_two_pow (n := 8)
  have w1 : ∀ x : Nat, (IntKind.i64.wrap (x : Int) % ((2 ^ 64 : Nat) : Int)).toNat % 256 = x % 256 := fun x => by rw [IntKind.wrap_i64]; omega
  have w2 : ∀ m : Nat, m < 256 → IntKind.i64.wrap (m : Int) = m := fun m h => by rw [IntKind.wrap_i64]; omega
  have e1 : (h / 8589934592 % ((2 ^ 64 : Nat) : Int)).toNat % 256 = (h / 8589934592 % 256).toNat := by omega
  have e2 : (h / 35184372088832 % ((2 ^ 64 : Nat) : Int)).toNat % 256 = (h / 35184372088832 % 256).toNat := by omega
  rw [← e1, ← e2, e, ea]
  generalize (h / 8589934592 % ((2 ^ 64 : Nat) : Int)).toNat = p
  generalize (h / 35184372088832 % ((2 ^ 64 : Nat) : Int)).toNat = q
  rw [w1, w2 _ (Nat.mod_lt _ (Nat.zero_lt_succ _)), ex]
theorem xor4 (p q : Nat) (s : Nat) : (p ^^^ ((q + 64 * s) % 256)) = 64 * ((p / 64) ^^^ ((q / 64 + s) % 4)) + ((p % 64) ^^^ (q % 64)) := by
  have h1 : (p ^^^ ((q + 64 * s) % 256)) / 2 ^ 6 = (p / 64) ^^^ ((q / 64 + s) % 4) := by
    rw [Nat.xor_div_two_pow]
    congr 1
    omega
  have h2 : (p ^^^ ((q + 64 * s) % 256)) % 2 ^ 6 = (p % 64) ^^^ (q % 64) := by
    rw [Nat.xor_mod_two_pow]
    congr 1
    omega
  omega
theorem xor_lt4 : ∀ a < 4, ∀ b < 4, (a ^^^ ((b + 0) % 4) < 4 ∧ a ^^^ ((b + 1) % 4) < 4 ∧ a ^^^ ((b + 2) % 4) < 4 ∧ a ^^^ ((b + 3) % 4) < 4) ∧
    (a ^^^ ((b + 0) % 4) ≠ a ^^^ ((b + 1) % 4) ∧ a ^^^ ((b + 0) % 4) ≠ a ^^^ ((b + 2) % 4) ∧ a ^^^ ((b + 0) % 4) ≠ a ^^^ ((b + 3) % 4) ∧ a ^^^ ((b + 1) % 4) ≠ a ^^^ ((b + 2) % 4) ∧ a ^^^ ((b + 1) % 4) ≠ a ^^^ ((b + 3) % 4) ∧ a ^^^ ((b + 2) % 4) ≠ a ^^^ ((b + 3) % 4)) := by decide
/-- Of four numbers whose top two bits of eight go round, the rests by 20 differ. -/
theorem four (p q : Nat) (hp : p < 256) (hq : q < 256) : ∃ b0 b1 b2 b3 : Nat, (∀ s, (p ^^^ ((q + 64 * s) % 256)) % 20 = if s % 4 = 0 then b0 else if s % 4 = 1 then b1 else if s % 4 = 2 then b2 else b3) ∧ b0 ≠ b1 ∧ b0 ≠ b2 ∧ b0 ≠ b3 ∧ b1 ≠ b2 ∧ b1 ≠ b3 ∧ b2 ≠ b3 := by
  have hb : (p % 64) ^^^ (q % 64) < 64 := Nat.xor_lt_two_pow (n := 6) (by omega) (by omega)
  obtain ⟨⟨l0, l1, l2, l3⟩, n01, n02, n03, n12, n13, n23⟩ := xor_lt4 (p / 64) (by omega) (q / 64) (by omega)
  have hm : ∀ s, (q / 64 + s) % 4 = (q / 64 + s % 4) % 4 := fun s => by omega
  refine ⟨(64 * ((p / 64) ^^^ ((q / 64 + 0) % 4)) + ((p % 64) ^^^ (q % 64))) % 20, (64 * ((p / 64) ^^^ ((q / 64 + 1) % 4)) + ((p % 64) ^^^ (q % 64))) % 20, (64 * ((p / 64) ^^^ ((q / 64 + 2) % 4)) + ((p % 64) ^^^ (q % 64))) % 20, (64 * ((p / 64) ^^^ ((q / 64 + 3) % 4)) + ((p % 64) ^^^ (q % 64))) % 20, fun s => ?_, ?_⟩
  · rw [xor4 p q s, hm s]
    have : s % 4 < 4 := Nat.mod_lt _ (by decide)
    generalize s % 4 = r at *
    rcases r with _ | _ | _ | _ | r <;> simp <;> omega
  · generalize (p / 64) ^^^ ((q / 64 + 0) % 4) = e0 at *
    generalize (p / 64) ^^^ ((q / 64 + 1) % 4) = e1 at *
    generalize (p / 64) ^^^ ((q / 64 + 2) % 4) = e2 at *
    generalize (p / 64) ^^^ ((q / 64 + 3) % 4) = e3 at *
    generalize (p % 64) ^^^ (q % 64) = b at *
    omega
theorem iterT (o : Int) (ho : ∀ h : Int, (iterH 2251799813685248 h) % 9007199254740992 = (h + o * 2251799813685248) % 9007199254740992) (t : Nat) (y : Int) : (iterH (t * 2251799813685248) y) % 9007199254740992 = (y + (t * o) * 2251799813685248) % 9007199254740992 := by
  induction t generalizing y with
  | zero => simp [iterH]
  | succ t ih =>
    rw [Nat.succ_mul, iterH_add]
    have h1 := ih y
    have h2 := ho (iterH (t * 2251799813685248) y)
    have e : ((t + 1 : Nat) : Int) * o = t * o + o := by rw [Int.natCast_add, Int.add_mul]; simp
    rw [e]
    generalize iterH (t * 2251799813685248) y = x at *
    generalize (t : Int) * o = u at *
    omega
theorem low_top (o : Int) (ho1 : o = 1 ∨ o = 3) (ho : ∀ h : Int, (iterH 2251799813685248 h) % 9007199254740992 = (h + o * 2251799813685248) % 9007199254740992) (t : Nat) (y : Int) :
    lowH (iterH (t * 2251799813685248) y) = lowH y ∧ topH (iterH (t * 2251799813685248) y) = (topH y + 64 * (t * o.toNat)) % 256 := by
  have h1 := iterT o ho t y
  generalize iterH (t * 2251799813685248) y = x at *
  unfold lowH topH
  rcases ho1 with rfl | rfl
  · rw [show (1 : Int).toNat = 1 from rfl]
    constructor <;> omega
  · rw [show (3 : Int).toNat = 3 from rfl]
    constructor <;> omega
theorem key_new (h : Int) (K : List Int) (hK : K.length ≤ 3) : ∃ m, m ≤ 3377699720527872 ∧ keyH (iterH (2 * m) h) ∉ K := by
  obtain ⟨o, ho1, ho⟩ := iter51
  obtain ⟨b0, b1, b2, b3, hb, n01, n02, n03, n12, n13, n23⟩ := four (lowH (stepH h)) (topH (stepH h)) (by unfold lowH; omega) (by unfold topH; omega)
  have hk : ∀ t : Nat, keyH (iterH (2 * (t * 1125899906842624)) h) = ((if (t * o.toNat) % 4 = 0 then b0 else if (t * o.toNat) % 4 = 1 then b1 else if (t * o.toNat) % 4 = 2 then b2 else b3 : Nat) : Int) := fun t => by
    rw [← hb]
    unfold keyH
    rw [← iterH_step, byteH_is]
    obtain ⟨l1, l2⟩ := low_top o ho1 ho t (stepH h)
    rw [show 2 * (t * 1125899906842624) = t * 2251799813685248 by omega, l1, l2]
    rfl
  have hall : ∀ b : Nat, b = b0 ∨ b = b1 ∨ b = b2 ∨ b = b3 → ∃ m, m ≤ 3377699720527872 ∧ keyH (iterH (2 * m) h) = (b : Int) := by
    rcases ho1 with rfl | rfl
    · rintro b (rfl | rfl | rfl | rfl)
      · exact ⟨0 * 1125899906842624, by rw [Nat.zero_mul]; exact Nat.zero_le _, by have h0 := hk 0; rw [if_pos (by simp)] at h0; exact h0⟩
      · exact ⟨1 * 1125899906842624, by omega, (hk 1).trans rfl⟩
      · exact ⟨2 * 1125899906842624, by omega, (hk 2).trans rfl⟩
      · exact ⟨3 * 1125899906842624, by omega, (hk 3).trans rfl⟩
    · rintro b (rfl | rfl | rfl | rfl)
      · exact ⟨0 * 1125899906842624, by rw [Nat.zero_mul]; exact Nat.zero_le _, by have h0 := hk 0; rw [if_pos (by simp)] at h0; exact h0⟩
      · exact ⟨3 * 1125899906842624, by omega, (hk 3).trans rfl⟩
      · exact ⟨2 * 1125899906842624, by omega, (hk 2).trans rfl⟩
      · exact ⟨1 * 1125899906842624, by omega, (hk 1).trans rfl⟩
  have hgo : ∀ b : Nat, (b = b0 ∨ b = b1 ∨ b = b2 ∨ b = b3) → (b : Int) ∉ K → ∃ m, m ≤ 3377699720527872 ∧ keyH (iterH (2 * m) h) ∉ K := fun b hb hn => by
    obtain ⟨m, h1, h2⟩ := hall b hb
    exact ⟨m, h1, by rw [h2]; exact hn⟩
  by_cases c0 : (b0 : Int) ∈ K
  · by_cases c1 : (b1 : Int) ∈ K
    · by_cases c2 : (b2 : Int) ∈ K
      · by_cases c3 : (b3 : Int) ∈ K
        · exfalso
          clear hk hall hgo hb
          rcases K with _ | ⟨x, _ | ⟨y, _ | ⟨z, _ | ⟨u, K⟩⟩⟩⟩
          · simp at c0
          · simp at c0 c1; omega
          · simp at c0 c1 c2; omega
          · simp at c0 c1 c2 c3; omega
          · simp at hK
        · exact hgo b3 (.inr (.inr (.inr rfl))) c3
      · exact hgo b2 (.inr (.inr (.inl rfl))) c2
    · exact hgo b1 (.inr (.inl rfl)) c1
  · exact hgo b0 (.inl rfl) c0

/-- How long the loop may still go on: the keys K are there (all of them other ones, L of them), i of n bytes are drawn, h is the cursor's number. -/
def Bound (n L i : Nat) (h : Int) (K : List Int) (m : Nat) : Prop :=
  ∃ d, d ≤ 3377699720527872 ∧ m = (4 - L) * 36893488147419103232 + (n - i) * 4503599627370496 + d ∧ (i = n → L < 4 → ∃ e, e ≤ d ∧ keyH (iterH (2 * e) h) ∉ K)
theorem Bound.start (n L i : Nat) (h : Int) (K : List Int) (hK : L < 4 → K.length ≤ 3) : ∃ m, Bound n L i h K m := by
  by_cases hL : L < 4
  · obtain ⟨e, h1, h2⟩ := key_new h K (hK hL)
    exact ⟨_, e, h1, rfl, fun _ _ => ⟨e, Nat.le_refl _, h2⟩⟩
  · exact ⟨_, 0, by omega, rfl, fun _ h => absurd h hL⟩
/-- One more key: less to go. -/
theorem Bound.more {n L i i' m : Nat} {h h' : Int} {K K' : List Int} (hb : Bound n L i h K m) (hn : n ≤ 4096) (hL : L < 4) (hK : K'.length ≤ 3 ∨ 4 ≤ L + 1) : ∃ m', m' < m ∧ Bound n (L + 1) i' h' K' m' := by
  obtain ⟨d, hd, rfl, _⟩ := hb
  obtain ⟨m', hm'⟩ := Bound.start n (L + 1) i' h' K' (fun h => by omega)
  refine ⟨m', ?_, hm'⟩
  obtain ⟨d', hd', rfl, _⟩ := hm'
  omega
/-- The same keys: a byte was drawn, or a number that is nearer to a new one. -/
theorem Bound.same {n L i i' m : Nat} {h r : Int} {K : List Int} (hb : Bound n L i h K m) (hL : L < 4) (hK : K.length ≤ 3) (hi : i ≤ n) (hi' : i' ≤ n) (hlt : i < n → i < i') (heq : i = n → i' = n) (hr : i = n → r = keyH h) (hin : r ∈ K) : ∃ m', m' < m ∧ Bound n L i' (stepH (stepH h)) K m' := by
  obtain ⟨d, hd, rfl, hw⟩ := hb
  by_cases h0 : i < n
  · obtain ⟨m', hm'⟩ := Bound.start n L i' (stepH (stepH h)) K (fun _ => hK)
    refine ⟨m', ?_, hm'⟩
    obtain ⟨d', hd', rfl, _⟩ := hm'
    have := hlt h0
    omega
  · have hin' : i = n := by omega
    subst hin'
    obtain ⟨e, he, hk⟩ := hw rfl hL
    have hz : e ≠ 0 := by
      rintro rfl
      rw [hr rfl] at hin
      exact hk hin
    obtain ⟨f, rfl⟩ : ∃ f, e = f + 1 := ⟨e - 1, by omega⟩
    have hi2 := heq rfl
    subst hi2
    refine ⟨(4 - L) * 36893488147419103232 + (i' - i') * 4503599627370496 + (d - 1), by omega, d - 1, by omega, rfl, fun _ _ => ⟨f, by omega, ?_⟩⟩
    have e2 : 2 * (f + 1) = 2 + 2 * f := by omega
    rw [e2, iterH_add] at hk
    exact hk
/-- The least number of which p holds. -/
theorem least (p : Nat → Prop) (h : ∃ m, p m) : ∃ m, p m ∧ ∀ k, p k → m ≤ k := by
  obtain ⟨m, hm⟩ := h
  induction m using Nat.strongRecOn with
  | ind m ih =>
    by_cases hq : ∃ k, k < m ∧ p k
    · obtain ⟨k, hk, hp⟩ := hq
      exact ih k hk hp
    · exact ⟨m, hm, fun k hp => by
        rcases Nat.lt_or_ge k m with h1 | h1
        · exact absurd ⟨k, h1, hp⟩ hq
        · exact h1⟩
open Classical in
noncomputable def leastM (p : Nat → Prop) : Nat := if h : ∃ m, p m then Classical.choose (least p h) else 0
theorem leastM_is {p : Nat → Prop} (h : ∃ m, p m) : p (leastM p) := by
  unfold leastM
  rw [dif_pos h]
  exact (Classical.choose_spec (least p h)).1
theorem leastM_le {p : Nat → Prop} {m : Nat} (h : p m) : leastM p ≤ m := by
  unfold leastM
  rw [dif_pos ⟨m, h⟩]
  exact (Classical.choose_spec (least p ⟨m, h⟩)).2 m h
end Go.Proofs.Ytokkpbjldchjpaa

namespace Go.Proofs.Ytokkpbjldchjpaa
open Go.RowKit

/-- The cursor's block, exactly. -/
def curC (A : Option Addr) (n c i : Nat) (h : Int) : Array Value := #[.slice A n c, .int .i64 i, .int .i64 h]
/-- What a draw leaves: i' bytes are drawn, the number is the next one. -/
def DrawnX (g : Nat) (A : Option Addr) (n c i : Nat) (h : Int) (f : Int → Int) (w : World) (e : Ending) (w' : World) : Prop :=
  ∃ (r : Int) (i' : Nat), e = .returned (.int .i64 r) ∧ 0 ≤ r ∧ r ≤ 255 ∧ i' ≤ n ∧ (i < n → i < i') ∧ (i = n → i' = n ∧ r = f (byteH (stepH h))) ∧ w'.heap[g]? = some (.cells (curC A n c i' (stepH h)) 72 (0, 0)) ∧ w.grownBy w' (some g)

theorem byteX_any (g : Nat) (A : Option Addr) (n c i : Nat) (h : Int) (w : World) (hg : w.heap[g]? = some (.cells (curC A n c i h) 72 (0, 0))) (hi : i ≤ n) (hn : n ≤ 4096) (hb : Bys w g A n) :
    Calls Try.prog 48 #[.pointer (some ⟨g, 0, none⟩)] w (DrawnX g A n c i h (fun x => x) w) := by
  unfold curC at hg
  have hlt : g < w.heap.size := (Array.getElem?_eq_some_iff.1 hg).1
  have c0 : w.cell? ⟨g, 0, none⟩ = some (.slice A n c) := by rw [cell_of_row w g 0 _ _ _ hg]; rfl
  have c1 : w.cell? ⟨g, 1, none⟩ = some (.int .i64 i) := by rw [cell_of_row w g 1 _ _ _ hg]; rfl
  have c2 : w.cell? ⟨g, 2, none⟩ = some (.int .i64 h) := by rw [cell_of_row w g 2 _ _ _ hg]; rfl
  have f1 : w.frozen? ⟨g, 1, none⟩ = false := frozen_of_row w g 1 _ _ hg
  have f2 : w.frozen? ⟨g, 2, none⟩ = false := frozen_of_row w g 2 _ _ hg
  have HG := Lib.hid hg
  have HB := Lib.hid hb
  clear hg hb
  go_enter Try.func48, Try.ntmps48
  go_wp2
  have hst : wrap64 (wrap64 (h * 6364136223846793005) + 1442695040888963407) = stepH h := rfl
  rw [hst]
  generalize hh2 : stepH h = h2
  have HH2 := Lib.hid hh2
  clear hst hh2
  obtain ⟨w1, hw1⟩ : ∃ w1, w1 = w.setCell ⟨g, 2, none⟩ (.int .i64 h2) := ⟨_, rfl⟩
  rw [← hw1]
  have hg1 : w1.heap[g]? = some (.cells #[.slice A n c, .int .i64 i, .int .i64 h2] 72 (0, 0)) := by rw [hw1, heap_setCell_same w g 2 _ _ _ HG.out]; rfl
  have g1 : w.grownBy w1 (some g) := by
    rw [hw1]
    exact ⟨rfl, rfl, rfl, by simp, fun k _ hk => heap_setCell_other w ⟨g, 2, none⟩ k _ (fun e => hk (by simp [e]))⟩
  have b1 : Bys w1 g A n := HB.out.grown g1 (by omega)
  clear hw1 c0 c1 c2 f1 f2
  have c0 : w1.cell? ⟨g, 0, none⟩ = some (.slice A n c) := by rw [cell_of_row w1 g 0 _ _ _ hg1]; rfl
  have c1 : w1.cell? ⟨g, 1, none⟩ = some (.int .i64 i) := by rw [cell_of_row w1 g 1 _ _ _ hg1]; rfl
  have c2 : w1.cell? ⟨g, 2, none⟩ = some (.int .i64 h2) := by rw [cell_of_row w1 g 2 _ _ _ hg1]; rfl
  have f1 : w1.frozen? ⟨g, 1, none⟩ = false := frozen_of_row w1 g 1 _ _ hg1
  have HG1 := Lib.hid hg1
  have G1 := Lib.hid g1
  have HB1 := Lib.hid b1
  clear hg1 g1 b1 HG HB
  go_quiet (fail)
  have M0 := and255 (bits BinOp.xor IntKind.i64 (h2 / 8589934592) (h2 / 35184372088832))
  have hx : byteH h2 = bits BinOp.and IntKind.i64 (bits BinOp.xor IntKind.i64 (h2 / 8589934592) (h2 / 35184372088832)) 255 := rfl
  rw [← hx] at M0 ⊢
  generalize hxx : byteH h2 = x at *
  have HX := Lib.hid hxx
  clear hx hxx
  obtain ⟨m1, m2⟩ := M0
  by_cases hin : i < n
  · obtain ⟨b, off, rfl, hbg, hcc⟩ := HB1.out (by omega)
    obtain ⟨y, cy, y1, y2⟩ := hcc i hin
    clear hcc
    go_wp2_with fail
    go_quiet (fail)
    go_wp2_with fail
    go_quiet (fail)
    have M1 := and255 (x + y)
    generalize bits BinOp.and IntKind.i64 (x + y) 255 = z at *
    obtain ⟨z1, z2⟩ := M1
    go_wp2
    go_ret
    have hset : ∀ W : World, W.heap = w1.heap → (W.setCell ⟨g, 1, none⟩ (.int .i64 (↑i + 1))).heap[g]? = some (.cells #[.slice (some ⟨b, off, none⟩) n c, .int .i64 ((i + 1 : Nat) : Int), .int .i64 h2] 72 (0, 0)) := fun W hW => by
      rw [heap_setCell_same W g 1 _ _ _ (by rw [hW]; exact HG1.out)]; rfl
    have hgr : ∀ W : World, w.grownBy W (some g) → w.grownBy (W.setCell ⟨g, 1, none⟩ (.int .i64 (↑i + 1))) (some g) := fun W hW => grown_trans hW
      ⟨rfl, rfl, rfl, by simp, fun k _ hk => heap_setCell_other W ⟨g, 1, none⟩ k _ (fun e => hk (by simp [e]))⟩
    refine ⟨z, i + 1, rfl, z1, z2, by omega, fun _ => by omega, fun h0 => by omega, ?_, ?_⟩
    · rw [HH2.out]; exact hset _ rfl
    · exact hgr _ (grown_drewN G1.out _)
  · go_wp2_with fail
    go_quiet (fail)
    go_wp2
    go_ret
    refine ⟨x, i, rfl, m1, m2, hi, fun h0 => absurd h0 hin, fun h0 => ⟨h0, ?_⟩, ?_, grown_drewN (grown_drewN G1.out _) _⟩
    · rw [HH2.out]; exact HX.out.symm
    · rw [HH2.out]; exact HG1.out
theorem belowX_any (g : Nat) (A : Option Addr) (n c i : Nat) (h : Int) (m : Int) (w : World) (hg : w.heap[g]? = some (.cells (curC A n c i h) 72 (0, 0))) (hi : i ≤ n) (hn : n ≤ 4096) (hb : Bys w g A n) (h0 : 0 < m) (h1 : m ≤ 256) :
    Calls Try.prog 25 #[.pointer (some ⟨g, 0, none⟩), .int .i64 m] w (DrawnX g A n c i h (fun x => x % m) w) := by
  have HG := Lib.hid hg
  have HB := Lib.hid hb
  clear hg hb
  go_enter Try.func25, Try.ntmps25
  go_wp2_with fail
  refine (byteX_any g A n c i h _ HG.out hi hn HB.out).mono ?_
  rintro e w1 ⟨r, i', rfl, r1, r2, k1, k2, k3, hh, hgr⟩
  have HH := Lib.hid hh
  have HGR := Lib.hid hgr
  have K3 := Lib.hid k3
  clear hh hgr k3
  go_wp2
  go_ret
  have e1 := Int.emod_nonneg r (show m ≠ 0 by omega)
  have e2 := Int.emod_lt_of_pos r h0
  exact ⟨r % m, i', rfl, e1, by omega, k1, k2, fun h0 => ⟨(K3.out h0).1, by rw [(K3.out h0).2]⟩, HH.out, HGR.out⟩
end Go.Proofs.Ytokkpbjldchjpaa

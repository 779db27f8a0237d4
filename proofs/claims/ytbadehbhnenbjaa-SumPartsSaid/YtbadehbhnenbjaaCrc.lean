/-
  The cyclic sum of 32 digits as plain mathematics: the step by one digit is linear and, below 2^32, takes nothing but 0 to 0; so is the step by bytes; a burst of at most 32 digits is found. No program.
-/
import Derived.IntWalk
namespace Go.Proofs.Ytbadehbhnenbjaa

/-- The polynomial, turned. -/
def polyN : Nat := 0xEDB88320
/-- One digit further. -/
def Lb (s : Nat) : Nat := s / 2 ^^^ (if s % 2 = 1 then polyN else 0)
/-- k digits further. -/
def Lk : Nat → Nat → Nat
  | 0, s => s
  | k + 1, s => Lk k (Lb s)

theorem Lb_bit (s i : Nat) : (Lb s).testBit i = (s.testBit (i + 1) ^^ (s.testBit 0 && polyN.testBit i)) := by
  unfold Lb
  rw [Nat.testBit_xor, Nat.testBit_div_two]
  by_cases h : s % 2 = 1
  · simp [h, Nat.testBit_zero]
  · simp [h, Nat.testBit_zero]
theorem Lb_xor (s t : Nat) : Lb (s ^^^ t) = Lb s ^^^ Lb t := by
  apply Nat.eq_of_testBit_eq
  intro i
  simp only [Nat.testBit_xor, Lb_bit]
  cases s.testBit (i + 1) <;> cases t.testBit (i + 1) <;> cases s.testBit 0 <;> cases t.testBit 0 <;> cases polyN.testBit i <;> rfl
theorem Lb_lt {s : Nat} (h : s < 2 ^ 32) : Lb s < 2 ^ 32 := by
  unfold Lb
  refine Nat.xor_lt_two_pow (by omega) ?_
  split
  · decide
  · decide
theorem Lb_ne {s : Nat} (h : s < 2 ^ 32) (h0 : s ≠ 0) : Lb s ≠ 0 := by
  intro hz
  by_cases ho : s % 2 = 1
  · have hb : (Lb s).testBit 31 = true := by
      rw [Lb_bit, Nat.testBit_lt_two_pow (by omega), Nat.testBit_zero]
      simp [ho]
      decide
    rw [hz] at hb
    simp at hb
  · unfold Lb at hz
    rw [if_neg ho, Nat.xor_zero] at hz
    omega
theorem Lb_even (s : Nat) : Lb (2 * s) = s := by
  unfold Lb
  rw [if_neg (by omega), Nat.xor_zero]
  omega

theorem Lk_xor (k : Nat) : ∀ s t, Lk k (s ^^^ t) = Lk k s ^^^ Lk k t := by
  induction k with
  | zero => intro s t; rfl
  | succ k ih => intro s t; simp only [Lk, Lb_xor, ih]
theorem Lk_zero (k : Nat) : Lk k 0 = 0 := by
  induction k with
  | zero => rfl
  | succ k ih => exact ih
theorem Lk_lt (k : Nat) : ∀ {s}, s < 2 ^ 32 → Lk k s < 2 ^ 32 := by
  induction k with
  | zero => intro s h; exact h
  | succ k ih => intro s h; exact ih (Lb_lt h)
theorem Lk_ne (k : Nat) : ∀ {s}, s < 2 ^ 32 → s ≠ 0 → Lk k s ≠ 0 := by
  induction k with
  | zero => intro s _ h; exact h
  | succ k ih => intro s h h0; exact ih (Lb_lt h) (Lb_ne h h0)
theorem Lk_add (j k : Nat) : ∀ s, Lk (j + k) s = Lk k (Lk j s) := by
  induction j with
  | zero => intro s; simp [Lk]
  | succ j ih => intro s; rw [Nat.succ_add]; exact ih _
theorem Lk_shift (k : Nat) : ∀ s, Lk k (2 ^ k * s) = s := by
  induction k with
  | zero => intro s; simp [Lk]
  | succ k ih =>
    intro s
    show Lk k (Lb (2 ^ (k + 1) * s)) = s
    rw [show 2 ^ (k + 1) * s = 2 * (2 ^ k * s) from by rw [Nat.pow_succ, Nat.mul_comm (2 ^ k) 2, Nat.mul_assoc], Lb_even, ih]
theorem Lk_inj (k : Nat) {s t : Nat} (hs : s < 2 ^ 32) (ht : t < 2 ^ 32) (h : Lk k s = Lk k t) : s = t := by
  have h1 : Lk k (s ^^^ t) = 0 := by rw [Lk_xor, h, Nat.xor_self]
  have h2 : s ^^^ t = 0 := by
    rcases Nat.eq_zero_or_pos (s ^^^ t) with e | e
    · exact e
    · exact absurd h1 (Lk_ne k (Nat.xor_lt_two_pow hs ht) (by omega))
  calc s = s ^^^ t ^^^ t := by rw [Nat.xor_assoc, Nat.xor_self, Nat.xor_zero]
    _ = t := by rw [h2, Nat.zero_xor]

/-- A byte further, as the document says it: digit by digit. -/
def byteN (r x : Nat) : Nat := Lk 8 (r ^^^ x)
/-- The table's entry of i. -/
def tabN (i : Nat) : Nat := Lk 8 i

theorem tab_lt {i : Nat} (h : i < 256) : tabN i < 2 ^ 32 := Lk_lt 8 (by omega)
/-- A byte further, by the table. -/
theorem byte_tab (r x : Nat) : byteN r x = r / 256 ^^^ tabN (r % 256 ^^^ x) := by
  unfold byteN tabN
  have h : r ^^^ x = (256 * (r / 256)) ^^^ (r % 256 ^^^ x) := by
    rw [← Nat.xor_assoc]
    congr 1
    have h1 := Nat.two_pow_add_eq_or_of_lt (i := 8) (show r % 256 < 2 ^ 8 by omega) (r / 256)
    have h2 : 2 ^ 8 * (r / 256) ||| r % 256 = 2 ^ 8 * (r / 256) ^^^ r % 256 := by
      apply Nat.eq_of_testBit_eq
      intro i
      rw [Nat.testBit_or, Nat.testBit_xor, Nat.testBit_two_pow_mul]
      by_cases hi : 8 ≤ i
      · rw [Nat.testBit_lt_two_pow (x := r % 256) (i := i) (Nat.lt_of_lt_of_le (show r % 256 < 2 ^ 8 by omega) (Nat.pow_le_pow_right (by decide) hi))]
        simp
      · simp [hi]
    have h3 : r = 2 ^ 8 * (r / 256) + r % 256 := by omega
    calc r = 2 ^ 8 * (r / 256) + r % 256 := h3
      _ = 2 ^ 8 * (r / 256) ||| r % 256 := h1
      _ = _ := h2
  rw [h, Lk_xor]
  congr 1
  exact Lk_shift 8 _

/-- The register behind bytes. -/
def regN : Nat → List Nat → Nat
  | r, [] => r
  | r, x :: l => regN (byteN r x) l
/-- Bytes as one number, the first one the lowest. -/
def valN : List Nat → Nat
  | [] => 0
  | x :: l => x ^^^ 256 * valN l

theorem byteN_lt {r x : Nat} (hr : r < 2 ^ 32) (hx : x < 256) : byteN r x < 2 ^ 32 := Lk_lt 8 (Nat.xor_lt_two_pow hr (by omega))
theorem regN_lt : ∀ (l : List Nat) {r : Nat}, r < 2 ^ 32 → (∀ x ∈ l, x < 256) → regN r l < 2 ^ 32
  | [], _, h, _ => h
  | x :: l, _, h, hx => regN_lt l (byteN_lt h (hx x List.mem_cons_self)) (fun y hy => hx y (List.mem_cons_of_mem _ hy))
theorem regN_append : ∀ (l m : List Nat) (r : Nat), regN r (l ++ m) = regN (regN r l) m
  | [], _, _ => rfl
  | x :: l, m, r => regN_append l m (byteN r x)
/-- The register as one step over all digits. -/
theorem regN_val : ∀ (l : List Nat) (r : Nat), regN r l = Lk (8 * l.length) (r ^^^ valN l)
  | [], r => by simp [regN, valN, Lk]
  | x :: l, r => by
    have e : Lk 8 (256 * valN l) = valN l := Lk_shift 8 (valN l)
    have h8 : Lk 8 (r ^^^ (x ^^^ 256 * valN l)) = byteN r x ^^^ valN l := by rw [← Nat.xor_assoc, Lk_xor, e, byteN]
    have hl : 8 * (x :: l).length = 8 + 8 * l.length := by rw [List.length_cons]; omega
    rw [hl, Lk_add, valN, h8]
    exact regN_val l (byteN r x)
/-- Two lists of one length, from two registers: what parts them. -/
theorem regN_xor (l m : List Nat) (hl : l.length = m.length) (r s : Nat) : regN r l ^^^ regN s m = Lk (8 * l.length) (r ^^^ s ^^^ (valN l ^^^ valN m)) := by
  rw [regN_val, regN_val, ← hl, ← Lk_xor]
  congr 1
  apply Nat.eq_of_testBit_eq
  intro i
  simp only [Nat.testBit_xor]
  cases r.testBit i <;> cases s.testBit i <;> cases (valN l).testBit i <;> cases (valN m).testBit i <;> rfl

/-- A BURST IS FOUND: two lists of one length whose numbers part by at most 32 digits in a row, and part, leave unlike registers. -/
theorem burst {l m : List Nat} (hl : l.length = m.length) (r : Nat) {e p : Nat} (he : e < 2 ^ 32) (h0 : e ≠ 0) (hp : p ≤ 8 * l.length) (hv : valN l ^^^ valN m = 2 ^ p * e) : regN r l ≠ regN r m := by
  intro h
  have h1 := regN_xor l m hl r r
  rw [h, Nat.xor_self, Nat.xor_self, Nat.zero_xor, hv] at h1
  have h2 : Lk (8 * l.length) (2 ^ p * e) = Lk (8 * l.length - p) e := by
    have := Lk_add p (8 * l.length - p) (2 ^ p * e)
    rw [Lk_shift, show p + (8 * l.length - p) = 8 * l.length from by omega] at this
    exact this
  rw [h2] at h1
  exact Lk_ne _ he h0 h1.symm

/-- All 32 digits. -/
def onesN : Nat := 0xFFFFFFFF
/-- The sum of bytes. -/
def sumN (l : List Nat) : Nat := onesN ^^^ regN onesN l
/-- A number of 32 digits as four bytes, the lowest first. -/
def fourN (c : Nat) : List Nat := [c % 256, c / 256 % 256, c / 65536 % 256, c / 16777216]
/-- Sealed bytes. -/
def sealN (l : List Nat) : List Nat := l ++ fourN (sumN l)

theorem onesN_lt : onesN < 2 ^ 32 := by decide
theorem sumN_lt (l : List Nat) (h : ∀ x ∈ l, x < 256) : sumN l < 2 ^ 32 := Nat.xor_lt_two_pow onesN_lt (regN_lt l onesN_lt h)
theorem xor_add_low {a b : Nat} (h : a < 256) : a ^^^ 256 * b = a + 256 * b := by
  have h1 := Nat.two_pow_add_eq_or_of_lt (i := 8) (show a < 2 ^ 8 by omega) b
  have h2 : 2 ^ 8 * b ||| a = a ^^^ 2 ^ 8 * b := by
    apply Nat.eq_of_testBit_eq
    intro i
    rw [Nat.testBit_or, Nat.testBit_xor, Nat.testBit_two_pow_mul]
    by_cases hi : 8 ≤ i
    · rw [Nat.testBit_lt_two_pow (x := a) (i := i) (Nat.lt_of_lt_of_le (show a < 2 ^ 8 by omega) (Nat.pow_le_pow_right (by decide) hi))]
      simp
    · simp [hi]
  show a ^^^ 2 ^ 8 * b = _
  rw [← h2, ← h1]
  omega
theorem valN_four {c : Nat} (h : c < 2 ^ 32) : valN (fourN c) = c := by
  simp only [fourN, valN, Nat.mul_zero, Nat.xor_zero]
  rw [xor_add_low (by omega), xor_add_low (by omega), xor_add_low (by omega)]
  omega
/-- Behind a seal the register is always the same. -/
def goodN : Nat := Lk 32 onesN
theorem reg_four {r c : Nat} (hc : c < 2 ^ 32) : regN r (fourN c) = Lk 32 (r ^^^ c) := by
  rw [regN_val, valN_four hc]; rfl
theorem reg_seal (l : List Nat) (h : ∀ x ∈ l, x < 256) : regN onesN (sealN l) = goodN := by
  rw [sealN, regN_append, reg_four (sumN_lt l h)]
  unfold sumN goodN
  congr 1
  rw [Nat.xor_comm onesN, ← Nat.xor_assoc, Nat.xor_self, Nat.zero_xor]
/-- Bytes that leave that register are a seal. -/
theorem seal_of_reg (l : List Nat) (h : ∀ x ∈ l, x < 256) {c : Nat} (hc : c < 2 ^ 32) (hg : regN onesN (l ++ fourN c) = goodN) : c = sumN l := by
  rw [regN_append, reg_four hc] at hg
  have hr := regN_lt l onesN_lt h
  have h1 := Lk_inj 32 (Nat.xor_lt_two_pow hr hc) onesN_lt hg
  obtain ⟨R, hR⟩ : ∃ R, regN onesN l = R := ⟨_, rfl⟩
  rw [hR] at h1
  rw [sumN, hR, ← h1, Nat.xor_comm R c, Nat.xor_assoc, Nat.xor_self, Nat.xor_zero]
end Go.Proofs.Ytbadehbhnenbjaa

/-
  Bytes as digits, and what Spoil makes of them. No program.
-/
import Derived.Test.YtbadehbhnenbjaaCrc
import Derived.Test.YtbadehbhnenbjaaNats
namespace Go.Proofs.Ytbadehbhnenbjaa

/-- The digit at the place k of bytes. -/
def dg (l : List Nat) (k : Nat) : Bool := (l.getD (k / 8) 0).testBit (k % 8)
/-- The digit at the place p turned. -/
def flip1 (l : List Nat) (p : Nat) : List Nat := l.set (p / 8) (l.getD (p / 8) 0 ^^^ 2 ^ (p % 8))
/-- Is the digit i of the mask turned there? -/
def hits (n : Nat) (bit : Int) (mask i : Nat) : Bool := decide (0 ≤ bit + i) && decide (bit + i < 8 * n) && mask.testBit i
/-- The first i digits of the mask. -/
def spN (l : List Nat) (bit : Int) (mask : Nat) : Nat → List Nat
  | 0 => l
  | i + 1 => if hits l.length bit mask i then flip1 (spN l bit mask i) (bit + i).toNat else spN l bit mask i

theorem flip1_len (l : List Nat) (p : Nat) : (flip1 l p).length = l.length := by simp [flip1]
theorem pow8_lt (k : Nat) : 2 ^ (k % 8) < 256 := by
  have : k % 8 < 8 := Nat.mod_lt _ (by decide)
  calc 2 ^ (k % 8) < 2 ^ 8 := Nat.pow_lt_pow_right (by decide) this
    _ = 256 := by decide
theorem flip1_lt {l : List Nat} (h : ∀ x ∈ l, x < 256) (p : Nat) : ∀ x ∈ flip1 l p, x < 256 := by
  intro x hx
  rcases List.mem_or_eq_of_mem_set hx with h' | h'
  · exact h x h'
  · rw [h']; exact Nat.xor_lt_two_pow (n := 8) (getD_lt h _) (pow8_lt p)
theorem spN_len (l : List Nat) (bit : Int) (mask i : Nat) : (spN l bit mask i).length = l.length := by
  induction i with
  | zero => rfl
  | succ i ih => unfold spN; split <;> simp [flip1_len, ih]
theorem spN_lt {l : List Nat} (h : ∀ x ∈ l, x < 256) (bit : Int) (mask i : Nat) : ∀ x ∈ spN l bit mask i, x < 256 := by
  induction i with
  | zero => exact h
  | succ i ih =>
    unfold spN
    split
    · exact flip1_lt ih _
    · exact ih
theorem flip1_dg (l : List Nat) (p k : Nat) (hk : k < 8 * l.length) : dg (flip1 l p) k = (dg l k ^^ decide (k = p)) := by
  unfold dg flip1
  by_cases h : k / 8 = p / 8
  · have hk' : p / 8 < l.length := by omega
    have : (l.set (p / 8) (l.getD (p / 8) 0 ^^^ 2 ^ (p % 8))).getD (k / 8) 0 = l.getD (p / 8) 0 ^^^ 2 ^ (p % 8) := by
      rw [h]; simp [List.getD, hk']
    rw [this, Nat.testBit_xor, h]
    congr 1
    rw [Nat.testBit_two_pow]
    by_cases e : k = p
    · subst e; simp
    · rw [decide_eq_false e, decide_eq_false (by omega)]
  · have : (l.set (p / 8) (l.getD (p / 8) 0 ^^^ 2 ^ (p % 8))).getD (k / 8) 0 = l.getD (k / 8) 0 := by
      simp [List.getD, Ne.symm h]
    rw [this, decide_eq_false (by intro e; exact h (by rw [e])), Bool.xor_false]
theorem spN_dg (l : List Nat) (bit : Int) (mask i k : Nat) (hk : k < 8 * l.length) :
    dg (spN l bit mask i) k = (dg l k ^^ (decide (bit ≤ k) && decide ((k : Int) < bit + i) && mask.testBit ((k : Int) - bit).toNat)) := by
  induction i with
  | zero =>
    have : (decide (bit ≤ k) && decide ((k : Int) < bit + (0 : Nat))) = false := by
      by_cases h : bit ≤ (k : Int)
      · rw [decide_eq_false (p := (k : Int) < bit + (0 : Nat)) (by omega), Bool.and_false]
      · rw [decide_eq_false h, Bool.false_and]
    rw [this]; simp [spN]
  | succ i ih =>
    have hst : dg (spN l bit mask (i + 1)) k = (dg (spN l bit mask i) k ^^ (hits l.length bit mask i && decide ((k : Int) = bit + i))) := by
      conv => lhs; unfold spN
      by_cases hh : hits l.length bit mask i = true
      · rw [if_pos hh, flip1_dg _ _ _ (by rw [spN_len]; exact hk), hh, Bool.true_and]
        congr 1
        have h0 : 0 ≤ bit + i := by
          have := hh; simp [hits] at this; omega
        rw [decide_eq_decide]; omega
      · rw [if_neg hh]
        have : hits l.length bit mask i = false := by simpa using hh
        rw [this]; simp
    rw [hst, ih, Bool.xor_assoc]
    congr 1
    by_cases e : (k : Int) = bit + i
    · have hi : ((k : Int) - bit).toNat = i := by omega
      have hh : hits l.length bit mask i = mask.testBit i := by
        unfold hits
        rw [decide_eq_true (by omega), decide_eq_true (by omega)]; simp
      rw [hh, hi, decide_eq_true e, decide_eq_false (p := (k : Int) < bit + i) (by omega), decide_eq_true (p := (k : Int) < bit + (i + 1 : Nat)) (by omega), decide_eq_true (p := bit ≤ k) (by omega)]
      simp
    · rw [decide_eq_false e, Bool.and_false, Bool.xor_false]
      congr 2
      rw [decide_eq_decide]; omega
theorem dg_ext {l m : List Nat} (hl : l.length = m.length) (h1 : ∀ x ∈ l, x < 256) (h2 : ∀ x ∈ m, x < 256) (h : ∀ k, k < 8 * l.length → dg l k = dg m k) : l = m := by
  apply List.ext_getElem hl
  intro i hi hj
  apply Nat.eq_of_testBit_eq
  intro t
  by_cases ht : t < 8
  · have := h (8 * i + t) (by omega)
    unfold dg at this
    rw [show (8 * i + t) / 8 = i from by omega, show (8 * i + t) % 8 = t from by omega] at this
    simpa [List.getD, hi, hj] using this
  · have a := h1 _ (List.getElem_mem hi)
    have b := h2 _ (List.getElem_mem hj)
    have p : (256 : Nat) ≤ 2 ^ t := by
      calc 256 = 2 ^ 8 := by decide
        _ ≤ 2 ^ t := Nat.pow_le_pow_right (by decide) (by omega)
    rw [Nat.testBit_lt_two_pow (by omega), Nat.testBit_lt_two_pow (by omega)]

/-- Bytes, spoilt. -/
def spoilN (l : List Nat) (bit : Int) (mask : Nat) : List Nat := spN l bit mask 32
theorem spoilN_len (l : List Nat) (bit : Int) (mask : Nat) : (spoilN l bit mask).length = l.length := spN_len ..
theorem spoilN_lt {l : List Nat} (h : ∀ x ∈ l, x < 256) (bit : Int) (mask : Nat) : ∀ x ∈ spoilN l bit mask, x < 256 := spN_lt h bit mask 32
theorem spoilN_dg (l : List Nat) (bit : Int) (mask k : Nat) (hk : k < 8 * l.length) :
    dg (spoilN l bit mask) k = (dg l k ^^ (decide (bit ≤ k) && decide ((k : Int) < bit + 32) && mask.testBit ((k : Int) - bit).toNat)) := spN_dg l bit mask 32 k hk
theorem spoilN_twice {l : List Nat} (h : ∀ x ∈ l, x < 256) (bit : Int) (mask : Nat) : spoilN (spoilN l bit mask) bit mask = l := by
  refine dg_ext (by rw [spoilN_len, spoilN_len]) (spoilN_lt (spoilN_lt h bit mask) bit mask) h fun k hk => ?_
  rw [spoilN_len, spoilN_len] at hk
  rw [spoilN_dg _ _ _ _ (by rw [spoilN_len]; exact hk), spoilN_dg _ _ _ _ hk, Bool.xor_assoc, Bool.xor_self, Bool.xor_false]
theorem spoilN_zero {l : List Nat} (h : ∀ x ∈ l, x < 256) (bit : Int) : spoilN l bit 0 = l := by
  refine dg_ext (by rw [spoilN_len]) (spoilN_lt h bit 0) h fun k hk => ?_
  rw [spoilN_len] at hk
  rw [spoilN_dg _ _ _ _ hk]; simp
end Go.Proofs.Ytbadehbhnenbjaa

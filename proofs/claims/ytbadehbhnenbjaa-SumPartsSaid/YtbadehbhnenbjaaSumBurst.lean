/-
  Bytes as one number, digit by digit; a burst of at most 32 digits turns the sum. No program.
-/
import Derived.Test.YtbadehbhnenbjaaSumSpoilMath
namespace Go.Proofs.Ytbadehbhnenbjaa

theorem dg_cons (x : Nat) (l : List Nat) (k : Nat) : dg (x :: l) k = if k < 8 then x.testBit k else dg l (k - 8) := by
  unfold dg
  by_cases h : k < 8
  · rw [if_pos h, show k / 8 = 0 from by omega, show k % 8 = k from by omega]; rfl
  · rw [if_neg h, show k / 8 = (k - 8) / 8 + 1 from by omega, show k % 8 = (k - 8) % 8 from by omega]; rfl
theorem dg_out {l : List Nat} {k : Nat} (h : 8 * l.length ≤ k) : dg l k = false := by
  unfold dg
  have : l.getD (k / 8) 0 = 0 := by simp [List.getD, show l.length ≤ k / 8 from by omega]
  rw [this]; simp
theorem valN_bit : ∀ (l : List Nat), (∀ x ∈ l, x < 256) → ∀ k, (valN l).testBit k = dg l k
  | [], _, k => by simp [valN, dg]
  | x :: l, h, k => by
    rw [dg_cons]
    show (x ^^^ 256 * valN l).testBit k = _
    rw [Nat.testBit_xor]
    have hx := h x List.mem_cons_self
    have ih := valN_bit l (fun y hy => h y (List.mem_cons_of_mem _ hy)) (k - 8)
    rw [show 256 * valN l = 2 ^ 8 * valN l from rfl, Nat.testBit_two_pow_mul, ih]
    by_cases hk : k < 8
    · rw [if_pos hk, decide_eq_false (by omega)]; simp
    · rw [if_neg hk, decide_eq_true (by omega)]
      have p : (256 : Nat) ≤ 2 ^ k := by
        calc 256 = 2 ^ 8 := by decide
          _ ≤ 2 ^ k := Nat.pow_le_pow_right (by decide) (by omega)
      rw [Nat.testBit_lt_two_pow (by omega)]
      simp
/-- Two texts of one length that part by at most 32 digits in a row, and part, have unlike registers. -/
theorem burst_dg {l m : List Nat} (hl : l.length = m.length) (h1 : ∀ x ∈ l, x < 256) (h2 : ∀ x ∈ m, x < 256) (r : Nat) {e p : Nat} (he : e < 2 ^ 32) (h0 : e ≠ 0) (hp : p ≤ 8 * l.length)
    (h : ∀ k, (dg l k ^^ dg m k) = (decide (p ≤ k) && e.testBit (k - p))) : regN r l ≠ regN r m := by
  refine burst hl r he h0 hp ?_
  apply Nat.eq_of_testBit_eq
  intro k
  rw [Nat.testBit_xor, valN_bit l h1, valN_bit m h2, h k, Nat.testBit_two_pow_mul]
theorem sumN_ne {l m : List Nat} (h : regN onesN l ≠ regN onesN m) : sumN l ≠ sumN m := by
  intro e
  apply h
  unfold sumN at e
  have h1 : onesN ^^^ (onesN ^^^ regN onesN l) = onesN ^^^ (onesN ^^^ regN onesN m) := by rw [e]
  rwa [← Nat.xor_assoc, ← Nat.xor_assoc, Nat.xor_self, Nat.zero_xor, Nat.zero_xor] at h1
theorem sumN_flip {l : List Nat} (h : ∀ x ∈ l, x < 256) {p : Nat} (hp : p < 8 * l.length) : sumN (flip1 l p) ≠ sumN l := by
  refine sumN_ne (burst_dg (flip1_len l p) (flip1_lt h p) h onesN (e := 1) (p := p) (by decide) (by decide) (by rw [flip1_len]; omega) fun k => ?_)
  by_cases hk : k < 8 * l.length
  · rw [flip1_dg l p k hk]
    by_cases e : k = p
    · subst e; simp
    · rw [decide_eq_false e]
      by_cases e2 : p ≤ k
      · have : ∃ j, k - p = j + 1 := ⟨k - p - 1, by omega⟩
        obtain ⟨j, hj⟩ := this
        rw [hj]
        simp [Nat.testBit_succ]
      · simp [e2]
  · rw [dg_out (by rw [flip1_len]; omega), dg_out (by omega)]
    have : ∃ j, k - p = j + 1 := ⟨k - p - 1, by omega⟩
    obtain ⟨j, hj⟩ := this
    rw [hj]
    simp [Nat.testBit_succ]

/-- Two neighbours changed for each other. -/
def swap1 (l : List Nat) (i : Nat) : List Nat := (l.set i (l.getD (i + 1) 0)).set (i + 1) (l.getD i 0)
theorem swap1_len (l : List Nat) (i : Nat) : (swap1 l i).length = l.length := by simp [swap1]
theorem swap1_lt {l : List Nat} (h : ∀ x ∈ l, x < 256) (i : Nat) : ∀ x ∈ swap1 l i, x < 256 := by
  intro x hx
  rcases List.mem_or_eq_of_mem_set hx with h' | h'
  · rcases List.mem_or_eq_of_mem_set h' with h' | h'
    · exact h x h'
    · rw [h']; exact getD_lt h _
  · rw [h']; exact getD_lt h _
theorem swap1_getD (l : List Nat) (i j : Nat) (hi : i + 1 < l.length) : (swap1 l i).getD j 0 = if j = i then l.getD (i + 1) 0 else if j = i + 1 then l.getD i 0 else l.getD j 0 := by
  unfold swap1
  have h1 : i < l.length := by omega
  by_cases e1 : j = i
  · subst e1
    simp [List.getD, hi, h1]
  · by_cases e2 : j = i + 1
    · subst e2; simp [List.getD, hi, h1]
    · rw [if_neg e1, if_neg e2]
      simp [List.getD, Ne.symm e1, Ne.symm e2]
theorem sumN_swap {l : List Nat} (h : ∀ x ∈ l, x < 256) {i : Nat} (hi : i + 1 < l.length) (hne : l.getD i 0 ≠ l.getD (i + 1) 0) : sumN (swap1 l i) ≠ sumN l := by
  have hx := getD_lt h i
  have hy := getD_lt h (i + 1)
  have hg := fun j => swap1_getD l i j hi
  obtain ⟨x, ex⟩ : ∃ x, l.getD i 0 = x := ⟨_, rfl⟩
  obtain ⟨y, ey⟩ : ∃ y, l.getD (i + 1) 0 = y := ⟨_, rfl⟩
  rw [ex] at hx hne hg
  rw [ey] at hy hne hg
  have hz : x ^^^ y < 2 ^ 8 := Nat.xor_lt_two_pow (by omega) (by omega)
  have hz0 : x ^^^ y ≠ 0 := fun e => hne (by
    calc x = x ^^^ y ^^^ y := by rw [Nat.xor_assoc, Nat.xor_self, Nat.xor_zero]
      _ = y := by rw [e, Nat.zero_xor])
  obtain ⟨z, ez⟩ : ∃ z, x ^^^ y = z := ⟨_, rfl⟩
  rw [ez] at hz hz0
  have hzb : ∀ t, z.testBit t = (x.testBit t ^^ y.testBit t) := fun t => by rw [← ez, Nat.testBit_xor]
  have hzo : ∀ t, 8 ≤ t → z.testBit t = false := fun t ht => Nat.testBit_lt_two_pow (Nat.lt_of_lt_of_le hz (Nat.pow_le_pow_right (by decide) ht))
  refine sumN_ne (burst_dg (swap1_len l i) (swap1_lt h i) h onesN (e := z ^^^ 2 ^ 8 * z) (p := 8 * i) (Nat.xor_lt_two_pow (by omega) (by omega)) (fun e => hz0 ?_) (by rw [swap1_len]; omega) fun k => ?_)
  · have := congrArg (fun n => n % 256) e
    have h2 : (z ^^^ 256 * z) = z + 256 * z := xor_add_low hz
    rw [show (2 : Nat) ^ 8 = 256 from rfl, h2] at e
    omega
  · rw [Nat.testBit_xor, Nat.testBit_two_pow_mul]
    unfold dg
    rw [hg (k / 8)]
    by_cases e1 : k / 8 = i
    · rw [if_pos e1, e1, ex, decide_eq_true (show 8 * i ≤ k by omega), decide_eq_false (show ¬ k - 8 * i ≥ 8 by omega), hzb, show k % 8 = k - 8 * i from by omega]
      cases x.testBit (k - 8 * i) <;> cases y.testBit (k - 8 * i) <;> rfl
    · rw [if_neg e1]
      by_cases e2 : k / 8 = i + 1
      · rw [if_pos e2, e2, ey, decide_eq_true (show 8 * i ≤ k by omega), decide_eq_true (show k - 8 * i ≥ 8 by omega), hzo _ (by omega), hzb, show k % 8 = k - 8 * i - 8 from by omega]
        cases x.testBit (k - 8 * i - 8) <;> cases y.testBit (k - 8 * i - 8) <;> rfl
      · rw [if_neg e2, Bool.xor_self]
        by_cases e3 : 8 * i ≤ k
        · rw [decide_eq_true e3, hzo _ (by omega), hzo _ (by omega)]; simp
        · rw [decide_eq_false e3]; rfl
theorem swap1_same {l : List Nat} {i : Nat} (hi : i + 1 < l.length) (he : l.getD i 0 = l.getD (i + 1) 0) : swap1 l i = l := by
  apply List.ext_getElem (swap1_len l i)
  intro j h1 h2
  have hg := swap1_getD l i j hi
  have e1 : (swap1 l i)[j] = (swap1 l i).getD j 0 := by simp [List.getD, h1]
  have e2 : l[j] = l.getD j 0 := by simp [List.getD, h2]
  rw [e1, e2, hg]
  split
  · rename_i e; rw [e, he]
  · split
    · rename_i e; rw [e, he]
    · rfl
/-- The swapped text has the same sum just where the two bytes are the same. -/
theorem swap_eq {l : List Nat} (h : ∀ x ∈ l, x < 256) {i : Nat} (hi : i + 1 < l.length) : sumN (swap1 l i) = sumN l ↔ l.getD i 0 = l.getD (i + 1) 0 := by
  constructor
  · intro e
    apply Classical.byContradiction
    intro hne
    exact sumN_swap h hi hne e
  · intro e; rw [swap1_same hi e]
theorem sumN_last {l : List Nat} (h : ∀ x ∈ l, x < 256) : sumN (l ++ [0]) ≠ sumN (l ++ [1]) := by
  have h1 : flip1 (l ++ [0]) (8 * l.length) = l ++ [1] := by
    unfold flip1
    rw [show 8 * l.length / 8 = l.length from by omega, show 8 * l.length % 8 = 0 from by omega]
    have : (l ++ [0]).getD l.length 0 = 0 := by simp [List.getD]
    rw [this]
    simp
  have h2 : ∀ x ∈ l ++ [0], x < 256 := fun x hx => by
    rcases List.mem_append.1 hx with h' | h'
    · exact h x h'
    · simp at h'; omega
  have := sumN_flip h2 (p := 8 * l.length) (by simp)
  rw [h1] at this
  exact Ne.symm this
end Go.Proofs.Ytbadehbhnenbjaa

/-
  What a Reader's Number, Bytes and Byte tell of its bytes (chapter 4): plain functions. No program.
-/
import Derived.Test.YtheecfgehfhimaaVintTakeMath
namespace Go.Proofs.Ytheecfgehfhimaa
open Go.RowKit

/-- What number tells of a Reader's bytes from its place on. -/
def numT (xs : List Int) (a : Nat) (bad : Bool) : Int × Int × Bool := if bad then (0, 0, false) else takeV (xs.drop a)

theorem takeV_cases (xs : List Int) : takeV xs = (0, 0, false) ∨ ∃ n s : Nat, takeV xs = ((n : Int), (s : Int), true) ∧ 1 ≤ s ∧ s ≤ 8 ∧ s ≤ xs.length ∧ n ≤ 4611686018427387903 := by
  unfold takeV
  by_cases h0 : xs.length = 0
  · left; rw [if_pos h0]
  · rw [if_neg h0]
    by_cases h1 : xs.length < leadV (xs.getD 0 0)
    · left; rw [if_pos h1]
    · rw [if_neg h1]
      by_cases h2 : szV (numV xs (leadV (xs.getD 0 0))) = leadV (xs.getD 0 0)
      · right
        rw [if_pos h2]
        have hs : leadV (xs.getD 0 0) = 1 ∨ leadV (xs.getD 0 0) = 2 ∨ leadV (xs.getD 0 0) = 4 ∨ leadV (xs.getD 0 0) = 8 := by unfold leadV; (repeat' split) <;> simp
        obtain ⟨m, hm⟩ : ∃ m, numV xs (leadV (xs.getD 0 0)) = m := ⟨_, rfl⟩
        rw [hm] at h2 ⊢
        have hm0 : 0 ≤ m := by
          rcases lt_or_ge' m 0 with h | h
          · rw [szV_neg h] at h2; omega
          · exact h
        have hm1 : m ≤ 4611686018427387903 := by
          rcases lt_or_ge' 4611686018427387903 m with h | h
          · rw [szV_big h] at h2; omega
          · exact h
        exact ⟨m.toNat, leadV (xs.getD 0 0), by rw [Int.toNat_of_nonneg hm0], by omega, by omega, by omega, by omega⟩
      · left; rw [if_neg h2]

theorem numT_cases {xs : List Int} {a : Nat} {bad : Bool} (hle : a ≤ xs.length) :
    numT xs a bad = (0, 0, false) ∨ ∃ n s : Nat, numT xs a bad = ((n : Int), (s : Int), true) ∧ bad = false ∧ 1 ≤ s ∧ s ≤ 8 ∧ a + s ≤ xs.length ∧ n ≤ 4611686018427387903 := by
  unfold numT
  cases bad with
  | true => exact .inl rfl
  | false =>
    rcases takeV_cases (xs.drop a) with h | ⟨n, s, h, h1, h2, h3, h4⟩
    · exact .inl h
    · refine .inr ⟨n, s, h, rfl, h1, h2, ?_, h4⟩
      rw [List.length_drop] at h3
      omega

/-- What Bytes tells, where it stands then, and whether it is bad. -/
def bytT (xs : List Int) (a : Nat) (bad : Bool) (most : Int) : List Int × Nat × Bool :=
  if (numT xs a bad).2.2 = false ∨ most < (numT xs a bad).1 ∨ ((xs.length - a : Nat) : Int) - (numT xs a bad).2.1 < (numT xs a bad).1 then ([], a, true)
  else ((xs.drop (a + (numT xs a bad).2.1.toNat)).take (numT xs a bad).1.toNat, a + (numT xs a bad).2.1.toNat + (numT xs a bad).1.toNat, false)

theorem bytT_cases {xs : List Int} {a : Nat} {bad : Bool} (most : Int) (hle : a ≤ xs.length) :
    (numT xs a bad = (0, 0, false) ∧ bytT xs a bad most = ([], a, true)) ∨ ∃ n s : Nat, numT xs a bad = ((n : Int), (s : Int), true) ∧ bad = false ∧ 1 ≤ s ∧ s ≤ 8 ∧ a + s ≤ xs.length ∧ n ≤ 4611686018427387903 ∧
      ((most < (n : Int) ∧ bytT xs a bad most = ([], a, true)) ∨ ((n : Int) ≤ most ∧ ((xs.length - a : Nat) : Int) - (s : Int) < (n : Int) ∧ bytT xs a bad most = ([], a, true)) ∨
        ((n : Int) ≤ most ∧ a + s + n ≤ xs.length ∧ bytT xs a bad most = ((xs.drop (a + s)).take n, a + s + n, false))) := by
  unfold bytT
  rcases numT_cases (bad := bad) hle with ht | ⟨n, s, ht, hb, h1, h2, h3, h4⟩
  · left
    rw [ht]
    exact ⟨rfl, by simp⟩
  · right
    refine ⟨n, s, ht, hb, h1, h2, h3, h4, ?_⟩
    rw [ht]
    by_cases c1 : most < (n : Int)
    · left
      exact ⟨c1, by simp [c1]⟩
    · right
      by_cases c2 : ((xs.length - a : Nat) : Int) - (s : Int) < (n : Int)
      · left
        exact ⟨by omega, c2, by simp [c2]⟩
      · right
        refine ⟨by omega, by omega, ?_⟩
        simp only [Int.toNat_natCast]
        rw [if_neg (by simp; omega)]

/-- What Byte tells, where it stands then, and whether it is bad. -/
def oneT (xs : List Int) (a : Nat) (bad : Bool) : Int × Nat × Bool := if bad = true ∨ xs.length - a = 0 then (0, a, true) else (xs.getD a 0, a + 1, false)
end Go.Proofs.Ytheecfgehfhimaa

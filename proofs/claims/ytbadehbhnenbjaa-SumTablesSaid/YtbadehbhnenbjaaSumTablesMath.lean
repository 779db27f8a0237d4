/-
  Sums of three texts of one length, and of their sum. No program.
-/
import Derived.Test.YtbadehbhnenbjaaCrc
namespace Go.Proofs.Ytbadehbhnenbjaa

theorem xor4 (o a b : Nat) : (o ^^^ a) ^^^ (o ^^^ b) = a ^^^ b := by
  apply Nat.eq_of_testBit_eq
  intro i
  simp only [Nat.testBit_xor]
  cases o.testBit i <;> cases a.testBit i <;> cases b.testBit i <;> rfl
theorem valN_zip : ∀ (l m : List Nat), l.length = m.length → valN (List.zipWith (· ^^^ ·) l m) = valN l ^^^ valN m
  | [], [], _ => rfl
  | x :: l, y :: m, h => by
    have ih := valN_zip l m (by simpa using h)
    show (x ^^^ y) ^^^ 256 * valN (List.zipWith (· ^^^ ·) l m) = (x ^^^ 256 * valN l) ^^^ (y ^^^ 256 * valN m)
    rw [ih]
    have h2 : 256 * (valN l ^^^ valN m) = 256 * valN l ^^^ 256 * valN m := by
      apply Nat.eq_of_testBit_eq
      intro i
      have e : ∀ a : Nat, 256 * a = 2 ^ 8 * a := fun a => rfl
      simp only [e, Nat.testBit_xor, Nat.testBit_two_pow_mul]
      by_cases hi : 8 ≤ i
      · simp [hi]
      · simp [hi]
    rw [h2]
    apply Nat.eq_of_testBit_eq
    intro i
    simp only [Nat.testBit_xor]
    cases x.testBit i <;> cases y.testBit i <;> cases (256 * valN l).testBit i <;> cases (256 * valN m).testBit i <;> rfl
  | [], _ :: _, h => by simp at h
  | _ :: _, [], h => by simp at h
theorem valN_zero (n : Nat) : valN (List.replicate n 0) = 0 := by
  induction n with
  | zero => rfl
  | succ n ih => show 0 ^^^ 256 * valN (List.replicate n 0) = 0; rw [ih]; rfl
/-- The sums of two texts of one length make up those of their sum and of as many zeros. -/
theorem sumN_zip (l m : List Nat) (h : l.length = m.length) : sumN l ^^^ sumN m = sumN (List.zipWith (· ^^^ ·) l m) ^^^ sumN (List.replicate l.length 0) := by
  have hz : (List.zipWith (· ^^^ ·) l m).length = l.length := by simp [h]
  unfold sumN
  rw [xor4, xor4, regN_xor l m h, regN_xor (List.zipWith (· ^^^ ·) l m) (List.replicate l.length 0) (by simp [h]), hz, valN_zip l m h, valN_zero, Nat.xor_zero]
end Go.Proofs.Ytbadehbhnenbjaa

/-
  Digits of u8 and u32, as the model has them, as those of natural numbers. No program.
-/
import Derived.WalkKit
import Derived.Test.YtbadehbhnenbjaaCrc
namespace Go.Proofs.Ytbadehbhnenbjaa
open Go.RowKit

theorem wrap_u32n (n : Nat) (h : n < 2 ^ 32) : IntKind.u32.wrap (n : Int) = (n : Int) := by
  simp only [IntKind.wrap, IntKind.signed, IntKind.bits]
  simp
  omega
theorem wrap_u8n (n : Nat) (h : n < 2 ^ 8) : IntKind.u8.wrap (n : Int) = (n : Int) := by
  simp only [IntKind.wrap, IntKind.signed, IntKind.bits]
  simp
  omega
theorem ofInt32 (a : Nat) (h : a < 2 ^ 32) : (BitVec.ofInt 32 (a : Int)).toNat = a := by
  rw [BitVec.toNat_ofInt]; omega
theorem ofInt8 (a : Nat) (h : a < 2 ^ 8) : (BitVec.ofInt 8 (a : Int)).toNat = a := by
  rw [BitVec.toNat_ofInt]; omega
theorem xor32 (a b : Nat) (ha : a < 2 ^ 32) (hb : b < 2 ^ 32) : bits .xor .u32 (a : Int) (b : Int) = ((a ^^^ b : Nat) : Int) := by
  have key : (BitVec.ofInt 32 (a : Int) ^^^ BitVec.ofInt 32 (b : Int)).toNat = a ^^^ b := by
    rw [BitVec.toNat_xor, ofInt32 a ha, ofInt32 b hb]
  show IntKind.u32.wrap ((BitVec.ofInt 32 (a : Int) ^^^ BitVec.ofInt 32 (b : Int)).toNat : Nat) = _
  rw [key, wrap_u32n _ (Nat.xor_lt_two_pow ha hb)]
theorem xor8 (a b : Nat) (ha : a < 2 ^ 8) (hb : b < 2 ^ 8) : bits .xor .u8 (a : Int) (b : Int) = ((a ^^^ b : Nat) : Int) := by
  have key : (BitVec.ofInt 8 (a : Int) ^^^ BitVec.ofInt 8 (b : Int)).toNat = a ^^^ b := by
    rw [BitVec.toNat_xor, ofInt8 a ha, ofInt8 b hb]
  show IntKind.u8.wrap ((BitVec.ofInt 8 (a : Int) ^^^ BitVec.ofInt 8 (b : Int)).toNat : Nat) = _
  rw [key, wrap_u8n _ (Nat.xor_lt_two_pow ha hb)]
theorem and1_32 (a : Nat) (ha : a < 2 ^ 32) : bits .and .u32 (a : Int) 1 = ((a % 2 : Nat) : Int) := by
  have key : (BitVec.ofInt 32 (a : Int) &&& BitVec.ofInt 32 1).toNat = a % 2 := by
    rw [BitVec.toNat_and, ofInt32 a ha]
    have : (BitVec.ofInt 32 1).toNat = 2 ^ 1 - 1 := by decide
    rw [this, Nat.and_two_pow_sub_one_eq_mod]
  show IntKind.u32.wrap ((BitVec.ofInt 32 (a : Int) &&& BitVec.ofInt 32 1).toNat : Nat) = _
  rw [key, wrap_u32n _ (by omega)]
theorem and1_8 (a : Nat) (ha : a < 2 ^ 8) : bits .and .u8 (a : Int) 1 = ((a % 2 : Nat) : Int) := by
  have key : (BitVec.ofInt 8 (a : Int) &&& BitVec.ofInt 8 1).toNat = a % 2 := by
    rw [BitVec.toNat_and, ofInt8 a ha]
    have : (BitVec.ofInt 8 1).toNat = 2 ^ 1 - 1 := by decide
    rw [this, Nat.and_two_pow_sub_one_eq_mod]
  show IntKind.u8.wrap ((BitVec.ofInt 8 (a : Int) &&& BitVec.ofInt 8 1).toNat : Nat) = _
  rw [key, wrap_u8n _ (by omega)]
theorem Lk_succ' (k n : Nat) : Lk (k + 1) n = Lb (Lk k n) := by
  rw [Lk_add k 1]; rfl
theorem Lb_odd {s : Nat} (h : s % 2 = 1) : Lb s = s / 2 ^^^ 3988292384 := by
  unfold Lb; rw [if_pos h]; rfl
theorem Lb_ev {s : Nat} (h : s % 2 = 0) : Lb s = s / 2 := by
  unfold Lb; rw [if_neg (by omega), Nat.xor_zero]
end Go.Proofs.Ytbadehbhnenbjaa

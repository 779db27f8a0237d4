/-
  What Put makes: the bytes of a number, in a new block.
-/
import Derived.Test.YtbjneoeiognahaaBase
import Derived.Handy
import Derived.StillTailTactics
namespace Go.Proofs.Ytbjneoeiognahaa
open Go.RowKit

set_option maxRecDepth 10000 in
theorem and255 (n : Int) : bits .and .i64 n 255 = n % 256 := by
  have h : (BitVec.ofInt 64 255).toNat = 2 ^ 8 - 1 := by decide
  have key : (BitVec.ofInt 64 n &&& BitVec.ofInt 64 255).toNat = (n % ((2 ^ 64 : Nat) : Int)).toNat % 2 ^ 8 := by
    rw [BitVec.toNat_and, BitVec.toNat_ofInt, h, Nat.and_two_pow_sub_one_eq_mod]
  show IntKind.i64.wrap ((BitVec.ofInt 64 n &&& BitVec.ofInt 64 255).toNat : Nat) = n % 256
  rw [key, IntKind.wrap_i64]
  omega

set_option maxRecDepth 10000 in
theorem mark_any (k m : Int) (w : World) (h : (k = 1 ∧ m = 0) ∨ (k = 2 ∧ m = 1) ∨ (k = 4 ∧ m = 2) ∨ (k = 8 ∧ m = 3)) :
    Calls Try.prog 127 #[.int .i64 k] w fun e w' => e = .returned (.int .u8 m) ∧ w' = w := by
  rcases h with ⟨rfl, rfl⟩ | ⟨rfl, rfl⟩ | ⟨rfl, rfl⟩ | ⟨rfl, rfl⟩ <;>
  · go_enter Try.func127, Try.ntmps127
    go_wp2
    go_ret
    exact ⟨rfl, rfl⟩

set_option maxRecDepth 10000 in
set_option maxHeartbeats 400000 in
theorem put_1 (n : Int) (w : World) (h1 : 0 ≤ n) (h2 : n < 64) :
    Calls Try.prog 106 #[.int .i64 n] w fun e w' => e = .returned (.slice (some ⟨w.heap.size, 0, none⟩) 1 1) ∧ w' = (w.alloc (.cells (bts (putL n)) 5)).drew := by
  have hmk : ∀ w, (Instr.makeSlice 23 (.int .i64 1) (.int .i64 1)).run Try.prog w = .ok (.slice (some ⟨w.heap.size, 0, none⟩) 1 1) (w.alloc (.cells #[.int .u8 0] 5)) := fun _ => by kernel_rfl
  have hs := szV_1 h1 h2
  have ha := and255
  go_enter Try.func106, Try.ntmps106
  go_wp2_with (go_at_call 126; refine (size_any _ _).mono ?_; rw [hs]; rintro e w' ⟨rfl, rfl⟩)
  go_rounds 2
  clear ha hs hmk
  refine still_tail 8 (by kernel_rfl) (by kernel_rfl) ?_
  intro W hW
  have hc : W.cell? ⟨w.heap.size, 0, none⟩ = some (.int .u8 (n % 256)) := by rw [hW]; go_simp
  have hf : W.frozen? ⟨w.heap.size, 0, none⟩ = false := by rw [hW]; go_simp
  have HW := Lib.hid hW
  clear hW
  simp only [List.take_succ_cons, List.take_zero, List.drop_succ_cons, List.drop_zero]
  repeat still_step
  still_call (mark_any 1 0 _ (by simp))
  repeat still_step
  refine wpStill_nil ?_
  go_wp2
  go_ret
  refine ⟨rfl, ?_⟩
  rw [HW.out, or_mark _ 0 (by omega) (by omega) (by omega)]
  rw [putL_1 h1 h2]
  rw [show n % 256 = n from by omega, show (0 : Int) + n = n from by omega]
  go_simp
  simp [bts]

set_option maxRecDepth 10000 in
set_option maxHeartbeats 400000 in
theorem put_2 (n : Int) (w : World) (h1 : 64 ≤ n) (h2 : n < 16384) :
    Calls Try.prog 106 #[.int .i64 n] w fun e w' => e = .returned (.slice (some ⟨w.heap.size, 0, none⟩) 2 2) ∧ w' = (w.alloc (.cells (bts (putL n)) 5)).drew := by
  have hmk : ∀ w, (Instr.makeSlice 23 (.int .i64 2) (.int .i64 2)).run Try.prog w = .ok (.slice (some ⟨w.heap.size, 0, none⟩) 2 2) (w.alloc (.cells #[.int .u8 0, .int .u8 0] 5)) := fun _ => by kernel_rfl
  have hs := szV_2 h1 h2
  have ha := and255
  go_enter Try.func106, Try.ntmps106
  go_wp2_with (go_at_call 126; refine (size_any _ _).mono ?_; rw [hs]; rintro e w' ⟨rfl, rfl⟩)
  go_rounds 3
  clear ha hs hmk
  refine still_tail 8 (by kernel_rfl) (by kernel_rfl) ?_
  intro W hW
  have hc : W.cell? ⟨w.heap.size, 0, none⟩ = some (.int .u8 (n / 256 % 256)) := by rw [hW]; go_simp
  have hf : W.frozen? ⟨w.heap.size, 0, none⟩ = false := by rw [hW]; go_simp
  have HW := Lib.hid hW
  clear hW
  simp only [List.take_succ_cons, List.take_zero, List.drop_succ_cons, List.drop_zero]
  repeat still_step
  still_call (mark_any 2 1 _ (by simp))
  repeat still_step
  refine wpStill_nil ?_
  go_wp2
  go_ret
  refine ⟨rfl, ?_⟩
  rw [HW.out, or_mark _ 64 (by omega) (by omega) (by omega)]
  rw [putL_2 h1 h2]
  rw [show n / 256 % 256 = n / 256 from by omega]
  go_simp
  simp [bts]

set_option maxRecDepth 10000 in
set_option maxHeartbeats 400000 in
theorem put_4 (n : Int) (w : World) (h1 : 16384 ≤ n) (h2 : n < 1073741824) :
    Calls Try.prog 106 #[.int .i64 n] w fun e w' => e = .returned (.slice (some ⟨w.heap.size, 0, none⟩) 4 4) ∧ w' = (w.alloc (.cells (bts (putL n)) 5)).drew := by
  have hmk : ∀ w, (Instr.makeSlice 23 (.int .i64 4) (.int .i64 4)).run Try.prog w = .ok (.slice (some ⟨w.heap.size, 0, none⟩) 4 4) (w.alloc (.cells #[.int .u8 0, .int .u8 0, .int .u8 0, .int .u8 0] 5)) := fun _ => by kernel_rfl
  have hs := szV_4 h1 h2
  have ha := and255
  go_enter Try.func106, Try.ntmps106
  go_wp2_with (go_at_call 126; refine (size_any _ _).mono ?_; rw [hs]; rintro e w' ⟨rfl, rfl⟩)
  go_rounds 5
  clear ha hs hmk
  refine still_tail 8 (by kernel_rfl) (by kernel_rfl) ?_
  intro W hW
  have hc : W.cell? ⟨w.heap.size, 0, none⟩ = some (.int .u8 (n / 256 / 256 / 256 % 256)) := by rw [hW]; go_simp
  have hf : W.frozen? ⟨w.heap.size, 0, none⟩ = false := by rw [hW]; go_simp
  have HW := Lib.hid hW
  clear hW
  simp only [List.take_succ_cons, List.take_zero, List.drop_succ_cons, List.drop_zero]
  repeat still_step
  still_call (mark_any 4 2 _ (by simp))
  repeat still_step
  refine wpStill_nil ?_
  go_wp2
  go_ret
  refine ⟨rfl, ?_⟩
  rw [HW.out, or_mark _ 128 (by omega) (by omega) (by omega)]
  rw [putL_4 h1 h2]
  rw [show n / 256 / 256 / 256 % 256 = n / 256 / 256 / 256 from by omega]
  go_simp
  simp [bts]

set_option maxRecDepth 10000 in
set_option maxHeartbeats 400000 in
theorem put_8 (n : Int) (w : World) (h1 : 1073741824 ≤ n) (h2 : n ≤ 4611686018427387903) :
    Calls Try.prog 106 #[.int .i64 n] w fun e w' => e = .returned (.slice (some ⟨w.heap.size, 0, none⟩) 8 8) ∧ w' = (w.alloc (.cells (bts (putL n)) 5)).drew := by
  have hmk : ∀ w, (Instr.makeSlice 23 (.int .i64 8) (.int .i64 8)).run Try.prog w = .ok (.slice (some ⟨w.heap.size, 0, none⟩) 8 8) (w.alloc (.cells #[.int .u8 0, .int .u8 0, .int .u8 0, .int .u8 0, .int .u8 0, .int .u8 0, .int .u8 0, .int .u8 0] 5)) := fun _ => by kernel_rfl
  have hs := szV_8 h1 h2
  have ha := and255
  go_enter Try.func106, Try.ntmps106
  go_wp2_with (go_at_call 126; refine (size_any _ _).mono ?_; rw [hs]; rintro e w' ⟨rfl, rfl⟩)
  go_rounds 9
  clear ha hs hmk
  refine still_tail 8 (by kernel_rfl) (by kernel_rfl) ?_
  intro W hW
  have hc : W.cell? ⟨w.heap.size, 0, none⟩ = some (.int .u8 (n / 256 / 256 / 256 / 256 / 256 / 256 / 256 % 256)) := by rw [hW]; go_simp
  have hf : W.frozen? ⟨w.heap.size, 0, none⟩ = false := by rw [hW]; go_simp
  have HW := Lib.hid hW
  clear hW
  simp only [List.take_succ_cons, List.take_zero, List.drop_succ_cons, List.drop_zero]
  repeat still_step
  still_call (mark_any 8 3 _ (by simp))
  repeat still_step
  refine wpStill_nil ?_
  go_wp2
  go_ret
  refine ⟨rfl, ?_⟩
  rw [HW.out, or_mark _ 192 (by omega) (by omega) (by omega)]
  rw [putL_8 h1 h2]
  rw [show n / 256 / 256 / 256 / 256 / 256 / 256 / 256 % 256 = n / 256 / 256 / 256 / 256 / 256 / 256 / 256 from by omega]
  go_simp
  simp [bts]

set_option maxRecDepth 10000 in
theorem put_no (n : Int) (w : World) (h : n < 0 ∨ 4611686018427387903 < n) :
    Calls Try.prog 106 #[.int .i64 n] w fun e w' => e = .returned (.slice none 0 0) ∧ w = w' := by
  have hs : szV n = 0 := by rcases h with h | h; exact szV_neg h; exact szV_big h
  clear h
  go_enter Try.func106, Try.ntmps106
  go_wp2_with (go_at_call 126; refine (size_any _ _).mono ?_; rw [hs]; rintro e w' ⟨rfl, rfl⟩)
  go_ret
  exact ⟨rfl, rfl⟩

set_option maxRecDepth 10000 in
/-- Put, of any number that has bytes. -/
theorem put_any (n : Int) (w : World) (h1 : 0 ≤ n) (h2 : n ≤ 4611686018427387903) :
    Calls Try.prog 106 #[.int .i64 n] w fun e w' =>
      e = .returned (.slice (some ⟨w.heap.size, 0, none⟩) (putL n).length (putL n).length) ∧ w' = (w.alloc (.cells (bts (putL n)) 5)).drew := by
  by_cases a : n < 64
  · have := put_1 n w h1 a; rw [putL_1 h1 a] at this ⊢; exact this
  · by_cases b : n < 16384
    · have := put_2 n w (by omega) b; rw [putL_2 (by omega) b] at this ⊢; exact this
    · by_cases c : n < 1073741824
      · have := put_4 n w (by omega) c; rw [putL_4 (by omega) c] at this ⊢; exact this
      · have := put_8 n w (by omega) h2; rw [putL_8 (by omega) h2] at this ⊢; exact this

set_option maxRecDepth 10000 in
/-- Put, of any int: a slice of the call's own. -/
theorem put_own (n : Int) (w : World) :
    Calls Try.prog 106 #[.int .i64 n] w fun e w' => ∃ A c, e = .returned (.slice A (putL n).length c) ∧ Own .u8 5 w' w.heap.size (.slice A (putL n).length c) (putL n) ∧ Below w.heap.size w w' := by
  by_cases h : n < 0 ∨ 4611686018427387903 < n
  · rw [putL_no h]
    refine (put_no n w h).mono ?_
    rintro e w' ⟨rfl, rfl⟩
    exact ⟨_, _, rfl, Own.nil _ _ _ _, Below.refl _ _⟩
  · refine (put_any n w (by omega) (by omega)).mono ?_
    rintro e w' ⟨rfl, rfl⟩
    exact ⟨_, _, rfl, (show Own _ _ (World.drew _) _ _ _ from Own.new w (putL n) _ (by have := putL_len n; unfold maxLen; omega)), ((Below.refl _ _).alloc (Nat.le_refl _) _).drew⟩
end Go.Proofs.Ytbjneoeiognahaa

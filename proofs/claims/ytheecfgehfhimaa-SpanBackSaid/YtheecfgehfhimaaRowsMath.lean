/-
  What is taken of what Put made, whatever is behind it; of a part of it; of it in needless bytes. No program.
-/
import Derived.Test.YtheecfgehfhimaaVintTakeMath
namespace Go.Proofs.Ytheecfgehfhimaa
open Go.RowKit

theorem takeV_putL {x : Int} (h0 : 0 ≤ x) (h1 : x ≤ 4611686018427387903) (r : List Int) : takeV (putL x ++ r) = (x, ((putL x).length : Int), true) := by
  rcases putL_cases x with h | h | h | h | h
  · omega
  · rw [putL_1 h.1 h.2]
    have hl : leadV x = 1 := by unfold leadV; rw [if_pos h.2]
    rw [takeV_yes (xs := [x] ++ r) (s := 1) (m := x) hl (by simp) (by simp) (show x % 64 = x by omega) (szV_1 h.1 h.2)]
    rfl
  · rw [putL_2 h.1 h.2]
    have hl : leadV (64 + x / 256) = 2 := by unfold leadV; rw [if_neg (by omega), if_pos (by omega)]
    rw [takeV_yes (xs := [64 + x / 256, x % 256] ++ r) (s := 2) (m := x) hl (by simp) (by simp) (show (64 + x / 256) % 64 * 256 + x % 256 = x by omega) (szV_2 h.1 h.2)]
    rfl
  · rw [putL_4 h.1 h.2]
    have hl : leadV (128 + x / 256 / 256 / 256) = 4 := by unfold leadV; rw [if_neg (by omega), if_neg (by omega), if_pos (by omega)]
    rw [takeV_yes (xs := [128 + x / 256 / 256 / 256, x / 256 / 256 % 256, x / 256 % 256, x % 256] ++ r) (s := 4) (m := x) hl (by simp) (by simp)
      (show (((128 + x / 256 / 256 / 256) % 64 * 256 + x / 256 / 256 % 256) * 256 + x / 256 % 256) * 256 + x % 256 = x by omega) (szV_4 h.1 h.2)]
    rfl
  · rw [putL_8 h.1 h.2]
    have hl : leadV (192 + x / 256 / 256 / 256 / 256 / 256 / 256 / 256) = 8 := by unfold leadV; rw [if_neg (by omega), if_neg (by omega), if_neg (by omega)]
    rw [takeV_yes (xs := [192 + x / 256 / 256 / 256 / 256 / 256 / 256 / 256, x / 256 / 256 / 256 / 256 / 256 / 256 % 256, x / 256 / 256 / 256 / 256 / 256 % 256, x / 256 / 256 / 256 / 256 % 256, x / 256 / 256 / 256 % 256, x / 256 / 256 % 256, x / 256 % 256, x % 256] ++ r) (s := 8) (m := x) hl (by simp) (by simp)
      (show (((((((192 + x / 256 / 256 / 256 / 256 / 256 / 256 / 256) % 64 * 256 + x / 256 / 256 / 256 / 256 / 256 / 256 % 256) * 256 + x / 256 / 256 / 256 / 256 / 256 % 256) * 256 + x / 256 / 256 / 256 / 256 % 256) * 256 + x / 256 / 256 / 256 % 256) * 256 + x / 256 / 256 % 256) * 256 + x / 256 % 256) * 256 + x % 256 = x by omega) (szV_8 h.1 h.2)]
    rfl

/-- A part of it is none. -/
theorem takeV_cut {x : Int} (h0 : 0 ≤ x) (h1 : x ≤ 4611686018427387903) {j : Nat} (hj : j < (putL x).length) : takeV ((putL x).take j) = (0, 0, false) := by
  by_cases hz : j = 0
  · subst hz; exact takeV_nil (by simp)
  · have hlead : leadV ((putL x).getD 0 0) = (putL x).length := by
      rcases putL_cases x with h | h | h | h | h
      · omega
      · rw [putL_1 h.1 h.2]; show leadV x = 1; unfold leadV; rw [if_pos h.2]
      · rw [putL_2 h.1 h.2]; show leadV (64 + x / 256) = 2; unfold leadV; rw [if_neg (by omega), if_pos (by omega)]
      · rw [putL_4 h.1 h.2]; show leadV (128 + x / 256 / 256 / 256) = 4; unfold leadV; rw [if_neg (by omega), if_neg (by omega), if_pos (by omega)]
      · rw [putL_8 h.1 h.2]; show leadV (192 + x / 256 / 256 / 256 / 256 / 256 / 256 / 256) = 8; unfold leadV; rw [if_neg (by omega), if_neg (by omega), if_neg (by omega)]
    apply takeV_short
    have e : ((putL x).take j).getD 0 0 = (putL x).getD 0 0 := by
      simp [List.getD, show 0 < j by omega]
    rw [e, hlead, List.length_take]
    omega

theorem putL_szV {x : Int} (h0 : 0 ≤ x) (h1 : x ≤ 4611686018427387903) : ((putL x).length : Int) = szV x := by
  rcases putL_cases x with h | h | h | h | h
  · omega
  · rw [putL_1 h.1 h.2, szV_1 h.1 h.2]; rfl
  · rw [putL_2 h.1 h.2, szV_2 h.1 h.2]; rfl
  · rw [putL_4 h.1 h.2, szV_4 h.1 h.2]; rfl
  · rw [putL_8 h.1 h.2, szV_8 h.1 h.2]; rfl
theorem putL_pos {x : Int} (h0 : 0 ≤ x) (h1 : x ≤ 4611686018427387903) : 0 < (putL x).length := by
  have := putL_szV h0 h1
  rcases putL_cases x with h | h | h | h | h
  · omega
  · rw [szV_1 h.1 h.2] at this; omega
  · rw [szV_2 h.1 h.2] at this; omega
  · rw [szV_4 h.1 h.2] at this; omega
  · rw [szV_8 h.1 h.2] at this; omega

/-- Numbers' bytes, one behind the other. -/
def catL : List Int → List Int
  | [] => []
  | x :: l => putL x ++ catL l
theorem catL_append (l m : List Int) : catL (l ++ m) = catL l ++ catL m := by
  induction l with
  | nil => rfl
  | cons x l ih => simp [catL, ih]
theorem catL_len : ∀ l : List Int, (catL l).length ≤ 8 * l.length
  | [] => by simp [catL]
  | x :: l => by have := catL_len l; have := putL_len x; simp [catL]; omega
theorem catL_bytes : ∀ l : List Int, ∀ a ∈ catL l, 0 ≤ a ∧ a < 256
  | [], a, h => by simp [catL] at h
  | x :: l, a, h => by
    rw [catL, List.mem_append] at h
    rcases h with h | h
    · exact putL_bytes x a h
    · exact catL_bytes l a h
theorem catL_snoc (l : List Int) (x : Int) : catL (l ++ [x]) = catL l ++ putL x := by rw [catL_append]; simp [catL]
/-- The bytes from the number j on. -/
theorem catL_drop (l : List Int) (j : Nat) (hj : j < l.length) : (catL l).drop (catL (l.take j)).length = putL (l.getD j 0) ++ catL (l.drop (j + 1)) := by
  have e : l = l.take j ++ (l.getD j 0 :: l.drop (j + 1)) := by
    have := List.take_append_drop j l
    rw [List.drop_eq_getElem_cons hj] at this
    rw [show l.getD j 0 = l[j] from by simp [List.getD, hj]]
    exact this.symm
  have e2 : catL l = catL (l.take j) ++ (putL (l.getD j 0) ++ catL (l.drop (j + 1))) := by
    conv => lhs; rw [e]
    rw [catL_append]; rfl
  rw [e2]
  simp
theorem catL_take_succ (l : List Int) (j : Nat) (hj : j < l.length) : catL (l.take (j + 1)) = catL (l.take j) ++ putL (l.getD j 0) := by
  rw [List.take_succ_eq_append_getElem hj, catL_snoc]
  simp [List.getD, hj]
theorem catL_take_le (l : List Int) (j : Nat) (hj : j < l.length) : (catL (l.take j)).length + (putL (l.getD j 0)).length ≤ (catL l).length := by
  have h1 := congrArg List.length (catL_drop l j hj)
  have h2 : 0 ≤ (catL (l.drop (j + 1))).length := Nat.zero_le _
  have h3 := List.take_append_drop j l
  have h4 := congrArg (fun m => (catL m).length) h3
  simp only [catL_append, List.length_append] at h4
  simp only [List.length_drop, List.length_append] at h1
  omega
end Go.Proofs.Ytheecfgehfhimaa

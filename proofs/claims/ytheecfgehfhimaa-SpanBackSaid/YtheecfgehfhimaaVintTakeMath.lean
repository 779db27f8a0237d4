/-
  Plain facts on taking a number out of bytes: what is taken ('takeV'), of what Put makes, of what is cut off or too long. No program.
-/
import Derived.Test.YtheecfgehfhimaaVintMath
namespace Go.Proofs.Ytheecfgehfhimaa
open Go.RowKit

/-- How many bytes the first one tells. -/
def leadV (x : Int) : Nat := if x < 64 then 1 else if x < 128 then 2 else if x < 192 then 4 else 8
/-- The number in so many bytes. -/
def numV (xs : List Int) : Nat → Int
  | 0 => 0
  | 1 => xs.getD 0 0 % 64
  | k + 2 => numV xs (k + 1) * 256 + xs.getD (k + 1) 0
/-- What is taken. -/
def takeV (xs : List Int) : Int × Int × Bool :=
  if xs.length = 0 then (0, 0, false)
  else if xs.length < leadV (xs.getD 0 0) then (0, 0, false)
  else if szV (numV xs (leadV (xs.getD 0 0))) = leadV (xs.getD 0 0) then (numV xs (leadV (xs.getD 0 0)), leadV (xs.getD 0 0), true)
  else (0, 0, false)

theorem takeV_nil {xs : List Int} (h : xs.length = 0) : takeV xs = (0, 0, false) := by simp [takeV, h]
theorem takeV_short {xs : List Int} (h : xs.length < leadV (xs.getD 0 0)) : takeV xs = (0, 0, false) := by
  unfold takeV
  by_cases h0 : xs.length = 0
  · rw [if_pos h0]
  · rw [if_neg h0, if_pos h]
theorem takeV_no {xs : List Int} {s : Nat} {m : Int} (hs : leadV (xs.getD 0 0) = s) (hl : ¬ xs.length < s) (hm : numV xs s = m) (hz : szV m ≠ s) : takeV xs = (0, 0, false) := by
  unfold takeV; split
  · rfl
  · rw [hs, if_neg hl, hm, if_neg hz]
theorem takeV_yes {xs : List Int} {s : Nat} {m : Int} (hs : leadV (xs.getD 0 0) = s) (h0 : 0 < xs.length) (hl : ¬ xs.length < s) (hm : numV xs s = m) (hz : szV m = s) : takeV xs = (m, (s : Int), true) := by
  unfold takeV
  rw [if_neg (by omega), hs, if_neg hl, hm, if_pos hz]

theorem or256 (n d : Int) (h0 : 0 ≤ n) (h1 : n < 36028797018963968) (d0 : 0 ≤ d) (d1 : d < 256) : bits .or .i64 (n * 256) d = n * 256 + d :=
  bits_join .i64 63 (by decide) (fun n h0 h1 => by rw [IntKind.wrap_i64]; omega) 8 (n * 256) d (by omega) (by omega) (by omega) d0 (by omega) (by omega)

theorem numV_bd {xs : List Int} (hb : ∀ i, i < xs.length → 0 ≤ xs.getD i 0 ∧ xs.getD i 0 < 256) (i : Nat) : i < xs.length → i < 8 → 0 ≤ numV xs (i + 1) ∧ numV xs (i + 1) < 64 * 256 ^ i := by
  induction i with
  | zero => intro h _; have := hb 0 h; simp only [numV]; omega
  | succ i ih =>
    intro h h8
    have h1 := ih (by omega) (by omega)
    have h2 := hb (i + 1) h
    show 0 ≤ numV xs (i + 1) * 256 + xs.getD (i + 1) 0 ∧ numV xs (i + 1) * 256 + xs.getD (i + 1) 0 < 64 * 256 ^ (i + 1)
    rw [Int.pow_succ]
    omega
theorem lt_or_ge' (a b : Int) : a < b ∨ b ≤ a := by omega
theorem take1 {xs : List Int} (h : 1 ≤ xs.length) : xs.take 1 = [xs.getD 0 0] := by
  match xs, h with
  | a :: _, _ => rfl
theorem take2 {xs : List Int} (h : 2 ≤ xs.length) : xs.take 2 = [xs.getD 0 0, xs.getD 1 0] := by
  match xs, h with
  | a :: b :: _, _ => rfl
theorem take4 {xs : List Int} (h : 4 ≤ xs.length) : xs.take 4 = [xs.getD 0 0, xs.getD 1 0, xs.getD 2 0, xs.getD 3 0] := by
  match xs, h with
  | a :: b :: c :: d :: _, _ => rfl
theorem take8 {xs : List Int} (h : 8 ≤ xs.length) : xs.take 8 = [xs.getD 0 0, xs.getD 1 0, xs.getD 2 0, xs.getD 3 0, xs.getD 4 0, xs.getD 5 0, xs.getD 6 0, xs.getD 7 0] := by
  match xs, h with
  | _ :: _ :: _ :: _ :: _ :: _ :: _ :: _ :: _, _ => rfl

/-- Bytes whose number has just their size are what Put makes of it. -/
theorem putL_numV {xs : List Int} (hb : ∀ i, i < xs.length → 0 ≤ xs.getD i 0 ∧ xs.getD i 0 < 256) {s : Nat} (hs : leadV (xs.getD 0 0) = s) (h0 : 0 < xs.length) (hl : s ≤ xs.length) (hz : szV (numV xs s) = s) : putL (numV xs s) = xs.take s := by
  have hb' := hb
  have b0 := hb 0 h0
  have hnb := numV_bd hb'
  unfold leadV at hs
  split at hs
  · subst hs
    have := hnb 0 (by omega) (by omega)
    have e : numV xs 1 = xs.getD 0 0 % 64 := rfl
    rw [take1 hl, e, putL_1 (by omega) (by omega)]
    simp only [List.cons.injEq, and_true]; omega
  · split at hs
    · subst hs
      have b1 := hb 1 (by omega)
      have e : numV xs 2 = xs.getD 0 0 % 64 * 256 + xs.getD 1 0 := rfl
      have hge : 64 ≤ numV xs 2 := by
        rcases lt_or_ge' (numV xs 2) 64 with h | h
        · rw [szV_1 (by omega) h] at hz; omega
        · exact h
      rw [take2 hl, putL_2 hge (by omega), e]
      simp only [List.cons.injEq, and_true]; omega
    · split at hs
      · subst hs
        have b1 := hb 1 (by omega)
        have b2 := hb 2 (by omega)
        have b3 := hb 3 (by omega)
        have e : numV xs 4 = ((xs.getD 0 0 % 64 * 256 + xs.getD 1 0) * 256 + xs.getD 2 0) * 256 + xs.getD 3 0 := rfl
        have hge : 16384 ≤ numV xs 4 := by
          rcases lt_or_ge' (numV xs 4) 16384 with h | h
          · rcases lt_or_ge' (numV xs 4) 64 with h' | h'
            · rw [szV_1 (by omega) h'] at hz; omega
            · rw [szV_2 h' h] at hz; omega
          · exact h
        rw [take4 hl, putL_4 hge (by omega), e]
        simp only [List.cons.injEq, and_true]; omega
      · subst hs
        have b1 := hb 1 (by omega)
        have b2 := hb 2 (by omega)
        have b3 := hb 3 (by omega)
        have b4 := hb 4 (by omega)
        have b5 := hb 5 (by omega)
        have b6 := hb 6 (by omega)
        have b7 := hb 7 (by omega)
        have e : numV xs 8 = ((((((xs.getD 0 0 % 64 * 256 + xs.getD 1 0) * 256 + xs.getD 2 0) * 256 + xs.getD 3 0) * 256 + xs.getD 4 0) * 256 + xs.getD 5 0) * 256 + xs.getD 6 0) * 256 + xs.getD 7 0 := rfl
        have hge : 1073741824 ≤ numV xs 8 := by
          rcases lt_or_ge' (numV xs 8) 1073741824 with h | h
          · rcases lt_or_ge' (numV xs 8) 16384 with h1 | h1
            · rcases lt_or_ge' (numV xs 8) 64 with h' | h'
              · rw [szV_1 (by omega) h'] at hz; omega
              · rw [szV_2 h' h1] at hz; omega
            · rw [szV_4 h1 h] at hz; omega
          · exact h
        rw [take8 hl, putL_8 hge (by omega), e]
        simp only [List.cons.injEq, and_true]; omega

end Go.Proofs.Ytheecfgehfhimaa

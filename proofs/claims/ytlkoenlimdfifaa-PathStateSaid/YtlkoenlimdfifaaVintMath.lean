/-
  Plain facts on the numbers in one, two, four or eight bytes (chapter 1): sizes, bytes, Zig and Zag as functions on integers. No program.
-/
import Derived.IntWalk
import Derived.Laws.BitsLemmas
namespace Go.Proofs.Ytlkoenlimdfifaa
open Go.RowKit

/-- How many bytes n has. -/
def szV (n : Int) : Int :=
  if n < 0 then 0 else if 4611686018427387903 < n then 0 else if n < 64 then 1 else if n < 16384 then 2 else if n < 1073741824 then 4 else 8

set_option maxRecDepth 10000 in
theorem szV_neg {n : Int} (h : n < 0) : szV n = 0 := by simp [szV, h]
set_option maxRecDepth 10000 in
theorem szV_big {n : Int} (h : 4611686018427387903 < n) : szV n = 0 := by unfold szV; split <;> simp_all
set_option maxRecDepth 10000 in
theorem szV_1 {n : Int} (h0 : 0 ≤ n) (h : n < 64) : szV n = 1 := by
  unfold szV; rw [if_neg (by omega), if_neg (by omega), if_pos h]
set_option maxRecDepth 10000 in
theorem szV_2 {n : Int} (h0 : 64 ≤ n) (h : n < 16384) : szV n = 2 := by
  unfold szV; rw [if_neg (by omega), if_neg (by omega), if_neg (by omega), if_pos h]
set_option maxRecDepth 10000 in
theorem szV_4 {n : Int} (h0 : 16384 ≤ n) (h : n < 1073741824) : szV n = 4 := by
  unfold szV; rw [if_neg (by omega), if_neg (by omega), if_neg (by omega), if_neg (by omega), if_pos h]
set_option maxRecDepth 10000 in
theorem szV_8 {n : Int} (h0 : 1073741824 ≤ n) (h : n ≤ 4611686018427387903) : szV n = 8 := by
  unfold szV; rw [if_neg (by omega), if_neg (by omega), if_neg (by omega), if_neg (by omega), if_neg (by omega)]

/-- The Zig of n. -/
def zigV (n : Int) : Int := if n < -2305843009213693952 then -1 else if 2305843009213693951 < n then -1 else if n < 0 then -2 * n - 1 else 2 * n
/-- The Zag of m. -/
def zagV (m : Int) : Int := if m < 0 then 0 else if 4611686018427387903 < m then 0 else if m % 2 = 1 then -(m / 2) - 1 else m / 2

set_option maxRecDepth 10000 in
theorem zagV_zigV {n : Int} (h1 : -2305843009213693952 ≤ n) (h2 : n ≤ 2305843009213693951) : zagV (zigV n) = n := by
  unfold zigV zagV; split <;> (repeat' (first | omega | split))
set_option maxRecDepth 10000 in
theorem zigV_bd {n : Int} (h1 : -2305843009213693952 ≤ n) (h2 : n ≤ 2305843009213693951) : 0 ≤ zigV n ∧ zigV n ≤ 4611686018427387903 := by
  unfold zigV; constructor <;> (repeat' (first | omega | split))
set_option maxRecDepth 10000 in
theorem zigV_odd {n : Int} (h1 : -2305843009213693952 ≤ n) (h2 : n ≤ 2305843009213693951) : zigV n % 2 = 1 ↔ n < 0 := by
  unfold zigV; constructor <;> (repeat' (first | omega | split))
set_option maxRecDepth 10000 in
theorem zigV_inj {n m : Int} (h1 : -2305843009213693952 ≤ n) (h2 : n ≤ 2305843009213693951) (k1 : -2305843009213693952 ≤ m) (k2 : m ≤ 2305843009213693951) : zigV n = zigV m ↔ n = m := by
  constructor
  · intro h
    have := zagV_zigV h1 h2
    have := zagV_zigV k1 k2
    rw [h] at *
    omega
  · rintro rfl; rfl

set_option maxRecDepth 10000 in
/-- Within: the remainder that Go's '%' and one addition leave. -/
theorem within_lt {v n : Int} (h1 : 1 ≤ n) (h2 : n ≤ 4611686018427387904) (h : v.tmod n < 0) : wrap64 (v.tmod n + n) = v % n := by
  have hl := Int.lt_tmod_of_pos v (show 0 < n by omega)
  rw [IntWalk.wrap64_in _ (by omega)]
  have he := Int.tmod_def v n
  have hlt : v.tmod n + n < n := by omega
  rw [← Int.emod_eq_of_lt (show 0 ≤ v.tmod n + n by omega) hlt, he]
  have : v - n * v.tdiv n + n = v + n * (1 - v.tdiv n) := by rw [Int.mul_sub]; omega
  rw [this, Int.add_mul_emod_self_left]
set_option maxRecDepth 10000 in
theorem within_ge {v n : Int} (h1 : 1 ≤ n) (h : 0 ≤ v.tmod n) : v.tmod n = v % n := by
  have hl := Int.tmod_lt_of_pos v (show 0 < n by omega)
  have he := Int.tmod_def v n
  rw [← Int.emod_eq_of_lt h hl, he, Int.sub_eq_add_neg, ← Int.mul_neg, Int.add_mul_emod_self_left]

/-- The bytes of n. -/
def putL (n : Int) : List Int :=
  if szV n = 1 then [n] else if szV n = 2 then [64 + n / 256, n % 256]
  else if szV n = 4 then [128 + n / 256 / 256 / 256, n / 256 / 256 % 256, n / 256 % 256, n % 256]
  else if szV n = 8 then [192 + n / 256 / 256 / 256 / 256 / 256 / 256 / 256, n / 256 / 256 / 256 / 256 / 256 / 256 % 256, n / 256 / 256 / 256 / 256 / 256 % 256, n / 256 / 256 / 256 / 256 % 256, n / 256 / 256 / 256 % 256, n / 256 / 256 % 256, n / 256 % 256, n % 256] else []
set_option maxRecDepth 10000 in
theorem putL_1 {n : Int} (h0 : 0 ≤ n) (h : n < 64) : putL n = [n] := by simp [putL, szV_1 h0 h]
set_option maxRecDepth 10000 in
theorem putL_2 {n : Int} (h0 : 64 ≤ n) (h : n < 16384) : putL n = [64 + n / 256, n % 256] := by simp [putL, szV_2 h0 h]
set_option maxRecDepth 10000 in
theorem putL_4 {n : Int} (h0 : 16384 ≤ n) (h : n < 1073741824) : putL n = [128 + n / 256 / 256 / 256, n / 256 / 256 % 256, n / 256 % 256, n % 256] := by simp [putL, szV_4 h0 h]
set_option maxRecDepth 10000 in
theorem putL_8 {n : Int} (h0 : 1073741824 ≤ n) (h : n ≤ 4611686018427387903) : putL n = [192 + n / 256 / 256 / 256 / 256 / 256 / 256 / 256, n / 256 / 256 / 256 / 256 / 256 / 256 % 256, n / 256 / 256 / 256 / 256 / 256 % 256, n / 256 / 256 / 256 / 256 % 256, n / 256 / 256 / 256 % 256, n / 256 / 256 % 256, n / 256 % 256, n % 256] := by simp [putL, szV_8 h0 h]
set_option maxRecDepth 10000 in
theorem putL_no {n : Int} (h : n < 0 ∨ 4611686018427387903 < n) : putL n = [] := by
  have : szV n = 0 := by rcases h with h | h; exact szV_neg h; exact szV_big h
  simp [putL, this]
set_option maxRecDepth 10000 in
theorem or_mark (x m : Int) (h0 : 0 ≤ x) (h1 : x < 64) (hm : m = 0 ∨ m = 64 ∨ m = 128 ∨ m = 192) : bits .or .u8 x m = m + x := by
  have hc : bits .or .u8 x m = bits .or .u8 m x := by simp only [bits, BitVec.or_comm]
  rw [hc, bits_join .u8 8 (by decide) wraps_u8 6 m x (by omega) (by omega) (by omega) h0 h1 (by omega)]

set_option maxRecDepth 10000 in
theorem putL_cases (n : Int) : (n < 0 ∨ 4611686018427387903 < n) ∨ (0 ≤ n ∧ n < 64) ∨ (64 ≤ n ∧ n < 16384) ∨ (16384 ≤ n ∧ n < 1073741824) ∨ (1073741824 ≤ n ∧ n ≤ 4611686018427387903) := by omega
set_option maxRecDepth 10000 in
theorem putL_len (n : Int) : (putL n).length ≤ 8 := by
  rcases putL_cases n with h | h | h | h | h
  · rw [putL_no h]; simp
  · rw [putL_1 h.1 h.2]; simp
  · rw [putL_2 h.1 h.2]; simp
  · rw [putL_4 h.1 h.2]; simp
  · rw [putL_8 h.1 h.2]; simp
set_option maxRecDepth 10000 in
theorem putL_bytes (n : Int) : ∀ x ∈ putL n, 0 ≤ x ∧ x < 256 := by
  rcases putL_cases n with h | h | h | h | h
  · rw [putL_no h]; simp
  · rw [putL_1 h.1 h.2]; simp; omega
  · rw [putL_2 h.1 h.2]; simp; omega
  · rw [putL_4 h.1 h.2]; simp; omega
  · rw [putL_8 h.1 h.2]; simp; omega

end Go.Proofs.Ytlkoenlimdfifaa

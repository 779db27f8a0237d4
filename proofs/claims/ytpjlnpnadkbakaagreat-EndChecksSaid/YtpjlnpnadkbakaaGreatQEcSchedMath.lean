/-
  SchedMath · VintMath · PktMath · PktMem.
-/
import Derived.Test.YtpjlnpnadkbakaaGreatRows
import Derived.IntWalk
import Derived.Laws.BitsLemmas
import Derived.Test.YtpjlnpnadkbakaaGreatQEcClamp
import Derived.Deep.MidRow
import Derived.Deep.OwnRows
import Derived.Laws.ResultCell
namespace Go.Proofs.YtpjlnpnadkbakaaGreat
set_option maxRecDepth 10000

/-- None of the paths can be used. -/
def NoneU (ms : List Int) : Prop := ∀ i : Nat, i < ms.length → ms.getD i 0 < 0
/-- The first i paths: those that can be used, rising. -/
def canF (ms : List Int) : Nat → List Int
  | 0 => []
  | i + 1 => if 0 ≤ ms.getD i 0 then canF ms i ++ [(i : Int)] else canF ms i
def can (ms : List Int) : List Int := canF ms ms.length
theorem canF_yes {ms : List Int} {i : Nat} (h : 0 ≤ ms.getD i 0) : canF ms (i + 1) = canF ms i ++ [(i : Int)] := by simp only [canF, if_pos h]
theorem canF_no {ms : List Int} {i : Nat} (h : ms.getD i 0 < 0) : canF ms (i + 1) = canF ms i := by simp only [canF, if_neg (show ¬ 0 ≤ ms.getD i 0 by omega)]
theorem canF_len (ms : List Int) (i : Nat) : (canF ms i).length ≤ i := by
  induction i with
  | zero => simp [canF]
  | succ i ih =>
    unfold canF
    split
    · rw [List.length_append, List.length_singleton]; omega
    · omega
/-- Each of them can be used, and lies among the first. -/
theorem canF_at {ms : List Int} {i : Nat} {j : Nat} (h : j < (canF ms i).length) : ∃ p : Nat, (canF ms i).getD j 0 = (p : Int) ∧ p < i ∧ 0 ≤ ms.getD p 0 := by
  induction i with
  | zero => simp [canF] at h
  | succ i ih =>
    by_cases hu : 0 ≤ ms.getD i 0
    · rw [canF_yes hu] at h ⊢
      by_cases hj : j < (canF ms i).length
      · obtain ⟨p, h1, h2, h3⟩ := ih hj
        refine ⟨p, ?_, by omega, h3⟩
        rw [← h1]
        simp only [List.getD_eq_getElem?_getD]
        rw [List.getElem?_append_left hj]
      · have e : j = (canF ms i).length := by rw [List.length_append, List.length_singleton] at h; omega
        refine ⟨i, ?_, by omega, hu⟩
        rw [e]
        simp only [List.getD_eq_getElem?_getD]
        rw [List.getElem?_append_right (Nat.le_refl _), Nat.sub_self]
        rfl
    · rw [canF_no (by omega)] at h ⊢
      obtain ⟨p, h1, h2, h3⟩ := ih h
      exact ⟨p, h1, by omega, h3⟩
/-- Each that can be used is there. -/
theorem canF_all {ms : List Int} {i : Nat} {p : Nat} (hp : p < i) (hu : 0 ≤ ms.getD p 0) : ∃ j, j < (canF ms i).length ∧ (canF ms i).getD j 0 = (p : Int) := by
  induction i with
  | zero => omega
  | succ i ih =>
    have grow : ∀ j, j < (canF ms i).length → (canF ms i).getD j 0 = (p : Int) → ∃ j, j < (canF ms (i + 1)).length ∧ (canF ms (i + 1)).getD j 0 = (p : Int) := fun j h1 h2 => by
      by_cases hi : 0 ≤ ms.getD i 0
      · rw [canF_yes hi]
        refine ⟨j, by rw [List.length_append]; omega, ?_⟩
        rw [← h2]
        simp only [List.getD_eq_getElem?_getD]
        rw [List.getElem?_append_left h1]
      · rw [canF_no (by omega)]; exact ⟨j, h1, h2⟩
    by_cases e : p = i
    · subst e
      rw [canF_yes hu]
      refine ⟨(canF ms p).length, by rw [List.length_append, List.length_singleton]; omega, ?_⟩
      simp only [List.getD_eq_getElem?_getD]
      rw [List.getElem?_append_right (Nat.le_refl _), Nat.sub_self]
      rfl
    · obtain ⟨j, h1, h2⟩ := ih (by omega)
      exact grow j h1 h2
/-- Rising. -/
theorem canF_rise {ms : List Int} {i : Nat} {j k : Nat} (hjk : j < k) (hk : k < (canF ms i).length) : (canF ms i).getD j 0 < (canF ms i).getD k 0 := by
  induction i with
  | zero => simp [canF] at hk
  | succ i ih =>
    by_cases hu : 0 ≤ ms.getD i 0
    · rw [canF_yes hu] at hk ⊢
      have left : ∀ j, j < (canF ms i).length → (canF ms i ++ [(i : Int)]).getD j 0 = (canF ms i).getD j 0 := fun j h => by
        simp only [List.getD_eq_getElem?_getD]
        rw [List.getElem?_append_left h]
      by_cases hk2 : k < (canF ms i).length
      · rw [left j (by omega), left k hk2]; exact ih hk2
      · have e : k = (canF ms i).length := by rw [List.length_append, List.length_singleton] at hk; omega
        subst e
        obtain ⟨p, h1, h2, _⟩ := canF_at hjk
        rw [left j hjk, h1]
        simp only [List.getD_eq_getElem?_getD]
        rw [List.getElem?_append_right (Nat.le_refl _), Nat.sub_self]
        simp
        omega
    · rw [canF_no (by omega)] at hk ⊢
      exact ih hk
theorem can_none {ms : List Int} : NoneU ms ↔ can ms = [] := by
  constructor
  · intro h
    by_cases h0 : (can ms).length = 0
    · exact List.eq_nil_of_length_eq_zero h0
    · obtain ⟨p, _, h2, h3⟩ := canF_at (ms := ms) (i := ms.length) (j := 0) (by unfold can at h0; omega)
      have := h p h2
      omega
  · intro h i hi
    by_cases hu : 0 ≤ ms.getD i 0
    · obtain ⟨j, h1, _⟩ := canF_all hi hu
      unfold can at h
      rw [h] at h1
      simp at h1
    · omega

/-- By turns: the first that can be used behind l, round. -/
structure RoundP (ms : List Int) (l : Int) (b : Nat) : Prop where
  lt : b < ms.length
  us : 0 ≤ ms.getD b 0
  next : (l < (b : Int) ∧ ∀ j : Nat, l < (j : Int) → j < b → ms.getD j 0 < 0) ∨ ((∀ j : Nat, l < (j : Int) → j < ms.length → ms.getD j 0 < 0) ∧ ∀ j : Nat, j < b → ms.getD j 0 < 0)
theorem RoundP.eq {ms : List Int} {l : Int} {b c : Nat} (h : RoundP ms l b) (h' : RoundP ms l c) : b = c := by
  have hb := h.us
  have hc := h'.us
  rcases Nat.lt_trichotomy b c with x | x | x
  · exfalso
    rcases h.next with ⟨h1, h2⟩ | ⟨h1, h2⟩ <;> rcases h'.next with ⟨h3, h4⟩ | ⟨h3, h4⟩
    · have := h4 b h1 x; omega
    · have := h3 b h1 h.lt; omega
    · have := h1 c h3 h'.lt; omega
    · have := h4 b x; omega
  · exact x
  · exfalso
    rcases h.next with ⟨h1, h2⟩ | ⟨h1, h2⟩ <;> rcases h'.next with ⟨h3, h4⟩ | ⟨h3, h4⟩
    · have := h2 c h3 x; omega
    · have := h3 b h1 h.lt; omega
    · have := h1 c h3 h'.lt; omega
    · have := h2 c x; omega
/-- The quickest, the first such. -/
structure QuickP (ms : List Int) (b : Nat) : Prop where
  lt : b < ms.length
  us : 0 ≤ ms.getD b 0
  least : ∀ j : Nat, j < ms.length → 0 ≤ ms.getD j 0 → ms.getD b 0 ≤ ms.getD j 0 ∧ (j < b → ms.getD b 0 < ms.getD j 0)
theorem QuickP.eq {ms : List Int} {b c : Nat} (h : QuickP ms b) (h' : QuickP ms c) : b = c := by
  have h1 := h.least c h'.lt h'.us
  have h2 := h'.least b h.lt h.us
  rcases Nat.lt_trichotomy b c with x | x | x
  · have := h2.2 x; omega
  · exact x
  · have := h1.2 x; omega

/-- Found on the way through those that can be used. -/
theorem round_found {ms : List Int} {l : Int} {j : Nat} (hj : j < (can ms).length) (all : ∀ i, i < j → (can ms).getD i 0 ≤ l) (hgt : l < (can ms).getD j 0) : ∃ b : Nat, (can ms).getD j 0 = (b : Int) ∧ RoundP ms l b := by
  obtain ⟨b, h1, h2, h3⟩ := canF_at (ms := ms) (i := ms.length) hj
  refine ⟨b, h1, h2, h3, .inl ⟨by unfold can at hgt; omega, fun q hq hqb => ?_⟩⟩
  by_cases hu : 0 ≤ ms.getD q 0
  · obtain ⟨i, i1, i2⟩ := canF_all (i := ms.length) (show q < ms.length by omega) hu
    by_cases hij : i < j
    · have := all i hij; unfold can at this; omega
    · by_cases e : i = j
      · subst e; omega
      · have := canF_rise (show j < i by omega) i1
        omega
  · omega
theorem round_wrap {ms : List Int} {l : Int} (h0 : 0 < (can ms).length) (all : ∀ i, i < (can ms).length → (can ms).getD i 0 ≤ l) : ∃ b : Nat, (can ms).getD 0 0 = (b : Int) ∧ RoundP ms l b := by
  obtain ⟨b, h1, h2, h3⟩ := canF_at (ms := ms) (i := ms.length) h0
  refine ⟨b, h1, h2, h3, .inr ⟨fun q hq hqb => ?_, fun q hq => ?_⟩⟩
  · by_cases hu : 0 ≤ ms.getD q 0
    · obtain ⟨i, i1, i2⟩ := canF_all (i := ms.length) hqb hu
      have := all i i1; unfold can at this; omega
    · omega
  · by_cases hu : 0 ≤ ms.getD q 0
    · obtain ⟨i, i1, i2⟩ := canF_all (i := ms.length) (show q < ms.length by omega) hu
      by_cases e : i = 0
      · subst e; omega
      · have := canF_rise (show 0 < i by omega) i1
        omega
    · omega
theorem quick_best {ms : List Int} {B : Nat} (hB : B < (can ms).length) (all : ∀ j, j < (can ms).length → ms.getD ((can ms).getD B 0).toNat 0 ≤ ms.getD ((can ms).getD j 0).toNat 0 ∧ (j < B → ms.getD ((can ms).getD B 0).toNat 0 < ms.getD ((can ms).getD j 0).toNat 0)) : ∃ b : Nat, (can ms).getD B 0 = (b : Int) ∧ QuickP ms b := by
  obtain ⟨b, h1, h2, h3⟩ := canF_at (ms := ms) (i := ms.length) hB
  refine ⟨b, h1, h2, h3, fun q hq hu => ?_⟩
  obtain ⟨i, i1, i2⟩ := canF_all (i := ms.length) hq hu
  have h := all i i1
  unfold can at h
  rw [h1, i2, Int.toNat_natCast, Int.toNat_natCast] at h
  refine ⟨h.1, fun hqb => h.2 ?_⟩
  by_cases hij : i < B
  · exact hij
  · by_cases e : i = B
    · subst e; omega
    · have := canF_rise (show B < i by omega) i1
      omega

/-- A Sched of the kind k, that picked l last, picks L of the means ms; then l' was picked last. -/
def IsPick (k l : Int) (ms : List Int) (L : List Int) (l' : Int) : Prop :=
  (NoneU ms ∧ L = [] ∧ l' = l) ∨ (¬ NoneU ms ∧ ((k = 3 ∧ L = can ms ∧ l' = l) ∨ (k = 2 ∧ ∃ b : Nat, RoundP ms l b ∧ L = [(b : Int)] ∧ l' = b) ∨ (k ≠ 2 ∧ k ≠ 3 ∧ ∃ b : Nat, QuickP ms b ∧ L = [(b : Int)] ∧ l' = l)))
theorem IsPick.eq {k l : Int} {ms L M : List Int} {l' m' : Int} (h : IsPick k l ms L l') (h' : IsPick k l ms M m') : L = M ∧ l' = m' := by
  rcases h with ⟨h1, h2, h3⟩ | ⟨h1, h2⟩
  · rcases h' with ⟨_, g2, g3⟩ | ⟨g1, _⟩
    · exact ⟨h2.trans g2.symm, h3.trans g3.symm⟩
    · exact absurd h1 g1
  · rcases h' with ⟨g1, _⟩ | ⟨_, g2⟩
    · exact absurd g1 h1
    · rcases h2 with ⟨a1, a2, a3⟩ | ⟨a1, b, a2, a3, a4⟩ | ⟨a1, a2, b, a3, a4, a5⟩ <;> rcases g2 with ⟨b1, b2, b3⟩ | ⟨b1, c, b2, b3, b4⟩ | ⟨b1, b2, c, b3, b4, b5⟩
      · exact ⟨a2.trans b2.symm, a3.trans b3.symm⟩
      · omega
      · omega
      · omega
      · obtain rfl := a2.eq b2
        exact ⟨a3.trans b3.symm, a4.trans b4.symm⟩
      · omega
      · omega
      · omega
      · obtain rfl := a3.eq b3
        exact ⟨a4.trans b4.symm, a5.trans b5.symm⟩
/-- What was picked last is a place below what there is, or nothing. -/
theorem IsPick.last {k l : Int} {ms L : List Int} {l' : Int} (h : IsPick k l ms L l') {N : Int} (hl : -1 ≤ l ∧ l ≤ N) (hm : (ms.length : Int) ≤ N) : -1 ≤ l' ∧ l' ≤ N := by
  rcases h with ⟨_, _, h3⟩ | ⟨_, ⟨_, _, h3⟩ | ⟨_, b, h2, _, h3⟩ | ⟨_, _, b, _, _, h3⟩⟩
  · omega
  · omega
  · have := h2.lt; omega
  · omega
theorem IsPick.len {k l : Int} {ms L : List Int} {l' : Int} (h : IsPick k l ms L l') : L.length ≤ ms.length := by
  rcases h with ⟨_, h3, _⟩ | ⟨_, ⟨_, h3, _⟩ | ⟨_, b, h2, h3, _⟩ | ⟨_, _, b, h2, h3, _⟩⟩
  · rw [h3]; simp
  · rw [h3]; exact canF_len ms _
  · rw [h3]; have := h2.lt; simp; omega
  · rw [h3]; have := h2.lt; simp; omega
end Go.Proofs.YtpjlnpnadkbakaaGreat
namespace Go.Proofs.YtpjlnpnadkbakaaGreat
set_option maxRecDepth 10000
open Go.RowKit

/-- How many bytes n has. -/
def szV (n : Int) : Int :=
  if n < 0 then 0 else if 4611686018427387903 < n then 0 else if n < 64 then 1 else if n < 16384 then 2 else if n < 1073741824 then 4 else 8

theorem szV_neg {n : Int} (h : n < 0) : szV n = 0 := by simp [szV, h]
theorem szV_big {n : Int} (h : 4611686018427387903 < n) : szV n = 0 := by unfold szV; split <;> simp_all
theorem szV_1 {n : Int} (h0 : 0 ≤ n) (h : n < 64) : szV n = 1 := by
  unfold szV; rw [if_neg (by omega), if_neg (by omega), if_pos h]
theorem szV_2 {n : Int} (h0 : 64 ≤ n) (h : n < 16384) : szV n = 2 := by
  unfold szV; rw [if_neg (by omega), if_neg (by omega), if_neg (by omega), if_pos h]
theorem szV_4 {n : Int} (h0 : 16384 ≤ n) (h : n < 1073741824) : szV n = 4 := by
  unfold szV; rw [if_neg (by omega), if_neg (by omega), if_neg (by omega), if_neg (by omega), if_pos h]
theorem szV_8 {n : Int} (h0 : 1073741824 ≤ n) (h : n ≤ 4611686018427387903) : szV n = 8 := by
  unfold szV; rw [if_neg (by omega), if_neg (by omega), if_neg (by omega), if_neg (by omega), if_neg (by omega)]

/-- The Zig of n. -/
def zigV (n : Int) : Int := if n < -2305843009213693952 then -1 else if 2305843009213693951 < n then -1 else if n < 0 then -2 * n - 1 else 2 * n
/-- The Zag of m. -/
def zagV (m : Int) : Int := if m < 0 then 0 else if 4611686018427387903 < m then 0 else if m % 2 = 1 then -(m / 2) - 1 else m / 2

theorem zagV_zigV {n : Int} (h1 : -2305843009213693952 ≤ n) (h2 : n ≤ 2305843009213693951) : zagV (zigV n) = n := by
  unfold zigV zagV; split <;> (repeat' (first | omega | split))
theorem zigV_bd {n : Int} (h1 : -2305843009213693952 ≤ n) (h2 : n ≤ 2305843009213693951) : 0 ≤ zigV n ∧ zigV n ≤ 4611686018427387903 := by
  unfold zigV; constructor <;> (repeat' (first | omega | split))
theorem zigV_odd {n : Int} (h1 : -2305843009213693952 ≤ n) (h2 : n ≤ 2305843009213693951) : zigV n % 2 = 1 ↔ n < 0 := by
  unfold zigV; constructor <;> (repeat' (first | omega | split))
theorem zigV_inj {n m : Int} (h1 : -2305843009213693952 ≤ n) (h2 : n ≤ 2305843009213693951) (k1 : -2305843009213693952 ≤ m) (k2 : m ≤ 2305843009213693951) : zigV n = zigV m ↔ n = m := by
  constructor
  · intro h
    have := zagV_zigV h1 h2
    have := zagV_zigV k1 k2
    rw [h] at *
    omega
  · rintro rfl; rfl

/-- Within: the remainder that Go's '%' and one addition leave. -/
theorem within_lt {v n : Int} (h1 : 1 ≤ n) (h2 : n ≤ 4611686018427387904) (h : v.tmod n < 0) : wrap64 (v.tmod n + n) = v % n := by
  have hl := Int.lt_tmod_of_pos v (show 0 < n by omega)
  rw [IntWalk.wrap64_in _ (by omega)]
  have he := Int.tmod_def v n
  have hlt : v.tmod n + n < n := by omega
  rw [← Int.emod_eq_of_lt (show 0 ≤ v.tmod n + n by omega) hlt, he]
  have : v - n * v.tdiv n + n = v + n * (1 - v.tdiv n) := by rw [Int.mul_sub]; omega
  rw [this, Int.add_mul_emod_self_left]
theorem within_ge {v n : Int} (h1 : 1 ≤ n) (h : 0 ≤ v.tmod n) : v.tmod n = v % n := by
  have hl := Int.tmod_lt_of_pos v (show 0 < n by omega)
  have he := Int.tmod_def v n
  rw [← Int.emod_eq_of_lt h hl, he, Int.sub_eq_add_neg, ← Int.mul_neg, Int.add_mul_emod_self_left]

/-- The bytes of n. -/
def putL (n : Int) : List Int :=
  if szV n = 1 then [n] else if szV n = 2 then [64 + n / 256, n % 256]
  else if szV n = 4 then [128 + n / 256 / 256 / 256, n / 256 / 256 % 256, n / 256 % 256, n % 256]
  else if szV n = 8 then [192 + n / 256 / 256 / 256 / 256 / 256 / 256 / 256, n / 256 / 256 / 256 / 256 / 256 / 256 % 256, n / 256 / 256 / 256 / 256 / 256 % 256, n / 256 / 256 / 256 / 256 % 256, n / 256 / 256 / 256 % 256, n / 256 / 256 % 256, n / 256 % 256, n % 256] else []
theorem putL_1 {n : Int} (h0 : 0 ≤ n) (h : n < 64) : putL n = [n] := by simp [putL, szV_1 h0 h]
theorem putL_2 {n : Int} (h0 : 64 ≤ n) (h : n < 16384) : putL n = [64 + n / 256, n % 256] := by simp [putL, szV_2 h0 h]
theorem putL_4 {n : Int} (h0 : 16384 ≤ n) (h : n < 1073741824) : putL n = [128 + n / 256 / 256 / 256, n / 256 / 256 % 256, n / 256 % 256, n % 256] := by simp [putL, szV_4 h0 h]
theorem putL_8 {n : Int} (h0 : 1073741824 ≤ n) (h : n ≤ 4611686018427387903) : putL n = [192 + n / 256 / 256 / 256 / 256 / 256 / 256 / 256, n / 256 / 256 / 256 / 256 / 256 / 256 % 256, n / 256 / 256 / 256 / 256 / 256 % 256, n / 256 / 256 / 256 / 256 % 256, n / 256 / 256 / 256 % 256, n / 256 / 256 % 256, n / 256 % 256, n % 256] := by simp [putL, szV_8 h0 h]
theorem putL_no {n : Int} (h : n < 0 ∨ 4611686018427387903 < n) : putL n = [] := by
  have : szV n = 0 := by rcases h with h | h; exact szV_neg h; exact szV_big h
  simp [putL, this]
theorem or_mark (x m : Int) (h0 : 0 ≤ x) (h1 : x < 64) (hm : m = 0 ∨ m = 64 ∨ m = 128 ∨ m = 192) : bits .or .u8 x m = m + x := by
  have hc : bits .or .u8 x m = bits .or .u8 m x := by simp only [bits, BitVec.or_comm]
  rw [hc, bits_join .u8 8 (by decide) wraps_u8 6 m x (by omega) (by omega) (by omega) h0 h1 (by omega)]

theorem putL_cases (n : Int) : (n < 0 ∨ 4611686018427387903 < n) ∨ (0 ≤ n ∧ n < 64) ∨ (64 ≤ n ∧ n < 16384) ∨ (16384 ≤ n ∧ n < 1073741824) ∨ (1073741824 ≤ n ∧ n ≤ 4611686018427387903) := by omega
theorem putL_len (n : Int) : (putL n).length ≤ 8 := by
  rcases putL_cases n with h | h | h | h | h
  · rw [putL_no h]; simp
  · rw [putL_1 h.1 h.2]; simp
  · rw [putL_2 h.1 h.2]; simp
  · rw [putL_4 h.1 h.2]; simp
  · rw [putL_8 h.1 h.2]; simp
theorem putL_bytes (n : Int) : ∀ x ∈ putL n, 0 ≤ x ∧ x < 256 := by
  rcases putL_cases n with h | h | h | h | h
  · rw [putL_no h]; simp
  · rw [putL_1 h.1 h.2]; simp; omega
  · rw [putL_2 h.1 h.2]; simp; omega
  · rw [putL_4 h.1 h.2]; simp; omega
  · rw [putL_8 h.1 h.2]; simp; omega

end Go.Proofs.YtpjlnpnadkbakaaGreat
namespace Go.Proofs.YtpjlnpnadkbakaaGreat
set_option maxRecDepth 10000
open Go.RowKit

/-- A packet: its numbers, its bytes, its mark. -/
structure Pkt where
  k : Int
  pa : Int
  nu : Int
  ofn : Int
  fr : Int
  da : List Int
  fin : Bool
  se : Int
  li : Int

/-- From 0 to a greatest. -/
def inB (n g : Int) : Bool := decide (0 ≤ n) && decide (n ≤ g)
/-- What each kind has may be. -/
def Pkt.known (p : Pkt) : Bool := decide (1 ≤ p.k) && decide (p.k ≤ 4) && inB p.pa 2 && inB p.nu 65535
/-- A packet with nothing but what its kind has. -/
def Pkt.bare (p : Pkt) : Pkt :=
  if p.k = 2 then ⟨p.k, p.pa, p.nu, p.ofn, 0, [], false, 0, 0⟩
  else if p.k = 3 then ⟨p.k, p.pa, p.nu, 0, p.fr, p.da, p.fin, 0, 0⟩
  else if p.k = 4 then ⟨p.k, p.pa, p.nu, p.ofn, 0, [], false, p.se, p.li⟩
  else ⟨p.k, p.pa, p.nu, 0, 0, [], false, 0, 0⟩
/-- All fields are alike. -/
def Pkt.same (a b : Pkt) : Bool :=
  decide (a.k = b.k) && decide (a.pa = b.pa) && decide (a.nu = b.nu) && decide (a.ofn = b.ofn) && decide (a.fr = b.fr) && decide (a.da = b.da) && (a.fin == b.fin) && decide (a.se = b.se) && decide (a.li = b.li)
/-- What only some kinds have may be. -/
def Pkt.bounded (p : Pkt) : Bool :=
  inB p.ofn 65535 && inB p.fr 4096 && decide (p.da.length ≤ 64) && decide (p.fr + (p.da.length : Int) ≤ 4096) && inB p.se 4097 && inB p.li 4496
/-- A packet that may be. -/
def Pkt.ok (p : Pkt) : Bool := p.known && p.same p.bare && p.bounded

/-- A packet as cells. -/
def Pkt.cs (p : Pkt) (A : Option Addr) (c : Nat) : List Value :=
  [.int .i64 p.k, .int .i64 p.pa, .int .i64 p.nu, .int .i64 p.ofn, .int .i64 p.fr, .slice A p.da.length c, .bool p.fin, .int .i64 p.se, .int .i64 p.li]
/-- The same, whole. -/
def Pkt.val (p : Pkt) (A : Option Addr) (c : Nat) : Value :=
  .agg #[.int .i64 p.k, .int .i64 p.pa, .int .i64 p.nu, .int .i64 p.ofn, .int .i64 p.fr, .slice A p.da.length c, .bool p.fin, .int .i64 p.se, .int .i64 p.li]
/-- Its numbers are ints, its bytes bytes, and these are read where the value says. -/
structure PktAt (w : World) (p : Pkt) (A : Option Addr) (c : Nat) : Prop where
  rd : Rd .u8 w A p.da
  reach : p.da.length ≤ 9223372036854775807
  cap : p.da.length ≤ c
  nil : A = none → c = 0
  byt : ∀ x ∈ p.da, 0 ≤ x ∧ x < 256
  bk : -9223372036854775808 ≤ p.k ∧ p.k ≤ 9223372036854775807
  bp : -9223372036854775808 ≤ p.pa ∧ p.pa ≤ 9223372036854775807
  bn : -9223372036854775808 ≤ p.nu ∧ p.nu ≤ 9223372036854775807
  bo : -9223372036854775808 ≤ p.ofn ∧ p.ofn ≤ 9223372036854775807
  bf : -9223372036854775808 ≤ p.fr ∧ p.fr ≤ 9223372036854775807
  bs : -9223372036854775808 ≤ p.se ∧ p.se ≤ 9223372036854775807
  bl : -9223372036854775808 ≤ p.li ∧ p.li ≤ 9223372036854775807

section
variable {w w' : World} {p : Pkt} {A : Option Addr} {c : Nat}
theorem PktAt.later (h : PktAt w p A c) (hb : Below w.heap.size w w') : PktAt w' p A c := { h with rd := h.rd.later hb }
theorem PktAt.drewN (h : PktAt w p A c) (n : Nat) : PktAt (w.drewN n) p A c := { h with rd := h.rd }
theorem PktAt.drew (h : PktAt w p A c) : PktAt w.drew p A c := { h with rd := h.rd }
theorem PktAt.alloc (h : PktAt w p A c) (o : Obj) : PktAt (w.alloc o) p A c := { h with rd := h.rd.alloc o }
theorem Pkt.same_iff {a b : Pkt} : a.same b = true ↔ a = b := by
  cases a
  cases b
  simp only [Pkt.same, Bool.and_eq_true, decide_eq_true_eq, beq_iff_eq, Pkt.mk.injEq]
  constructor
  · rintro ⟨⟨⟨⟨⟨⟨⟨⟨h1, h2⟩, h3⟩, h4⟩, h5⟩, h6⟩, h7⟩, h8⟩, h9⟩
    exact ⟨h1, h2, h3, h4, h5, h6, h7, h8, h9⟩
  · rintro ⟨h1, h2, h3, h4, h5, h6, h7, h8, h9⟩
    exact ⟨⟨⟨⟨⟨⟨⟨⟨h1, h2⟩, h3⟩, h4⟩, h5⟩, h6⟩, h7⟩, h8⟩, h9⟩
end
end Go.Proofs.YtpjlnpnadkbakaaGreat
namespace Go.Proofs.YtpjlnpnadkbakaaGreat
set_option maxRecDepth 10000
open Go.RowKit

theorem own_not_row8 {w : World} {ty : TypeId} {v : Value} {B q n : Nat} {ys : List Int} {f : Nat → Value} (h : Own .u8 5 w B v ys) (hne : 5 ≠ ty) (hr : w.rowIs q ty n f) : v.ownBlock = none ∨ v.ownBlock ≠ some q := by
  rcases h.2 with ⟨hv, _⟩ | ⟨g, cap, cur, hv, _, hh, _⟩
  · left; rw [hv]; rfl
  · right
    rw [hv]
    intro he
    simp only [Value.ownBlock, Option.some.injEq] at he
    subst he
    obtain ⟨cur', hh', _⟩ := hr
    rw [hh] at hh'
    injection hh' with hh'
    injection hh' with _ ht
    exact hne ht
theorem Pkt.range (w : World) (p : Pkt) (A : Option Addr) (c : Nat) (t : TypeId) : (w.alloc (.cells (p.cs A c).toArray t)).rangeAt w.heap.size 0 (p.cs A c) := by
  have h := World.rangeAt_of_block (C := (p.cs A c).toArray) (t := t) (fr := (0, 0)) (heap_alloc_new w _) 0 (p.cs A c).length
  simpa using h
theorem rangeAt_later {w w' : World} {b o B : Nat} {cs : List Value} (h : w.rangeAt b o cs) (hb : Below B w w') (hB : b < B) : w'.rangeAt b o cs := fun j v hv => by
  rw [hb.cell (p := ⟨b, o + j, none⟩) hB]
  exact h j v hv
/-- The cells of a packet in a block. -/
structure PktIn (w : World) (b : Nat) (p : Pkt) (A : Option Addr) (c : Nat) : Prop where
  c0 : w.cell? ⟨b, 0, none⟩ = some (.int .i64 p.k)
  c1 : w.cell? ⟨b, 1, none⟩ = some (.int .i64 p.pa)
  c2 : w.cell? ⟨b, 2, none⟩ = some (.int .i64 p.nu)
  c3 : w.cell? ⟨b, 3, none⟩ = some (.int .i64 p.ofn)
  c4 : w.cell? ⟨b, 4, none⟩ = some (.int .i64 p.fr)
  c5 : w.cell? ⟨b, 5, none⟩ = some (.slice A p.da.length c)
  c6 : w.cell? ⟨b, 6, none⟩ = some (.bool p.fin)
  c7 : w.cell? ⟨b, 7, none⟩ = some (.int .i64 p.se)
  c8 : w.cell? ⟨b, 8, none⟩ = some (.int .i64 p.li)
theorem pktIn_of {w : World} {b : Nat} {p : Pkt} {A : Option Addr} {c : Nat} (h : w.rangeAt b 0 (p.cs A c)) : PktIn w b p A c :=
  ⟨by simpa using h 0 _ rfl, by simpa using h 1 _ rfl, by simpa using h 2 _ rfl, by simpa using h 3 _ rfl, by simpa using h 4 _ rfl, by simpa using h 5 _ rfl, by simpa using h 6 _ rfl, by simpa using h 7 _ rfl, by simpa using h 8 _ rfl⟩
theorem PktIn.new (w : World) (p : Pkt) (A : Option Addr) (c : Nat) (t : TypeId) : PktIn (w.alloc (.cells (p.cs A c).toArray t)) w.heap.size p A c := pktIn_of (Pkt.range w p A c t)
theorem PktIn.below {w w' : World} {b B : Nat} {p : Pkt} {A : Option Addr} {c : Nat} (h : PktIn w b p A c) (hb : Below B w w') (hB : b < B) : PktIn w' b p A c :=
  ⟨(hb.cell hB).trans h.c0, (hb.cell hB).trans h.c1, (hb.cell hB).trans h.c2, (hb.cell hB).trans h.c3, (hb.cell hB).trans h.c4, (hb.cell hB).trans h.c5, (hb.cell hB).trans h.c6, (hb.cell hB).trans h.c7, (hb.cell hB).trans h.c8⟩

/-- No packet. -/
def Pkt.zero : Pkt := ⟨0, 0, 0, 0, 0, [], false, 0, 0⟩
theorem grown_trans {w w1 w2 : World} {r : Option Nat} (h : w.grownBy w1 r) (k : w1.grownBy w2 r) : w.grownBy w2 r :=
  ⟨k.os.trans h.os, k.tape.trans h.tape, k.output.trans h.output, Nat.le_trans h.size k.size, fun i hi hne => (k.block i (Nat.lt_of_lt_of_le hi h.size) hne).trans (h.block i hi hne)⟩
theorem grown_then' {w w1 w2 : World} {r : Option Nat} (h : w.grownBy w1 r) (hb : Below w.heap.size w1 w2) : w.grownBy w2 r :=
  ⟨hb.os.trans h.os, hb.tape.trans h.tape, hb.output.trans h.output, Nat.le_trans h.size hb.size, fun i hi hne => (hb.block i hi).trans (h.block i hi hne)⟩
theorem grown_of {w w1 : World} {r : Option Nat} (hb : Below w.heap.size w w1) : w.grownBy w1 r := grown_then' ⟨rfl, rfl, rfl, Nat.le_refl _, fun _ _ _ => rfl⟩ hb

theorem setCells_one (b : Nat) : ∀ (vs : List Value) (o : Nat) (w : World), w.grownBy (w.setCells b o vs) (some b)
  | [], _, _ => ⟨rfl, rfl, rfl, Nat.le_refl _, fun _ _ _ => rfl⟩
  | v :: r, o, w => grown_trans (setCell_one w b o v) (setCells_one b r (o + 1) (w.setCell ⟨b, o, none⟩ v))
theorem Pkt.ok_len {p : Pkt} (h : p.ok = true) : p.da.length ≤ 64 := by
  unfold Pkt.ok at h
  simp only [Bool.and_eq_true] at h
  have := h.2
  unfold Pkt.bounded at this
  simp only [Bool.and_eq_true, decide_eq_true_eq] at this
  omega
theorem Pkt.ok_kind {p : Pkt} (h : p.ok = true) : 1 ≤ p.k ∧ p.k ≤ 4 := by
  unfold Pkt.ok Pkt.known at h
  simp only [Bool.and_eq_true, decide_eq_true_eq] at h
  exact h.1.1.1.1

theorem PktAt.zero (w : World) : PktAt w Pkt.zero none 0 := ⟨.inl rfl, by decide, by decide, fun _ => rfl, by intro x hx; simp [Pkt.zero] at hx, by decide, by decide, by decide, by decide, by decide, by decide, by decide⟩

/-- Block q is a variable that holds the packet p. -/
def PkV (w : World) (q : Nat) (p : Pkt) (A : Option Addr) (c : Nat) : Prop := w.rowIs q 32 9 (fun i => (p.cs A c).getD i undef)

section
variable {w wx w' : World} {b z q : Nat} {p : Pkt} {A : Option Addr} {c : Nat} {pk : Pkt} {B : Option Addr} {d : Nat}
theorem PkV.lt (h : PkV w q p A c) : q < w.heap.size := World.rowIs.lt h
theorem PkV.cells (h : PkV w q p A c) : PktIn w q p A c :=
  ⟨World.rowIs.cell (i := 0) h (by omega), World.rowIs.cell (i := 1) h (by omega), World.rowIs.cell (i := 2) h (by omega), World.rowIs.cell (i := 3) h (by omega), World.rowIs.cell (i := 4) h (by omega),
    World.rowIs.cell (i := 5) h (by omega), World.rowIs.cell (i := 6) h (by omega), World.rowIs.cell (i := 7) h (by omega), World.rowIs.cell (i := 8) h (by omega)⟩
theorem PkV.fr (h : PkV w q p A c) (i : Nat) : w.frozen? ⟨q, i, none⟩ = false := World.rowIs.frozen h i
theorem PkV.later (h : PkV w q p A c) (hb : Below w.heap.size w w') : PkV w' q p A c := World.rowIs.of_block h (hb.block q h.lt)
theorem PkV.kept {r : Nat} (h : PkV w q p A c) (hg : w.grownBy w' (some r)) (hne : q ≠ r) : PkV w' q p A c := World.rowIs.of_block h (hg.block q h.lt (by simp; exact hne))
theorem PkV.new (w : World) (p : Pkt) (A : Option Addr) (c : Nat) : PkV (w.alloc (.cells (p.cs A c).toArray 32)) w.heap.size p A c :=
  World.rowIs_alloc w (p.cs A c).toArray 32 _ (fun i hi => by
    have : i < 9 := hi
    match i, this with
    | 0, _ | 1, _ | 2, _ | 3, _ | 4, _ | 5, _ | 6, _ | 7, _ | 8, _ => rfl)
theorem PkV.setI {i : Nat} {v : Value} {p' : Pkt} {A' : Option Addr} {c' : Nat} (h : PkV w q p A c) (he : ∀ j, j < 9 → (if j = i then v else (p.cs A c).getD j undef) = (p'.cs A' c').getD j undef) :
    PkV (w.setCell ⟨q, i, none⟩ v) q p' A' c' := (World.rowIs.set h i v).congr he
theorem PkV.pa (h : PkV w q p A c) (x : Int) : PkV (w.setCell ⟨q, 1, none⟩ (.int .i64 x)) q { p with pa := x } A c := h.setI fun j hj => by
  match j, hj with
  | 0, _ | 1, _ | 2, _ | 3, _ | 4, _ | 5, _ | 6, _ | 7, _ | 8, _ => rfl
theorem PkV.nu (h : PkV w q p A c) (x : Int) : PkV (w.setCell ⟨q, 2, none⟩ (.int .i64 x)) q { p with nu := x } A c := h.setI fun j hj => by
  match j, hj with
  | 0, _ | 1, _ | 2, _ | 3, _ | 4, _ | 5, _ | 6, _ | 7, _ | 8, _ => rfl
theorem PkV.ofn (h : PkV w q p A c) (x : Int) : PkV (w.setCell ⟨q, 3, none⟩ (.int .i64 x)) q { p with ofn := x } A c := h.setI fun j hj => by
  match j, hj with
  | 0, _ | 1, _ | 2, _ | 3, _ | 4, _ | 5, _ | 6, _ | 7, _ | 8, _ => rfl
theorem PkV.frm (h : PkV w q p A c) (x : Int) : PkV (w.setCell ⟨q, 4, none⟩ (.int .i64 x)) q { p with fr := x } A c := h.setI fun j hj => by
  match j, hj with
  | 0, _ | 1, _ | 2, _ | 3, _ | 4, _ | 5, _ | 6, _ | 7, _ | 8, _ => rfl
theorem PkV.dat (h : PkV w q p A c) (l : List Int) (A' : Option Addr) (c' : Nat) : PkV (w.setCell ⟨q, 5, none⟩ (.slice A' l.length c')) q { p with da := l } A' c' := h.setI fun j hj => by
  match j, hj with
  | 0, _ | 1, _ | 2, _ | 3, _ | 4, _ | 5, _ | 6, _ | 7, _ | 8, _ => rfl
theorem PkV.fin (h : PkV w q p A c) (x : Bool) : PkV (w.setCell ⟨q, 6, none⟩ (.bool x)) q { p with fin := x } A c := h.setI fun j hj => by
  match j, hj with
  | 0, _ | 1, _ | 2, _ | 3, _ | 4, _ | 5, _ | 6, _ | 7, _ | 8, _ => rfl
theorem PkV.se (h : PkV w q p A c) (x : Int) : PkV (w.setCell ⟨q, 7, none⟩ (.int .i64 x)) q { p with se := x } A c := h.setI fun j hj => by
  match j, hj with
  | 0, _ | 1, _ | 2, _ | 3, _ | 4, _ | 5, _ | 6, _ | 7, _ | 8, _ => rfl
theorem PkV.li (h : PkV w q p A c) (x : Int) : PkV (w.setCell ⟨q, 8, none⟩ (.int .i64 x)) q { p with li := x } A c := h.setI fun j hj => by
  match j, hj with
  | 0, _ | 1, _ | 2, _ | 3, _ | 4, _ | 5, _ | 6, _ | 7, _ | 8, _ => rfl
/-- A packet whose numbers are bounded, and whose bytes are of the call's own. -/
theorem pktAt_of {w : World} {B0 : Nat} {p : Pkt} {B : Option Addr} {d : Nat} (ho : Own .u8 5 w B0 (.slice B p.da.length d) p.da) (hb : ∀ x ∈ p.da, 0 ≤ x ∧ x < 256) (hl : p.da.length ≤ 9223372036854775807)
    (bk : -9223372036854775808 ≤ p.k ∧ p.k ≤ 9223372036854775807) (bp : -9223372036854775808 ≤ p.pa ∧ p.pa ≤ 9223372036854775807) (bn : -9223372036854775808 ≤ p.nu ∧ p.nu ≤ 9223372036854775807)
    (bo : -9223372036854775808 ≤ p.ofn ∧ p.ofn ≤ 9223372036854775807) (bf : -9223372036854775808 ≤ p.fr ∧ p.fr ≤ 9223372036854775807) (bs : -9223372036854775808 ≤ p.se ∧ p.se ≤ 9223372036854775807)
    (bl : -9223372036854775808 ≤ p.li ∧ p.li ≤ 9223372036854775807) : PktAt w p B d :=
  ⟨ho.rd, hl, ho.cap, fun h => (ho.none_len h).1, hb, bk, bp, bn, bo, bf, bs, bl⟩

theorem PkV.there {w : World} {q : Nat} {p : Pkt} {A : Option Addr} {c : Nat} (h : PkV w q p A c) : w.there q 0 9 := fun j hj =>
  ⟨by rw [World.rowIs.cell (i := 0 + j) h (by omega)]; rfl, h.fr _⟩
/-- A packet whose numbers are ints, and whose bytes are few. -/
structure PkB (pk : Pkt) : Prop where
  byt : ∀ x ∈ pk.da, 0 ≤ x ∧ x < 256
  len : pk.da.length ≤ 80
  bk : -9223372036854775808 ≤ pk.k ∧ pk.k ≤ 9223372036854775807
  bp : -9223372036854775808 ≤ pk.pa ∧ pk.pa ≤ 9223372036854775807
  bn : -9223372036854775808 ≤ pk.nu ∧ pk.nu ≤ 9223372036854775807
  bo : -9223372036854775808 ≤ pk.ofn ∧ pk.ofn ≤ 9223372036854775807
  bf : -9223372036854775808 ≤ pk.fr ∧ pk.fr ≤ 9223372036854775807
  bs : -9223372036854775808 ≤ pk.se ∧ pk.se ≤ 9223372036854775807
  bl : -9223372036854775808 ≤ pk.li ∧ pk.li ≤ 9223372036854775807
theorem cell_other {w w' : World} {g i q : Nat} (hg : w.grownBy w' (some q)) (hne : g ≠ q) {v : Value} (h : w.cell? ⟨g, i, none⟩ = some v) : w'.cell? ⟨g, i, none⟩ = some v := by
  have hl := World.block_lt_of_cell? w _ h
  rw [World.cell?_of_block (a := ⟨g, i, none⟩) (hg.block g hl (by simp; exact hne))]
  exact h
theorem PkV.kin (h : PkV w q p A c) (x : Int) : PkV (w.setCell ⟨q, 0, none⟩ (.int .i64 x)) q { p with k := x } A c := h.setI fun j hj => by
  match j, hj with
  | 0, _ | 1, _ | 2, _ | 3, _ | 4, _ | 5, _ | 6, _ | 7, _ | 8, _ => rfl
theorem PkV.all (h : PkV w q p A c) (pk : Pkt) (B : Option Addr) (d : Nat) : PkV (w.setCells q 0 (pk.cs B d)) q pk B d :=
  (((((((((h.kin pk.k).pa pk.pa).nu pk.nu).ofn pk.ofn).frm pk.fr).dat pk.da B d).fin pk.fin).se pk.se).li pk.li)
theorem PkB.zero : PkB Pkt.zero := ⟨by intro x hx; simp [Pkt.zero] at hx, by decide, by decide, by decide, by decide, by decide, by decide, by decide, by decide⟩
theorem PkB.kin (h : PkB pk) {x : Int} (hx : -9223372036854775808 ≤ x ∧ x ≤ 9223372036854775807) : PkB { pk with k := x } := { h with bk := hx }
theorem PkB.pa (h : PkB pk) {x : Int} (hx : -9223372036854775808 ≤ x ∧ x ≤ 9223372036854775807) : PkB { pk with pa := x } := { h with bp := hx }
theorem PkB.nu (h : PkB pk) {x : Int} (hx : -9223372036854775808 ≤ x ∧ x ≤ 9223372036854775807) : PkB { pk with nu := x } := { h with bn := hx }
theorem PkB.ofn (h : PkB pk) {x : Int} (hx : -9223372036854775808 ≤ x ∧ x ≤ 9223372036854775807) : PkB { pk with ofn := x } := { h with bo := hx }
theorem PkB.frm (h : PkB pk) {x : Int} (hx : -9223372036854775808 ≤ x ∧ x ≤ 9223372036854775807) : PkB { pk with fr := x } := { h with bf := hx }
theorem PkB.se (h : PkB pk) {x : Int} (hx : -9223372036854775808 ≤ x ∧ x ≤ 9223372036854775807) : PkB { pk with se := x } := { h with bs := hx }
theorem PkB.li (h : PkB pk) {x : Int} (hx : -9223372036854775808 ≤ x ∧ x ≤ 9223372036854775807) : PkB { pk with li := x } := { h with bl := hx }
theorem PkB.fin (h : PkB pk) (x : Bool) : PkB { pk with fin := x } := { h with bk := h.bk }
theorem PkB.dat (h : PkB pk) {l : List Int} (hb : ∀ x ∈ l, 0 ≤ x ∧ x < 256) (hl : l.length ≤ 80) : PkB { pk with da := l } := { h with byt := hb, len := hl }
theorem mod_bd (x n : Int) (h1 : 1 ≤ n) (h2 : n ≤ 9223372036854775807) : -9223372036854775808 ≤ x % n ∧ x % n ≤ 9223372036854775807 := by
  have := Int.emod_nonneg x (show n ≠ 0 by omega)
  have := Int.emod_lt_of_pos x (show 0 < n by omega)
  omega
theorem PkV.res (h : PkV w q p A c) (pk' : Pkt) (B' : Option Addr) (d' : Nat) :
    (loadVar 32 ⟨q, 0, none⟩).run Tryz.prog (w.setCells q 0 (pk'.cs B' d')) = .ok (pk'.val B' d') (w.setCells q 0 (pk'.cs B' d')) :=
  run_loadVar_mid _ q 0 32 (pk'.cs B' d') _ (World.rangeAt_setCells_same w q 0 (pk'.cs B' d') h.there) Tryz.underlying32 rfl (by kernel_rfl)
end
end Go.Proofs.YtpjlnpnadkbakaaGreat

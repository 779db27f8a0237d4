/-
  Fields, one behind the other, as a Reader tells them again (chapter 4): plain facts. No program.
-/
import Derived.Test.YtheecfgehfhimaaSpanMath
import Derived.Test.YtheecfgehfhimaaRowsMath
namespace Go.Proofs.Ytheecfgehfhimaa
open Go.RowKit

/-- The first j of lists, one behind the other. -/
def catB (f : Nat → List Int) : Nat → List Int
  | 0 => []
  | j + 1 => catB f j ++ f j

theorem catB_len {f : Nat → List Int} {m : Nat} (hf : ∀ j, (f j).length ≤ m) (j : Nat) : (catB f j).length ≤ m * j := by
  induction j with
  | zero => simp [catB]
  | succ j ih =>
    have := hf j
    simp only [catB, List.length_append]
    rw [Nat.mul_succ]
    omega
theorem catB_split (f : Nat → List Int) {j n : Nat} (h : j ≤ n) : ∃ r, catB f n = catB f j ++ r := by
  induction n with
  | zero =>
    obtain rfl : j = 0 := by omega
    exact ⟨[], by simp⟩
  | succ n ih =>
    by_cases e : j = n + 1
    · subst e; exact ⟨[], by simp⟩
    · obtain ⟨r, hr⟩ := ih (by omega)
      exact ⟨r ++ f n, by simp only [catB, hr, List.append_assoc]⟩
theorem catB_drop (f : Nat → List Int) {j n : Nat} (h : j < n) : ∃ r, (catB f n).drop (catB f j).length = f j ++ r := by
  obtain ⟨r, hr⟩ := catB_split f (show j + 1 ≤ n from h)
  refine ⟨r, ?_⟩
  rw [hr]
  simp only [catB, List.append_assoc]
  rw [List.drop_left]
theorem catB_le (f : Nat → List Int) {j n : Nat} (h : j ≤ n) : (catB f j).length ≤ (catB f n).length := by
  obtain ⟨r, hr⟩ := catB_split f h
  rw [hr, List.length_append]; omega
theorem catB_bytes {f : Nat → List Int} {n : Nat} (hf : ∀ j, j < n → ∀ x ∈ f j, 0 ≤ x ∧ x < 256) (j : Nat) (h : j ≤ n) : ∀ x ∈ catB f j, 0 ≤ x ∧ x < 256 := by
  induction j with
  | zero => simp [catB]
  | succ j ih =>
    intro x hx
    simp only [catB] at hx
    rcases List.mem_append.1 hx with hx | hx
    · exact ih (by omega) x hx
    · exact hf j (by omega) x hx

section
variable {xs : List Int} {a : Nat}
theorem drop_more {u v : List Int} (h : xs.drop a = u ++ v) : xs.drop (a + u.length) = v := by
  rw [← List.drop_drop, h, List.drop_left]
theorem drop_le {u v : List Int} (h : xs.drop a = u ++ v) (ha : a ≤ xs.length) : a + u.length ≤ xs.length := by
  have := congrArg List.length h
  rw [List.length_drop, List.length_append] at this
  omega
theorem numT_at {z : Int} {r : List Int} (h0 : 0 ≤ z) (h1 : z ≤ 4611686018427387903) (h : xs.drop a = putL z ++ r) : numT xs a false = (z, ((putL z).length : Int), true) := by
  show takeV (xs.drop a) = _
  rw [h]
  exact takeV_putL h0 h1 r
theorem bytT_at {t r : List Int} {most : Int} (ht : t.length ≤ 4611686018427387903) (hm : (t.length : Int) ≤ most) (h : xs.drop a = putL (t.length : Int) ++ (t ++ r)) :
    bytT xs a false most = (t, a + (putL (t.length : Int)).length + t.length, false) := by
  have hn := numT_at (by omega) (by omega) h
  have h2 := drop_more h
  have hl := congrArg List.length h
  rw [List.length_drop, List.length_append, List.length_append] at hl
  unfold bytT
  rw [hn, if_neg (by simp; omega)]
  simp only [Int.toNat_natCast]
  rw [h2, List.take_left]
theorem oneT_at {c : Int} {r : List Int} (h : xs.drop a = c :: r) : oneT xs a false = (c, a + 1, false) := by
  have hl := congrArg List.length h
  rw [List.length_drop, List.length_cons] at hl
  unfold oneT
  rw [if_neg (by simp; omega)]
  have : xs.getD a 0 = c := by
    have h1 : (xs.drop a).getD 0 0 = c := by rw [h]; rfl
    rw [← h1]
    simp [List.getD]
  rw [this]
end

/-- One field of SpanBack: a number, bytes, one byte. -/
def fieldB (z : Int) (t : List Int) (c : Int) : List Int := putL z ++ ((putL (t.length : Int) ++ t) ++ [c])
theorem fieldB_len (z : Int) {t : List Int} (c : Int) (ht : t.length ≤ 80) : (fieldB z t c).length ≤ 97 := by
  have h1 := putL_len z
  have h2 := putL_len t.length
  simp only [fieldB, List.length_append, List.length_singleton]
  omega
theorem fieldB_bytes {z : Int} {t : List Int} {c : Int} (ht : ∀ x ∈ t, 0 ≤ x ∧ x < 256) (hc : 0 ≤ c ∧ c < 256) : ∀ x ∈ fieldB z t c, 0 ≤ x ∧ x < 256 := by
  intro x hx
  simp only [fieldB, List.mem_append, List.mem_singleton] at hx
  rcases hx with hx | (hx | hx) | hx
  · exact putL_bytes z x hx
  · exact putL_bytes _ x hx
  · exact ht x hx
  · rw [hx]; exact hc

/-- What a Reader tells of a field, and where it stands behind each part. -/
theorem field_read {xs : List Int} {a : Nat} {z : Int} {t : List Int} {c : Int} {r : List Int} (h0 : 0 ≤ z) (h1 : z ≤ 4611686018427387903) (ht : t.length ≤ 80) (ha : a ≤ xs.length) (h : xs.drop a = fieldB z t c ++ r) :
    ∃ a1 a2, numT xs a false = (z, ((a1 - a : Nat) : Int), true) ∧ a ≤ a1 ∧ bytT xs a1 false 80 = (t, a2, false) ∧ oneT xs a2 false = (c, a2 + 1, false) ∧ a2 + 1 = a + (fieldB z t c).length := by
  have e1 : xs.drop a = putL z ++ (((putL (t.length : Int) ++ t) ++ [c]) ++ r) := by rw [h]; simp only [fieldB, List.append_assoc]
  have e2 := drop_more e1
  have l2 := drop_le e1 ha
  have e3 : xs.drop (a + (putL z).length) = putL (t.length : Int) ++ (t ++ ([c] ++ r)) := by rw [e2]; simp only [List.append_assoc]
  have e4 := drop_more (u := putL (t.length : Int) ++ t) (v := [c] ++ r) (by rw [e3]; simp only [List.append_assoc])
  refine ⟨a + (putL z).length, a + (putL z).length + (putL (t.length : Int)).length + t.length, ?_, by omega, ?_, ?_, ?_⟩
  · rw [numT_at h0 h1 e1, Nat.add_sub_cancel_left]
  · exact bytT_at (by omega) (by omega) e3
  · refine oneT_at (r := r) ?_
    rw [List.length_append] at e4
    rw [show a + (putL z).length + (putL (t.length : Int)).length + t.length = a + (putL z).length + ((putL (t.length : Int)).length + t.length) by omega, e4]
    rfl
  · simp only [fieldB, List.length_append, List.length_singleton]
    omega
end Go.Proofs.Ytheecfgehfhimaa

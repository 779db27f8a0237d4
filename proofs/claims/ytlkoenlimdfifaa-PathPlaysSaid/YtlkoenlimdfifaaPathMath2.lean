/-
  Rows that go out one by one ('outsW'), all of them late, none of them late; a state, as far as i that are out. No program.
-/
import Derived.Test.YtlkoenlimdfifaaPathMath
namespace Go.Proofs.Ytlkoenlimdfifaa

theorem late_all {l : List Qd} {d : Int} (h : ∀ q ∈ l, q.a ≤ d) : lateQ l d = l ∧ stayQ l d = [] := by
  constructor
  · unfold lateQ
    rw [List.filter_eq_self]
    intro q hq
    simpa using h q hq
  · unfold stayQ
    rw [List.filter_eq_nil_iff]
    intro q hq
    simpa using h q hq
theorem late_none {l : List Qd} {d : Int} (h : ∀ q ∈ l, d < q.a) : lateQ l d = [] := by
  unfold lateQ
  rw [List.filter_eq_nil_iff]
  intro q hq
  have := h q hq
  simp
  omega
theorem lateN_none {P : Pa} {now : Int} (h : P.lates now = []) : P.lateN now = P := by
  unfold Pa.lateN
  rw [if_pos (by rw [h]; rfl)]
theorem lateN_some {P : Pa} {now : Int} {L S : List Qd} (h : P.lates now = L) (hn : L.length ≠ 0) (hs : stayQ P.fl (now - P.g.wait) = S) : P.lateN now = ⟨P.up, P.jo, true, P.sent, P.g.later, P.wn.loss, S⟩ := by
  unfold Pa.lateN
  rw [if_neg (by rw [h]; exact hn), ← hs]
  rfl
/-- The first i of a row: number and places i, sent at a. -/
def outsW (a : Int) : Nat → List Qd
  | 0 => []
  | i + 1 => outsW a i ++ [⟨i, i, (i : Int) + 1, a⟩]
theorem outsW_len (a : Int) (i : Nat) : (outsW a i).length = i := by
  induction i with
  | zero => rfl
  | succ i ih => simp [outsW, ih]
theorem outsW_at (a : Int) (i j : Nat) (hj : j < i) : (outsW a i).getD j qz = ⟨j, j, (j : Int) + 1, a⟩ := by
  induction i with
  | zero => omega
  | succ i ih =>
    unfold outsW
    by_cases e : j < i
    · have := ih e
      simp only [List.getD_eq_getElem?_getD] at this ⊢
      rw [List.getElem?_append_left (by rw [outsW_len]; exact e)]
      exact this
    · obtain rfl : j = i := by omega
      simp only [List.getD_eq_getElem?_getD]
      rw [List.getElem?_append_right (by rw [outsW_len]; exact Nat.le_refl _), outsW_len, Nat.sub_self]
      rfl
theorem outsW_mem {a : Int} {i : Nat} {q : Qd} (h : q ∈ outsW a i) : q.a = a := by
  obtain ⟨j, hj, rfl⟩ := List.getElem_of_mem h
  have := outsW_at a i j (by rw [outsW_len] at hj; exact hj)
  rw [List.getD_eq_getElem?_getD, List.getElem?_eq_getElem hj, Option.getD_some] at this
  rw [this]
theorem outsW_no (a : Int) (i : Nat) (x : Int) (hx : x < 0 ∨ (i : Int) ≤ x) : NoneQ (outsW a i) x := by
  intro j hj
  rw [outsW_len] at hj
  rw [outsW_at a i j hj]
  simp only
  omega
theorem outsW_first (a : Int) (i j : Nat) (hj : j < i) : FirstQ (outsW a i) (j : Int) j := ⟨by rw [outsW_len]; exact hj, by rw [outsW_at a i j hj], fun k hk => by
  rw [outsW_at a i k (by omega)]
  simp only
  omega⟩
/-- The first eight numbers of a state. -/
def Pa.head (P : Pa) : List Int := [oneI P.up, oneI P.jo, oneI P.be, P.sent, P.g.mean, P.g.wait, P.wn.size, P.fl.length]
/-- A state, as far as i that are out. -/
def Pa.stN (P : Pa) (i : Nat) : List Int := P.head ++ flat (P.fl.take i)
theorem Pa.stN_len (P : Pa) {i : Nat} (hi : i ≤ P.fl.length) : (P.stN i).length = 8 + i * 4 := by
  unfold Pa.stN
  rw [List.length_append, flat_len, List.length_take, Nat.min_eq_left hi]
  rfl
theorem Pa.stN_zero (P : Pa) : P.stN 0 = P.head := by simp [Pa.stN, flat]
theorem Pa.stN_all (P : Pa) : P.stN P.fl.length = P.state := by simp [Pa.stN, Pa.state, Pa.head, List.take_length]
theorem Pa.stN_next (P : Pa) {i : Nat} (hi : i < P.fl.length) : P.stN (i + 1) = P.stN i ++ [(P.fl.getD i qz).n, (P.fl.getD i qz).f, (P.fl.getD i qz).t, (P.fl.getD i qz).a] := by
  unfold Pa.stN
  rw [flat_next _ _ hi, List.append_assoc]
end Go.Proofs.Ytlkoenlimdfifaa

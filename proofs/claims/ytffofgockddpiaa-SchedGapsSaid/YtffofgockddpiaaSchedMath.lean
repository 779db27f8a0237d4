/-
  Which paths are picked, as mathematics ('IsPick'). No program.
-/
import Derived.Test.YtffofgockddpiaaRows
namespace Go.Proofs.Ytffofgockddpiaa

/-- None of the paths can be used. -/
def NoneU (ms : List Int) : Prop := ∀ i : Nat, i < ms.length → ms.getD i 0 < 0
/-- The first i paths: those that can be used, rising. -/
def canF (ms : List Int) : Nat → List Int
  | 0 => []
  | i + 1 => if 0 ≤ ms.getD i 0 then canF ms i ++ [(i : Int)] else canF ms i
def can (ms : List Int) : List Int := canF ms ms.length
theorem canF_yes {ms : List Int} {i : Nat} (h : 0 ≤ ms.getD i 0) : canF ms (i + 1) = canF ms i ++ [(i : Int)] := by simp only [canF, if_pos h]
theorem canF_no {ms : List Int} {i : Nat} (h : ms.getD i 0 < 0) : canF ms (i + 1) = canF ms i := by simp only [canF, if_neg (show ¬ 0 ≤ ms.getD i 0 by omega)]
theorem canF_len (ms : List Int) (i : Nat) : (canF ms i).length ≤ i := by
  induction i with
  | zero => simp [canF]
  | succ i ih =>
    unfold canF
    split
    · rw [List.length_append, List.length_singleton]; omega
    · omega
/-- Each of them can be used, and lies among the first. -/
theorem canF_at {ms : List Int} {i : Nat} {j : Nat} (h : j < (canF ms i).length) : ∃ p : Nat, (canF ms i).getD j 0 = (p : Int) ∧ p < i ∧ 0 ≤ ms.getD p 0 := by
  induction i with
  | zero => simp [canF] at h
  | succ i ih =>
    by_cases hu : 0 ≤ ms.getD i 0
    · rw [canF_yes hu] at h ⊢
      by_cases hj : j < (canF ms i).length
      · obtain ⟨p, h1, h2, h3⟩ := ih hj
        refine ⟨p, ?_, by omega, h3⟩
        rw [← h1]
        simp only [List.getD_eq_getElem?_getD]
        rw [List.getElem?_append_left hj]
      · have e : j = (canF ms i).length := by rw [List.length_append, List.length_singleton] at h; omega
        refine ⟨i, ?_, by omega, hu⟩
        rw [e]
        simp only [List.getD_eq_getElem?_getD]
        rw [List.getElem?_append_right (Nat.le_refl _), Nat.sub_self]
        rfl
    · rw [canF_no (by omega)] at h ⊢
      obtain ⟨p, h1, h2, h3⟩ := ih h
      exact ⟨p, h1, by omega, h3⟩
/-- Each that can be used is there. -/
theorem canF_all {ms : List Int} {i : Nat} {p : Nat} (hp : p < i) (hu : 0 ≤ ms.getD p 0) : ∃ j, j < (canF ms i).length ∧ (canF ms i).getD j 0 = (p : Int) := by
  induction i with
  | zero => omega
  | succ i ih =>
    have grow : ∀ j, j < (canF ms i).length → (canF ms i).getD j 0 = (p : Int) → ∃ j, j < (canF ms (i + 1)).length ∧ (canF ms (i + 1)).getD j 0 = (p : Int) := fun j h1 h2 => by
      by_cases hi : 0 ≤ ms.getD i 0
      · rw [canF_yes hi]
        refine ⟨j, by rw [List.length_append]; omega, ?_⟩
        rw [← h2]
        simp only [List.getD_eq_getElem?_getD]
        rw [List.getElem?_append_left h1]
      · rw [canF_no (by omega)]; exact ⟨j, h1, h2⟩
    by_cases e : p = i
    · subst e
      rw [canF_yes hu]
      refine ⟨(canF ms p).length, by rw [List.length_append, List.length_singleton]; omega, ?_⟩
      simp only [List.getD_eq_getElem?_getD]
      rw [List.getElem?_append_right (Nat.le_refl _), Nat.sub_self]
      rfl
    · obtain ⟨j, h1, h2⟩ := ih (by omega)
      exact grow j h1 h2
/-- Rising. -/
theorem canF_rise {ms : List Int} {i : Nat} {j k : Nat} (hjk : j < k) (hk : k < (canF ms i).length) : (canF ms i).getD j 0 < (canF ms i).getD k 0 := by
  induction i with
  | zero => simp [canF] at hk
  | succ i ih =>
    by_cases hu : 0 ≤ ms.getD i 0
    · rw [canF_yes hu] at hk ⊢
      have left : ∀ j, j < (canF ms i).length → (canF ms i ++ [(i : Int)]).getD j 0 = (canF ms i).getD j 0 := fun j h => by
        simp only [List.getD_eq_getElem?_getD]
        rw [List.getElem?_append_left h]
      by_cases hk2 : k < (canF ms i).length
      · rw [left j (by omega), left k hk2]; exact ih hk2
      · have e : k = (canF ms i).length := by rw [List.length_append, List.length_singleton] at hk; omega
        subst e
        obtain ⟨p, h1, h2, _⟩ := canF_at hjk
        rw [left j hjk, h1]
        simp only [List.getD_eq_getElem?_getD]
        rw [List.getElem?_append_right (Nat.le_refl _), Nat.sub_self]
        simp
        omega
    · rw [canF_no (by omega)] at hk ⊢
      exact ih hk
theorem can_none {ms : List Int} : NoneU ms ↔ can ms = [] := by
  constructor
  · intro h
    by_cases h0 : (can ms).length = 0
    · exact List.eq_nil_of_length_eq_zero h0
    · obtain ⟨p, _, h2, h3⟩ := canF_at (ms := ms) (i := ms.length) (j := 0) (by unfold can at h0; omega)
      have := h p h2
      omega
  · intro h i hi
    by_cases hu : 0 ≤ ms.getD i 0
    · obtain ⟨j, h1, _⟩ := canF_all hi hu
      unfold can at h
      rw [h] at h1
      simp at h1
    · omega

/-- By turns: the first that can be used behind l, round. -/
structure RoundP (ms : List Int) (l : Int) (b : Nat) : Prop where
  lt : b < ms.length
  us : 0 ≤ ms.getD b 0
  next : (l < (b : Int) ∧ ∀ j : Nat, l < (j : Int) → j < b → ms.getD j 0 < 0) ∨ ((∀ j : Nat, l < (j : Int) → j < ms.length → ms.getD j 0 < 0) ∧ ∀ j : Nat, j < b → ms.getD j 0 < 0)
theorem RoundP.eq {ms : List Int} {l : Int} {b c : Nat} (h : RoundP ms l b) (h' : RoundP ms l c) : b = c := by
  have hb := h.us
  have hc := h'.us
  rcases Nat.lt_trichotomy b c with x | x | x
  · exfalso
    rcases h.next with ⟨h1, h2⟩ | ⟨h1, h2⟩ <;> rcases h'.next with ⟨h3, h4⟩ | ⟨h3, h4⟩
    · have := h4 b h1 x; omega
    · have := h3 b h1 h.lt; omega
    · have := h1 c h3 h'.lt; omega
    · have := h4 b x; omega
  · exact x
  · exfalso
    rcases h.next with ⟨h1, h2⟩ | ⟨h1, h2⟩ <;> rcases h'.next with ⟨h3, h4⟩ | ⟨h3, h4⟩
    · have := h2 c h3 x; omega
    · have := h3 b h1 h.lt; omega
    · have := h1 c h3 h'.lt; omega
    · have := h2 c x; omega
/-- The quickest, the first such. -/
structure QuickP (ms : List Int) (b : Nat) : Prop where
  lt : b < ms.length
  us : 0 ≤ ms.getD b 0
  least : ∀ j : Nat, j < ms.length → 0 ≤ ms.getD j 0 → ms.getD b 0 ≤ ms.getD j 0 ∧ (j < b → ms.getD b 0 < ms.getD j 0)
theorem QuickP.eq {ms : List Int} {b c : Nat} (h : QuickP ms b) (h' : QuickP ms c) : b = c := by
  have h1 := h.least c h'.lt h'.us
  have h2 := h'.least b h.lt h.us
  rcases Nat.lt_trichotomy b c with x | x | x
  · have := h2.2 x; omega
  · exact x
  · have := h1.2 x; omega

/-- Found on the way through those that can be used. -/
theorem round_found {ms : List Int} {l : Int} {j : Nat} (hj : j < (can ms).length) (all : ∀ i, i < j → (can ms).getD i 0 ≤ l) (hgt : l < (can ms).getD j 0) : ∃ b : Nat, (can ms).getD j 0 = (b : Int) ∧ RoundP ms l b := by
  obtain ⟨b, h1, h2, h3⟩ := canF_at (ms := ms) (i := ms.length) hj
  refine ⟨b, h1, h2, h3, .inl ⟨by unfold can at hgt; omega, fun q hq hqb => ?_⟩⟩
  by_cases hu : 0 ≤ ms.getD q 0
  · obtain ⟨i, i1, i2⟩ := canF_all (i := ms.length) (show q < ms.length by omega) hu
    by_cases hij : i < j
    · have := all i hij; unfold can at this; omega
    · by_cases e : i = j
      · subst e; omega
      · have := canF_rise (show j < i by omega) i1
        omega
  · omega
theorem round_wrap {ms : List Int} {l : Int} (h0 : 0 < (can ms).length) (all : ∀ i, i < (can ms).length → (can ms).getD i 0 ≤ l) : ∃ b : Nat, (can ms).getD 0 0 = (b : Int) ∧ RoundP ms l b := by
  obtain ⟨b, h1, h2, h3⟩ := canF_at (ms := ms) (i := ms.length) h0
  refine ⟨b, h1, h2, h3, .inr ⟨fun q hq hqb => ?_, fun q hq => ?_⟩⟩
  · by_cases hu : 0 ≤ ms.getD q 0
    · obtain ⟨i, i1, i2⟩ := canF_all (i := ms.length) hqb hu
      have := all i i1; unfold can at this; omega
    · omega
  · by_cases hu : 0 ≤ ms.getD q 0
    · obtain ⟨i, i1, i2⟩ := canF_all (i := ms.length) (show q < ms.length by omega) hu
      by_cases e : i = 0
      · subst e; omega
      · have := canF_rise (show 0 < i by omega) i1
        omega
    · omega
theorem quick_best {ms : List Int} {B : Nat} (hB : B < (can ms).length) (all : ∀ j, j < (can ms).length → ms.getD ((can ms).getD B 0).toNat 0 ≤ ms.getD ((can ms).getD j 0).toNat 0 ∧ (j < B → ms.getD ((can ms).getD B 0).toNat 0 < ms.getD ((can ms).getD j 0).toNat 0)) : ∃ b : Nat, (can ms).getD B 0 = (b : Int) ∧ QuickP ms b := by
  obtain ⟨b, h1, h2, h3⟩ := canF_at (ms := ms) (i := ms.length) hB
  refine ⟨b, h1, h2, h3, fun q hq hu => ?_⟩
  obtain ⟨i, i1, i2⟩ := canF_all (i := ms.length) hq hu
  have h := all i i1
  unfold can at h
  rw [h1, i2, Int.toNat_natCast, Int.toNat_natCast] at h
  refine ⟨h.1, fun hqb => h.2 ?_⟩
  by_cases hij : i < B
  · exact hij
  · by_cases e : i = B
    · subst e; omega
    · have := canF_rise (show B < i by omega) i1
      omega

/-- A Sched of the kind k, that picked l last, picks L of the means ms; then l' was picked last. -/
def IsPick (k l : Int) (ms : List Int) (L : List Int) (l' : Int) : Prop :=
  (NoneU ms ∧ L = [] ∧ l' = l) ∨ (¬ NoneU ms ∧ ((k = 3 ∧ L = can ms ∧ l' = l) ∨ (k = 2 ∧ ∃ b : Nat, RoundP ms l b ∧ L = [(b : Int)] ∧ l' = b) ∨ (k ≠ 2 ∧ k ≠ 3 ∧ ∃ b : Nat, QuickP ms b ∧ L = [(b : Int)] ∧ l' = l)))
theorem IsPick.eq {k l : Int} {ms L M : List Int} {l' m' : Int} (h : IsPick k l ms L l') (h' : IsPick k l ms M m') : L = M ∧ l' = m' := by
  rcases h with ⟨h1, h2, h3⟩ | ⟨h1, h2⟩
  · rcases h' with ⟨_, g2, g3⟩ | ⟨g1, _⟩
    · exact ⟨h2.trans g2.symm, h3.trans g3.symm⟩
    · exact absurd h1 g1
  · rcases h' with ⟨g1, _⟩ | ⟨_, g2⟩
    · exact absurd g1 h1
    · rcases h2 with ⟨a1, a2, a3⟩ | ⟨a1, b, a2, a3, a4⟩ | ⟨a1, a2, b, a3, a4, a5⟩ <;> rcases g2 with ⟨b1, b2, b3⟩ | ⟨b1, c, b2, b3, b4⟩ | ⟨b1, b2, c, b3, b4, b5⟩
      · exact ⟨a2.trans b2.symm, a3.trans b3.symm⟩
      · omega
      · omega
      · omega
      · obtain rfl := a2.eq b2
        exact ⟨a3.trans b3.symm, a4.trans b4.symm⟩
      · omega
      · omega
      · omega
      · obtain rfl := a3.eq b3
        exact ⟨a4.trans b4.symm, a5.trans b5.symm⟩
/-- What was picked last is a place below what there is, or nothing. -/
theorem IsPick.last {k l : Int} {ms L : List Int} {l' : Int} (h : IsPick k l ms L l') {N : Int} (hl : -1 ≤ l ∧ l ≤ N) (hm : (ms.length : Int) ≤ N) : -1 ≤ l' ∧ l' ≤ N := by
  rcases h with ⟨_, _, h3⟩ | ⟨_, ⟨_, _, h3⟩ | ⟨_, b, h2, _, h3⟩ | ⟨_, _, b, _, _, h3⟩⟩
  · omega
  · omega
  · have := h2.lt; omega
  · omega
theorem IsPick.len {k l : Int} {ms L : List Int} {l' : Int} (h : IsPick k l ms L l') : L.length ≤ ms.length := by
  rcases h with ⟨_, h3, _⟩ | ⟨_, ⟨_, h3, _⟩ | ⟨_, b, h2, h3, _⟩ | ⟨_, _, b, h2, h3, _⟩⟩
  · rw [h3]; simp
  · rw [h3]; exact canF_len ms _
  · rw [h3]; have := h2.lt; simp; omega
  · rw [h3]; have := h2.lt; simp; omega
end Go.Proofs.Ytffofgockddpiaa

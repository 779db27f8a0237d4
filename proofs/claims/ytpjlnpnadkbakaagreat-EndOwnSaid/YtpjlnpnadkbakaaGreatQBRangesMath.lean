/-
  RangesMath · OutMath · PlanMath.
-/
import Derived.RowKit
namespace Go.Proofs.YtpjlnpnadkbakaaGreat
set_option maxRecDepth 10000
structure Norm (ps : List (Int × Int)) : Prop where
  gap : ps.Pairwise (fun p q => p.2 < q.1)
  each : ∀ p ∈ ps, 0 ≤ p.1 ∧ p.1 < p.2 ∧ p.2 ≤ 1099511627776
def ins (ps : List (Int × Int)) (k : Int) : Prop := ∃ p ∈ ps, p.1 ≤ k ∧ k < p.2
theorem Norm.nil : Norm [] := ⟨.nil, by simp⟩
theorem ins_nil (k : Int) : ¬ ins [] k := by simp [ins]
theorem ins_cons (p : Int × Int) (ps : List (Int × Int)) (k : Int) : ins (p :: ps) k ↔ (p.1 ≤ k ∧ k < p.2) ∨ ins ps k := by simp [ins]
theorem ins_app (ps qs : List (Int × Int)) (k : Int) : ins (ps ++ qs) k ↔ ins ps k ∨ ins qs k := by
  simp only [ins, List.mem_append]
  constructor
  · rintro ⟨p, h | h, h2⟩
    · exact .inl ⟨p, h, h2⟩
    · exact .inr ⟨p, h, h2⟩
  · rintro (⟨p, h, h2⟩ | ⟨p, h, h2⟩)
    · exact ⟨p, .inl h, h2⟩
    · exact ⟨p, .inr h, h2⟩
theorem Norm.tail {p : Int × Int} {ps : List (Int × Int)} (h : Norm (p :: ps)) : Norm ps := ⟨(List.pairwise_cons.1 h.gap).2, fun q hq => h.each q (List.mem_cons_of_mem _ hq)⟩
theorem Norm.head {p : Int × Int} {ps : List (Int × Int)} (h : Norm (p :: ps)) : 0 ≤ p.1 ∧ p.1 < p.2 ∧ p.2 ≤ 1099511627776 := h.each p List.mem_cons_self
theorem Norm.rest {p : Int × Int} {ps : List (Int × Int)} (h : Norm (p :: ps)) : ∀ q ∈ ps, p.2 < q.1 := (List.pairwise_cons.1 h.gap).1
theorem Norm.cons {p : Int × Int} {ps : List (Int × Int)} (h0 : 0 ≤ p.1) (h1 : p.1 < p.2) (h2 : p.2 ≤ 1099511627776) (h : Norm ps) (hr : ∀ q ∈ ps, p.2 < q.1) : Norm (p :: ps) :=
  ⟨List.pairwise_cons.2 ⟨hr, h.gap⟩, by
    intro q hq
    rcases List.mem_cons.1 hq with rfl | hq
    · exact ⟨h0, h1, h2⟩
    · exact h.each q hq⟩
theorem Norm.app {ps qs : List (Int × Int)} (h1 : Norm ps) (h2 : Norm qs) (h : ∀ p ∈ ps, ∀ q ∈ qs, p.2 < q.1) : Norm (ps ++ qs) :=
  ⟨List.pairwise_append.2 ⟨h1.gap, h2.gap, h⟩, by
    intro q hq
    rcases List.mem_append.1 hq with hq | hq
    · exact h1.each q hq
    · exact h2.each q hq⟩
theorem Norm.take {ps : List (Int × Int)} (h : Norm ps) (k : Nat) : Norm (ps.take k) := ⟨h.gap.sublist (List.take_sublist _ _), fun q hq => h.each q (List.mem_of_mem_take hq)⟩
theorem Norm.drop {ps : List (Int × Int)} (h : Norm ps) (k : Nat) : Norm (ps.drop k) := ⟨h.gap.sublist (List.drop_sublist _ _), fun q hq => h.each q (List.mem_of_mem_drop hq)⟩
theorem Norm.at {ps : List (Int × Int)} (h : Norm ps) (i : Nat) (hi : i < ps.length) : 0 ≤ (ps.getD i (0, 0)).1 ∧ (ps.getD i (0, 0)).1 < (ps.getD i (0, 0)).2 ∧ (ps.getD i (0, 0)).2 ≤ 1099511627776 := by
  have : ps.getD i (0, 0) = ps[i] := by simp [List.getD, hi]
  rw [this]
  exact h.each _ (List.getElem_mem hi)
theorem Norm.lt {ps : List (Int × Int)} (h : Norm ps) (i j : Nat) (hij : i < j) (hj : j < ps.length) : (ps.getD i (0, 0)).2 < (ps.getD j (0, 0)).1 := by
  have h1 : ps.getD i (0, 0) = ps[i]'(by omega) := by simp [List.getD, show i < ps.length by omega]
  have h2 : ps.getD j (0, 0) = ps[j] := by simp [List.getD, hj]
  rw [h1, h2]
  exact List.pairwise_iff_getElem.1 h.gap i j (by omega) hj hij
theorem mem_getD {ps : List (Int × Int)} {q : Int × Int} (h : q ∈ ps) : ∃ i, i < ps.length ∧ ps.getD i (0, 0) = q := by
  obtain ⟨i, hi, rfl⟩ := List.getElem_of_mem h
  exact ⟨i, hi, by simp [List.getD, hi]⟩
theorem mem_take_getD {ps : List (Int × Int)} {q : Int × Int} {k : Nat} (h : q ∈ ps.take k) : ∃ i, i < k ∧ i < ps.length ∧ ps.getD i (0, 0) = q := by
  obtain ⟨i, hi, he⟩ := mem_getD h
  rw [List.length_take] at hi
  refine ⟨i, by omega, by omega, ?_⟩
  rw [← he]
  simp [List.getD, show i < k by omega]
theorem mem_drop_getD {ps : List (Int × Int)} {q : Int × Int} {k : Nat} (h : q ∈ ps.drop k) : ∃ i, k ≤ i ∧ i < ps.length ∧ ps.getD i (0, 0) = q := by
  obtain ⟨i, hi, he⟩ := mem_getD h
  rw [List.length_drop] at hi
  refine ⟨k + i, by omega, by omega, ?_⟩
  rw [← he]
  simp [List.getD]
theorem getD_mem_take {ps : List (Int × Int)} {i k : Nat} (hi : i < k) (hl : i < ps.length) : ps.getD i (0, 0) ∈ ps.take k := by
  have : ps.getD i (0, 0) = (ps.take k)[i]'(by rw [List.length_take]; omega) := by simp [List.getD, hl]
  rw [this]
  exact List.getElem_mem _
theorem getD_mem_drop {ps : List (Int × Int)} {i k : Nat} (hi : k ≤ i) (hl : i < ps.length) : ps.getD i (0, 0) ∈ ps.drop k := by
  have : ps.getD i (0, 0) = (ps.drop k)[i - k]'(by rw [List.length_drop]; omega) := by
    rw [List.getElem_drop]
    simp [List.getD, show k + (i - k) = i by omega, hl]
  rw [this]
  exact List.getElem_mem _
theorem Norm.ext {ps qs : List (Int × Int)} (hp : Norm ps) (hq : Norm qs) (h : ∀ k, ins ps k ↔ ins qs k) : ps = qs := by
  induction ps generalizing qs with
  | nil =>
    cases qs with
    | nil => rfl
    | cons q qs =>
      have := hq.head
      have := (h q.1).2 ((ins_cons q qs q.1).2 (.inl ⟨by omega, by omega⟩))
      exact absurd this (ins_nil _)
  | cons p ps ih =>
    cases qs with
    | nil =>
      have := hp.head
      have := (h p.1).1 ((ins_cons p ps p.1).2 (.inl ⟨by omega, by omega⟩))
      exact absurd this (ins_nil _)
    | cons q qs =>
      have a1 := hp.head
      have a2 := hq.head
      have r1 := hp.rest
      have r2 := hq.rest
      have low : ∀ {x : Int × Int} {xs : List (Int × Int)} {k : Int}, (∀ y ∈ xs, x.2 < y.1) → ins xs k → x.2 < k := by
        rintro x xs k hx ⟨y, hy, h1, _⟩
        have := hx y hy
        omega
      have e1 : p.1 = q.1 := by
        rcases Int.lt_trichotomy p.1 q.1 with hlt | he | hlt
        · rcases (ins_cons q qs p.1).1 ((h p.1).1 ((ins_cons p ps p.1).2 (.inl ⟨by omega, by omega⟩))) with h1 | h1
          · omega
          · have := low r2 h1; omega
        · exact he
        · rcases (ins_cons p ps q.1).1 ((h q.1).2 ((ins_cons q qs q.1).2 (.inl ⟨by omega, by omega⟩))) with h1 | h1
          · omega
          · have := low r1 h1; omega
      have e2 : p.2 = q.2 := by
        rcases Int.lt_trichotomy p.2 q.2 with hlt | he | hlt
        · rcases (ins_cons p ps p.2).1 ((h p.2).2 ((ins_cons q qs p.2).2 (.inl ⟨by omega, by omega⟩))) with h1 | h1
          · omega
          · have := low r1 h1; omega
        · exact he
        · rcases (ins_cons q qs q.2).1 ((h q.2).1 ((ins_cons p ps q.2).2 (.inl ⟨by omega, by omega⟩))) with h1 | h1
          · omega
          · have := low r2 h1; omega
      obtain rfl : p = q := Prod.ext e1 e2
      congr 1
      refine ih hp.tail hq.tail fun k => ?_
      constructor
      · intro hk
        have := low r1 hk
        rcases (ins_cons p qs k).1 ((h k).1 ((ins_cons p ps k).2 (.inr hk))) with h1 | h1
        · omega
        · exact h1
      · intro hk
        have := low r2 hk
        rcases (ins_cons p ps k).1 ((h k).2 ((ins_cons p qs k).2 (.inr hk))) with h1 | h1
        · omega
        · exact h1
def addL (ps : List (Int × Int)) (f t : Int) (a b : Nat) : List (Int × Int) :=
  ps.take a ++ [if a < b then (min f (ps.getD a (0, 0)).1, max t (ps.getD (b - 1) (0, 0)).2) else (f, t)] ++ ps.drop b
def cutM (ps : List (Int × Int)) (f t : Int) (a b : Nat) : List (Int × Int) :=
  (if (ps.getD a (0, 0)).1 < f then [((ps.getD a (0, 0)).1, f)] else []) ++ (if t < (ps.getD (b - 1) (0, 0)).2 then [(t, (ps.getD (b - 1) (0, 0)).2)] else [])
structure Touch (ps : List (Int × Int)) (f t : Int) (a b : Nat) : Prop where
  le : a ≤ b
  lb : b ≤ ps.length
  ahead : ∀ i, i < a → (ps.getD i (0, 0)).2 < f
  from_ : ∀ i, a ≤ i → i < ps.length → f ≤ (ps.getD i (0, 0)).2
  upto : ∀ i, i < b → (ps.getD i (0, 0)).1 ≤ t
  behind : ∀ i, b ≤ i → i < ps.length → t < (ps.getD i (0, 0)).1
theorem Touch.of {ps : List (Int × Int)} (h : Norm ps) {f t : Int} (hft : f < t) {a b : Nat} (ha : a ≤ ps.length) (hb : b ≤ ps.length) (h1 : ∀ i, i < a → (ps.getD i (0, 0)).2 < f) (h2 : ∀ i, a ≤ i → i < ps.length → f ≤ (ps.getD i (0, 0)).2)
    (h3 : ∀ i, i < b → (ps.getD i (0, 0)).1 ≤ t) (h4 : ∀ i, b ≤ i → i < ps.length → t < (ps.getD i (0, 0)).1) : Touch ps f t a b := by
  refine ⟨?_, hb, h1, h2, h3, h4⟩
  rcases Nat.lt_or_ge b a with hlt | h
  · have e1 := h1 b hlt
    have e2 := h4 b (Nat.le_refl _) (by omega)
    have := h.at b (by omega)
    omega
  · exact h
theorem add_norm {ps : List (Int × Int)} (h : Norm ps) {f t : Int} (h0 : 0 ≤ f) (hft : f < t) (htop : t ≤ 1099511627776) {a b : Nat} (ht : Touch ps f t a b) : Norm (addL ps f t a b) ∧ ∀ k, ins (addL ps f t a b) k ↔ ins ps k ∨ (f ≤ k ∧ k < t) := by
  unfold addL
  have hle := ht.le
  have hlb := ht.lb
  obtain ⟨x, hx⟩ : ∃ x, (if a < b then (min f (ps.getD a (0, 0)).1, max t (ps.getD (b - 1) (0, 0)).2) else (f, t)) = x := ⟨_, rfl⟩
  rw [hx]
  have hx1 : x.1 = if a < b then min f (ps.getD a (0, 0)).1 else f := by rw [← hx]; split <;> rfl
  have hx2 : x.2 = if a < b then max t (ps.getD (b - 1) (0, 0)).2 else t := by rw [← hx]; split <;> rfl
  have B1 : ∀ i, i < a → (ps.getD i (0, 0)).2 < x.1 := by
    intro i hi
    have e1 := ht.ahead i hi
    rw [hx1]
    split
    · have := h.lt i a hi (by omega)
      omega
    · exact e1
  have B2 : ∀ i, b ≤ i → i < ps.length → x.2 < (ps.getD i (0, 0)).1 := by
    intro i hi hl
    have e1 := ht.behind i hi hl
    rw [hx2]
    split
    · have := h.lt (b - 1) i (by omega) hl
      omega
    · exact e1
  have B3 : 0 ≤ x.1 ∧ x.1 < x.2 ∧ x.2 ≤ 1099511627776 := by
    rw [hx1, hx2]
    split
    · have e1 := h.at a (by omega)
      have e2 := h.at (b - 1) (by omega)
      omega
    · omega
  have B4 : ∀ k, (x.1 ≤ k ∧ k < x.2) ↔ (f ≤ k ∧ k < t) ∨ ∃ i, a ≤ i ∧ i < b ∧ (ps.getD i (0, 0)).1 ≤ k ∧ k < (ps.getD i (0, 0)).2 := by
    intro k
    rw [hx1, hx2]
    split
    · rename_i hab
      constructor
      · intro hk
        by_cases h1 : k < f
        · right
          exact ⟨a, Nat.le_refl _, hab, by omega, by have := ht.from_ a (Nat.le_refl _) (by omega); omega⟩
        · by_cases h2 : t ≤ k
          · right
            exact ⟨b - 1, by omega, by omega, by have := ht.upto (b - 1) (by omega); omega, by omega⟩
          · left; omega
      · rintro (h1 | ⟨i, h1, h2, h3, h4⟩)
        · omega
        · constructor
          · by_cases hia : i = a
            · subst hia; omega
            · have := h.lt a i (by omega) (by omega)
              have := h.at a (by omega)
              omega
          · by_cases hib : i = b - 1
            · subst hib; omega
            · have := h.lt i (b - 1) (by omega) (by omega)
              have := h.at (b - 1) (by omega)
              omega
    · constructor
      · exact .inl
      · rintro (h1 | ⟨i, h1, h2, _⟩)
        · exact h1
        · omega
  constructor
  · refine Norm.app (Norm.app (h.take a) (Norm.cons B3.1 B3.2.1 B3.2.2 Norm.nil (by simp)) ?_) (h.drop b) ?_
    · intro p hp q hq
      obtain ⟨i, hi, _, rfl⟩ := mem_take_getD hp
      obtain rfl : q = x := by simpa using hq
      exact B1 i hi
    · intro p hp q hq
      obtain ⟨j, hj, hl, rfl⟩ := mem_drop_getD hq
      rcases List.mem_append.1 hp with hp | hp
      · obtain ⟨i, hi, _, rfl⟩ := mem_take_getD hp
        exact h.lt i j (by omega) hl
      · obtain rfl : p = x := by simpa using hp
        exact B2 j hj hl
  · intro k
    rw [ins_app, ins_app, ins_cons, B4 k]
    constructor
    · rintro ((⟨p, hp, h1⟩ | (h1 | ⟨i, h1, h2, h3⟩) | h1) | ⟨p, hp, h1⟩)
      · exact .inl ⟨p, List.mem_of_mem_take hp, h1⟩
      · exact .inr h1
      · exact .inl ⟨_, List.mem_of_mem_take (getD_mem_take (ps := ps) h2 (by omega)), h3⟩
      · exact absurd h1 (ins_nil _)
      · exact .inl ⟨p, List.mem_of_mem_drop hp, h1⟩
    · rintro (⟨p, hp, h1⟩ | h1)
      · obtain ⟨i, hi, rfl⟩ := mem_getD hp
        by_cases hia : i < a
        · exact .inl (.inl ⟨_, getD_mem_take hia hi, h1⟩)
        · by_cases hib : i < b
          · exact .inl (.inr (.inl (.inr ⟨i, by omega, hib, h1⟩)))
          · exact .inr ⟨_, getD_mem_drop (by omega) hi, h1⟩
      · exact .inl (.inr (.inl (.inl h1)))
theorem cut_norm {ps : List (Int × Int)} (h : Norm ps) {f t : Int} (hft : f < t) {a b : Nat} (ht : Touch ps f t a b) (hab : a < b) : Norm (ps.take a ++ cutM ps f t a b ++ ps.drop b) ∧ ∀ k, ins (ps.take a ++ cutM ps f t a b ++ ps.drop b) k ↔ ins ps k ∧ ¬ (f ≤ k ∧ k < t) := by
  have hle := ht.le
  have hlb := ht.lb
  have ea := h.at a (by omega)
  have eb := h.at (b - 1) (by omega)
  have M : ∀ q ∈ cutM ps f t a b, (q = ((ps.getD a (0, 0)).1, f) ∧ (ps.getD a (0, 0)).1 < f) ∨ (q = (t, (ps.getD (b - 1) (0, 0)).2) ∧ t < (ps.getD (b - 1) (0, 0)).2) := by
    intro q hq
    unfold cutM at hq
    rcases List.mem_append.1 hq with hq | hq
    · split at hq
      · exact .inl ⟨by simpa using hq, by assumption⟩
      · simp at hq
    · split at hq
      · exact .inr ⟨by simpa using hq, by assumption⟩
      · simp at hq
  have hfa : f ≤ (ps.getD a (0, 0)).2 := ht.from_ a (Nat.le_refl _) (by omega)
  have htb : (ps.getD (b - 1) (0, 0)).1 ≤ t := ht.upto (b - 1) (by omega)
  have NM : Norm (cutM ps f t a b) := by
    unfold cutM
    refine Norm.app ?_ ?_ ?_
    · split
      · exact Norm.cons ea.1 (by assumption) (by show f ≤ _; omega) Norm.nil (by simp)
      · exact Norm.nil
    · split
      · refine Norm.cons (show 0 ≤ t by omega) (by assumption) eb.2.2 Norm.nil (by simp)
      · exact Norm.nil
    · intro p hp q hq
      split at hp
      · split at hq
        · obtain rfl : p = _ := by simpa using hp
          obtain rfl : q = _ := by simpa using hq
          exact hft
        · simp at hq
      · simp at hp
  constructor
  · refine Norm.app (Norm.app (h.take a) NM ?_) (h.drop b) ?_
    · intro p hp q hq
      obtain ⟨i, hi, _, rfl⟩ := mem_take_getD hp
      have e1 := ht.ahead i hi
      rcases M q hq with ⟨rfl, _⟩ | ⟨rfl, _⟩
      · exact h.lt i a hi (by omega)
      · show _ < t; omega
    · intro p hp q hq
      obtain ⟨j, hj, hl, rfl⟩ := mem_drop_getD hq
      have e1 := ht.behind j hj hl
      rcases List.mem_append.1 hp with hp | hp
      · obtain ⟨i, hi, _, rfl⟩ := mem_take_getD hp
        exact h.lt i j (by omega) hl
      · rcases M p hp with ⟨rfl, _⟩ | ⟨rfl, _⟩
        · show f < _; omega
        · exact h.lt (b - 1) j (by omega) hl
  · intro k
    have MM : ins (cutM ps f t a b) k ↔ ((ps.getD a (0, 0)).1 ≤ k ∧ k < f) ∨ (t ≤ k ∧ k < (ps.getD (b - 1) (0, 0)).2) := by
      unfold cutM
      rw [ins_app]
      constructor
      · rintro (h1 | h1)
        · split at h1
          · rcases (ins_cons _ _ _).1 h1 with h1 | h1
            · exact .inl h1
            · exact absurd h1 (ins_nil _)
          · exact absurd h1 (ins_nil _)
        · split at h1
          · rcases (ins_cons _ _ _).1 h1 with h1 | h1
            · exact .inr h1
            · exact absurd h1 (ins_nil _)
          · exact absurd h1 (ins_nil _)
      · rintro (h1 | h1)
        · left
          rw [if_pos (by omega)]
          exact (ins_cons _ _ _).2 (.inl h1)
        · right
          rw [if_pos (by omega)]
          exact (ins_cons _ _ _).2 (.inl h1)
    rw [ins_app, ins_app, MM]
    constructor
    · rintro ((⟨p, hp, h1⟩ | (h1 | h1)) | ⟨p, hp, h1⟩)
      · obtain ⟨i, hi, hl, rfl⟩ := mem_take_getD hp
        have := ht.ahead i hi
        exact ⟨⟨_, List.mem_of_mem_take hp, h1⟩, by omega⟩
      · refine ⟨⟨_, List.mem_of_mem_drop (getD_mem_drop (ps := ps) (Nat.le_refl a) (by omega)), h1.1, ?_⟩, by omega⟩
        omega
      · refine ⟨⟨_, List.mem_of_mem_drop (getD_mem_drop (ps := ps) (i := b - 1) (Nat.zero_le _) (by omega)), ?_, h1.2⟩, by omega⟩
        omega
      · obtain ⟨j, hj, hl, rfl⟩ := mem_drop_getD hp
        have := ht.behind j hj hl
        exact ⟨⟨_, List.mem_of_mem_drop hp, h1⟩, by omega⟩
    · rintro ⟨⟨p, hp, h1⟩, h2⟩
      obtain ⟨i, hi, rfl⟩ := mem_getD hp
      by_cases hia : i < a
      · exact .inl (.inl ⟨_, getD_mem_take hia hi, h1⟩)
      · by_cases hib : i < b
        · refine .inl (.inr ?_)
          have u1 := ht.from_ i (by omega) hi
          have u2 := ht.upto i hib
          by_cases hk : k < f
          · left
            by_cases he : i = a
            · subst he; omega
            · have := h.lt a i (by omega) hi
              have := h.at a (by omega)
              omega
          · right
            by_cases he : i = b - 1
            · subst he; omega
            · have := h.lt i (b - 1) (by omega) (by omega)
              have := h.at (b - 1) (by omega)
              omega
        · exact .inr ⟨_, getD_mem_drop (by omega) hi, h1⟩
def cntL : List (Int × Int) → Int
  | [] => 0
  | p :: ps => p.2 - p.1 + cntL ps
theorem cntL_app (ps qs : List (Int × Int)) : cntL (ps ++ qs) = cntL ps + cntL qs := by
  induction ps with
  | nil => simp [cntL]
  | cons p ps ih => simp only [List.cons_append, cntL, ih]; omega
theorem split_at (n : Nat) (p : Nat → Prop) (hmono : ∀ a b, a ≤ b → b < n → p a → p b) : ∃ r, r ≤ n ∧ (∀ i, i < r → ¬ p i) ∧ ∀ i, r ≤ i → i < n → p i := by
  induction n with
  | zero => exact ⟨0, Nat.le_refl _, fun i hi => absurd hi (Nat.not_lt_zero _), fun i _ hi => absurd hi (Nat.not_lt_zero _)⟩
  | succ n ih =>
    obtain ⟨r, hr, h1, h2⟩ := ih (fun a b hab hb => hmono a b hab (by omega))
    by_cases hp : p n
    · refine ⟨r, by omega, h1, fun i hi hn => ?_⟩
      by_cases he : i = n
      · subst he; exact hp
      · exact h2 i hi (by omega)
    · refine ⟨n + 1, Nat.le_refl _, fun i hi hpi => hp (hmono i n (by omega) (by omega) hpi), fun i hi hn => by omega⟩
theorem touch_exists {ps : List (Int × Int)} (h : Norm ps) {f t : Int} (hft : f < t) : ∃ a b, Touch ps f t a b := by
  obtain ⟨a, ha, a1, a2⟩ := split_at ps.length (fun i => f ≤ (ps.getD i (0, 0)).2) (fun i j hij hj hi => by
    rcases Nat.lt_or_ge i j with hlt | hge
    · have e1 := h.lt i j hlt hj
      have e2 := h.at j hj
      show f ≤ _
      have : f ≤ (ps.getD i (0, 0)).2 := hi
      omega
    · obtain rfl : i = j := by omega
      exact hi)
  obtain ⟨b, hb, b1, b2⟩ := split_at ps.length (fun i => t < (ps.getD i (0, 0)).1) (fun i j hij hj hi => by
    rcases Nat.lt_or_ge i j with hlt | hge
    · have e1 := h.lt i j hlt hj
      have e2 := h.at i (by omega)
      show t < _
      have : t < (ps.getD i (0, 0)).1 := hi
      omega
    · obtain rfl : i = j := by omega
      exact hi)
  exact ⟨a, b, Touch.of h hft ha hb (fun i hi => by have := a1 i hi; omega) a2 (fun i hi => by have := b1 i hi; omega) b2⟩
theorem reach_exists {ps : List (Int × Int)} (h : Norm ps) (t : Int) : ∃ a, a ≤ ps.length ∧ (∀ i, i < a → (ps.getD i (0, 0)).2 < t) ∧ ∀ i, a ≤ i → i < ps.length → t ≤ (ps.getD i (0, 0)).2 := by
  obtain ⟨a, ha, a1, a2⟩ := split_at ps.length (fun i => t ≤ (ps.getD i (0, 0)).2) (fun i j hij hj hi => by
    rcases Nat.lt_or_ge i j with hlt | hge
    · have e1 := h.lt i j hlt hj
      have e2 := h.at j hj
      show t ≤ _
      have : t ≤ (ps.getD i (0, 0)).2 := hi
      omega
    · obtain rfl : i = j := by omega
      exact hi)
  exact ⟨a, ha, fun i hi => by have := a1 i hi; omega, a2⟩
theorem has_iff {ps : List (Int × Int)} (h : Norm ps) {f t : Int} (hft : f < t) {a : Nat} (ha : a ≤ ps.length) (h1 : ∀ i, i < a → (ps.getD i (0, 0)).2 < t) (h2 : ∀ i, a ≤ i → i < ps.length → t ≤ (ps.getD i (0, 0)).2) :
    (a < ps.length ∧ (ps.getD a (0, 0)).1 ≤ f) ↔ ∀ k, f ≤ k → k < t → ins ps k := by
  constructor
  · rintro ⟨hal, hf⟩ k k1 k2
    have := h2 a (Nat.le_refl _) hal
    exact ⟨_, List.mem_of_mem_take (getD_mem_take (ps := ps) (k := a + 1) (by omega) hal), by omega, by omega⟩
  · intro hall
    obtain ⟨p, hp, p1, p2⟩ := hall (t - 1) (by omega) (by omega)
    obtain ⟨i, hi, rfl⟩ := mem_getD hp
    have hia : a ≤ i := by
      rcases Nat.lt_or_ge i a with hlt | hge
      · have := h1 i hlt; omega
      · exact hge
    refine ⟨by omega, ?_⟩
    by_cases hfa : (ps.getD a (0, 0)).1 ≤ f
    · exact hfa
    · exfalso
      have hai : (ps.getD a (0, 0)).1 ≤ (ps.getD i (0, 0)).1 := by
        by_cases he : a = i
        · subst he; omega
        · have := h.lt a i (by omega) hi
          have := h.at a (by omega)
          omega
      obtain ⟨q, hq, q1, q2⟩ := hall ((ps.getD a (0, 0)).1 - 1) (by omega) (by omega)
      obtain ⟨j, hj, rfl⟩ := mem_getD hq
      rcases Nat.lt_trichotomy j a with hlt | he | hgt
      · have := h.lt j a hlt (by omega)
        have := h.at a (by omega)
        obtain ⟨r, hr, r1, r2⟩ := hall ((ps.getD j (0, 0)).2) (by omega) (by omega)
        obtain ⟨l, hl, rfl⟩ := mem_getD hr
        rcases Nat.lt_trichotomy l j with hlt2 | he2 | hgt2
        · have := h.lt l j hlt2 hj
          have := h.at j hj
          omega
        · subst he2; omega
        · have := h.lt j l hgt2 hl
          omega
      · subst he; omega
      · have := h.lt a j hgt hj
        have := h.at a (by omega)
        omega
end Go.Proofs.YtpjlnpnadkbakaaGreat
namespace Go.Proofs.YtpjlnpnadkbakaaGreat
set_option maxRecDepth 10000
open Go.RowKit
structure Ou where
  buf : Int
  xs : List Int
  cl : Bool
  ak : Int
namespace Ou
def places (o : Ou) : Int := (o.xs.length : Int) + (if o.cl then 1 else 0)
def room (o : Ou) : Int := if o.cl then 0 else min (o.buf - ((o.xs.length : Int) - o.ak)) (4096 - (o.xs.length : Int))
def more (o : Ou) (ys : List Int) : Ou := ⟨o.buf, o.xs ++ ys, o.cl, o.ak⟩
def shut (o : Ou) : Ou := ⟨o.buf, o.xs, true, o.ak⟩
def may (o : Ou) (n : Int) : Bool := decide (0 ≤ n ∧ n ≤ o.places)
def ack (o : Ou) (n : Int) : Ou := if 0 ≤ n ∧ n ≤ o.places then ⟨o.buf, o.xs, o.cl, max o.ak n⟩ else o
def till (o : Ou) (n : Int) : Int := if (o.xs.length : Int) ≤ n then o.places else max n 0
def cut (o : Ou) (f t : Int) : List Int := (o.xs.take t.toNat).drop f.toNat
def fin (o : Ou) (f t : Int) : Bool := decide (f ≤ (o.xs.length : Int)) && decide ((o.xs.length : Int) < t)
def has (o : Ou) (f t : Int) : Bool := decide (0 ≤ f ∧ f ≤ t ∧ t ≤ o.places)
def new (n : Int) : Ou := ⟨min (max n 1) 400, [], false, 0⟩
structure ok (o : Ou) : Prop where
  b1 : 1 ≤ o.buf
  b2 : o.buf ≤ 400
  a1 : 0 ≤ o.ak
  a2 : o.ak ≤ o.places
  l : (o.xs.length : Int) ≤ 4096
  w : (o.xs.length : Int) - o.ak ≤ o.buf
variable {o : Ou}
theorem new_ok (n : Int) : (new n).ok := ⟨by simp [new]; omega, by simp [new]; omega, by simp [new], by simp [new, places], by simp [new], by simp [new]; omega⟩
theorem places_range (h : o.ok) : 0 ≤ o.places ∧ o.places ≤ 4097 := by
  have := h.l
  unfold places
  split <;> omega
theorem room_range (h : o.ok) : 0 ≤ o.room ∧ o.room ≤ 400 + 1 := by
  have h1 := h.l
  have h2 := h.w
  have h3 := h.b2
  have h4 := h.a2
  unfold room
  unfold places at h4
  cases hc : o.cl
  · simp only [hc, Bool.false_eq_true, if_false] at h4 ⊢
    omega
  · simp
theorem room_open (h : o.cl = false) : o.room = min (o.buf - ((o.xs.length : Int) - o.ak)) (4096 - (o.xs.length : Int)) := by unfold room; simp [h]
theorem room_shut (h : o.cl = true) : o.room = 0 := by unfold room; simp [h]
theorem more_ok (h : o.ok) {ys : List Int} (hl : (ys.length : Int) ≤ o.room) : (o.more ys).ok := by
  have h1 := h.l
  have h2 := h.w
  have h4 := h.a2
  have h0 := room_range h
  refine ⟨h.b1, h.b2, h.a1, ?_, ?_, ?_⟩
  · show o.ak ≤ (((o.xs ++ ys).length : Nat) : Int) + (if o.cl then 1 else 0)
    rw [List.length_append]
    unfold places at h4
    omega
  · show (((o.xs ++ ys).length : Nat) : Int) ≤ 4096
    rw [List.length_append]
    cases hc : o.cl
    · rw [room_open hc] at hl; omega
    · rw [room_shut hc] at hl; omega
  · show (((o.xs ++ ys).length : Nat) : Int) - o.ak ≤ o.buf
    rw [List.length_append]
    cases hc : o.cl
    · rw [room_open hc] at hl; omega
    · rw [room_shut hc] at hl; omega
theorem shut_ok (h : o.ok) : o.shut.ok := ⟨h.b1, h.b2, h.a1, by
  have := h.a2
  unfold places at this
  show o.ak ≤ (o.xs.length : Int) + (if true then 1 else 0)
  split at this <;> simp <;> omega, h.l, h.w⟩
theorem ack_ok (h : o.ok) (n : Int) : (o.ack n).ok := by
  unfold ack
  split
  · rename_i hn
    refine ⟨h.b1, h.b2, ?_, ?_, h.l, ?_⟩
    · show 0 ≤ max o.ak n
      have := h.a1
      omega
    · show max o.ak n ≤ o.places
      have := h.a2
      omega
    · show (o.xs.length : Int) - max o.ak n ≤ o.buf
      have := h.w
      omega
  · exact h
end Ou
end Go.Proofs.YtpjlnpnadkbakaaGreat
namespace Go.Proofs.YtpjlnpnadkbakaaGreat
set_option maxRecDepth 10000
def addS : List (Int × Int) → Int → Int → List (Int × Int)
  | [], f, t => [(f, t)]
  | q :: qs, f, t => if q.2 < f then q :: addS qs f t else if t < q.1 then (f, t) :: q :: qs else addS qs (min f q.1) (max t q.2)
def addN (ps : List (Int × Int)) (f t : Int) : List (Int × Int) := if max f 0 < min t 1099511627776 then addS ps (max f 0) (min t 1099511627776) else ps
def cutO (q : Int × Int) (f t : Int) : List (Int × Int) := (if q.1 < f then [(q.1, min q.2 f)] else []) ++ (if t < q.2 then [(max q.1 t, q.2)] else [])
def cutS (ps : List (Int × Int)) (f t : Int) : List (Int × Int) := ps.flatMap fun q => cutO q f t
def cutN (ps : List (Int × Int)) (f t : Int) : List (Int × Int) := if f < t then cutS ps f t else ps
theorem addS_low {ps : List (Int × Int)} : ∀ {f t lo : Int}, lo < f → (∀ q ∈ ps, lo < q.1) → ∀ x ∈ addS ps f t, lo < x.1 := by
  induction ps with
  | nil =>
    intro f t lo h _ x hx
    simp [addS] at hx
    rw [hx]
    exact h
  | cons q qs ih =>
    intro f t lo h hq x hx
    have h1 := hq q List.mem_cons_self
    have h2 : ∀ y ∈ qs, lo < y.1 := fun y hy => hq y (List.mem_cons_of_mem _ hy)
    unfold addS at hx
    split at hx
    · rcases List.mem_cons.1 hx with rfl | hx
      · exact h1
      · exact ih h h2 x hx
    · split at hx
      · rcases List.mem_cons.1 hx with rfl | hx
        · exact h
        · exact hq x hx
      · exact ih (by omega) h2 x hx
theorem addS_norm {ps : List (Int × Int)} (h : Norm ps) : ∀ {f t : Int}, 0 ≤ f → f < t → t ≤ 1099511627776 → Norm (addS ps f t) ∧ ∀ k, ins (addS ps f t) k ↔ ins ps k ∨ (f ≤ k ∧ k < t) := by
  induction ps with
  | nil =>
    intro f t h0 h1 h2
    refine ⟨Norm.cons h0 h1 h2 Norm.nil (by simp), fun k => ?_⟩
    simp [addS, ins]
  | cons q qs ih =>
    intro f t h0 h1 h2
    have hq := h.head
    have hr := h.rest
    unfold addS
    split
    · rename_i hlt
      have := ih h.tail h0 h1 h2
      refine ⟨Norm.cons hq.1 hq.2.1 hq.2.2 this.1 (addS_low hlt hr), fun k => ?_⟩
      rw [ins_cons, ins_cons, this.2 k, or_assoc]
    · split
      · rename_i hlt2
        refine ⟨Norm.cons h0 h1 h2 h ?_, fun k => ?_⟩
        · intro x hx
          rcases List.mem_cons.1 hx with rfl | hx
          · exact hlt2
          · have := hr x hx; show t < _; omega
        · rw [ins_cons]
          exact Or.comm
      · have := ih h.tail (f := min f q.1) (t := max t q.2) (by omega) (by omega) (by omega)
        refine ⟨this.1, fun k => ?_⟩
        rw [this.2 k, ins_cons]
        constructor
        · rintro (h3 | h3)
          · exact .inl (.inr h3)
          · by_cases h4 : q.1 ≤ k ∧ k < q.2
            · exact .inl (.inl h4)
            · exact .inr (by omega)
        · rintro ((h3 | h3) | h3)
          · exact .inr (by omega)
          · exact .inl h3
          · exact .inr (by omega)
theorem addN_norm {ps : List (Int × Int)} (h : Norm ps) (f t : Int) : Norm (addN ps f t) ∧ ∀ k, ins (addN ps f t) k ↔ ins ps k ∨ (max f 0 ≤ k ∧ k < min t 1099511627776) := by
  unfold addN
  split
  · exact addS_norm h (by omega) (by assumption) (by omega)
  · exact ⟨h, fun k => ⟨.inl, fun h => h.elim id (fun h => by omega)⟩⟩
theorem cutO_mem {q x : Int × Int} {f t : Int} (h : x ∈ cutO q f t) : (q.1 < f ∧ x = (q.1, min q.2 f)) ∨ (t < q.2 ∧ x = (max q.1 t, q.2)) := by
  unfold cutO at h
  rcases List.mem_append.1 h with h | h
  · split at h
    · exact .inl ⟨by assumption, by simpa using h⟩
    · simp at h
  · split at h
    · exact .inr ⟨by assumption, by simpa using h⟩
    · simp at h
theorem cutS_norm {ps : List (Int × Int)} (h : Norm ps) {f t : Int} (hft : f < t) : Norm (cutS ps f t) ∧ (∀ k, ins (cutS ps f t) k ↔ ins ps k ∧ ¬ (f ≤ k ∧ k < t)) ∧ ∀ lo, (∀ q ∈ ps, lo < q.1) → ∀ x ∈ cutS ps f t, lo < x.1 := by
  induction ps with
  | nil => exact ⟨Norm.nil, fun k => ⟨fun h => absurd h (ins_nil _), fun h => absurd h.1 (ins_nil _)⟩, fun lo _ x hx => by simp [cutS] at hx⟩
  | cons q qs ih =>
    have hq := h.head
    have hr := h.rest
    obtain ⟨i1, i2, i3⟩ := ih h.tail
    have hc : cutS (q :: qs) f t = cutO q f t ++ cutS qs f t := rfl
    rw [hc]
    have hO : Norm (cutO q f t) := by
      unfold cutO
      refine Norm.app ?_ ?_ ?_
      · split
        · exact Norm.cons hq.1 (by simp only []; omega) (by simp only []; omega) Norm.nil (by simp)
        · exact Norm.nil
      · split
        · exact Norm.cons (by simp only []; omega) (by simp only []; omega) (by simp only []; omega) Norm.nil (by simp)
        · exact Norm.nil
      · intro a ha b hb
        split at ha
        · split at hb
          · obtain rfl : a = _ := by simpa using ha
            obtain rfl : b = _ := by simpa using hb
            simp only []
            omega
          · simp at hb
        · simp at ha
    refine ⟨Norm.app hO i1 ?_, fun k => ?_, ?_⟩
    · intro a ha b hb
      have h1 := i3 q.2 hr b hb
      rcases cutO_mem ha with ⟨_, rfl⟩ | ⟨_, rfl⟩
      · simp only []; omega
      · exact h1
    · have hOk : ins (cutO q f t) k ↔ (q.1 ≤ k ∧ k < q.2) ∧ ¬ (f ≤ k ∧ k < t) := by
        unfold cutO
        rw [ins_app]
        constructor
        · rintro (⟨x, hx, h1⟩ | ⟨x, hx, h1⟩)
          · split at hx
            · obtain rfl : x = _ := by simpa using hx
              simp only [] at h1
              omega
            · simp at hx
          · split at hx
            · obtain rfl : x = _ := by simpa using hx
              simp only [] at h1
              omega
            · simp at hx
        · rintro ⟨h1, h2⟩
          by_cases h3 : k < f
          · left
            rw [if_pos (by omega)]
            exact ⟨_, List.mem_cons_self, by simp only []; omega⟩
          · right
            rw [if_pos (by omega)]
            exact ⟨_, List.mem_cons_self, by simp only []; omega⟩
      rw [ins_app, ins_cons, hOk, i2 k]
      constructor
      · rintro (⟨h1, h2⟩ | ⟨h1, h2⟩)
        · exact ⟨.inl h1, h2⟩
        · exact ⟨.inr h1, h2⟩
      · rintro ⟨h1 | h1, h2⟩
        · exact .inl ⟨h1, h2⟩
        · exact .inr ⟨h1, h2⟩
    · intro lo hlo x hx
      have h0 := hlo q List.mem_cons_self
      rcases List.mem_append.1 hx with hx | hx
      · rcases cutO_mem hx with ⟨_, rfl⟩ | ⟨_, rfl⟩
        · exact h0
        · simp only []; omega
      · exact i3 lo (fun y hy => hlo y (List.mem_cons_of_mem _ hy)) x hx
theorem cutN_norm {ps : List (Int × Int)} (h : Norm ps) (f t : Int) : Norm (cutN ps f t) ∧ ∀ k, ins (cutN ps f t) k ↔ ins ps k ∧ ¬ (f ≤ k ∧ k < t) := by
  unfold cutN
  split
  · have := cutS_norm h (f := f) (t := t) (by assumption)
    exact ⟨this.1, this.2.1⟩
  · exact ⟨h, fun k => ⟨fun h => ⟨h, by omega⟩, fun h => h.1⟩⟩
theorem Norm.many {ps : List (Int × Int)} (h : Norm ps) : ∀ lo : Int, lo ≤ 1099511627776 → (∀ q ∈ ps, lo ≤ q.1) → lo + (ps.length : Int) ≤ 1099511627776 := by
  induction ps with
  | nil => intro lo h0 _; simpa using h0
  | cons q qs ih =>
    intro lo h0 h1
    have hq := h.head
    have h2 := h1 q List.mem_cons_self
    have := ih h.tail (lo + 1) (by omega) (fun x hx => by have := h.rest x hx; omega)
    rw [List.length_cons]
    omega
theorem Norm.len {ps : List (Int × Int)} (h : Norm ps) : ps.length ≤ 1099511627776 := by
  have := h.many 0 (by omega) (fun q hq => (h.each q hq).1)
  omega
structure Pl where
  ls : List (Int × Int)
  sent : Int
structure Nx where
  f : Int
  t : Int
  ok : Bool
  p : Pl
def chk (c : Int) : Int := min (max c 1) 64
def reachI (o : Ou) (f t c : Int) : Int := min (if o.cl = true ∧ f ≤ (o.xs.length : Int) ∧ (o.xs.length : Int) ≤ f + c then f + c + 1 else f + c) t
namespace Pl
def new : Pl := ⟨[], 0⟩
def lost (p : Pl) (f t : Int) : Pl := ⟨addN p.ls f (min t p.sent), p.sent⟩
def step (L : List (Int × Int)) (s t c : Int) (o : Ou) : Nx :=
  match L with
  | q :: qs => ⟨q.1, reachI o q.1 q.2 c, true, ⟨cutN (q :: qs) q.1 (reachI o q.1 q.2 c), s⟩⟩
  | [] => if s < t then ⟨s, reachI o s t c, true, ⟨[], reachI o s t c⟩⟩ else ⟨0, 0, false, ⟨[], s⟩⟩
def next (p : Pl) (o : Ou) (l c : Int) : Nx := step (cutN p.ls 0 o.ak) p.sent (o.till l) (chk c) o
structure ok (p : Pl) : Prop where
  norm : Norm p.ls
  s0 : 0 ≤ p.sent
  s1 : p.sent ≤ 4097
  below : ∀ k, ins p.ls k → k < p.sent
variable {p : Pl} {o : Ou}
theorem new_ok : new.ok := ⟨Norm.nil, by simp [new], by simp [new], fun k h => absurd h (ins_nil _)⟩
theorem chk_range (c : Int) : 1 ≤ chk c ∧ chk c ≤ 64 := by unfold chk; omega
theorem lost_ok (h : p.ok) (f t : Int) : (p.lost f t).ok := by
  have := addN_norm h.norm f (min t p.sent)
  refine ⟨this.1, h.s0, h.s1, fun k hk => ?_⟩
  rcases (this.2 k).1 hk with h1 | h1
  · exact h.below k h1
  · show k < p.sent; omega
theorem till_range (h : o.ok) (l : Int) : 0 ≤ o.till l ∧ o.till l ≤ 4097 := by
  have h1 := Ou.places_range h
  have h2 := h.l
  have h3 : (o.xs.length : Int) ≤ o.places := by unfold Ou.places; split <;> omega
  unfold Ou.till
  split <;> omega
theorem reach_range (o : Ou) {f t c : Int} (hc : 1 ≤ c) (hf : f < t) : f < reachI o f t c ∧ reachI o f t c ≤ t := by
  unfold reachI
  split <;> omega
theorem mem_range (h : p.ok) {q : Int × Int} (hq : q ∈ p.ls) : 0 ≤ q.1 ∧ q.1 < q.2 ∧ q.2 ≤ p.sent := by
  have h1 := h.norm.each q hq
  have h2 := h.below (q.2 - 1) ⟨q, hq, by omega, by omega⟩
  omega
theorem cut_ok (h : p.ok) (f t : Int) : (Pl.mk (cutN p.ls f t) p.sent).ok := by
  have := cutN_norm h.norm f t
  exact ⟨this.1, h.s0, h.s1, fun k hk => h.below k ((this.2 k).1 hk).1⟩
theorem next_ok (h : p.ok) (ho : o.ok) (l c : Int) : (p.next o l c).p.ok := by
  have h1 := cut_ok h 0 o.ak
  unfold next step
  cases hc : cutN p.ls 0 o.ak with
  | nil =>
    simp only []
    have ht := till_range ho l
    split
    · rename_i hlt
      have := reach_range o (chk_range c).1 hlt
      have := h.s0
      exact ⟨Norm.nil, by simp only []; omega, by simp only []; omega, fun k h => absurd h (ins_nil _)⟩
    · exact ⟨Norm.nil, h.s0, h.s1, fun k h => absurd h (ins_nil _)⟩
  | cons q qs =>
    simp only []
    rw [hc] at h1
    exact cut_ok h1 _ _
end Pl
end Go.Proofs.YtpjlnpnadkbakaaGreat

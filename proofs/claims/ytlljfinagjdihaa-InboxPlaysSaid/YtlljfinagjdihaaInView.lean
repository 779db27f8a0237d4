/-
  An inbox that holds bytes of one text ('Vw'): what Put, Read make of it; how many bytes are new. No program.
-/
import Derived.Test.YtlljfinagjdihaaInMath2
import Derived.Test.YtlljfinagjdihaaDocIn4
namespace Go.Proofs.Ytlljfinagjdihaa

namespace In
variable {s : In}
theorem put_win (f : Int) (ys : List Int) (b : Bool) : (s.put f ys b).win = s.win ∧ (s.put f ys b).tk = s.tk := by
  have h := steps_same (s := s) f ys ys.length
  unfold put fin
  split <;> exact ⟨h.1, h.2.1⟩
theorem put_g (f : Int) (ys : List Int) (b : Bool) (k : Int) : (s.put f ys b).g k = if f ≤ k ∧ k < f + ys.length ∧ s.may k then some (ys.getD (k - f).toNat 0) else s.g k := by
  rw [← steps_g]
  unfold put fin
  split <;> rfl
theorem put_en (f : Int) (ys : List Int) (b : Bool) : (b = true ∧ s.ends (f + ys.length) → (s.put f ys b).en = f + ys.length) ∧ (¬ (b = true ∧ s.ends (f + ys.length)) → (s.put f ys b).en = s.en) := by
  have h := steps_ends (s := s) f ys ys.length
  have h2 := (steps_same (s := s) f ys ys.length).2.2
  unfold put
  constructor
  · rintro ⟨rfl, h1⟩
    rw [fin_yes (h.2 h1)]
    rfl
  · intro h1
    rw [fin_no (fun x => h1 ⟨x.1, h.1 x.2⟩)]
    exact h2
end In

/-- The inbox s: its window, how many were read, its end, which places are there: each has the text's byte. -/
structure Vw (s : In) (W t e : Int) (P : Int → Prop) (xs : List Int) : Prop where
  win : s.win = W
  tk : s.tk = t
  en : s.en = e
  yes : ∀ k, P k → s.g k = some (xs.getD k.toNat 0)
  no : ∀ k, ¬ P k → s.g k = none
section
variable {s : In} {W t e : Int} {P : Int → Prop} {xs : List Int}
theorem Vw.iff (h : Vw s W t e P xs) (k : Int) : s.g k = none ↔ ¬ P k := ⟨fun e hp => (by rw [h.yes k hp] at e; cases e), h.no k⟩
theorem Vw.may (h : Vw s W t e P xs) (k : Int) : s.may k ↔ 0 ≤ k ∧ k < t + W ∧ (e < 0 ∨ k < e) ∧ ¬ P k := by
  unfold In.may
  rw [h.win, h.tk, h.en, h.iff]
theorem Vw.ends (h : Vw s W t e P xs) (k : Int) : s.ends k ↔ e < 0 ∧ 0 ≤ k ∧ k ≤ 4096 ∧ ∀ j, k ≤ j → ¬ P j := by
  unfold In.ends
  rw [h.en]
  exact and_congr Iff.rfl (and_congr Iff.rfl (and_congr Iff.rfl (forall_congr' fun j => imp_congr_right fun _ => h.iff j)))
theorem Vw.new0 (m : Int) (xs : List Int) : Vw (In.new m) (min (max m 1) 400) 0 (-1) (fun _ => False) xs := ⟨rfl, rfl, rfl, fun _ h => h.elim, fun _ _ => rfl⟩
theorem Vw.congr (h : Vw s W t e P xs) {P' : Int → Prop} (hp : ∀ k, P' k ↔ P k) : Vw s W t e P' xs := ⟨h.win, h.tk, h.en, fun k hk => h.yes k ((hp k).1 hk), fun k hk => h.no k (fun x => hk ((hp k).2 x))⟩
/-- A Put of bytes: what is new of them is the text's. -/
theorem Vw.put (h : Vw s W t e P xs) {f : Int} {ys : List Int} {m : Nat} (hm : ys.length = m) {b : Bool} {e' : Int} {P' : Int → Prop}
    (hP : ∀ k, P' k ↔ P k ∨ (f ≤ k ∧ k < f + (m : Int) ∧ 0 ≤ k ∧ k < t + W ∧ (e < 0 ∨ k < e)))
    (hy : ∀ k, f ≤ k → k < f + (m : Int) → 0 ≤ k → k < t + W → (e < 0 ∨ k < e) → ¬ P k → ys.getD (k - f).toNat 0 = xs.getD k.toNat 0)
    (he : (b = true ∧ e < 0 ∧ 0 ≤ f + (m : Int) ∧ f + (m : Int) ≤ 4096 ∧ (∀ j, f + (m : Int) ≤ j → ¬ P j) ∧ e' = f + (m : Int)) ∨ ((b = false ∨ ¬ e < 0 ∨ f + (m : Int) < 0 ∨ 4096 < f + (m : Int) ∨ ∃ j, f + (m : Int) ≤ j ∧ P j) ∧ e' = e)) :
    Vw (s.put f ys b) W t e' P' xs := by
  have hw := In.put_win (s := s) f ys b
  have hen := In.put_en (s := s) f ys b
  rw [hm] at hen
  refine ⟨hw.1.trans h.win, hw.2.trans h.tk, ?_, fun k hk => ?_, fun k hk => ?_⟩
  · rcases he with ⟨h1, h2, h3, h4, h5, h6⟩ | ⟨h1, h2⟩
    · rw [hen.1 ⟨h1, (h.ends _).2 ⟨h2, h3, h4, h5⟩⟩, h6]
    · rw [hen.2 ?_, h.en, h2]
      rintro ⟨x1, x2⟩
      obtain ⟨x2, x3, x4, x5⟩ := (h.ends _).1 x2
      rcases h1 with h1 | h1 | h1 | h1 | ⟨j, h1, h3⟩
      · rw [h1] at x1; cases x1
      · exact h1 x2
      · omega
      · omega
      · exact x5 j h1 h3
  · rw [In.put_g, hm]
    by_cases hp : P k
    · rw [if_neg (fun x => ((h.may k).1 x.2.2).2.2.2 hp)]
      exact h.yes k hp
    · obtain ⟨a1, a2, a3, a4, a5⟩ := ((hP k).1 hk).resolve_left hp
      rw [if_pos ⟨a1, a2, (h.may k).2 ⟨a3, a4, a5, hp⟩⟩, hy k a1 a2 a3 a4 a5 hp]
  · rw [In.put_g, hm, if_neg]
    · exact h.no k (fun x => hk ((hP k).2 (.inl x)))
    · rintro ⟨a1, a2, a3⟩
      obtain ⟨a3, a4, a5, _⟩ := (h.may k).1 a3
      exact hk ((hP k).2 (.inr ⟨a1, a2, a3, a4, a5⟩))
/-- How many are new: those from a to below c. -/
theorem Vw.new (h : Vw s W t e P xs) {f : Int} {ys : List Int} {m : Nat} (hm : ys.length = m) (a c : Int) (hac : a ≤ c)
    (hc : ∀ k, (f ≤ k ∧ k < f + (m : Int) ∧ 0 ≤ k ∧ k < t + W ∧ (e < 0 ∨ k < e) ∧ ¬ P k) ↔ (a ≤ k ∧ k < c)) : s.new_ f ys = c - a := by
  unfold In.new_
  rw [hm, In.steps_sum]
  have hv : ∀ k, f ≤ k → k < f + (m : Int) → s.cnt1 k = if a ≤ k ∧ k < c then 1 else 0 := fun k h1 h2 => by
    unfold In.cnt1
    by_cases hk : a ≤ k ∧ k < c
    · obtain ⟨_, _, a3, a4, a5, a6⟩ := (hc k).2 hk
      rw [if_pos hk, if_pos ((h.may k).2 ⟨a3, a4, a5, a6⟩)]
    · rw [if_neg hk, if_neg]
      intro x
      obtain ⟨a3, a4, a5, a6⟩ := (h.may k).1 x
      exact hk ((hc k).1 ⟨h1, h2, a3, a4, a5, a6⟩)
  by_cases hlt : a < c
  · have h1 := (hc a).2 ⟨Int.le_refl _, hlt⟩
    have h2 := (hc (c - 1)).2 ⟨by omega, by omega⟩
    obtain ⟨x, hx⟩ : ∃ x : Nat, a = f + (x : Nat) := ⟨(a - f).toNat, by omega⟩
    obtain ⟨y, hy⟩ : ∃ y : Nat, c = a + (y : Nat) := ⟨(c - a).toNat, by omega⟩
    obtain ⟨z, hz⟩ : ∃ z : Nat, m = (x + y) + z := ⟨m - (x + y), by omega⟩
    rw [hz, sumI_app, sumI_app, sumI_zero (n := x), sumI_zero (n := z), ← hx, sumI_one]
    · omega
    · intro k k1 k2; rw [hv k (by omega) (by omega), if_pos (by omega)]
    · intro k k1 k2; rw [hv k (by omega) (by omega), if_neg (by omega)]
    · intro k k1 k2; rw [hv k (by omega) (by omega), if_neg (by omega)]
  · rw [sumI_zero (fun k k1 k2 => by rw [hv k k1 k2, if_neg (by omega)])]
    omega
theorem Vw.front (h : Vw s W t e P xs) (f : Int) (h0 : 0 ≤ f) (all : ∀ k, 0 ≤ k → k < f → P k) (no : ¬ P f) : Front s.g f := ⟨h0, fun k h1 h2 => (by rw [h.yes k (all k h1 h2)]; simp), h.no f no⟩
theorem Vw.read (h : Vw s W t e P xs) (n : Int) : Vw (s.read n) W (t + n) e P xs := ⟨h.win, by simp only [In.read]; rw [h.tk], h.en, h.yes, h.no⟩
theorem Vw.isread (h : Vw s W t e P xs) {T k : Nat} (ht : t = T) (hp : ∀ j, t ≤ j → j < t + (k : Int) → P j) (hl : T + k ≤ xs.length) : IsRead s.g s.tk k ((xs.drop T).take k) := by
  refine ⟨by rw [List.length_take, List.length_drop]; omega, fun j hj => ?_⟩
  rw [h.tk, h.yes _ (hp _ (by omega) (by omega)), ht, show ((T : Int) + (j : Int)).toNat = T + j by omega]
  simp [List.getD, hj]
end
end Go.Proofs.Ytlljfinagjdihaa

/-
  An inbox as mathematics ('In'): what is there, place by place; what Put makes of it. No program.
-/
import Derived.Test.YtlljfinagjdihaaRangesMath
namespace Go.Proofs.Ytlljfinagjdihaa

/-- The window, how many were read, the end (below 0: not known), what is there. -/
structure In where
  win : Int
  tk : Int
  en : Int
  g : Int → Option Int

namespace In
variable {s : In}
def new (m : Int) : In := ⟨min (max m 1) 400, 0, -1, fun _ => none⟩
/-- May a byte come at the place k? -/
def may (s : In) (k : Int) : Prop := 0 ≤ k ∧ k < s.tk + s.win ∧ (s.en < 0 ∨ k < s.en) ∧ s.g k = none
instance (s : In) (k : Int) : Decidable (s.may k) := by unfold may; infer_instance
/-- A byte came. -/
def lay (s : In) (k x : Int) : In := ⟨s.win, s.tk, s.en, fun j => if j = k then some x else s.g j⟩
def put1 (s : In) (k x : Int) : In := if s.may k then s.lay k x else s
def cnt1 (s : In) (k : Int) : Int := if s.may k then 1 else 0
/-- The first i of some bytes came, from the place f on: what is there then, and how many of them are new. -/
def steps (s : In) (f : Int) (ys : List Int) : Nat → In × Int
  | 0 => (s, 0)
  | i + 1 => ((steps s f ys i).1.put1 (f + i) (ys.getD i 0), (steps s f ys i).2 + (steps s f ys i).1.cnt1 (f + i))
/-- May the end be at k? -/
def ends (s : In) (k : Int) : Prop := s.en < 0 ∧ 0 ≤ k ∧ k ≤ 4096 ∧ ∀ j, k ≤ j → s.g j = none
/-- The end is at k. -/
def shut (s : In) (k : Int) : In := ⟨s.win, s.tk, k, s.g⟩
noncomputable def fin (s : In) (k : Int) (b : Bool) : In := @ite In (b = true ∧ s.ends k) (Classical.propDecidable _) (s.shut k) s
noncomputable def put (s : In) (f : Int) (ys : List Int) (b : Bool) : In := (s.steps f ys ys.length).1.fin (f + ys.length) b
def new_ (s : In) (f : Int) (ys : List Int) : Int := (s.steps f ys ys.length).2
/-- n were read. -/
def read (s : In) (n : Int) : In := ⟨s.win, s.tk + n, s.en, s.g⟩

structure ok (s : In) : Prop where
  w0 : 1 ≤ s.win
  w1 : s.win ≤ 400
  t0 : 0 ≤ s.tk
  e0 : -1 ≤ s.en
  e1 : s.en ≤ 4096
  rng : ∀ k, s.g k ≠ none → 0 ≤ k ∧ k < s.tk + s.win
  end_ : 0 ≤ s.en → ∀ k, s.g k ≠ none → k < s.en
  had : ∀ k, 0 ≤ k → k < s.tk → s.g k ≠ none

theorem new_ok (m : Int) : (new m).ok := ⟨by simp only [new]; omega, by simp only [new]; omega, by simp [new], by simp [new], by simp [new], fun k h => absurd rfl h, fun h => by simp [new] at h, fun k h1 h2 => by simp [new] at h2; omega⟩
theorem lay_ok (h : s.ok) {k : Int} (hm : s.may k) (x : Int) : (s.lay k x).ok := by
  obtain ⟨m1, m2, m3, m4⟩ := hm
  refine ⟨h.w0, h.w1, h.t0, h.e0, h.e1, fun j hj => ?_, fun he j hj => ?_, fun j h1 h2 => ?_⟩
  · by_cases e : j = k
    · subst e; exact ⟨m1, m2⟩
    · simp only [lay, if_neg e] at hj; exact h.rng j hj
  · by_cases e : j = k
    · subst e
      rcases m3 with h3 | h3
      · simp only [lay] at he; omega
      · exact h3
    · simp only [lay, if_neg e] at hj; exact h.end_ he j hj
  · by_cases e : j = k
    · simp [lay, e]
    · simp only [lay, if_neg e]; exact h.had j h1 h2
theorem put1_ok (h : s.ok) (k x : Int) : (s.put1 k x).ok := by
  unfold put1
  by_cases hm : s.may k
  · rw [if_pos hm]; exact lay_ok h hm x
  · rw [if_neg hm]; exact h
theorem put1_same (k x : Int) : (s.put1 k x).win = s.win ∧ (s.put1 k x).tk = s.tk ∧ (s.put1 k x).en = s.en := by
  unfold put1
  split <;> exact ⟨rfl, rfl, rfl⟩
theorem steps_ok (h : s.ok) (f : Int) (ys : List Int) (i : Nat) : (s.steps f ys i).1.ok := by
  induction i with
  | zero => exact h
  | succ i ih => exact put1_ok ih _ _
theorem steps_same (f : Int) (ys : List Int) (i : Nat) : (s.steps f ys i).1.win = s.win ∧ (s.steps f ys i).1.tk = s.tk ∧ (s.steps f ys i).1.en = s.en := by
  induction i with
  | zero => exact ⟨rfl, rfl, rfl⟩
  | succ i ih =>
    have := put1_same (s := (s.steps f ys i).1) (f + i) (ys.getD i 0)
    exact ⟨this.1.trans ih.1, this.2.1.trans ih.2.1, this.2.2.trans ih.2.2⟩
theorem steps_cnt (f : Int) (ys : List Int) (i : Nat) : 0 ≤ (s.steps f ys i).2 ∧ (s.steps f ys i).2 ≤ i := by
  induction i with
  | zero => simp [steps]
  | succ i ih =>
    have : (s.steps f ys (i + 1)).2 = (s.steps f ys i).2 + (s.steps f ys i).1.cnt1 (f + i) := rfl
    rw [this]
    unfold cnt1
    split <;> omega
/-- What is there behind some bytes: those that might come. -/
theorem steps_g (f : Int) (ys : List Int) (i : Nat) : ∀ k, (s.steps f ys i).1.g k = if f ≤ k ∧ k < f + i ∧ s.may k then some (ys.getD (k - f).toNat 0) else s.g k := by
  induction i with
  | zero => intro k; rw [if_neg (by omega)]; rfl
  | succ i ih =>
    intro k
    have hs := steps_same (s := s) f ys i
    have hg : (s.steps f ys i).1.g (f + i) = s.g (f + i) := by rw [ih, if_neg (by omega)]
    have hm : (s.steps f ys i).1.may (f + i) ↔ s.may (f + i) := by
      unfold may
      rw [hg, hs.1, hs.2.1, hs.2.2]
    have e : (s.steps f ys (i + 1)).1 = (s.steps f ys i).1.put1 (f + i) (ys.getD i 0) := rfl
    rw [e]
    unfold put1
    by_cases hk : k = f + i
    · subst hk
      by_cases hy : s.may (f + i)
      · rw [if_pos (hm.2 hy), if_pos ⟨by omega, by omega, hy⟩]
        simp only [lay, if_pos]
        rw [show (f + (i : Int) - f).toNat = i by omega]
      · rw [if_neg (fun h => hy (hm.1 h)), if_neg (fun h => hy h.2.2), hg]
    · have h1 : (if (s.steps f ys i).1.may (f + i) then (s.steps f ys i).1.lay (f + i) (ys.getD i 0) else (s.steps f ys i).1).g k = (s.steps f ys i).1.g k := by
        split
        · simp only [lay, if_neg hk]
        · rfl
      rw [h1, ih]
      by_cases hc : f ≤ k ∧ k < f + i ∧ s.may k
      · rw [if_pos hc, if_pos ⟨hc.1, by omega, hc.2.2⟩]
      · rw [if_neg hc, if_neg (fun h => hc ⟨h.1, by omega, h.2.2⟩)]
/-- How many are new: counted place by place. -/
theorem steps_n (f : Int) (ys : List Int) (i : Nat) : (s.steps f ys (i + 1)).2 = (s.steps f ys i).2 + s.cnt1 (f + i) := by
  have hs := steps_same (s := s) f ys i
  have hg : (s.steps f ys i).1.g (f + i) = s.g (f + i) := by rw [steps_g, if_neg (by omega)]
  have hm : (s.steps f ys i).1.may (f + i) ↔ s.may (f + i) := by
    unfold may
    rw [hg, hs.1, hs.2.1, hs.2.2]
  have e : (s.steps f ys (i + 1)).2 = (s.steps f ys i).2 + (s.steps f ys i).1.cnt1 (f + i) := rfl
  rw [e]
  unfold cnt1
  by_cases h : s.may (f + i)
  · rw [if_pos h, if_pos (hm.2 h)]
  · rw [if_neg h, if_neg (fun h' => h (hm.1 h'))]
/-- The first a may come, none behind them. -/
theorem steps_first (f : Int) (ys : List Int) (a : Nat) (h1 : ∀ j : Nat, j < a → s.may (f + j)) (h2 : ∀ j : Nat, a ≤ j → ¬ s.may (f + j)) (i : Nat) : (s.steps f ys i).2 = min i a := by
  induction i with
  | zero => simp [steps]
  | succ i ih =>
    rw [steps_n, ih]
    unfold cnt1
    by_cases h : i < a
    · rw [if_pos (h1 i h)]; omega
    · rw [if_neg (h2 i (by omega))]; omega
/-- None may come. -/
theorem steps_none (f : Int) (ys : List Int) (i : Nat) (h : ∀ j : Nat, j < i → ¬ s.may (f + j)) : (s.steps f ys i).2 = 0 := by
  induction i with
  | zero => rfl
  | succ i ih =>
    rw [steps_n, ih (fun j hj => h j (by omega))]
    unfold cnt1
    rw [if_neg (h i (by omega))]
    rfl
theorem fin_ok (h : s.ok) (k : Int) (b : Bool) : (s.fin k b).ok := by
  unfold fin
  split
  · next hh =>
    obtain ⟨_, h1, h2, h3, h4⟩ := hh
    refine ⟨h.w0, h.w1, h.t0, by simp only [shut]; omega, by simp only [shut]; omega, h.rng, fun _ j hj => ?_, h.had⟩
    show j < k
    by_cases h5 : j < k
    · exact h5
    · exact absurd (h4 j (by omega)) hj
  · exact h
theorem put_ok (h : s.ok) (f : Int) (ys : List Int) (b : Bool) : (s.put f ys b).ok := fin_ok (steps_ok h f ys _) _ b
end In

/-- f is the first place that is not there. -/
structure Front (g : Int → Option Int) (f : Int) : Prop where
  ge : 0 ≤ f
  all : ∀ k, 0 ≤ k → k < f → g k ≠ none
  no : g f = none
theorem Front.eq {g : Int → Option Int} {f f' : Int} (h : Front g f) (h' : Front g f') : f = f' := by
  rcases Int.lt_trichotomy f f' with h1 | h1 | h1
  · exact absurd h.no (h'.all f h.ge h1)
  · exact h1
  · exact absurd h'.no (h.all f' h'.ge h1)

/-- The document's own: the bytes xs, where the places of ps are there. -/
structure Rep (xs : List Int) (ps : List (Int × Int)) (g : Int → Option Int) : Prop where
  norm : Norm ps
  yes : ∀ k, ins ps k → 0 ≤ k ∧ k < xs.length ∧ g k = some (xs.getD k.toNat 0)
  no : ∀ k, ¬ ins ps k → g k = none
section
variable {xs : List Int} {ps : List (Int × Int)} {g : Int → Option Int}
theorem Rep.iff (h : Rep xs ps g) (k : Int) : g k = none ↔ ¬ ins ps k := ⟨fun e hi => (by rw [(h.yes k hi).2.2] at e; cases e), h.no k⟩
/-- Bytes behind all of them change nothing. -/
theorem Rep.more (h : Rep xs ps g) (zs : List Int) : Rep (xs ++ zs) ps g := by
  refine ⟨h.norm, fun k hk => ?_, h.no⟩
  obtain ⟨h1, h2, h3⟩ := h.yes k hk
  refine ⟨h1, by rw [List.length_append]; omega, ?_⟩
  rw [h3]
  congr 1
  simp only [List.getD_eq_getElem?_getD]
  rw [List.getElem?_append_left (by omega)]
end
end Go.Proofs.Ytlljfinagjdihaa

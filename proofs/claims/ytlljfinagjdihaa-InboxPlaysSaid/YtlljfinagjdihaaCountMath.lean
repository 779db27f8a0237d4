/-
  How many places a set has, counted place by place. No program, no memory.
-/
import Derived.Test.YtlljfinagjdihaaRangesMath
namespace Go.Proofs.Ytlljfinagjdihaa

open Classical in
/-- 1 where P holds. -/
noncomputable def ind (P : Prop) : Int := if P then 1 else 0
theorem ind_yes {P : Prop} (h : P) : ind P = 1 := by unfold ind; rw [if_pos h]
theorem ind_no {P : Prop} (h : ¬ P) : ind P = 0 := by unfold ind; rw [if_neg h]
theorem ind_iff {P Q : Prop} (h : P ↔ Q) : ind P = ind Q := by rw [propext h]

/-- The sum of g from f on, n times. -/
def sumI (g : Int → Int) (f : Int) : Nat → Int
  | 0 => 0
  | n + 1 => sumI g f n + g (f + (n : Nat))
theorem sumI_congr {g h : Int → Int} {f : Int} {n : Nat} (e : ∀ k, f ≤ k → k < f + (n : Nat) → g k = h k) : sumI g f n = sumI h f n := by
  induction n with
  | zero => rfl
  | succ n ih =>
    rw [sumI, sumI, ih (fun k h1 h2 => e k h1 (by omega)), e (f + (n : Nat)) (by omega) (by omega)]
theorem sumI_add (g h : Int → Int) (f : Int) (n : Nat) : sumI (fun k => g k + h k) f n = sumI g f n + sumI h f n := by
  induction n with
  | zero => rfl
  | succ n ih => simp only [sumI, ih]; omega
theorem sumI_app (g : Int → Int) (f : Int) (a b : Nat) : sumI g f (a + b) = sumI g f a + sumI g (f + (a : Nat)) b := by
  induction b with
  | zero => simp [sumI]
  | succ b ih =>
    rw [show a + (b + 1) = (a + b) + 1 by omega, sumI, ih, sumI]
    rw [show f + ((a + b : Nat) : Int) = f + (a : Nat) + (b : Nat) by omega]
    omega
theorem sumI_zero {g : Int → Int} {f : Int} {n : Nat} (e : ∀ k, f ≤ k → k < f + (n : Nat) → g k = 0) : sumI g f n = 0 := by
  induction n with
  | zero => rfl
  | succ n ih => rw [sumI, ih (fun k h1 h2 => e k h1 (by omega)), e (f + (n : Nat)) (by omega) (by omega)]; rfl
theorem sumI_one {g : Int → Int} {f : Int} {n : Nat} (e : ∀ k, f ≤ k → k < f + (n : Nat) → g k = 1) : sumI g f n = (n : Nat) := by
  induction n with
  | zero => rfl
  | succ n ih => rw [sumI, ih (fun k h1 h2 => e k h1 (by omega)), e (f + (n : Nat)) (by omega) (by omega)]; omega
/-- Only a window counts. -/
theorem sumI_window {g : Int → Int} {F : Int} {m N : Nat} (h0 : 0 ≤ F) (hN : F + (m : Nat) ≤ (N : Nat)) (e : ∀ k, k < F ∨ F + (m : Nat) ≤ k → g k = 0) : sumI g 0 N = sumI g F m := by
  obtain ⟨a, rfl⟩ := Int.eq_ofNat_of_zero_le h0
  rw [show N = a + (m + (N - a - m)) by omega, sumI_app, sumI_app, sumI_zero (f := 0) (fun k h1 h2 => e k (by omega)), sumI_zero (f := 0 + (a : Nat) + (m : Nat)) (fun k h1 h2 => e k (by omega))]
  rw [show (0 : Int) + (a : Nat) = (a : Nat) by omega]
  omega

/-- How many of the places from f to below f + n are in. -/
noncomputable def win (ps : List (Int × Int)) (f : Int) (n : Nat) : Int := sumI (fun k => ind (ins ps k)) f n

theorem cnt_win {ps : List (Int × Int)} (h : Norm ps) : cntL ps = win ps 0 1099511627776 := by
  induction ps with
  | nil =>
    unfold win
    rw [sumI_zero (fun k _ _ => ind_no (ins_nil k))]
    rfl
  | cons p ps ih =>
    have h1 := h.head
    have e : win (p :: ps) 0 1099511627776 = sumI (fun k => ind (p.1 ≤ k ∧ k < p.2)) 0 1099511627776 + win ps 0 1099511627776 := by
      unfold win
      rw [← sumI_add]
      refine sumI_congr fun k _ _ => ?_
      by_cases hk : p.1 ≤ k ∧ k < p.2
      · rw [ind_yes hk, ind_yes ((ins_cons p ps k).2 (.inl hk)), ind_no]
        · rfl
        · rintro ⟨q, hq, q1, _⟩
          have := h.rest q hq
          omega
      · rw [ind_no hk]
        rw [ind_iff (show ins (p :: ps) k ↔ ins ps k from ⟨fun h => by
          rcases (ins_cons p ps k).1 h with h | h
          · exact absurd h hk
          · exact h, fun h => (ins_cons p ps k).2 (.inr h)⟩)]
        omega
    rw [e, ← ih h.tail, cntL]
    have e2 : sumI (fun k => ind (p.1 ≤ k ∧ k < p.2)) 0 1099511627776 = p.2 - p.1 := by
      obtain ⟨m, hm⟩ := Int.eq_ofNat_of_zero_le (show 0 ≤ p.2 - p.1 by omega)
      rw [sumI_window (F := p.1) (m := m) h1.1 (by omega) (fun k hk => ind_no (by omega)), sumI_one (fun k h1 h2 => ind_yes (by omega)), hm]
    rw [e2]
theorem cnt_cut {ps qs : List (Int × Int)} (hp : Norm ps) (hq : Norm qs) {F : Int} {m : Nat} (h0 : 0 ≤ F) (hm : F + (m : Nat) ≤ 1099511627776) (h : ∀ k, ins qs k ↔ ins ps k ∧ ¬ (F ≤ k ∧ k < F + (m : Nat))) : cntL qs = cntL ps - win ps F m := by
  have e : win ps 0 1099511627776 = win qs 0 1099511627776 + sumI (fun k => ind (ins ps k ∧ F ≤ k ∧ k < F + (m : Nat))) 0 1099511627776 := by
    unfold win
    rw [← sumI_add]
    refine sumI_congr fun k _ _ => ?_
    by_cases hi : ins ps k
    · by_cases hk : F ≤ k ∧ k < F + (m : Nat)
      · rw [ind_yes hi, ind_no (fun hqk => ((h k).1 hqk).2 hk), ind_yes ⟨hi, hk⟩]
        rfl
      · rw [ind_yes hi, ind_yes ((h k).2 ⟨hi, hk⟩), ind_no (fun h => hk h.2)]
        rfl
    · rw [ind_no hi, ind_no (fun hqk => hi ((h k).1 hqk).1), ind_no (fun h => hi h.1)]
      rfl
  rw [cnt_win hp, cnt_win hq, e, sumI_window (F := F) (m := m) h0 (by omega) (fun k hk => ind_no (by omega))]
  have e2 : sumI (fun k => ind (ins ps k ∧ F ≤ k ∧ k < F + (m : Nat))) F m = win ps F m := sumI_congr fun k h1 h2 => ind_iff ⟨fun h => h.1, fun h => ⟨h, h1, h2⟩⟩
  omega
theorem win_le (ps : List (Int × Int)) (f : Int) (n : Nat) : 0 ≤ win ps f n ∧ win ps f n ≤ (n : Nat) := by
  unfold win
  induction n with
  | zero => simp [sumI]
  | succ n ih =>
    rw [sumI]
    have : ind (ins ps (f + (n : Nat))) = 0 ∨ ind (ins ps (f + (n : Nat))) = 1 := by
      by_cases h : ins ps (f + (n : Nat))
      · exact .inr (ind_yes h)
      · exact .inl (ind_no h)
    omega
end Go.Proofs.Ytlljfinagjdihaa

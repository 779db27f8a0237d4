/-
  CountMath · InMath · SchedMath · VintMath · PktMath · PktMem.
-/
import Derived.Test.YtpjlnpnadkbakaaGreatQBRangesMath
import Derived.Test.YtpjlnpnadkbakaaGreatRows
import Derived.IntWalk
import Derived.Laws.BitsLemmas
import Derived.Test.YtpjlnpnadkbakaaGreatQBMem
import Derived.Deep.MidRow
import Derived.Deep.OwnRows
import Derived.Laws.ResultCell
namespace Go.Proofs.YtpjlnpnadkbakaaGreat
set_option maxRecDepth 10000
open Classical in
noncomputable def ind (P : Prop) : Int := if P then 1 else 0
theorem ind_yes {P : Prop} (h : P) : ind P = 1 := by unfold ind; rw [if_pos h]
theorem ind_no {P : Prop} (h : ¬ P) : ind P = 0 := by unfold ind; rw [if_neg h]
theorem ind_iff {P Q : Prop} (h : P ↔ Q) : ind P = ind Q := by rw [propext h]
def sumI (g : Int → Int) (f : Int) : Nat → Int
  | 0 => 0
  | n + 1 => sumI g f n + g (f + (n : Nat))
theorem sumI_congr {g h : Int → Int} {f : Int} {n : Nat} (e : ∀ k, f ≤ k → k < f + (n : Nat) → g k = h k) : sumI g f n = sumI h f n := by
  induction n with
  | zero => rfl
  | succ n ih =>
    rw [sumI, sumI, ih (fun k h1 h2 => e k h1 (by omega)), e (f + (n : Nat)) (by omega) (by omega)]
theorem sumI_add (g h : Int → Int) (f : Int) (n : Nat) : sumI (fun k => g k + h k) f n = sumI g f n + sumI h f n := by
  induction n with
  | zero => rfl
  | succ n ih => simp only [sumI, ih]; omega
theorem sumI_app (g : Int → Int) (f : Int) (a b : Nat) : sumI g f (a + b) = sumI g f a + sumI g (f + (a : Nat)) b := by
  induction b with
  | zero => simp [sumI]
  | succ b ih =>
    rw [show a + (b + 1) = (a + b) + 1 by omega, sumI, ih, sumI]
    rw [show f + ((a + b : Nat) : Int) = f + (a : Nat) + (b : Nat) by omega]
    omega
theorem sumI_zero {g : Int → Int} {f : Int} {n : Nat} (e : ∀ k, f ≤ k → k < f + (n : Nat) → g k = 0) : sumI g f n = 0 := by
  induction n with
  | zero => rfl
  | succ n ih => rw [sumI, ih (fun k h1 h2 => e k h1 (by omega)), e (f + (n : Nat)) (by omega) (by omega)]; rfl
theorem sumI_one {g : Int → Int} {f : Int} {n : Nat} (e : ∀ k, f ≤ k → k < f + (n : Nat) → g k = 1) : sumI g f n = (n : Nat) := by
  induction n with
  | zero => rfl
  | succ n ih => rw [sumI, ih (fun k h1 h2 => e k h1 (by omega)), e (f + (n : Nat)) (by omega) (by omega)]; omega
theorem sumI_window {g : Int → Int} {F : Int} {m N : Nat} (h0 : 0 ≤ F) (hN : F + (m : Nat) ≤ (N : Nat)) (e : ∀ k, k < F ∨ F + (m : Nat) ≤ k → g k = 0) : sumI g 0 N = sumI g F m := by
  obtain ⟨a, rfl⟩ := Int.eq_ofNat_of_zero_le h0
  rw [show N = a + (m + (N - a - m)) by omega, sumI_app, sumI_app, sumI_zero (f := 0) (fun k h1 h2 => e k (by omega)), sumI_zero (f := 0 + (a : Nat) + (m : Nat)) (fun k h1 h2 => e k (by omega))]
  rw [show (0 : Int) + (a : Nat) = (a : Nat) by omega]
  omega
noncomputable def win (ps : List (Int × Int)) (f : Int) (n : Nat) : Int := sumI (fun k => ind (ins ps k)) f n
theorem cnt_win {ps : List (Int × Int)} (h : Norm ps) : cntL ps = win ps 0 1099511627776 := by
  induction ps with
  | nil =>
    unfold win
    rw [sumI_zero (fun k _ _ => ind_no (ins_nil k))]
    rfl
  | cons p ps ih =>
    have h1 := h.head
    have e : win (p :: ps) 0 1099511627776 = sumI (fun k => ind (p.1 ≤ k ∧ k < p.2)) 0 1099511627776 + win ps 0 1099511627776 := by
      unfold win
      rw [← sumI_add]
      refine sumI_congr fun k _ _ => ?_
      by_cases hk : p.1 ≤ k ∧ k < p.2
      · rw [ind_yes hk, ind_yes ((ins_cons p ps k).2 (.inl hk)), ind_no]
        · rfl
        · rintro ⟨q, hq, q1, _⟩
          have := h.rest q hq
          omega
      · rw [ind_no hk]
        rw [ind_iff (show ins (p :: ps) k ↔ ins ps k from ⟨fun h => by
          rcases (ins_cons p ps k).1 h with h | h
          · exact absurd h hk
          · exact h, fun h => (ins_cons p ps k).2 (.inr h)⟩)]
        omega
    rw [e, ← ih h.tail, cntL]
    have e2 : sumI (fun k => ind (p.1 ≤ k ∧ k < p.2)) 0 1099511627776 = p.2 - p.1 := by
      obtain ⟨m, hm⟩ := Int.eq_ofNat_of_zero_le (show 0 ≤ p.2 - p.1 by omega)
      rw [sumI_window (F := p.1) (m := m) h1.1 (by omega) (fun k hk => ind_no (by omega)), sumI_one (fun k h1 h2 => ind_yes (by omega)), hm]
    rw [e2]
theorem cnt_cut {ps qs : List (Int × Int)} (hp : Norm ps) (hq : Norm qs) {F : Int} {m : Nat} (h0 : 0 ≤ F) (hm : F + (m : Nat) ≤ 1099511627776) (h : ∀ k, ins qs k ↔ ins ps k ∧ ¬ (F ≤ k ∧ k < F + (m : Nat))) : cntL qs = cntL ps - win ps F m := by
  have e : win ps 0 1099511627776 = win qs 0 1099511627776 + sumI (fun k => ind (ins ps k ∧ F ≤ k ∧ k < F + (m : Nat))) 0 1099511627776 := by
    unfold win
    rw [← sumI_add]
    refine sumI_congr fun k _ _ => ?_
    by_cases hi : ins ps k
    · by_cases hk : F ≤ k ∧ k < F + (m : Nat)
      · rw [ind_yes hi, ind_no (fun hqk => ((h k).1 hqk).2 hk), ind_yes ⟨hi, hk⟩]
        rfl
      · rw [ind_yes hi, ind_yes ((h k).2 ⟨hi, hk⟩), ind_no (fun h => hk h.2)]
        rfl
    · rw [ind_no hi, ind_no (fun hqk => hi ((h k).1 hqk).1), ind_no (fun h => hi h.1)]
      rfl
  rw [cnt_win hp, cnt_win hq, e, sumI_window (F := F) (m := m) h0 (by omega) (fun k hk => ind_no (by omega))]
  have e2 : sumI (fun k => ind (ins ps k ∧ F ≤ k ∧ k < F + (m : Nat))) F m = win ps F m := sumI_congr fun k h1 h2 => ind_iff ⟨fun h => h.1, fun h => ⟨h, h1, h2⟩⟩
  omega
theorem win_le (ps : List (Int × Int)) (f : Int) (n : Nat) : 0 ≤ win ps f n ∧ win ps f n ≤ (n : Nat) := by
  unfold win
  induction n with
  | zero => simp [sumI]
  | succ n ih =>
    rw [sumI]
    have : ind (ins ps (f + (n : Nat))) = 0 ∨ ind (ins ps (f + (n : Nat))) = 1 := by
      by_cases h : ins ps (f + (n : Nat))
      · exact .inr (ind_yes h)
      · exact .inl (ind_no h)
    omega
end Go.Proofs.YtpjlnpnadkbakaaGreat
namespace Go.Proofs.YtpjlnpnadkbakaaGreat
set_option maxRecDepth 10000
structure In where
  win : Int
  tk : Int
  en : Int
  g : Int → Option Int
namespace In
variable {s : In}
def new (m : Int) : In := ⟨min (max m 1) 400, 0, -1, fun _ => none⟩
def may (s : In) (k : Int) : Prop := 0 ≤ k ∧ k < s.tk + s.win ∧ (s.en < 0 ∨ k < s.en) ∧ s.g k = none
instance (s : In) (k : Int) : Decidable (s.may k) := by unfold may; infer_instance
def lay (s : In) (k x : Int) : In := ⟨s.win, s.tk, s.en, fun j => if j = k then some x else s.g j⟩
def put1 (s : In) (k x : Int) : In := if s.may k then s.lay k x else s
def cnt1 (s : In) (k : Int) : Int := if s.may k then 1 else 0
def steps (s : In) (f : Int) (ys : List Int) : Nat → In × Int
  | 0 => (s, 0)
  | i + 1 => ((steps s f ys i).1.put1 (f + i) (ys.getD i 0), (steps s f ys i).2 + (steps s f ys i).1.cnt1 (f + i))
def ends (s : In) (k : Int) : Prop := s.en < 0 ∧ 0 ≤ k ∧ k ≤ 4096 ∧ ∀ j, k ≤ j → s.g j = none
def shut (s : In) (k : Int) : In := ⟨s.win, s.tk, k, s.g⟩
noncomputable def fin (s : In) (k : Int) (b : Bool) : In := @ite In (b = true ∧ s.ends k) (Classical.propDecidable _) (s.shut k) s
noncomputable def put (s : In) (f : Int) (ys : List Int) (b : Bool) : In := (s.steps f ys ys.length).1.fin (f + ys.length) b
def new_ (s : In) (f : Int) (ys : List Int) : Int := (s.steps f ys ys.length).2
def read (s : In) (n : Int) : In := ⟨s.win, s.tk + n, s.en, s.g⟩
structure ok (s : In) : Prop where
  w0 : 1 ≤ s.win
  w1 : s.win ≤ 400
  t0 : 0 ≤ s.tk
  e0 : -1 ≤ s.en
  e1 : s.en ≤ 4096
  rng : ∀ k, s.g k ≠ none → 0 ≤ k ∧ k < s.tk + s.win
  end_ : 0 ≤ s.en → ∀ k, s.g k ≠ none → k < s.en
  had : ∀ k, 0 ≤ k → k < s.tk → s.g k ≠ none
theorem new_ok (m : Int) : (new m).ok := ⟨by simp only [new]; omega, by simp only [new]; omega, by simp [new], by simp [new], by simp [new], fun k h => absurd rfl h, fun h => by simp [new] at h, fun k h1 h2 => by simp [new] at h2; omega⟩
theorem lay_ok (h : s.ok) {k : Int} (hm : s.may k) (x : Int) : (s.lay k x).ok := by
  obtain ⟨m1, m2, m3, m4⟩ := hm
  refine ⟨h.w0, h.w1, h.t0, h.e0, h.e1, fun j hj => ?_, fun he j hj => ?_, fun j h1 h2 => ?_⟩
  · by_cases e : j = k
    · subst e; exact ⟨m1, m2⟩
    · simp only [lay, if_neg e] at hj; exact h.rng j hj
  · by_cases e : j = k
    · subst e
      rcases m3 with h3 | h3
      · simp only [lay] at he; omega
      · exact h3
    · simp only [lay, if_neg e] at hj; exact h.end_ he j hj
  · by_cases e : j = k
    · simp [lay, e]
    · simp only [lay, if_neg e]; exact h.had j h1 h2
theorem put1_ok (h : s.ok) (k x : Int) : (s.put1 k x).ok := by
  unfold put1
  by_cases hm : s.may k
  · rw [if_pos hm]; exact lay_ok h hm x
  · rw [if_neg hm]; exact h
theorem put1_same (k x : Int) : (s.put1 k x).win = s.win ∧ (s.put1 k x).tk = s.tk ∧ (s.put1 k x).en = s.en := by
  unfold put1
  split <;> exact ⟨rfl, rfl, rfl⟩
theorem steps_ok (h : s.ok) (f : Int) (ys : List Int) (i : Nat) : (s.steps f ys i).1.ok := by
  induction i with
  | zero => exact h
  | succ i ih => exact put1_ok ih _ _
theorem steps_same (f : Int) (ys : List Int) (i : Nat) : (s.steps f ys i).1.win = s.win ∧ (s.steps f ys i).1.tk = s.tk ∧ (s.steps f ys i).1.en = s.en := by
  induction i with
  | zero => exact ⟨rfl, rfl, rfl⟩
  | succ i ih =>
    have := put1_same (s := (s.steps f ys i).1) (f + i) (ys.getD i 0)
    exact ⟨this.1.trans ih.1, this.2.1.trans ih.2.1, this.2.2.trans ih.2.2⟩
theorem steps_g (f : Int) (ys : List Int) (i : Nat) : ∀ k, (s.steps f ys i).1.g k = if f ≤ k ∧ k < f + i ∧ s.may k then some (ys.getD (k - f).toNat 0) else s.g k := by
  induction i with
  | zero => intro k; rw [if_neg (by omega)]; rfl
  | succ i ih =>
    intro k
    have hs := steps_same (s := s) f ys i
    have hg : (s.steps f ys i).1.g (f + i) = s.g (f + i) := by rw [ih, if_neg (by omega)]
    have hm : (s.steps f ys i).1.may (f + i) ↔ s.may (f + i) := by
      unfold may
      rw [hg, hs.1, hs.2.1, hs.2.2]
    have e : (s.steps f ys (i + 1)).1 = (s.steps f ys i).1.put1 (f + i) (ys.getD i 0) := rfl
    rw [e]
    unfold put1
    by_cases hk : k = f + i
    · subst hk
      by_cases hy : s.may (f + i)
      · rw [if_pos (hm.2 hy), if_pos ⟨by omega, by omega, hy⟩]
        simp only [lay, if_pos]
        rw [show (f + (i : Int) - f).toNat = i by omega]
      · rw [if_neg (fun h => hy (hm.1 h)), if_neg (fun h => hy h.2.2), hg]
    · have h1 : (if (s.steps f ys i).1.may (f + i) then (s.steps f ys i).1.lay (f + i) (ys.getD i 0) else (s.steps f ys i).1).g k = (s.steps f ys i).1.g k := by
        split
        · simp only [lay, if_neg hk]
        · rfl
      rw [h1, ih]
      by_cases hc : f ≤ k ∧ k < f + i ∧ s.may k
      · rw [if_pos hc, if_pos ⟨hc.1, by omega, hc.2.2⟩]
      · rw [if_neg hc, if_neg (fun h => hc ⟨h.1, by omega, h.2.2⟩)]
theorem steps_n (f : Int) (ys : List Int) (i : Nat) : (s.steps f ys (i + 1)).2 = (s.steps f ys i).2 + s.cnt1 (f + i) := by
  have hs := steps_same (s := s) f ys i
  have hg : (s.steps f ys i).1.g (f + i) = s.g (f + i) := by rw [steps_g, if_neg (by omega)]
  have hm : (s.steps f ys i).1.may (f + i) ↔ s.may (f + i) := by
    unfold may
    rw [hg, hs.1, hs.2.1, hs.2.2]
  have e : (s.steps f ys (i + 1)).2 = (s.steps f ys i).2 + (s.steps f ys i).1.cnt1 (f + i) := rfl
  rw [e]
  unfold cnt1
  by_cases h : s.may (f + i)
  · rw [if_pos h, if_pos (hm.2 h)]
  · rw [if_neg h, if_neg (fun h' => h (hm.1 h'))]
theorem fin_ok (h : s.ok) (k : Int) (b : Bool) : (s.fin k b).ok := by
  unfold fin
  split
  · next hh =>
    obtain ⟨_, h1, h2, h3, h4⟩ := hh
    refine ⟨h.w0, h.w1, h.t0, by simp only [shut]; omega, by simp only [shut]; omega, h.rng, fun _ j hj => ?_, h.had⟩
    show j < k
    by_cases h5 : j < k
    · exact h5
    · exact absurd (h4 j (by omega)) hj
  · exact h
theorem put_ok (h : s.ok) (f : Int) (ys : List Int) (b : Bool) : (s.put f ys b).ok := fin_ok (steps_ok h f ys _) _ b
end In
structure Front (g : Int → Option Int) (f : Int) : Prop where
  ge : 0 ≤ f
  all : ∀ k, 0 ≤ k → k < f → g k ≠ none
  no : g f = none
theorem Front.eq {g : Int → Option Int} {f f' : Int} (h : Front g f) (h' : Front g f') : f = f' := by
  rcases Int.lt_trichotomy f f' with h1 | h1 | h1
  · exact absurd h.no (h'.all f h.ge h1)
  · exact h1
  · exact absurd h'.no (h.all f' h'.ge h1)
structure Rep (xs : List Int) (ps : List (Int × Int)) (g : Int → Option Int) : Prop where
  norm : Norm ps
  yes : ∀ k, ins ps k → 0 ≤ k ∧ k < xs.length ∧ g k = some (xs.getD k.toNat 0)
  no : ∀ k, ¬ ins ps k → g k = none
section
variable {xs : List Int} {ps : List (Int × Int)} {g : Int → Option Int}
theorem Rep.more (h : Rep xs ps g) (zs : List Int) : Rep (xs ++ zs) ps g := by
  refine ⟨h.norm, fun k hk => ?_, h.no⟩
  obtain ⟨h1, h2, h3⟩ := h.yes k hk
  refine ⟨h1, by rw [List.length_append]; omega, ?_⟩
  rw [h3]
  congr 1
  simp only [List.getD_eq_getElem?_getD]
  rw [List.getElem?_append_left (by omega)]
end
end Go.Proofs.YtpjlnpnadkbakaaGreat
namespace Go.Proofs.YtpjlnpnadkbakaaGreat
set_option maxRecDepth 10000
def NoneU (ms : List Int) : Prop := ∀ i : Nat, i < ms.length → ms.getD i 0 < 0
def canF (ms : List Int) : Nat → List Int
  | 0 => []
  | i + 1 => if 0 ≤ ms.getD i 0 then canF ms i ++ [(i : Int)] else canF ms i
def can (ms : List Int) : List Int := canF ms ms.length
theorem canF_yes {ms : List Int} {i : Nat} (h : 0 ≤ ms.getD i 0) : canF ms (i + 1) = canF ms i ++ [(i : Int)] := by simp only [canF, if_pos h]
theorem canF_no {ms : List Int} {i : Nat} (h : ms.getD i 0 < 0) : canF ms (i + 1) = canF ms i := by simp only [canF, if_neg (show ¬ 0 ≤ ms.getD i 0 by omega)]
theorem canF_len (ms : List Int) (i : Nat) : (canF ms i).length ≤ i := by
  induction i with
  | zero => simp [canF]
  | succ i ih =>
    unfold canF
    split
    · rw [List.length_append, List.length_singleton]; omega
    · omega
theorem canF_at {ms : List Int} {i : Nat} {j : Nat} (h : j < (canF ms i).length) : ∃ p : Nat, (canF ms i).getD j 0 = (p : Int) ∧ p < i ∧ 0 ≤ ms.getD p 0 := by
  induction i with
  | zero => simp [canF] at h
  | succ i ih =>
    by_cases hu : 0 ≤ ms.getD i 0
    · rw [canF_yes hu] at h ⊢
      by_cases hj : j < (canF ms i).length
      · obtain ⟨p, h1, h2, h3⟩ := ih hj
        refine ⟨p, ?_, by omega, h3⟩
        rw [← h1]
        simp only [List.getD_eq_getElem?_getD]
        rw [List.getElem?_append_left hj]
      · have e : j = (canF ms i).length := by rw [List.length_append, List.length_singleton] at h; omega
        refine ⟨i, ?_, by omega, hu⟩
        rw [e]
        simp only [List.getD_eq_getElem?_getD]
        rw [List.getElem?_append_right (Nat.le_refl _), Nat.sub_self]
        rfl
    · rw [canF_no (by omega)] at h ⊢
      obtain ⟨p, h1, h2, h3⟩ := ih h
      exact ⟨p, h1, by omega, h3⟩
theorem canF_all {ms : List Int} {i : Nat} {p : Nat} (hp : p < i) (hu : 0 ≤ ms.getD p 0) : ∃ j, j < (canF ms i).length ∧ (canF ms i).getD j 0 = (p : Int) := by
  induction i with
  | zero => omega
  | succ i ih =>
    have grow : ∀ j, j < (canF ms i).length → (canF ms i).getD j 0 = (p : Int) → ∃ j, j < (canF ms (i + 1)).length ∧ (canF ms (i + 1)).getD j 0 = (p : Int) := fun j h1 h2 => by
      by_cases hi : 0 ≤ ms.getD i 0
      · rw [canF_yes hi]
        refine ⟨j, by rw [List.length_append]; omega, ?_⟩
        rw [← h2]
        simp only [List.getD_eq_getElem?_getD]
        rw [List.getElem?_append_left h1]
      · rw [canF_no (by omega)]; exact ⟨j, h1, h2⟩
    by_cases e : p = i
    · subst e
      rw [canF_yes hu]
      refine ⟨(canF ms p).length, by rw [List.length_append, List.length_singleton]; omega, ?_⟩
      simp only [List.getD_eq_getElem?_getD]
      rw [List.getElem?_append_right (Nat.le_refl _), Nat.sub_self]
      rfl
    · obtain ⟨j, h1, h2⟩ := ih (by omega)
      exact grow j h1 h2
theorem canF_rise {ms : List Int} {i : Nat} {j k : Nat} (hjk : j < k) (hk : k < (canF ms i).length) : (canF ms i).getD j 0 < (canF ms i).getD k 0 := by
  induction i with
  | zero => simp [canF] at hk
  | succ i ih =>
    by_cases hu : 0 ≤ ms.getD i 0
    · rw [canF_yes hu] at hk ⊢
      have left : ∀ j, j < (canF ms i).length → (canF ms i ++ [(i : Int)]).getD j 0 = (canF ms i).getD j 0 := fun j h => by
        simp only [List.getD_eq_getElem?_getD]
        rw [List.getElem?_append_left h]
      by_cases hk2 : k < (canF ms i).length
      · rw [left j (by omega), left k hk2]; exact ih hk2
      · have e : k = (canF ms i).length := by rw [List.length_append, List.length_singleton] at hk; omega
        subst e
        obtain ⟨p, h1, h2, _⟩ := canF_at hjk
        rw [left j hjk, h1]
        simp only [List.getD_eq_getElem?_getD]
        rw [List.getElem?_append_right (Nat.le_refl _), Nat.sub_self]
        simp
        omega
    · rw [canF_no (by omega)] at hk ⊢
      exact ih hk
theorem can_none {ms : List Int} : NoneU ms ↔ can ms = [] := by
  constructor
  · intro h
    by_cases h0 : (can ms).length = 0
    · exact List.eq_nil_of_length_eq_zero h0
    · obtain ⟨p, _, h2, h3⟩ := canF_at (ms := ms) (i := ms.length) (j := 0) (by unfold can at h0; omega)
      have := h p h2
      omega
  · intro h i hi
    by_cases hu : 0 ≤ ms.getD i 0
    · obtain ⟨j, h1, _⟩ := canF_all hi hu
      unfold can at h
      rw [h] at h1
      simp at h1
    · omega
structure RoundP (ms : List Int) (l : Int) (b : Nat) : Prop where
  lt : b < ms.length
  us : 0 ≤ ms.getD b 0
  next : (l < (b : Int) ∧ ∀ j : Nat, l < (j : Int) → j < b → ms.getD j 0 < 0) ∨ ((∀ j : Nat, l < (j : Int) → j < ms.length → ms.getD j 0 < 0) ∧ ∀ j : Nat, j < b → ms.getD j 0 < 0)
theorem RoundP.eq {ms : List Int} {l : Int} {b c : Nat} (h : RoundP ms l b) (h' : RoundP ms l c) : b = c := by
  have hb := h.us
  have hc := h'.us
  rcases Nat.lt_trichotomy b c with x | x | x
  · exfalso
    rcases h.next with ⟨h1, h2⟩ | ⟨h1, h2⟩ <;> rcases h'.next with ⟨h3, h4⟩ | ⟨h3, h4⟩
    · have := h4 b h1 x; omega
    · have := h3 b h1 h.lt; omega
    · have := h1 c h3 h'.lt; omega
    · have := h4 b x; omega
  · exact x
  · exfalso
    rcases h.next with ⟨h1, h2⟩ | ⟨h1, h2⟩ <;> rcases h'.next with ⟨h3, h4⟩ | ⟨h3, h4⟩
    · have := h2 c h3 x; omega
    · have := h3 b h1 h.lt; omega
    · have := h1 c h3 h'.lt; omega
    · have := h2 c x; omega
structure QuickP (ms : List Int) (b : Nat) : Prop where
  lt : b < ms.length
  us : 0 ≤ ms.getD b 0
  least : ∀ j : Nat, j < ms.length → 0 ≤ ms.getD j 0 → ms.getD b 0 ≤ ms.getD j 0 ∧ (j < b → ms.getD b 0 < ms.getD j 0)
theorem QuickP.eq {ms : List Int} {b c : Nat} (h : QuickP ms b) (h' : QuickP ms c) : b = c := by
  have h1 := h.least c h'.lt h'.us
  have h2 := h'.least b h.lt h.us
  rcases Nat.lt_trichotomy b c with x | x | x
  · have := h2.2 x; omega
  · exact x
  · have := h1.2 x; omega
theorem round_found {ms : List Int} {l : Int} {j : Nat} (hj : j < (can ms).length) (all : ∀ i, i < j → (can ms).getD i 0 ≤ l) (hgt : l < (can ms).getD j 0) : ∃ b : Nat, (can ms).getD j 0 = (b : Int) ∧ RoundP ms l b := by
  obtain ⟨b, h1, h2, h3⟩ := canF_at (ms := ms) (i := ms.length) hj
  refine ⟨b, h1, h2, h3, .inl ⟨by unfold can at hgt; omega, fun q hq hqb => ?_⟩⟩
  by_cases hu : 0 ≤ ms.getD q 0
  · obtain ⟨i, i1, i2⟩ := canF_all (i := ms.length) (show q < ms.length by omega) hu
    by_cases hij : i < j
    · have := all i hij; unfold can at this; omega
    · by_cases e : i = j
      · subst e; omega
      · have := canF_rise (show j < i by omega) i1
        omega
  · omega
theorem round_wrap {ms : List Int} {l : Int} (h0 : 0 < (can ms).length) (all : ∀ i, i < (can ms).length → (can ms).getD i 0 ≤ l) : ∃ b : Nat, (can ms).getD 0 0 = (b : Int) ∧ RoundP ms l b := by
  obtain ⟨b, h1, h2, h3⟩ := canF_at (ms := ms) (i := ms.length) h0
  refine ⟨b, h1, h2, h3, .inr ⟨fun q hq hqb => ?_, fun q hq => ?_⟩⟩
  · by_cases hu : 0 ≤ ms.getD q 0
    · obtain ⟨i, i1, i2⟩ := canF_all (i := ms.length) hqb hu
      have := all i i1; unfold can at this; omega
    · omega
  · by_cases hu : 0 ≤ ms.getD q 0
    · obtain ⟨i, i1, i2⟩ := canF_all (i := ms.length) (show q < ms.length by omega) hu
      by_cases e : i = 0
      · subst e; omega
      · have := canF_rise (show 0 < i by omega) i1
        omega
    · omega
theorem quick_best {ms : List Int} {B : Nat} (hB : B < (can ms).length) (all : ∀ j, j < (can ms).length → ms.getD ((can ms).getD B 0).toNat 0 ≤ ms.getD ((can ms).getD j 0).toNat 0 ∧ (j < B → ms.getD ((can ms).getD B 0).toNat 0 < ms.getD ((can ms).getD j 0).toNat 0)) : ∃ b : Nat, (can ms).getD B 0 = (b : Int) ∧ QuickP ms b := by
  obtain ⟨b, h1, h2, h3⟩ := canF_at (ms := ms) (i := ms.length) hB
  refine ⟨b, h1, h2, h3, fun q hq hu => ?_⟩
  obtain ⟨i, i1, i2⟩ := canF_all (i := ms.length) hq hu
  have h := all i i1
  unfold can at h
  rw [h1, i2, Int.toNat_natCast, Int.toNat_natCast] at h
  refine ⟨h.1, fun hqb => h.2 ?_⟩
  by_cases hij : i < B
  · exact hij
  · by_cases e : i = B
    · subst e; omega
    · have := canF_rise (show B < i by omega) i1
      omega
def IsPick (k l : Int) (ms : List Int) (L : List Int) (l' : Int) : Prop :=
  (NoneU ms ∧ L = [] ∧ l' = l) ∨ (¬ NoneU ms ∧ ((k = 3 ∧ L = can ms ∧ l' = l) ∨ (k = 2 ∧ ∃ b : Nat, RoundP ms l b ∧ L = [(b : Int)] ∧ l' = b) ∨ (k ≠ 2 ∧ k ≠ 3 ∧ ∃ b : Nat, QuickP ms b ∧ L = [(b : Int)] ∧ l' = l)))
theorem IsPick.eq {k l : Int} {ms L M : List Int} {l' m' : Int} (h : IsPick k l ms L l') (h' : IsPick k l ms M m') : L = M ∧ l' = m' := by
  rcases h with ⟨h1, h2, h3⟩ | ⟨h1, h2⟩
  · rcases h' with ⟨_, g2, g3⟩ | ⟨g1, _⟩
    · exact ⟨h2.trans g2.symm, h3.trans g3.symm⟩
    · exact absurd h1 g1
  · rcases h' with ⟨g1, _⟩ | ⟨_, g2⟩
    · exact absurd g1 h1
    · rcases h2 with ⟨a1, a2, a3⟩ | ⟨a1, b, a2, a3, a4⟩ | ⟨a1, a2, b, a3, a4, a5⟩ <;> rcases g2 with ⟨b1, b2, b3⟩ | ⟨b1, c, b2, b3, b4⟩ | ⟨b1, b2, c, b3, b4, b5⟩
      · exact ⟨a2.trans b2.symm, a3.trans b3.symm⟩
      · omega
      · omega
      · omega
      · obtain rfl := a2.eq b2
        exact ⟨a3.trans b3.symm, a4.trans b4.symm⟩
      · omega
      · omega
      · omega
      · obtain rfl := a3.eq b3
        exact ⟨a4.trans b4.symm, a5.trans b5.symm⟩
theorem IsPick.last {k l : Int} {ms L : List Int} {l' : Int} (h : IsPick k l ms L l') {N : Int} (hl : -1 ≤ l ∧ l ≤ N) (hm : (ms.length : Int) ≤ N) : -1 ≤ l' ∧ l' ≤ N := by
  rcases h with ⟨_, _, h3⟩ | ⟨_, ⟨_, _, h3⟩ | ⟨_, b, h2, _, h3⟩ | ⟨_, _, b, _, _, h3⟩⟩
  · omega
  · omega
  · have := h2.lt; omega
  · omega
theorem IsPick.len {k l : Int} {ms L : List Int} {l' : Int} (h : IsPick k l ms L l') : L.length ≤ ms.length := by
  rcases h with ⟨_, h3, _⟩ | ⟨_, ⟨_, h3, _⟩ | ⟨_, b, h2, h3, _⟩ | ⟨_, _, b, h2, h3, _⟩⟩
  · rw [h3]; simp
  · rw [h3]; exact canF_len ms _
  · rw [h3]; have := h2.lt; simp; omega
  · rw [h3]; have := h2.lt; simp; omega
end Go.Proofs.YtpjlnpnadkbakaaGreat
namespace Go.Proofs.YtpjlnpnadkbakaaGreat
set_option maxRecDepth 10000
open Go.RowKit
theorem within_lt {v n : Int} (h1 : 1 ≤ n) (h2 : n ≤ 4611686018427387904) (h : v.tmod n < 0) : wrap64 (v.tmod n + n) = v % n := by
  have hl := Int.lt_tmod_of_pos v (show 0 < n by omega)
  rw [IntWalk.wrap64_in _ (by omega)]
  have he := Int.tmod_def v n
  have hlt : v.tmod n + n < n := by omega
  rw [← Int.emod_eq_of_lt (show 0 ≤ v.tmod n + n by omega) hlt, he]
  have : v - n * v.tdiv n + n = v + n * (1 - v.tdiv n) := by rw [Int.mul_sub]; omega
  rw [this, Int.add_mul_emod_self_left]
theorem within_ge {v n : Int} (h1 : 1 ≤ n) (h : 0 ≤ v.tmod n) : v.tmod n = v % n := by
  have hl := Int.tmod_lt_of_pos v (show 0 < n by omega)
  have he := Int.tmod_def v n
  rw [← Int.emod_eq_of_lt h hl, he, Int.sub_eq_add_neg, ← Int.mul_neg, Int.add_mul_emod_self_left]
end Go.Proofs.YtpjlnpnadkbakaaGreat
namespace Go.Proofs.YtpjlnpnadkbakaaGreat
set_option maxRecDepth 10000
open Go.RowKit
structure Pkt where
  k : Int
  pa : Int
  nu : Int
  ofn : Int
  fr : Int
  da : List Int
  fin : Bool
  se : Int
  li : Int
def inB (n g : Int) : Bool := decide (0 ≤ n) && decide (n ≤ g)
def Pkt.known (p : Pkt) : Bool := decide (1 ≤ p.k) && decide (p.k ≤ 4) && inB p.pa 2 && inB p.nu 65535
def Pkt.bare (p : Pkt) : Pkt :=
  if p.k = 2 then ⟨p.k, p.pa, p.nu, p.ofn, 0, [], false, 0, 0⟩
  else if p.k = 3 then ⟨p.k, p.pa, p.nu, 0, p.fr, p.da, p.fin, 0, 0⟩
  else if p.k = 4 then ⟨p.k, p.pa, p.nu, p.ofn, 0, [], false, p.se, p.li⟩
  else ⟨p.k, p.pa, p.nu, 0, 0, [], false, 0, 0⟩
def Pkt.same (a b : Pkt) : Bool :=
  decide (a.k = b.k) && decide (a.pa = b.pa) && decide (a.nu = b.nu) && decide (a.ofn = b.ofn) && decide (a.fr = b.fr) && decide (a.da = b.da) && (a.fin == b.fin) && decide (a.se = b.se) && decide (a.li = b.li)
def Pkt.bounded (p : Pkt) : Bool :=
  inB p.ofn 65535 && inB p.fr 4096 && decide (p.da.length ≤ 64) && decide (p.fr + (p.da.length : Int) ≤ 4096) && inB p.se 4097 && inB p.li 4496
def Pkt.ok (p : Pkt) : Bool := p.known && p.same p.bare && p.bounded
def Pkt.cs (p : Pkt) (A : Option Addr) (c : Nat) : List Value :=
  [.int .i64 p.k, .int .i64 p.pa, .int .i64 p.nu, .int .i64 p.ofn, .int .i64 p.fr, .slice A p.da.length c, .bool p.fin, .int .i64 p.se, .int .i64 p.li]
def Pkt.val (p : Pkt) (A : Option Addr) (c : Nat) : Value :=
  .agg #[.int .i64 p.k, .int .i64 p.pa, .int .i64 p.nu, .int .i64 p.ofn, .int .i64 p.fr, .slice A p.da.length c, .bool p.fin, .int .i64 p.se, .int .i64 p.li]
structure PktAt (w : World) (p : Pkt) (A : Option Addr) (c : Nat) : Prop where
  rd : Rd .u8 w A p.da
  reach : p.da.length ≤ 9223372036854775807
  cap : p.da.length ≤ c
  nil : A = none → c = 0
  byt : ∀ x ∈ p.da, 0 ≤ x ∧ x < 256
  bk : -9223372036854775808 ≤ p.k ∧ p.k ≤ 9223372036854775807
  bp : -9223372036854775808 ≤ p.pa ∧ p.pa ≤ 9223372036854775807
  bn : -9223372036854775808 ≤ p.nu ∧ p.nu ≤ 9223372036854775807
  bo : -9223372036854775808 ≤ p.ofn ∧ p.ofn ≤ 9223372036854775807
  bf : -9223372036854775808 ≤ p.fr ∧ p.fr ≤ 9223372036854775807
  bs : -9223372036854775808 ≤ p.se ∧ p.se ≤ 9223372036854775807
  bl : -9223372036854775808 ≤ p.li ∧ p.li ≤ 9223372036854775807
section
variable {w w' : World} {p : Pkt} {A : Option Addr} {c : Nat}
theorem PktAt.later (h : PktAt w p A c) (hb : Below w.heap.size w w') : PktAt w' p A c := { h with rd := h.rd.later hb }
theorem PktAt.drewN (h : PktAt w p A c) (n : Nat) : PktAt (w.drewN n) p A c := { h with rd := h.rd }
theorem PktAt.drew (h : PktAt w p A c) : PktAt w.drew p A c := { h with rd := h.rd }
theorem PktAt.alloc (h : PktAt w p A c) (o : Obj) : PktAt (w.alloc o) p A c := { h with rd := h.rd.alloc o }
theorem Pkt.same_iff {a b : Pkt} : a.same b = true ↔ a = b := by
  cases a
  cases b
  simp only [Pkt.same, Bool.and_eq_true, decide_eq_true_eq, beq_iff_eq, Pkt.mk.injEq]
  constructor
  · rintro ⟨⟨⟨⟨⟨⟨⟨⟨h1, h2⟩, h3⟩, h4⟩, h5⟩, h6⟩, h7⟩, h8⟩, h9⟩
    exact ⟨h1, h2, h3, h4, h5, h6, h7, h8, h9⟩
  · rintro ⟨h1, h2, h3, h4, h5, h6, h7, h8, h9⟩
    exact ⟨⟨⟨⟨⟨⟨⟨⟨h1, h2⟩, h3⟩, h4⟩, h5⟩, h6⟩, h7⟩, h8⟩, h9⟩
end
end Go.Proofs.YtpjlnpnadkbakaaGreat
namespace Go.Proofs.YtpjlnpnadkbakaaGreat
set_option maxRecDepth 10000
open Go.RowKit
theorem own_not_row8 {w : World} {ty : TypeId} {v : Value} {B q n : Nat} {ys : List Int} {f : Nat → Value} (h : Own .u8 5 w B v ys) (hne : 5 ≠ ty) (hr : w.rowIs q ty n f) : v.ownBlock = none ∨ v.ownBlock ≠ some q := by
  rcases h.2 with ⟨hv, _⟩ | ⟨g, cap, cur, hv, _, hh, _⟩
  · left; rw [hv]; rfl
  · right
    rw [hv]
    intro he
    simp only [Value.ownBlock, Option.some.injEq] at he
    subst he
    obtain ⟨cur', hh', _⟩ := hr
    rw [hh] at hh'
    injection hh' with hh'
    injection hh' with _ ht
    exact hne ht
theorem Pkt.range (w : World) (p : Pkt) (A : Option Addr) (c : Nat) (t : TypeId) : (w.alloc (.cells (p.cs A c).toArray t)).rangeAt w.heap.size 0 (p.cs A c) := by
  have h := World.rangeAt_of_block (C := (p.cs A c).toArray) (t := t) (fr := (0, 0)) (heap_alloc_new w _) 0 (p.cs A c).length
  simpa using h
theorem rangeAt_later {w w' : World} {b o B : Nat} {cs : List Value} (h : w.rangeAt b o cs) (hb : Below B w w') (hB : b < B) : w'.rangeAt b o cs := fun j v hv => by
  rw [hb.cell (p := ⟨b, o + j, none⟩) hB]
  exact h j v hv
structure PktIn (w : World) (b : Nat) (p : Pkt) (A : Option Addr) (c : Nat) : Prop where
  c0 : w.cell? ⟨b, 0, none⟩ = some (.int .i64 p.k)
  c1 : w.cell? ⟨b, 1, none⟩ = some (.int .i64 p.pa)
  c2 : w.cell? ⟨b, 2, none⟩ = some (.int .i64 p.nu)
  c3 : w.cell? ⟨b, 3, none⟩ = some (.int .i64 p.ofn)
  c4 : w.cell? ⟨b, 4, none⟩ = some (.int .i64 p.fr)
  c5 : w.cell? ⟨b, 5, none⟩ = some (.slice A p.da.length c)
  c6 : w.cell? ⟨b, 6, none⟩ = some (.bool p.fin)
  c7 : w.cell? ⟨b, 7, none⟩ = some (.int .i64 p.se)
  c8 : w.cell? ⟨b, 8, none⟩ = some (.int .i64 p.li)
theorem pktIn_of {w : World} {b : Nat} {p : Pkt} {A : Option Addr} {c : Nat} (h : w.rangeAt b 0 (p.cs A c)) : PktIn w b p A c :=
  ⟨by simpa using h 0 _ rfl, by simpa using h 1 _ rfl, by simpa using h 2 _ rfl, by simpa using h 3 _ rfl, by simpa using h 4 _ rfl, by simpa using h 5 _ rfl, by simpa using h 6 _ rfl, by simpa using h 7 _ rfl, by simpa using h 8 _ rfl⟩
theorem PktIn.new (w : World) (p : Pkt) (A : Option Addr) (c : Nat) (t : TypeId) : PktIn (w.alloc (.cells (p.cs A c).toArray t)) w.heap.size p A c := pktIn_of (Pkt.range w p A c t)
theorem PktIn.below {w w' : World} {b B : Nat} {p : Pkt} {A : Option Addr} {c : Nat} (h : PktIn w b p A c) (hb : Below B w w') (hB : b < B) : PktIn w' b p A c :=
  ⟨(hb.cell hB).trans h.c0, (hb.cell hB).trans h.c1, (hb.cell hB).trans h.c2, (hb.cell hB).trans h.c3, (hb.cell hB).trans h.c4, (hb.cell hB).trans h.c5, (hb.cell hB).trans h.c6, (hb.cell hB).trans h.c7, (hb.cell hB).trans h.c8⟩
def Pkt.zero : Pkt := ⟨0, 0, 0, 0, 0, [], false, 0, 0⟩
theorem grown_trans {w w1 w2 : World} {r : Option Nat} (h : w.grownBy w1 r) (k : w1.grownBy w2 r) : w.grownBy w2 r :=
  ⟨k.os.trans h.os, k.tape.trans h.tape, k.output.trans h.output, Nat.le_trans h.size k.size, fun i hi hne => (k.block i (Nat.lt_of_lt_of_le hi h.size) hne).trans (h.block i hi hne)⟩
theorem grown_then' {w w1 w2 : World} {r : Option Nat} (h : w.grownBy w1 r) (hb : Below w.heap.size w1 w2) : w.grownBy w2 r :=
  ⟨hb.os.trans h.os, hb.tape.trans h.tape, hb.output.trans h.output, Nat.le_trans h.size hb.size, fun i hi hne => (hb.block i hi).trans (h.block i hi hne)⟩
theorem grown_of {w w1 : World} {r : Option Nat} (hb : Below w.heap.size w w1) : w.grownBy w1 r := grown_then' ⟨rfl, rfl, rfl, Nat.le_refl _, fun _ _ _ => rfl⟩ hb
theorem setCells_one (b : Nat) : ∀ (vs : List Value) (o : Nat) (w : World), w.grownBy (w.setCells b o vs) (some b)
  | [], _, _ => ⟨rfl, rfl, rfl, Nat.le_refl _, fun _ _ _ => rfl⟩
  | v :: r, o, w => grown_trans (setCell_one w b o v) (setCells_one b r (o + 1) (w.setCell ⟨b, o, none⟩ v))
theorem Pkt.ok_kind {p : Pkt} (h : p.ok = true) : 1 ≤ p.k ∧ p.k ≤ 4 := by
  unfold Pkt.ok Pkt.known at h
  simp only [Bool.and_eq_true, decide_eq_true_eq] at h
  exact h.1.1.1.1
theorem PktAt.zero (w : World) : PktAt w Pkt.zero none 0 := ⟨.inl rfl, by decide, by decide, fun _ => rfl, by intro x hx; simp [Pkt.zero] at hx, by decide, by decide, by decide, by decide, by decide, by decide, by decide⟩
def PkV (w : World) (q : Nat) (p : Pkt) (A : Option Addr) (c : Nat) : Prop := w.rowIs q 32 9 (fun i => (p.cs A c).getD i undef)
section
variable {w wx w' : World} {b z q : Nat} {p : Pkt} {A : Option Addr} {c : Nat} {pk : Pkt} {B : Option Addr} {d : Nat}
theorem PkV.lt (h : PkV w q p A c) : q < w.heap.size := World.rowIs.lt h
theorem PkV.cells (h : PkV w q p A c) : PktIn w q p A c :=
  ⟨World.rowIs.cell (i := 0) h (by omega), World.rowIs.cell (i := 1) h (by omega), World.rowIs.cell (i := 2) h (by omega), World.rowIs.cell (i := 3) h (by omega), World.rowIs.cell (i := 4) h (by omega),
    World.rowIs.cell (i := 5) h (by omega), World.rowIs.cell (i := 6) h (by omega), World.rowIs.cell (i := 7) h (by omega), World.rowIs.cell (i := 8) h (by omega)⟩
theorem PkV.fr (h : PkV w q p A c) (i : Nat) : w.frozen? ⟨q, i, none⟩ = false := World.rowIs.frozen h i
theorem PkV.later (h : PkV w q p A c) (hb : Below w.heap.size w w') : PkV w' q p A c := World.rowIs.of_block h (hb.block q h.lt)
theorem PkV.kept {r : Nat} (h : PkV w q p A c) (hg : w.grownBy w' (some r)) (hne : q ≠ r) : PkV w' q p A c := World.rowIs.of_block h (hg.block q h.lt (by simp; exact hne))
theorem PkV.new (w : World) (p : Pkt) (A : Option Addr) (c : Nat) : PkV (w.alloc (.cells (p.cs A c).toArray 32)) w.heap.size p A c :=
  World.rowIs_alloc w (p.cs A c).toArray 32 _ (fun i hi => by
    have : i < 9 := hi
    match i, this with
    | 0, _ | 1, _ | 2, _ | 3, _ | 4, _ | 5, _ | 6, _ | 7, _ | 8, _ => rfl)
theorem PkV.setI {i : Nat} {v : Value} {p' : Pkt} {A' : Option Addr} {c' : Nat} (h : PkV w q p A c) (he : ∀ j, j < 9 → (if j = i then v else (p.cs A c).getD j undef) = (p'.cs A' c').getD j undef) :
    PkV (w.setCell ⟨q, i, none⟩ v) q p' A' c' := (World.rowIs.set h i v).congr he
theorem PkV.pa (h : PkV w q p A c) (x : Int) : PkV (w.setCell ⟨q, 1, none⟩ (.int .i64 x)) q { p with pa := x } A c := h.setI fun j hj => by
  match j, hj with
  | 0, _ | 1, _ | 2, _ | 3, _ | 4, _ | 5, _ | 6, _ | 7, _ | 8, _ => rfl
theorem PkV.nu (h : PkV w q p A c) (x : Int) : PkV (w.setCell ⟨q, 2, none⟩ (.int .i64 x)) q { p with nu := x } A c := h.setI fun j hj => by
  match j, hj with
  | 0, _ | 1, _ | 2, _ | 3, _ | 4, _ | 5, _ | 6, _ | 7, _ | 8, _ => rfl
theorem PkV.ofn (h : PkV w q p A c) (x : Int) : PkV (w.setCell ⟨q, 3, none⟩ (.int .i64 x)) q { p with ofn := x } A c := h.setI fun j hj => by
  match j, hj with
  | 0, _ | 1, _ | 2, _ | 3, _ | 4, _ | 5, _ | 6, _ | 7, _ | 8, _ => rfl
theorem PkV.frm (h : PkV w q p A c) (x : Int) : PkV (w.setCell ⟨q, 4, none⟩ (.int .i64 x)) q { p with fr := x } A c := h.setI fun j hj => by
  match j, hj with
  | 0, _ | 1, _ | 2, _ | 3, _ | 4, _ | 5, _ | 6, _ | 7, _ | 8, _ => rfl
theorem PkV.dat (h : PkV w q p A c) (l : List Int) (A' : Option Addr) (c' : Nat) : PkV (w.setCell ⟨q, 5, none⟩ (.slice A' l.length c')) q { p with da := l } A' c' := h.setI fun j hj => by
  match j, hj with
  | 0, _ | 1, _ | 2, _ | 3, _ | 4, _ | 5, _ | 6, _ | 7, _ | 8, _ => rfl
theorem PkV.fin (h : PkV w q p A c) (x : Bool) : PkV (w.setCell ⟨q, 6, none⟩ (.bool x)) q { p with fin := x } A c := h.setI fun j hj => by
  match j, hj with
  | 0, _ | 1, _ | 2, _ | 3, _ | 4, _ | 5, _ | 6, _ | 7, _ | 8, _ => rfl
theorem PkV.se (h : PkV w q p A c) (x : Int) : PkV (w.setCell ⟨q, 7, none⟩ (.int .i64 x)) q { p with se := x } A c := h.setI fun j hj => by
  match j, hj with
  | 0, _ | 1, _ | 2, _ | 3, _ | 4, _ | 5, _ | 6, _ | 7, _ | 8, _ => rfl
theorem PkV.li (h : PkV w q p A c) (x : Int) : PkV (w.setCell ⟨q, 8, none⟩ (.int .i64 x)) q { p with li := x } A c := h.setI fun j hj => by
  match j, hj with
  | 0, _ | 1, _ | 2, _ | 3, _ | 4, _ | 5, _ | 6, _ | 7, _ | 8, _ => rfl
theorem pktAt_of {w : World} {B0 : Nat} {p : Pkt} {B : Option Addr} {d : Nat} (ho : Own .u8 5 w B0 (.slice B p.da.length d) p.da) (hb : ∀ x ∈ p.da, 0 ≤ x ∧ x < 256) (hl : p.da.length ≤ 9223372036854775807)
    (bk : -9223372036854775808 ≤ p.k ∧ p.k ≤ 9223372036854775807) (bp : -9223372036854775808 ≤ p.pa ∧ p.pa ≤ 9223372036854775807) (bn : -9223372036854775808 ≤ p.nu ∧ p.nu ≤ 9223372036854775807)
    (bo : -9223372036854775808 ≤ p.ofn ∧ p.ofn ≤ 9223372036854775807) (bf : -9223372036854775808 ≤ p.fr ∧ p.fr ≤ 9223372036854775807) (bs : -9223372036854775808 ≤ p.se ∧ p.se ≤ 9223372036854775807)
    (bl : -9223372036854775808 ≤ p.li ∧ p.li ≤ 9223372036854775807) : PktAt w p B d :=
  ⟨ho.rd, hl, ho.cap, fun h => (ho.none_len h).1, hb, bk, bp, bn, bo, bf, bs, bl⟩
theorem PkV.there {w : World} {q : Nat} {p : Pkt} {A : Option Addr} {c : Nat} (h : PkV w q p A c) : w.there q 0 9 := fun j hj =>
  ⟨by rw [World.rowIs.cell (i := 0 + j) h (by omega)]; rfl, h.fr _⟩
structure PkB (pk : Pkt) : Prop where
  byt : ∀ x ∈ pk.da, 0 ≤ x ∧ x < 256
  len : pk.da.length ≤ 80
  bk : -9223372036854775808 ≤ pk.k ∧ pk.k ≤ 9223372036854775807
  bp : -9223372036854775808 ≤ pk.pa ∧ pk.pa ≤ 9223372036854775807
  bn : -9223372036854775808 ≤ pk.nu ∧ pk.nu ≤ 9223372036854775807
  bo : -9223372036854775808 ≤ pk.ofn ∧ pk.ofn ≤ 9223372036854775807
  bf : -9223372036854775808 ≤ pk.fr ∧ pk.fr ≤ 9223372036854775807
  bs : -9223372036854775808 ≤ pk.se ∧ pk.se ≤ 9223372036854775807
  bl : -9223372036854775808 ≤ pk.li ∧ pk.li ≤ 9223372036854775807
theorem cell_other {w w' : World} {g i q : Nat} (hg : w.grownBy w' (some q)) (hne : g ≠ q) {v : Value} (h : w.cell? ⟨g, i, none⟩ = some v) : w'.cell? ⟨g, i, none⟩ = some v := by
  have hl := World.block_lt_of_cell? w _ h
  rw [World.cell?_of_block (a := ⟨g, i, none⟩) (hg.block g hl (by simp; exact hne))]
  exact h
theorem PkV.kin (h : PkV w q p A c) (x : Int) : PkV (w.setCell ⟨q, 0, none⟩ (.int .i64 x)) q { p with k := x } A c := h.setI fun j hj => by
  match j, hj with
  | 0, _ | 1, _ | 2, _ | 3, _ | 4, _ | 5, _ | 6, _ | 7, _ | 8, _ => rfl
theorem PkV.all (h : PkV w q p A c) (pk : Pkt) (B : Option Addr) (d : Nat) : PkV (w.setCells q 0 (pk.cs B d)) q pk B d :=
  (((((((((h.kin pk.k).pa pk.pa).nu pk.nu).ofn pk.ofn).frm pk.fr).dat pk.da B d).fin pk.fin).se pk.se).li pk.li)
theorem PkB.zero : PkB Pkt.zero := ⟨by intro x hx; simp [Pkt.zero] at hx, by decide, by decide, by decide, by decide, by decide, by decide, by decide, by decide⟩
theorem PkB.pa (h : PkB pk) {x : Int} (hx : -9223372036854775808 ≤ x ∧ x ≤ 9223372036854775807) : PkB { pk with pa := x } := { h with bp := hx }
theorem PkB.nu (h : PkB pk) {x : Int} (hx : -9223372036854775808 ≤ x ∧ x ≤ 9223372036854775807) : PkB { pk with nu := x } := { h with bn := hx }
theorem PkB.ofn (h : PkB pk) {x : Int} (hx : -9223372036854775808 ≤ x ∧ x ≤ 9223372036854775807) : PkB { pk with ofn := x } := { h with bo := hx }
theorem PkB.se (h : PkB pk) {x : Int} (hx : -9223372036854775808 ≤ x ∧ x ≤ 9223372036854775807) : PkB { pk with se := x } := { h with bs := hx }
theorem PkB.li (h : PkB pk) {x : Int} (hx : -9223372036854775808 ≤ x ∧ x ≤ 9223372036854775807) : PkB { pk with li := x } := { h with bl := hx }
theorem PkB.fin (h : PkB pk) (x : Bool) : PkB { pk with fin := x } := { h with bk := h.bk }
theorem PkB.dat (h : PkB pk) {l : List Int} (hb : ∀ x ∈ l, 0 ≤ x ∧ x < 256) (hl : l.length ≤ 80) : PkB { pk with da := l } := { h with byt := hb, len := hl }
end
end Go.Proofs.YtpjlnpnadkbakaaGreat

/-
  PlanMath · CountMath · InMath.
-/
import Derived.Test.YtpjlnpnadkbakaaGreatQEcRangesMath
namespace Go.Proofs.YtpjlnpnadkbakaaGreat
set_option maxRecDepth 10000

/-- Add of places from f to below t (f below t). -/
def addS : List (Int × Int) → Int → Int → List (Int × Int)
  | [], f, t => [(f, t)]
  | q :: qs, f, t => if q.2 < f then q :: addS qs f t else if t < q.1 then (f, t) :: q :: qs else addS qs (min f q.1) (max t q.2)
def addN (ps : List (Int × Int)) (f t : Int) : List (Int × Int) := if max f 0 < min t 1099511627776 then addS ps (max f 0) (min t 1099511627776) else ps
/-- What Cut leaves of one Range. -/
def cutO (q : Int × Int) (f t : Int) : List (Int × Int) := (if q.1 < f then [(q.1, min q.2 f)] else []) ++ (if t < q.2 then [(max q.1 t, q.2)] else [])
def cutS (ps : List (Int × Int)) (f t : Int) : List (Int × Int) := ps.flatMap fun q => cutO q f t
def cutN (ps : List (Int × Int)) (f t : Int) : List (Int × Int) := if f < t then cutS ps f t else ps

theorem addS_low {ps : List (Int × Int)} : ∀ {f t lo : Int}, lo < f → (∀ q ∈ ps, lo < q.1) → ∀ x ∈ addS ps f t, lo < x.1 := by
  induction ps with
  | nil =>
    intro f t lo h _ x hx
    simp [addS] at hx
    rw [hx]
    exact h
  | cons q qs ih =>
    intro f t lo h hq x hx
    have h1 := hq q List.mem_cons_self
    have h2 : ∀ y ∈ qs, lo < y.1 := fun y hy => hq y (List.mem_cons_of_mem _ hy)
    unfold addS at hx
    split at hx
    · rcases List.mem_cons.1 hx with rfl | hx
      · exact h1
      · exact ih h h2 x hx
    · split at hx
      · rcases List.mem_cons.1 hx with rfl | hx
        · exact h
        · exact hq x hx
      · exact ih (by omega) h2 x hx
theorem addS_norm {ps : List (Int × Int)} (h : Norm ps) : ∀ {f t : Int}, 0 ≤ f → f < t → t ≤ 1099511627776 → Norm (addS ps f t) ∧ ∀ k, ins (addS ps f t) k ↔ ins ps k ∨ (f ≤ k ∧ k < t) := by
  induction ps with
  | nil =>
    intro f t h0 h1 h2
    refine ⟨Norm.cons h0 h1 h2 Norm.nil (by simp), fun k => ?_⟩
    simp [addS, ins]
  | cons q qs ih =>
    intro f t h0 h1 h2
    have hq := h.head
    have hr := h.rest
    unfold addS
    split
    · rename_i hlt
      have := ih h.tail h0 h1 h2
      refine ⟨Norm.cons hq.1 hq.2.1 hq.2.2 this.1 (addS_low hlt hr), fun k => ?_⟩
      rw [ins_cons, ins_cons, this.2 k, or_assoc]
    · split
      · rename_i hlt2
        refine ⟨Norm.cons h0 h1 h2 h ?_, fun k => ?_⟩
        · intro x hx
          rcases List.mem_cons.1 hx with rfl | hx
          · exact hlt2
          · have := hr x hx; show t < _; omega
        · rw [ins_cons]
          exact Or.comm
      · have := ih h.tail (f := min f q.1) (t := max t q.2) (by omega) (by omega) (by omega)
        refine ⟨this.1, fun k => ?_⟩
        rw [this.2 k, ins_cons]
        constructor
        · rintro (h3 | h3)
          · exact .inl (.inr h3)
          · by_cases h4 : q.1 ≤ k ∧ k < q.2
            · exact .inl (.inl h4)
            · exact .inr (by omega)
        · rintro ((h3 | h3) | h3)
          · exact .inr (by omega)
          · exact .inl h3
          · exact .inr (by omega)
theorem addN_norm {ps : List (Int × Int)} (h : Norm ps) (f t : Int) : Norm (addN ps f t) ∧ ∀ k, ins (addN ps f t) k ↔ ins ps k ∨ (max f 0 ≤ k ∧ k < min t 1099511627776) := by
  unfold addN
  split
  · exact addS_norm h (by omega) (by assumption) (by omega)
  · exact ⟨h, fun k => ⟨.inl, fun h => h.elim id (fun h => by omega)⟩⟩

theorem cutO_mem {q x : Int × Int} {f t : Int} (h : x ∈ cutO q f t) : (q.1 < f ∧ x = (q.1, min q.2 f)) ∨ (t < q.2 ∧ x = (max q.1 t, q.2)) := by
  unfold cutO at h
  rcases List.mem_append.1 h with h | h
  · split at h
    · exact .inl ⟨by assumption, by simpa using h⟩
    · simp at h
  · split at h
    · exact .inr ⟨by assumption, by simpa using h⟩
    · simp at h
theorem cutS_norm {ps : List (Int × Int)} (h : Norm ps) {f t : Int} (hft : f < t) : Norm (cutS ps f t) ∧ (∀ k, ins (cutS ps f t) k ↔ ins ps k ∧ ¬ (f ≤ k ∧ k < t)) ∧ ∀ lo, (∀ q ∈ ps, lo < q.1) → ∀ x ∈ cutS ps f t, lo < x.1 := by
  induction ps with
  | nil => exact ⟨Norm.nil, fun k => ⟨fun h => absurd h (ins_nil _), fun h => absurd h.1 (ins_nil _)⟩, fun lo _ x hx => by simp [cutS] at hx⟩
  | cons q qs ih =>
    have hq := h.head
    have hr := h.rest
    obtain ⟨i1, i2, i3⟩ := ih h.tail
    have hc : cutS (q :: qs) f t = cutO q f t ++ cutS qs f t := rfl
    rw [hc]
    have hO : Norm (cutO q f t) := by
      unfold cutO
      refine Norm.app ?_ ?_ ?_
      · split
        · exact Norm.cons hq.1 (by simp only []; omega) (by simp only []; omega) Norm.nil (by simp)
        · exact Norm.nil
      · split
        · exact Norm.cons (by simp only []; omega) (by simp only []; omega) (by simp only []; omega) Norm.nil (by simp)
        · exact Norm.nil
      · intro a ha b hb
        split at ha
        · split at hb
          · obtain rfl : a = _ := by simpa using ha
            obtain rfl : b = _ := by simpa using hb
            simp only []
            omega
          · simp at hb
        · simp at ha
    refine ⟨Norm.app hO i1 ?_, fun k => ?_, ?_⟩
    · intro a ha b hb
      have h1 := i3 q.2 hr b hb
      rcases cutO_mem ha with ⟨_, rfl⟩ | ⟨_, rfl⟩
      · simp only []; omega
      · exact h1
    · have hOk : ins (cutO q f t) k ↔ (q.1 ≤ k ∧ k < q.2) ∧ ¬ (f ≤ k ∧ k < t) := by
        unfold cutO
        rw [ins_app]
        constructor
        · rintro (⟨x, hx, h1⟩ | ⟨x, hx, h1⟩)
          · split at hx
            · obtain rfl : x = _ := by simpa using hx
              simp only [] at h1
              omega
            · simp at hx
          · split at hx
            · obtain rfl : x = _ := by simpa using hx
              simp only [] at h1
              omega
            · simp at hx
        · rintro ⟨h1, h2⟩
          by_cases h3 : k < f
          · left
            rw [if_pos (by omega)]
            exact ⟨_, List.mem_cons_self, by simp only []; omega⟩
          · right
            rw [if_pos (by omega)]
            exact ⟨_, List.mem_cons_self, by simp only []; omega⟩
      rw [ins_app, ins_cons, hOk, i2 k]
      constructor
      · rintro (⟨h1, h2⟩ | ⟨h1, h2⟩)
        · exact ⟨.inl h1, h2⟩
        · exact ⟨.inr h1, h2⟩
      · rintro ⟨h1 | h1, h2⟩
        · exact .inl ⟨h1, h2⟩
        · exact .inr ⟨h1, h2⟩
    · intro lo hlo x hx
      have h0 := hlo q List.mem_cons_self
      rcases List.mem_append.1 hx with hx | hx
      · rcases cutO_mem hx with ⟨_, rfl⟩ | ⟨_, rfl⟩
        · exact h0
        · simp only []; omega
      · exact i3 lo (fun y hy => hlo y (List.mem_cons_of_mem _ hy)) x hx
theorem cutN_norm {ps : List (Int × Int)} (h : Norm ps) (f t : Int) : Norm (cutN ps f t) ∧ ∀ k, ins (cutN ps f t) k ↔ ins ps k ∧ ¬ (f ≤ k ∧ k < t) := by
  unfold cutN
  split
  · have := cutS_norm h (f := f) (t := t) (by assumption)
    exact ⟨this.1, this.2.1⟩
  · exact ⟨h, fun k => ⟨fun h => ⟨h, by omega⟩, fun h => h.1⟩⟩
/-- A set of places has no more Ranges than places. -/
theorem Norm.many {ps : List (Int × Int)} (h : Norm ps) : ∀ lo : Int, lo ≤ 1099511627776 → (∀ q ∈ ps, lo ≤ q.1) → lo + (ps.length : Int) ≤ 1099511627776 := by
  induction ps with
  | nil => intro lo h0 _; simpa using h0
  | cons q qs ih =>
    intro lo h0 h1
    have hq := h.head
    have h2 := h1 q List.mem_cons_self
    have := ih h.tail (lo + 1) (by omega) (fun x hx => by have := h.rest x hx; omega)
    rw [List.length_cons]
    omega
theorem Norm.len {ps : List (Int × Int)} (h : Norm ps) : ps.length ≤ 1099511627776 := by
  have := h.many 0 (by omega) (fun q hq => (h.each q hq).1)
  omega

/-- A plan: what is lost, the first place that was never told. -/
structure Pl where
  ls : List (Int × Int)
  sent : Int
/-- What Next answers, and the plan behind it. -/
structure Nx where
  f : Int
  t : Int
  ok : Bool
  p : Pl

def chk (c : Int) : Int := min (max c 1) 64
/-- t, or less: up to where there are at most c bytes from f on. -/
def reachI (o : Ou) (f t c : Int) : Int := min (if o.cl = true ∧ f ≤ (o.xs.length : Int) ∧ (o.xs.length : Int) ≤ f + c then f + c + 1 else f + c) t

namespace Pl
def new : Pl := ⟨[], 0⟩
def lost (p : Pl) (f t : Int) : Pl := ⟨addN p.ls f (min t p.sent), p.sent⟩
/-- What is sent next of what is lost (L), else of what is new (s to below t). -/
def step (L : List (Int × Int)) (s t c : Int) (o : Ou) : Nx :=
  match L with
  | q :: qs => ⟨q.1, reachI o q.1 q.2 c, true, ⟨cutN (q :: qs) q.1 (reachI o q.1 q.2 c), s⟩⟩
  | [] => if s < t then ⟨s, reachI o s t c, true, ⟨[], reachI o s t c⟩⟩ else ⟨0, 0, false, ⟨[], s⟩⟩
def next (p : Pl) (o : Ou) (l c : Int) : Nx := step (cutN p.ls 0 o.ak) p.sent (o.till l) (chk c) o
structure ok (p : Pl) : Prop where
  norm : Norm p.ls
  s0 : 0 ≤ p.sent
  s1 : p.sent ≤ 4097
  below : ∀ k, ins p.ls k → k < p.sent

variable {p : Pl} {o : Ou}
theorem new_ok : new.ok := ⟨Norm.nil, by simp [new], by simp [new], fun k h => absurd h (ins_nil _)⟩
theorem chk_range (c : Int) : 1 ≤ chk c ∧ chk c ≤ 64 := by unfold chk; omega
theorem lost_ok (h : p.ok) (f t : Int) : (p.lost f t).ok := by
  have := addN_norm h.norm f (min t p.sent)
  refine ⟨this.1, h.s0, h.s1, fun k hk => ?_⟩
  rcases (this.2 k).1 hk with h1 | h1
  · exact h.below k h1
  · show k < p.sent; omega
theorem till_range (h : o.ok) (l : Int) : 0 ≤ o.till l ∧ o.till l ≤ 4097 := by
  have h1 := Ou.places_range h
  have h2 := h.l
  have h3 : (o.xs.length : Int) ≤ o.places := by unfold Ou.places; split <;> omega
  unfold Ou.till
  split <;> omega
theorem reach_range (o : Ou) {f t c : Int} (hc : 1 ≤ c) (hf : f < t) : f < reachI o f t c ∧ reachI o f t c ≤ t := by
  unfold reachI
  split <;> omega
theorem mem_range (h : p.ok) {q : Int × Int} (hq : q ∈ p.ls) : 0 ≤ q.1 ∧ q.1 < q.2 ∧ q.2 ≤ p.sent := by
  have h1 := h.norm.each q hq
  have h2 := h.below (q.2 - 1) ⟨q, hq, by omega, by omega⟩
  omega
theorem cut_ok (h : p.ok) (f t : Int) : (Pl.mk (cutN p.ls f t) p.sent).ok := by
  have := cutN_norm h.norm f t
  exact ⟨this.1, h.s0, h.s1, fun k hk => h.below k ((this.2 k).1 hk).1⟩
theorem next_ok (h : p.ok) (ho : o.ok) (l c : Int) : (p.next o l c).p.ok := by
  have h1 := cut_ok h 0 o.ak
  unfold next step
  cases hc : cutN p.ls 0 o.ak with
  | nil =>
    simp only []
    have ht := till_range ho l
    split
    · rename_i hlt
      have := reach_range o (chk_range c).1 hlt
      have := h.s0
      exact ⟨Norm.nil, by simp only []; omega, by simp only []; omega, fun k h => absurd h (ins_nil _)⟩
    · exact ⟨Norm.nil, h.s0, h.s1, fun k h => absurd h (ins_nil _)⟩
  | cons q qs =>
    simp only []
    rw [hc] at h1
    exact cut_ok h1 _ _
/-- With nothing lost. -/
theorem next_new (o : Ou) (s l c : Int) : (Pl.mk [] s).next o l c = if s < o.till l then ⟨s, reachI o s (o.till l) (chk c), true, ⟨[], reachI o s (o.till l) (chk c)⟩⟩ else ⟨0, 0, false, ⟨[], s⟩⟩ := by
  have : cutN ([] : List (Int × Int)) 0 o.ak = [] := by unfold cutN; split <;> rfl
  unfold next step
  rw [this]
end Pl
end Go.Proofs.YtpjlnpnadkbakaaGreat
namespace Go.Proofs.YtpjlnpnadkbakaaGreat
set_option maxRecDepth 10000

open Classical in
/-- 1 where P holds. -/
noncomputable def ind (P : Prop) : Int := if P then 1 else 0
theorem ind_yes {P : Prop} (h : P) : ind P = 1 := by unfold ind; rw [if_pos h]
theorem ind_no {P : Prop} (h : ¬ P) : ind P = 0 := by unfold ind; rw [if_neg h]
theorem ind_iff {P Q : Prop} (h : P ↔ Q) : ind P = ind Q := by rw [propext h]

/-- The sum of g from f on, n times. -/
def sumI (g : Int → Int) (f : Int) : Nat → Int
  | 0 => 0
  | n + 1 => sumI g f n + g (f + (n : Nat))
theorem sumI_congr {g h : Int → Int} {f : Int} {n : Nat} (e : ∀ k, f ≤ k → k < f + (n : Nat) → g k = h k) : sumI g f n = sumI h f n := by
  induction n with
  | zero => rfl
  | succ n ih =>
    rw [sumI, sumI, ih (fun k h1 h2 => e k h1 (by omega)), e (f + (n : Nat)) (by omega) (by omega)]
theorem sumI_add (g h : Int → Int) (f : Int) (n : Nat) : sumI (fun k => g k + h k) f n = sumI g f n + sumI h f n := by
  induction n with
  | zero => rfl
  | succ n ih => simp only [sumI, ih]; omega
theorem sumI_app (g : Int → Int) (f : Int) (a b : Nat) : sumI g f (a + b) = sumI g f a + sumI g (f + (a : Nat)) b := by
  induction b with
  | zero => simp [sumI]
  | succ b ih =>
    rw [show a + (b + 1) = (a + b) + 1 by omega, sumI, ih, sumI]
    rw [show f + ((a + b : Nat) : Int) = f + (a : Nat) + (b : Nat) by omega]
    omega
theorem sumI_zero {g : Int → Int} {f : Int} {n : Nat} (e : ∀ k, f ≤ k → k < f + (n : Nat) → g k = 0) : sumI g f n = 0 := by
  induction n with
  | zero => rfl
  | succ n ih => rw [sumI, ih (fun k h1 h2 => e k h1 (by omega)), e (f + (n : Nat)) (by omega) (by omega)]; rfl
theorem sumI_one {g : Int → Int} {f : Int} {n : Nat} (e : ∀ k, f ≤ k → k < f + (n : Nat) → g k = 1) : sumI g f n = (n : Nat) := by
  induction n with
  | zero => rfl
  | succ n ih => rw [sumI, ih (fun k h1 h2 => e k h1 (by omega)), e (f + (n : Nat)) (by omega) (by omega)]; omega
/-- Only a window counts. -/
theorem sumI_window {g : Int → Int} {F : Int} {m N : Nat} (h0 : 0 ≤ F) (hN : F + (m : Nat) ≤ (N : Nat)) (e : ∀ k, k < F ∨ F + (m : Nat) ≤ k → g k = 0) : sumI g 0 N = sumI g F m := by
  obtain ⟨a, rfl⟩ := Int.eq_ofNat_of_zero_le h0
  rw [show N = a + (m + (N - a - m)) by omega, sumI_app, sumI_app, sumI_zero (f := 0) (fun k h1 h2 => e k (by omega)), sumI_zero (f := 0 + (a : Nat) + (m : Nat)) (fun k h1 h2 => e k (by omega))]
  rw [show (0 : Int) + (a : Nat) = (a : Nat) by omega]
  omega

/-- How many of the places from f to below f + n are in. -/
noncomputable def win (ps : List (Int × Int)) (f : Int) (n : Nat) : Int := sumI (fun k => ind (ins ps k)) f n

theorem cnt_win {ps : List (Int × Int)} (h : Norm ps) : cntL ps = win ps 0 1099511627776 := by
  induction ps with
  | nil =>
    unfold win
    rw [sumI_zero (fun k _ _ => ind_no (ins_nil k))]
    rfl
  | cons p ps ih =>
    have h1 := h.head
    have e : win (p :: ps) 0 1099511627776 = sumI (fun k => ind (p.1 ≤ k ∧ k < p.2)) 0 1099511627776 + win ps 0 1099511627776 := by
      unfold win
      rw [← sumI_add]
      refine sumI_congr fun k _ _ => ?_
      by_cases hk : p.1 ≤ k ∧ k < p.2
      · rw [ind_yes hk, ind_yes ((ins_cons p ps k).2 (.inl hk)), ind_no]
        · rfl
        · rintro ⟨q, hq, q1, _⟩
          have := h.rest q hq
          omega
      · rw [ind_no hk]
        rw [ind_iff (show ins (p :: ps) k ↔ ins ps k from ⟨fun h => by
          rcases (ins_cons p ps k).1 h with h | h
          · exact absurd h hk
          · exact h, fun h => (ins_cons p ps k).2 (.inr h)⟩)]
        omega
    rw [e, ← ih h.tail, cntL]
    have e2 : sumI (fun k => ind (p.1 ≤ k ∧ k < p.2)) 0 1099511627776 = p.2 - p.1 := by
      obtain ⟨m, hm⟩ := Int.eq_ofNat_of_zero_le (show 0 ≤ p.2 - p.1 by omega)
      rw [sumI_window (F := p.1) (m := m) h1.1 (by omega) (fun k hk => ind_no (by omega)), sumI_one (fun k h1 h2 => ind_yes (by omega)), hm]
    rw [e2]
theorem cnt_cut {ps qs : List (Int × Int)} (hp : Norm ps) (hq : Norm qs) {F : Int} {m : Nat} (h0 : 0 ≤ F) (hm : F + (m : Nat) ≤ 1099511627776) (h : ∀ k, ins qs k ↔ ins ps k ∧ ¬ (F ≤ k ∧ k < F + (m : Nat))) : cntL qs = cntL ps - win ps F m := by
  have e : win ps 0 1099511627776 = win qs 0 1099511627776 + sumI (fun k => ind (ins ps k ∧ F ≤ k ∧ k < F + (m : Nat))) 0 1099511627776 := by
    unfold win
    rw [← sumI_add]
    refine sumI_congr fun k _ _ => ?_
    by_cases hi : ins ps k
    · by_cases hk : F ≤ k ∧ k < F + (m : Nat)
      · rw [ind_yes hi, ind_no (fun hqk => ((h k).1 hqk).2 hk), ind_yes ⟨hi, hk⟩]
        rfl
      · rw [ind_yes hi, ind_yes ((h k).2 ⟨hi, hk⟩), ind_no (fun h => hk h.2)]
        rfl
    · rw [ind_no hi, ind_no (fun hqk => hi ((h k).1 hqk).1), ind_no (fun h => hi h.1)]
      rfl
  rw [cnt_win hp, cnt_win hq, e, sumI_window (F := F) (m := m) h0 (by omega) (fun k hk => ind_no (by omega))]
  have e2 : sumI (fun k => ind (ins ps k ∧ F ≤ k ∧ k < F + (m : Nat))) F m = win ps F m := sumI_congr fun k h1 h2 => ind_iff ⟨fun h => h.1, fun h => ⟨h, h1, h2⟩⟩
  omega
theorem win_le (ps : List (Int × Int)) (f : Int) (n : Nat) : 0 ≤ win ps f n ∧ win ps f n ≤ (n : Nat) := by
  unfold win
  induction n with
  | zero => simp [sumI]
  | succ n ih =>
    rw [sumI]
    have : ind (ins ps (f + (n : Nat))) = 0 ∨ ind (ins ps (f + (n : Nat))) = 1 := by
      by_cases h : ins ps (f + (n : Nat))
      · exact .inr (ind_yes h)
      · exact .inl (ind_no h)
    omega
end Go.Proofs.YtpjlnpnadkbakaaGreat
namespace Go.Proofs.YtpjlnpnadkbakaaGreat
set_option maxRecDepth 10000

/-- The window, how many were read, the end (below 0: not known), what is there. -/
structure In where
  win : Int
  tk : Int
  en : Int
  g : Int → Option Int

namespace In
variable {s : In}
def new (m : Int) : In := ⟨min (max m 1) 400, 0, -1, fun _ => none⟩
/-- May a byte come at the place k? -/
def may (s : In) (k : Int) : Prop := 0 ≤ k ∧ k < s.tk + s.win ∧ (s.en < 0 ∨ k < s.en) ∧ s.g k = none
instance (s : In) (k : Int) : Decidable (s.may k) := by unfold may; infer_instance
/-- A byte came. -/
def lay (s : In) (k x : Int) : In := ⟨s.win, s.tk, s.en, fun j => if j = k then some x else s.g j⟩
def put1 (s : In) (k x : Int) : In := if s.may k then s.lay k x else s
def cnt1 (s : In) (k : Int) : Int := if s.may k then 1 else 0
/-- The first i of some bytes came, from the place f on: what is there then, and how many of them are new. -/
def steps (s : In) (f : Int) (ys : List Int) : Nat → In × Int
  | 0 => (s, 0)
  | i + 1 => ((steps s f ys i).1.put1 (f + i) (ys.getD i 0), (steps s f ys i).2 + (steps s f ys i).1.cnt1 (f + i))
/-- May the end be at k? -/
def ends (s : In) (k : Int) : Prop := s.en < 0 ∧ 0 ≤ k ∧ k ≤ 4096 ∧ ∀ j, k ≤ j → s.g j = none
/-- The end is at k. -/
def shut (s : In) (k : Int) : In := ⟨s.win, s.tk, k, s.g⟩
noncomputable def fin (s : In) (k : Int) (b : Bool) : In := @ite In (b = true ∧ s.ends k) (Classical.propDecidable _) (s.shut k) s
noncomputable def put (s : In) (f : Int) (ys : List Int) (b : Bool) : In := (s.steps f ys ys.length).1.fin (f + ys.length) b
def new_ (s : In) (f : Int) (ys : List Int) : Int := (s.steps f ys ys.length).2
/-- n were read. -/
def read (s : In) (n : Int) : In := ⟨s.win, s.tk + n, s.en, s.g⟩

structure ok (s : In) : Prop where
  w0 : 1 ≤ s.win
  w1 : s.win ≤ 400
  t0 : 0 ≤ s.tk
  e0 : -1 ≤ s.en
  e1 : s.en ≤ 4096
  rng : ∀ k, s.g k ≠ none → 0 ≤ k ∧ k < s.tk + s.win
  end_ : 0 ≤ s.en → ∀ k, s.g k ≠ none → k < s.en
  had : ∀ k, 0 ≤ k → k < s.tk → s.g k ≠ none

theorem new_ok (m : Int) : (new m).ok := ⟨by simp only [new]; omega, by simp only [new]; omega, by simp [new], by simp [new], by simp [new], fun k h => absurd rfl h, fun h => by simp [new] at h, fun k h1 h2 => by simp [new] at h2; omega⟩
theorem lay_ok (h : s.ok) {k : Int} (hm : s.may k) (x : Int) : (s.lay k x).ok := by
  obtain ⟨m1, m2, m3, m4⟩ := hm
  refine ⟨h.w0, h.w1, h.t0, h.e0, h.e1, fun j hj => ?_, fun he j hj => ?_, fun j h1 h2 => ?_⟩
  · by_cases e : j = k
    · subst e; exact ⟨m1, m2⟩
    · simp only [lay, if_neg e] at hj; exact h.rng j hj
  · by_cases e : j = k
    · subst e
      rcases m3 with h3 | h3
      · simp only [lay] at he; omega
      · exact h3
    · simp only [lay, if_neg e] at hj; exact h.end_ he j hj
  · by_cases e : j = k
    · simp [lay, e]
    · simp only [lay, if_neg e]; exact h.had j h1 h2
theorem put1_ok (h : s.ok) (k x : Int) : (s.put1 k x).ok := by
  unfold put1
  by_cases hm : s.may k
  · rw [if_pos hm]; exact lay_ok h hm x
  · rw [if_neg hm]; exact h
theorem put1_same (k x : Int) : (s.put1 k x).win = s.win ∧ (s.put1 k x).tk = s.tk ∧ (s.put1 k x).en = s.en := by
  unfold put1
  split <;> exact ⟨rfl, rfl, rfl⟩
theorem steps_ok (h : s.ok) (f : Int) (ys : List Int) (i : Nat) : (s.steps f ys i).1.ok := by
  induction i with
  | zero => exact h
  | succ i ih => exact put1_ok ih _ _
theorem steps_same (f : Int) (ys : List Int) (i : Nat) : (s.steps f ys i).1.win = s.win ∧ (s.steps f ys i).1.tk = s.tk ∧ (s.steps f ys i).1.en = s.en := by
  induction i with
  | zero => exact ⟨rfl, rfl, rfl⟩
  | succ i ih =>
    have := put1_same (s := (s.steps f ys i).1) (f + i) (ys.getD i 0)
    exact ⟨this.1.trans ih.1, this.2.1.trans ih.2.1, this.2.2.trans ih.2.2⟩
theorem steps_cnt (f : Int) (ys : List Int) (i : Nat) : 0 ≤ (s.steps f ys i).2 ∧ (s.steps f ys i).2 ≤ i := by
  induction i with
  | zero => simp [steps]
  | succ i ih =>
    have : (s.steps f ys (i + 1)).2 = (s.steps f ys i).2 + (s.steps f ys i).1.cnt1 (f + i) := rfl
    rw [this]
    unfold cnt1
    split <;> omega
/-- What is there behind some bytes: those that might come. -/
theorem steps_g (f : Int) (ys : List Int) (i : Nat) : ∀ k, (s.steps f ys i).1.g k = if f ≤ k ∧ k < f + i ∧ s.may k then some (ys.getD (k - f).toNat 0) else s.g k := by
  induction i with
  | zero => intro k; rw [if_neg (by omega)]; rfl
  | succ i ih =>
    intro k
    have hs := steps_same (s := s) f ys i
    have hg : (s.steps f ys i).1.g (f + i) = s.g (f + i) := by rw [ih, if_neg (by omega)]
    have hm : (s.steps f ys i).1.may (f + i) ↔ s.may (f + i) := by
      unfold may
      rw [hg, hs.1, hs.2.1, hs.2.2]
    have e : (s.steps f ys (i + 1)).1 = (s.steps f ys i).1.put1 (f + i) (ys.getD i 0) := rfl
    rw [e]
    unfold put1
    by_cases hk : k = f + i
    · subst hk
      by_cases hy : s.may (f + i)
      · rw [if_pos (hm.2 hy), if_pos ⟨by omega, by omega, hy⟩]
        simp only [lay, if_pos]
        rw [show (f + (i : Int) - f).toNat = i by omega]
      · rw [if_neg (fun h => hy (hm.1 h)), if_neg (fun h => hy h.2.2), hg]
    · have h1 : (if (s.steps f ys i).1.may (f + i) then (s.steps f ys i).1.lay (f + i) (ys.getD i 0) else (s.steps f ys i).1).g k = (s.steps f ys i).1.g k := by
        split
        · simp only [lay, if_neg hk]
        · rfl
      rw [h1, ih]
      by_cases hc : f ≤ k ∧ k < f + i ∧ s.may k
      · rw [if_pos hc, if_pos ⟨hc.1, by omega, hc.2.2⟩]
      · rw [if_neg hc, if_neg (fun h => hc ⟨h.1, by omega, h.2.2⟩)]
/-- How many are new: counted place by place. -/
theorem steps_n (f : Int) (ys : List Int) (i : Nat) : (s.steps f ys (i + 1)).2 = (s.steps f ys i).2 + s.cnt1 (f + i) := by
  have hs := steps_same (s := s) f ys i
  have hg : (s.steps f ys i).1.g (f + i) = s.g (f + i) := by rw [steps_g, if_neg (by omega)]
  have hm : (s.steps f ys i).1.may (f + i) ↔ s.may (f + i) := by
    unfold may
    rw [hg, hs.1, hs.2.1, hs.2.2]
  have e : (s.steps f ys (i + 1)).2 = (s.steps f ys i).2 + (s.steps f ys i).1.cnt1 (f + i) := rfl
  rw [e]
  unfold cnt1
  by_cases h : s.may (f + i)
  · rw [if_pos h, if_pos (hm.2 h)]
  · rw [if_neg h, if_neg (fun h' => h (hm.1 h'))]
/-- The first a may come, none behind them. -/
theorem steps_first (f : Int) (ys : List Int) (a : Nat) (h1 : ∀ j : Nat, j < a → s.may (f + j)) (h2 : ∀ j : Nat, a ≤ j → ¬ s.may (f + j)) (i : Nat) : (s.steps f ys i).2 = min i a := by
  induction i with
  | zero => simp [steps]
  | succ i ih =>
    rw [steps_n, ih]
    unfold cnt1
    by_cases h : i < a
    · rw [if_pos (h1 i h)]; omega
    · rw [if_neg (h2 i (by omega))]; omega
/-- None may come. -/
theorem steps_none (f : Int) (ys : List Int) (i : Nat) (h : ∀ j : Nat, j < i → ¬ s.may (f + j)) : (s.steps f ys i).2 = 0 := by
  induction i with
  | zero => rfl
  | succ i ih =>
    rw [steps_n, ih (fun j hj => h j (by omega))]
    unfold cnt1
    rw [if_neg (h i (by omega))]
    rfl
theorem fin_ok (h : s.ok) (k : Int) (b : Bool) : (s.fin k b).ok := by
  unfold fin
  split
  · next hh =>
    obtain ⟨_, h1, h2, h3, h4⟩ := hh
    refine ⟨h.w0, h.w1, h.t0, by simp only [shut]; omega, by simp only [shut]; omega, h.rng, fun _ j hj => ?_, h.had⟩
    show j < k
    by_cases h5 : j < k
    · exact h5
    · exact absurd (h4 j (by omega)) hj
  · exact h
theorem put_ok (h : s.ok) (f : Int) (ys : List Int) (b : Bool) : (s.put f ys b).ok := fin_ok (steps_ok h f ys _) _ b
end In

/-- f is the first place that is not there. -/
structure Front (g : Int → Option Int) (f : Int) : Prop where
  ge : 0 ≤ f
  all : ∀ k, 0 ≤ k → k < f → g k ≠ none
  no : g f = none
theorem Front.eq {g : Int → Option Int} {f f' : Int} (h : Front g f) (h' : Front g f') : f = f' := by
  rcases Int.lt_trichotomy f f' with h1 | h1 | h1
  · exact absurd h.no (h'.all f h.ge h1)
  · exact h1
  · exact absurd h'.no (h.all f' h'.ge h1)

/-- The document's own: the bytes xs, where the places of ps are there. -/
structure Rep (xs : List Int) (ps : List (Int × Int)) (g : Int → Option Int) : Prop where
  norm : Norm ps
  yes : ∀ k, ins ps k → 0 ≤ k ∧ k < xs.length ∧ g k = some (xs.getD k.toNat 0)
  no : ∀ k, ¬ ins ps k → g k = none
section
variable {xs : List Int} {ps : List (Int × Int)} {g : Int → Option Int}
theorem Rep.iff (h : Rep xs ps g) (k : Int) : g k = none ↔ ¬ ins ps k := ⟨fun e hi => (by rw [(h.yes k hi).2.2] at e; cases e), h.no k⟩
/-- Bytes behind all of them change nothing. -/
theorem Rep.more (h : Rep xs ps g) (zs : List Int) : Rep (xs ++ zs) ps g := by
  refine ⟨h.norm, fun k hk => ?_, h.no⟩
  obtain ⟨h1, h2, h3⟩ := h.yes k hk
  refine ⟨h1, by rw [List.length_append]; omega, ?_⟩
  rw [h3]
  congr 1
  simp only [List.getD_eq_getElem?_getD]
  rw [List.getElem?_append_left (by omega)]
end
end Go.Proofs.YtpjlnpnadkbakaaGreat

/-
  A plan as mathematics: sets by their own Add and Cut as functions ('addN', 'cutN'), what is sent next ('Pl.next'). No program.
-/
import Derived.Test.YtlljfinagjdihaaRangesMath
import Derived.Test.YtlljfinagjdihaaOutMath
namespace Go.Proofs.Ytlljfinagjdihaa

/-- Add of places from f to below t (f below t). -/
def addS : List (Int × Int) → Int → Int → List (Int × Int)
  | [], f, t => [(f, t)]
  | q :: qs, f, t => if q.2 < f then q :: addS qs f t else if t < q.1 then (f, t) :: q :: qs else addS qs (min f q.1) (max t q.2)
def addN (ps : List (Int × Int)) (f t : Int) : List (Int × Int) := if max f 0 < min t 1099511627776 then addS ps (max f 0) (min t 1099511627776) else ps
/-- What Cut leaves of one Range. -/
def cutO (q : Int × Int) (f t : Int) : List (Int × Int) := (if q.1 < f then [(q.1, min q.2 f)] else []) ++ (if t < q.2 then [(max q.1 t, q.2)] else [])
def cutS (ps : List (Int × Int)) (f t : Int) : List (Int × Int) := ps.flatMap fun q => cutO q f t
def cutN (ps : List (Int × Int)) (f t : Int) : List (Int × Int) := if f < t then cutS ps f t else ps

theorem addS_low {ps : List (Int × Int)} : ∀ {f t lo : Int}, lo < f → (∀ q ∈ ps, lo < q.1) → ∀ x ∈ addS ps f t, lo < x.1 := by
  induction ps with
  | nil =>
    intro f t lo h _ x hx
    simp [addS] at hx
    rw [hx]
    exact h
  | cons q qs ih =>
    intro f t lo h hq x hx
    have h1 := hq q List.mem_cons_self
    have h2 : ∀ y ∈ qs, lo < y.1 := fun y hy => hq y (List.mem_cons_of_mem _ hy)
    unfold addS at hx
    split at hx
    · rcases List.mem_cons.1 hx with rfl | hx
      · exact h1
      · exact ih h h2 x hx
    · split at hx
      · rcases List.mem_cons.1 hx with rfl | hx
        · exact h
        · exact hq x hx
      · exact ih (by omega) h2 x hx
theorem addS_norm {ps : List (Int × Int)} (h : Norm ps) : ∀ {f t : Int}, 0 ≤ f → f < t → t ≤ 1099511627776 → Norm (addS ps f t) ∧ ∀ k, ins (addS ps f t) k ↔ ins ps k ∨ (f ≤ k ∧ k < t) := by
  induction ps with
  | nil =>
    intro f t h0 h1 h2
    refine ⟨Norm.cons h0 h1 h2 Norm.nil (by simp), fun k => ?_⟩
    simp [addS, ins]
  | cons q qs ih =>
    intro f t h0 h1 h2
    have hq := h.head
    have hr := h.rest
    unfold addS
    split
    · rename_i hlt
      have := ih h.tail h0 h1 h2
      refine ⟨Norm.cons hq.1 hq.2.1 hq.2.2 this.1 (addS_low hlt hr), fun k => ?_⟩
      rw [ins_cons, ins_cons, this.2 k, or_assoc]
    · split
      · rename_i hlt2
        refine ⟨Norm.cons h0 h1 h2 h ?_, fun k => ?_⟩
        · intro x hx
          rcases List.mem_cons.1 hx with rfl | hx
          · exact hlt2
          · have := hr x hx; show t < _; omega
        · rw [ins_cons]
          exact Or.comm
      · have := ih h.tail (f := min f q.1) (t := max t q.2) (by omega) (by omega) (by omega)
        refine ⟨this.1, fun k => ?_⟩
        rw [this.2 k, ins_cons]
        constructor
        · rintro (h3 | h3)
          · exact .inl (.inr h3)
          · by_cases h4 : q.1 ≤ k ∧ k < q.2
            · exact .inl (.inl h4)
            · exact .inr (by omega)
        · rintro ((h3 | h3) | h3)
          · exact .inr (by omega)
          · exact .inl h3
          · exact .inr (by omega)
theorem addN_norm {ps : List (Int × Int)} (h : Norm ps) (f t : Int) : Norm (addN ps f t) ∧ ∀ k, ins (addN ps f t) k ↔ ins ps k ∨ (max f 0 ≤ k ∧ k < min t 1099511627776) := by
  unfold addN
  split
  · exact addS_norm h (by omega) (by assumption) (by omega)
  · exact ⟨h, fun k => ⟨.inl, fun h => h.elim id (fun h => by omega)⟩⟩

theorem cutO_mem {q x : Int × Int} {f t : Int} (h : x ∈ cutO q f t) : (q.1 < f ∧ x = (q.1, min q.2 f)) ∨ (t < q.2 ∧ x = (max q.1 t, q.2)) := by
  unfold cutO at h
  rcases List.mem_append.1 h with h | h
  · split at h
    · exact .inl ⟨by assumption, by simpa using h⟩
    · simp at h
  · split at h
    · exact .inr ⟨by assumption, by simpa using h⟩
    · simp at h
theorem cutS_norm {ps : List (Int × Int)} (h : Norm ps) {f t : Int} (hft : f < t) : Norm (cutS ps f t) ∧ (∀ k, ins (cutS ps f t) k ↔ ins ps k ∧ ¬ (f ≤ k ∧ k < t)) ∧ ∀ lo, (∀ q ∈ ps, lo < q.1) → ∀ x ∈ cutS ps f t, lo < x.1 := by
  induction ps with
  | nil => exact ⟨Norm.nil, fun k => ⟨fun h => absurd h (ins_nil _), fun h => absurd h.1 (ins_nil _)⟩, fun lo _ x hx => by simp [cutS] at hx⟩
  | cons q qs ih =>
    have hq := h.head
    have hr := h.rest
    obtain ⟨i1, i2, i3⟩ := ih h.tail
    have hc : cutS (q :: qs) f t = cutO q f t ++ cutS qs f t := rfl
    rw [hc]
    have hO : Norm (cutO q f t) := by
      unfold cutO
      refine Norm.app ?_ ?_ ?_
      · split
        · exact Norm.cons hq.1 (by simp only []; omega) (by simp only []; omega) Norm.nil (by simp)
        · exact Norm.nil
      · split
        · exact Norm.cons (by simp only []; omega) (by simp only []; omega) (by simp only []; omega) Norm.nil (by simp)
        · exact Norm.nil
      · intro a ha b hb
        split at ha
        · split at hb
          · obtain rfl : a = _ := by simpa using ha
            obtain rfl : b = _ := by simpa using hb
            simp only []
            omega
          · simp at hb
        · simp at ha
    refine ⟨Norm.app hO i1 ?_, fun k => ?_, ?_⟩
    · intro a ha b hb
      have h1 := i3 q.2 hr b hb
      rcases cutO_mem ha with ⟨_, rfl⟩ | ⟨_, rfl⟩
      · simp only []; omega
      · exact h1
    · have hOk : ins (cutO q f t) k ↔ (q.1 ≤ k ∧ k < q.2) ∧ ¬ (f ≤ k ∧ k < t) := by
        unfold cutO
        rw [ins_app]
        constructor
        · rintro (⟨x, hx, h1⟩ | ⟨x, hx, h1⟩)
          · split at hx
            · obtain rfl : x = _ := by simpa using hx
              simp only [] at h1
              omega
            · simp at hx
          · split at hx
            · obtain rfl : x = _ := by simpa using hx
              simp only [] at h1
              omega
            · simp at hx
        · rintro ⟨h1, h2⟩
          by_cases h3 : k < f
          · left
            rw [if_pos (by omega)]
            exact ⟨_, List.mem_cons_self, by simp only []; omega⟩
          · right
            rw [if_pos (by omega)]
            exact ⟨_, List.mem_cons_self, by simp only []; omega⟩
      rw [ins_app, ins_cons, hOk, i2 k]
      constructor
      · rintro (⟨h1, h2⟩ | ⟨h1, h2⟩)
        · exact ⟨.inl h1, h2⟩
        · exact ⟨.inr h1, h2⟩
      · rintro ⟨h1 | h1, h2⟩
        · exact .inl ⟨h1, h2⟩
        · exact .inr ⟨h1, h2⟩
    · intro lo hlo x hx
      have h0 := hlo q List.mem_cons_self
      rcases List.mem_append.1 hx with hx | hx
      · rcases cutO_mem hx with ⟨_, rfl⟩ | ⟨_, rfl⟩
        · exact h0
        · simp only []; omega
      · exact i3 lo (fun y hy => hlo y (List.mem_cons_of_mem _ hy)) x hx
theorem cutN_norm {ps : List (Int × Int)} (h : Norm ps) (f t : Int) : Norm (cutN ps f t) ∧ ∀ k, ins (cutN ps f t) k ↔ ins ps k ∧ ¬ (f ≤ k ∧ k < t) := by
  unfold cutN
  split
  · have := cutS_norm h (f := f) (t := t) (by assumption)
    exact ⟨this.1, this.2.1⟩
  · exact ⟨h, fun k => ⟨fun h => ⟨h, by omega⟩, fun h => h.1⟩⟩
/-- A set of places has no more Ranges than places. -/
theorem Norm.many {ps : List (Int × Int)} (h : Norm ps) : ∀ lo : Int, lo ≤ 1099511627776 → (∀ q ∈ ps, lo ≤ q.1) → lo + (ps.length : Int) ≤ 1099511627776 := by
  induction ps with
  | nil => intro lo h0 _; simpa using h0
  | cons q qs ih =>
    intro lo h0 h1
    have hq := h.head
    have h2 := h1 q List.mem_cons_self
    have := ih h.tail (lo + 1) (by omega) (fun x hx => by have := h.rest x hx; omega)
    rw [List.length_cons]
    omega
theorem Norm.len {ps : List (Int × Int)} (h : Norm ps) : ps.length ≤ 1099511627776 := by
  have := h.many 0 (by omega) (fun q hq => (h.each q hq).1)
  omega

/-- A plan: what is lost, the first place that was never told. -/
structure Pl where
  ls : List (Int × Int)
  sent : Int
/-- What Next answers, and the plan behind it. -/
structure Nx where
  f : Int
  t : Int
  ok : Bool
  p : Pl

def chk (c : Int) : Int := min (max c 1) 64
/-- t, or less: up to where there are at most c bytes from f on. -/
def reachI (o : Ou) (f t c : Int) : Int := min (if o.cl = true ∧ f ≤ (o.xs.length : Int) ∧ (o.xs.length : Int) ≤ f + c then f + c + 1 else f + c) t

namespace Pl
def new : Pl := ⟨[], 0⟩
def lost (p : Pl) (f t : Int) : Pl := ⟨addN p.ls f (min t p.sent), p.sent⟩
/-- What is sent next of what is lost (L), else of what is new (s to below t). -/
def step (L : List (Int × Int)) (s t c : Int) (o : Ou) : Nx :=
  match L with
  | q :: qs => ⟨q.1, reachI o q.1 q.2 c, true, ⟨cutN (q :: qs) q.1 (reachI o q.1 q.2 c), s⟩⟩
  | [] => if s < t then ⟨s, reachI o s t c, true, ⟨[], reachI o s t c⟩⟩ else ⟨0, 0, false, ⟨[], s⟩⟩
def next (p : Pl) (o : Ou) (l c : Int) : Nx := step (cutN p.ls 0 o.ak) p.sent (o.till l) (chk c) o
structure ok (p : Pl) : Prop where
  norm : Norm p.ls
  s0 : 0 ≤ p.sent
  s1 : p.sent ≤ 4097
  below : ∀ k, ins p.ls k → k < p.sent

variable {p : Pl} {o : Ou}
theorem new_ok : new.ok := ⟨Norm.nil, by simp [new], by simp [new], fun k h => absurd h (ins_nil _)⟩
theorem chk_range (c : Int) : 1 ≤ chk c ∧ chk c ≤ 64 := by unfold chk; omega
theorem lost_ok (h : p.ok) (f t : Int) : (p.lost f t).ok := by
  have := addN_norm h.norm f (min t p.sent)
  refine ⟨this.1, h.s0, h.s1, fun k hk => ?_⟩
  rcases (this.2 k).1 hk with h1 | h1
  · exact h.below k h1
  · show k < p.sent; omega
theorem till_range (h : o.ok) (l : Int) : 0 ≤ o.till l ∧ o.till l ≤ 4097 := by
  have h1 := Ou.places_range h
  have h2 := h.l
  have h3 : (o.xs.length : Int) ≤ o.places := by unfold Ou.places; split <;> omega
  unfold Ou.till
  split <;> omega
theorem reach_range (o : Ou) {f t c : Int} (hc : 1 ≤ c) (hf : f < t) : f < reachI o f t c ∧ reachI o f t c ≤ t := by
  unfold reachI
  split <;> omega
theorem mem_range (h : p.ok) {q : Int × Int} (hq : q ∈ p.ls) : 0 ≤ q.1 ∧ q.1 < q.2 ∧ q.2 ≤ p.sent := by
  have h1 := h.norm.each q hq
  have h2 := h.below (q.2 - 1) ⟨q, hq, by omega, by omega⟩
  omega
theorem cut_ok (h : p.ok) (f t : Int) : (Pl.mk (cutN p.ls f t) p.sent).ok := by
  have := cutN_norm h.norm f t
  exact ⟨this.1, h.s0, h.s1, fun k hk => h.below k ((this.2 k).1 hk).1⟩
theorem next_ok (h : p.ok) (ho : o.ok) (l c : Int) : (p.next o l c).p.ok := by
  have h1 := cut_ok h 0 o.ak
  unfold next step
  cases hc : cutN p.ls 0 o.ak with
  | nil =>
    simp only []
    have ht := till_range ho l
    split
    · rename_i hlt
      have := reach_range o (chk_range c).1 hlt
      have := h.s0
      exact ⟨Norm.nil, by simp only []; omega, by simp only []; omega, fun k h => absurd h (ins_nil _)⟩
    · exact ⟨Norm.nil, h.s0, h.s1, fun k h => absurd h (ins_nil _)⟩
  | cons q qs =>
    simp only []
    rw [hc] at h1
    exact cut_ok h1 _ _
/-- With nothing lost. -/
theorem next_new (o : Ou) (s l c : Int) : (Pl.mk [] s).next o l c = if s < o.till l then ⟨s, reachI o s (o.till l) (chk c), true, ⟨[], reachI o s (o.till l) (chk c)⟩⟩ else ⟨0, 0, false, ⟨[], s⟩⟩ := by
  have : cutN ([] : List (Int × Int)) 0 o.ak = [] := by unfold cutN; split <;> rfl
  unfold next step
  rw [this]
end Pl
end Go.Proofs.Ytlljfinagjdihaa

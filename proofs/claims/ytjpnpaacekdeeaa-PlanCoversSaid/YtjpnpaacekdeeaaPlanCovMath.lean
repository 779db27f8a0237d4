/-
  The pieces of PlanCovers as mathematics. No program.
-/
import Derived.Test.YtjpnpaacekdeeaaPlanSmall
namespace Go.Proofs.Ytjpnpaacekdeeaa
open Go.RowKit

/-- A piece of n bytes and their end, told in pieces of c. -/
def GoodPc (n c : Int) (x : Int × Int) : Prop := 0 ≤ x.1 ∧ x.1 < x.2 ∧ ((x.2 = x.1 + c ∧ x.2 < n) ∨ (x.2 = n + 1 ∧ x.1 ≤ n ∧ n ≤ x.1 + c))
/-- k pieces were told, up to s. -/
structure InvPc (n c : Int) (k : Nat) (s : Int) (ts : List (Int × Int)) : Prop where
  len : ts.length = k
  good : ∀ x ∈ ts, GoodPc n c x
  at_ : (s = (k : Int) * c ∧ (k = 0 ∨ (k : Int) * c < n)) ∨ (s = n + 1 ∧ max ((n + c - 1) / c) 1 = (k : Int))

section
variable {n c : Int} {k : Nat} {s : Int} {ts : List (Int × Int)}
theorem InvPc.lt (h : InvPc n c k s ts) (hc : 1 ≤ c ∧ c ≤ 20) (hn : 0 ≤ n ∧ n ≤ 80) : k < 100 := by
  rcases h.at_ with ⟨_, h1 | h1⟩ | ⟨_, h1⟩
  · omega
  · have : (k : Int) * 1 ≤ (k : Int) * c := Int.mul_le_mul_of_nonneg_left hc.1 (by omega)
    omega
  · have : (n + c - 1) / c ≤ n + c - 1 := Int.ediv_le_self _ (by omega)
    omega
theorem InvPc.done (h : InvPc n c k s ts) (hn : 0 ≤ n) (hs : ¬ s < n + 1) : s = n + 1 ∧ max ((n + c - 1) / c) 1 = (k : Int) := by
  rcases h.at_ with ⟨h0, h1 | h1⟩ | h1
  · subst h1
    simp at h0
    omega
  · omega
  · exact h1
theorem InvPc.step (h : InvPc n c k s ts) (O : Ou) (hl : (O.xs.length : Int) = n) (hcl : O.cl = true) (hc : 1 ≤ c ∧ c ≤ 20) (hn : 0 ≤ n ∧ n ≤ 80) (hs : s < n + 1) :
    ∃ r, reachI O s (n + 1) c = r ∧ 0 ≤ s ∧ s < r ∧ r ≤ n + 1 ∧ min r n - s ≤ c ∧ (n ≤ r → r = n + 1) ∧ InvPc n c (k + 1) r (ts ++ [(s, r)]) := by
  have hk : s = (k : Int) * c ∧ (k = 0 ∨ (k : Int) * c < n) := by
    rcases h.at_ with h1 | h1
    · exact h1
    · omega
  obtain ⟨h1, h2⟩ := hk
  have h0 : 0 ≤ s := by rw [h1]; exact Int.mul_nonneg (by omega) (by omega)
  have e1 : ((k + 1 : Nat) : Int) * c = s + c := by rw [Int.natCast_add, Int.add_mul, h1]; simp
  by_cases hr : n ≤ s + c
  · refine ⟨n + 1, ?_, h0, hs, Int.le_refl _, by omega, fun _ => rfl, by rw [List.length_append, h.len]; rfl, ?_, .inr ⟨rfl, ?_⟩⟩
    · unfold reachI
      rw [if_pos ⟨hcl, by omega, by omega⟩]
      omega
    · intro x hx
      rcases List.mem_append.1 hx with hx | hx
      · exact h.good x hx
      · obtain rfl : x = (s, n + 1) := by simpa using hx
        exact ⟨h0, hs, .inr ⟨rfl, by simp only []; omega, hr⟩⟩
    · rcases h2 with rfl | h2
      · simp at h1
        subst h1
        by_cases hn0 : n = 0
        · have : (n + c - 1) / c = 0 := Int.ediv_eq_zero_of_lt (by omega) (by omega)
          rw [this]; rfl
        · have a1 : 1 ≤ (n + c - 1) / c := (Int.le_ediv_iff_mul_le (by omega)).2 (by omega)
          have a2 : (n + c - 1) / c < 2 := (Int.ediv_lt_iff_lt_mul (by omega)).2 (by omega)
          show max ((n + c - 1) / c) 1 = 1
          omega
      · have a1 : ((k + 1 : Nat) : Int) ≤ (n + c - 1) / c := (Int.le_ediv_iff_mul_le (by omega)).2 (by rw [e1]; omega)
        have e2 : (((k + 1 : Nat) : Int) + 1) * c = s + c + c := by rw [Int.add_mul, e1]; simp
        have a2 : (n + c - 1) / c < ((k + 1 : Nat) : Int) + 1 := (Int.ediv_lt_iff_lt_mul (by omega)).2 (by rw [e2]; omega)
        omega
  · refine ⟨s + c, ?_, h0, by omega, by omega, by omega, by omega, by rw [List.length_append, h.len]; rfl, ?_, .inl ⟨e1.symm, .inr (by rw [e1]; omega)⟩⟩
    · unfold reachI
      rw [if_neg (by rintro ⟨_, _, h3⟩; omega)]
      omega
    · intro x hx
      rcases List.mem_append.1 hx with hx | hx
      · exact h.good x hx
      · obtain rfl : x = (s, s + c) := by simpa using hx
        exact ⟨h0, by simp only []; omega, .inl ⟨rfl, by simp only []; omega⟩⟩
end

/-- Closed, all of it told: what is lost, and partly acknowledged, is told again. -/
theorem next_again (O : Ou) (n c : Int) (x : Int × Int) (hx : GoodPc n c x) (hl : (O.xs.length : Int) = n) (hcl : O.cl = true) (hc : 1 ≤ c ∧ c ≤ 20) (hk : 0 ≤ O.ak) :
    (x.2 ≤ O.ak → (Pl.mk [x] (n + 1)).next O n c = ⟨0, 0, false, ⟨[], n + 1⟩⟩) ∧ (O.ak < x.2 → (Pl.mk [x] (n + 1)).next O n c = ⟨max x.1 O.ak, x.2, true, ⟨[], n + 1⟩⟩) ∧ (Pl.mk [] (n + 1)).next O n c = ⟨0, 0, false, ⟨[], n + 1⟩⟩ := by
  obtain ⟨a, b⟩ := x
  obtain ⟨g1, g2, g3⟩ := hx
  simp only [] at g1 g2 g3
  have hT : O.till n = n + 1 := by unfold Ou.till; rw [if_pos (by omega), Ou.places_shut hcl, hl]
  have hck : chk c = c := by unfold chk; omega
  refine ⟨fun h => ?_, fun h => ?_, ?_⟩
  · simp only [] at h
    have e : cutN [(a, b)] 0 O.ak = [] := by
      unfold cutN
      rw [if_pos (by omega)]
      have h1 : ¬ a < 0 := by omega
      have h2 : ¬ O.ak < b := by omega
      simp [cutS, cutO, h1, h2]
    unfold Pl.next Pl.step
    rw [e, hT]
    simp
  · simp only [] at h
    have e : cutN [(a, b)] 0 O.ak = [(max a O.ak, b)] := by
      unfold cutN
      split
      · have h1 : ¬ a < 0 := by omega
        simp [cutS, cutO, h1, h]
      · rw [show max a O.ak = a by omega]
    have hr : reachI O (max a O.ak) b c = b := by
      unfold reachI
      split
      · omega
      · rename_i hne
        have : ¬ (max a O.ak ≤ n ∧ n ≤ max a O.ak + c) := fun hh => hne ⟨hcl, by omega, by omega⟩
        rcases g3 with g3 | g3 <;> omega
    have e2 : cutN [(max a O.ak, b)] (max a O.ak) b = [] := by
      unfold cutN
      rw [if_pos (by omega)]
      simp [cutS, cutO]
    unfold Pl.next Pl.step
    rw [e]
    simp only []
    rw [hck, hr, e2]
  · have h := Pl.next_new O (n + 1) n c
    rw [h, hT, if_neg (by omega)]
end Go.Proofs.Ytjpnpaacekdeeaa

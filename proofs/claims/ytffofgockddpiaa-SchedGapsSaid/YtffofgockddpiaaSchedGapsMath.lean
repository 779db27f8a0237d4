/-
  Three paths, one of which can't be used: what is picked. No program.
-/
import Derived.Test.YtffofgockddpiaaSchedMath
namespace Go.Proofs.Ytffofgockddpiaa

/-- Three paths, g can't be used, the others can. -/
structure Gap (ms : List Int) (g : Nat) : Prop where
  len : ms.length = 3
  lt : g < 3
  no : ms.getD g 0 < 0
  yes : ∀ j : Nat, j < 3 → j ≠ g → 0 ≤ ms.getD j 0
theorem Gap.use {ms : List Int} {g : Nat} (h : Gap ms g) : ¬ NoneU ms := fun hn => by
  have hl := h.lt
  by_cases e : g = 0
  · have := h.yes 1 (by omega) (by omega)
    have := hn 1 (by rw [h.len]; omega)
    omega
  · have := h.yes 0 (by omega) (by omega)
    have := hn 0 (by rw [h.len]; omega)
    omega
/-- The turn behind l: the next, but g. -/
def wantG (g : Nat) (l : Int) : Int := if (l + 1) % 3 = (g : Int) then ((l + 1) % 3 + 1) % 3 else (l + 1) % 3
theorem wantG_ok (g : Nat) (l : Int) : ∃ b : Nat, wantG g l = (b : Int) ∧ b < 3 ∧ b ≠ g := by
  unfold wantG
  split
  · exact ⟨(((l + 1) % 3 + 1) % 3).toNat, by omega, by omega, by omega⟩
  · exact ⟨((l + 1) % 3).toNat, by omega, by omega, by omega⟩
theorem Gap.round {ms : List Int} {g : Nat} (h : Gap ms g) {l : Int} (hl : l = -1 ∨ (0 ≤ l ∧ l ≤ 2 ∧ l ≠ (g : Int))) {b : Nat} (hb : wantG g l = (b : Int)) : RoundP ms l b := by
  obtain ⟨b', e1, e2, e3⟩ := wantG_ok g l
  have : b = b' := by omega
  subst this
  have hg := h.lt
  refine ⟨by rw [h.len]; exact e2, h.yes b e2 e3, ?_⟩
  have neg : ∀ j : Nat, j = g → ms.getD j 0 < 0 := fun j e => by rw [e]; exact h.no
  unfold wantG at hb
  by_cases hlt : l < (b : Int)
  · refine .inl ⟨hlt, fun j h1 h2 => neg j ?_⟩
    split at hb <;> omega
  · refine .inr ⟨fun j h1 h2 => neg j ?_, fun j h1 => neg j ?_⟩
    · rw [h.len] at h2
      split at hb <;> omega
    · split at hb <;> omega
theorem Gap.can {ms : List Int} {g : Nat} (h : Gap ms g) : ∃ y z : Nat, can ms = [(y : Int), (z : Int)] ∧ y ≠ g ∧ z ≠ g ∧ y < z ∧ z < 3 := by
  have hg := h.lt
  have e : Go.Proofs.Ytffofgockddpiaa.can ms = canF ms 3 := by unfold Go.Proofs.Ytffofgockddpiaa.can; rw [h.len]
  have hcases : g = 0 ∨ g = 1 ∨ g = 2 := by omega
  have hno := h.no
  have hyes := h.yes
  rw [e]
  rcases hcases with rfl | rfl | rfl
  · refine ⟨1, 2, ?_, by omega, by omega, by omega, by omega⟩
    rw [canF_yes (hyes 2 (by omega) (by omega)), canF_yes (hyes 1 (by omega) (by omega)), canF_no hno]; rfl
  · refine ⟨0, 2, ?_, by omega, by omega, by omega, by omega⟩
    rw [canF_yes (hyes 2 (by omega) (by omega)), canF_no hno, canF_yes (hyes 0 (by omega) (by omega))]; rfl
  · refine ⟨0, 1, ?_, by omega, by omega, by omega, by omega⟩
    rw [canF_no hno, canF_yes (hyes 1 (by omega) (by omega)), canF_yes (hyes 0 (by omega) (by omega))]; rfl
/-- All three can be used: the next. -/
theorem round_3 {ms : List Int} (hn : ms.length = 3) (hu : ∀ j : Nat, j < 3 → 0 ≤ ms.getD j 0) {l : Int} (hl : -1 ≤ l ∧ l ≤ 2) {b : Nat} (hb : (l + 1) % 3 = (b : Int)) : RoundP ms l b := by
  refine ⟨by omega, hu b (by omega), ?_⟩
  by_cases hlt : l < (b : Int)
  · exact .inl ⟨hlt, fun j h1 h2 => by omega⟩
  · exact .inr ⟨fun j h1 h2 => by omega, fun j h1 => by omega⟩
end Go.Proofs.Ytffofgockddpiaa

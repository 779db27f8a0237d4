/-
  The walk of VintZigs.
-/
import Derived.Test.YtlmndmcjkkikpaaWakes
namespace Go.Proofs.Ytlmndmcjkkikpaa
open Go.RowKit

set_option maxHeartbeats 1000000 in
theorem vintZigs_walk (a0 : Int) (a1 : Int) (w : World) (_ : (Lit.int .i64 a0).wf = true) (_ : (Lit.int .i64 a1).wf = true) :
    Calls Try.prog 7 #[.int .i64 a0, .int .i64 a1] w fun e w' => e = .returned (.bool true) ∧ Below w.heap.size w w' := by
  obtain ⟨n, hn⟩ : ∃ n, a0 % 4611686018427387904 - 2305843009213693952 = n := ⟨_, rfl⟩
  obtain ⟨m, hm⟩ : ∃ m, a1 % 4611686018427387904 - 2305843009213693952 = m := ⟨_, rfl⟩
  have n1 : -2305843009213693952 ≤ n := by omega
  have n2 : n ≤ 2305843009213693951 := by omega
  have m1 : -2305843009213693952 ≤ m := by omega
  have m2 : m ≤ 2305843009213693951 := by omega
  obtain ⟨hz, hz'⟩ := zigV_bd n1 n2
  have hback := zagV_zigV n1 n2
  have hodd : ((zigV n % 2 == 1) == decide (n < 0)) = true := by
    have := zigV_odd n1 n2
    by_cases h : n < 0
    · simp [h, this.2 h]
    · have h' : ¬ zigV n % 2 = 1 := fun e => h (this.1 e)
      simp [h, h']
  have hinj : ((zigV n == zigV m) == (n == m)) = true := by
    have := zigV_inj n1 n2 m1 m2
    by_cases h : n = m
    · subst h; simp
    · have h' : ¬ zigV n = zigV m := fun e => h (this.1 e)
      rw [beq_eq_false_iff_ne.2 h, beq_eq_false_iff_ne.2 h']; rfl
  have e1 : zigV 2305843009213693952 = -1 := by decide
  have e2 : zigV (-2305843009213693953) = -1 := by decide
  have e3 : zagV (-1 - zigV n) = 0 := by unfold zagV; rw [if_pos (by omega)]
  have e4 : zagV 4611686018427387904 = 0 := by decide
  have e5 : zigV 0 = 0 := by decide
  have e6 : zigV (-1) = 1 := by decide
  go_enter Try.func7, Try.ntmps7
  go_wp2_with (first
    | (go_at_call 13; refine (within_any _ _ _ (by omega) (by omega)).mono ?_; rintro e w' ⟨rfl, rfl⟩)
    | (go_at_call 18; refine (zig_any _ _).mono ?_; rintro e w' ⟨rfl, rfl⟩)
    | (go_at_call 20; refine (zag_any _ _).mono ?_; rintro e w' ⟨rfl, rfl⟩)
    | (go_at_call 10; refine (wakes_any _).mono ?_; rintro e w' ⟨rfl, hb⟩))
  go_ret
  exact ⟨rfl, hb⟩
end Go.Proofs.Ytlmndmcjkkikpaa

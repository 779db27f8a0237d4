/-
  What Within, Size, mark, Zig and Zag answer: contracts over the program.
-/
import Derived.Test.YtlmndmcjkkikpaaRows
import Derived.Test.YtlmndmcjkkikpaaVintMath
import Derived.Test.YtlmndmcjkkikpaaMem
import Derived.WalkLawsBesides
namespace Go.Proofs.Ytlmndmcjkkikpaa
open Go.RowKit

set_option maxHeartbeats 400000 in
theorem within_any (v n : Int) (w : World) (h1 : 1 ≤ n) (h2 : n ≤ 4611686018427387904) :
    Calls Try.prog 13 #[.int .i64 v, .int .i64 n] w fun e w' => e = .returned (.int .i64 (v % n)) ∧ w = w' := by
  by_cases h : v.tmod n < 0
  · go_enter Try.func13, Try.ntmps13
    go_wp2
    go_ret
    exact ⟨ret_i (within_lt h1 h2 h), rfl⟩
  · go_enter Try.func13, Try.ntmps13
    go_wp2
    go_ret
    exact ⟨ret_i (within_ge h1 (by omega)), rfl⟩

set_option maxHeartbeats 400000 in
theorem size_any (n : Int) (w : World) :
    Calls Try.prog 12 #[.int .i64 n] w fun e w' => e = .returned (.int .i64 (szV n)) ∧ w = w' := by
  go_enter Try.func12, Try.ntmps12
  go_wp2
  all_goals go_ret
  all_goals (refine ⟨ret_i ?_, rfl⟩; simp only [szV]; (repeat' (first | omega | split)))

set_option maxHeartbeats 400000 in
theorem zig_any (n : Int) (w : World) :
    Calls Try.prog 18 #[.int .i64 n] w fun e w' => e = .returned (.int .i64 (zigV n)) ∧ w = w' := by
  go_enter Try.func18, Try.ntmps18
  go_wp2
  all_goals go_ret
  all_goals (refine ⟨ret_i ?_, rfl⟩; simp only [zigV]; (repeat' (first | omega | split)))

set_option maxHeartbeats 400000 in
theorem zag_any (n : Int) (w : World) :
    Calls Try.prog 20 #[.int .i64 n] w fun e w' => e = .returned (.int .i64 (zagV n)) ∧ w = w' := by
  go_enter Try.func20, Try.ntmps20
  go_wp2
  all_goals go_ret
  all_goals (refine ⟨ret_i ?_, rfl⟩; (try simp only [beq_iff_eq, beq_eq_false_iff_ne, ne_eq] at *); simp only [zagV]; (repeat' (first | omega | split)))
end Go.Proofs.Ytlmndmcjkkikpaa

/-
  Copy of ints: contract over the program.
-/
import Derived.Test.YtffofgockddpiaaRows
import Derived.Test.YtffofgockddpiaaOwn
import Derived.WalkLawsBesides
import Derived.Handy
namespace Go.Proofs.Ytffofgockddpiaa
open Go.RowKit

theorem info_intC : (Try.prog.info? 3).map (fun i => (i.zero, i.size, i.bytes)) = some (some (.int .i64 0), 1, 8) := by kernel_rfl
set_option maxHeartbeats 400000 in
theorem copyI_any (A : Option Addr) (n c : Nat) (xs : List Int) (w : World) (hn : xs.length = n) (hr : Rd .i64 w A xs) (hb : n ≤ 1099511627776) :
    Calls Try.prog 11 #[.slice A n c] w fun e w' => ∃ A' c', e = .returned (.slice A' n c') ∧ Own .i64 3 w' w.heap.size (.slice A' n c') xs ∧ Below w.heap.size w w' := by
  go_enter Try.func11, Try.ntmps11
  go_wp2_with (at_builtin; refine wpList_app _ .i64 rfl (.const (.slice none 0 0)) (.tmp 3) 22 rfl 3 (.int .i64 0) 8 Try.underlying22 info_intC rfl w.heap.size (.slice none 0 0) [] rfl (Own.nil _ _ _ _) A n c rfl xs hn hr (by simp only [List.length_nil]; unfold maxLen; omega) (by simp only [List.length_nil]; omega) (Nat.le_refl _) ?_; intro A' c' w' ho hg)
  go_ret
  simp only [List.length_nil, Nat.zero_add, List.nil_append] at ho ⊢
  exact ⟨A', c', rfl, ho, grown_below hg (Nat.le_refl _) (by simp [Value.ownBlock])⟩
end Go.Proofs.Ytffofgockddpiaa

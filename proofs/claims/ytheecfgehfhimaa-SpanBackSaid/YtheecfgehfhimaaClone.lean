/-
  What bytes.Clone makes of bytes: contract over the program.
-/
import Derived.Test.YtheecfgehfhimaaCopy
import Derived.Lib.SliceRun
namespace Go.Proofs.Ytheecfgehfhimaa
open Go.RowKit

set_option maxHeartbeats 400000 in
theorem clone_any (A : Option Addr) (n c : Nat) (xs : List Int) (w : World) (hn : xs.length = n) (hr : Rd .u8 w A xs) (hb : n ≤ 140737488355328) (hnil : A = none → c = 0 ∧ n = 0) :
    Calls Try.prog 27 #[.slice A n c] w fun e w' => ∃ A' c', e = .returned (.slice A' n c') ∧ Own .u8 5 w' w.heap.size (.slice A' n c') xs ∧ Below w.heap.size w w' := by
  have ke := fun (w : World) (a : Option Addr) (n c : Nat) => Lib.run_eql_slice_nil (P := Try.prog) w 22 5 a n c 0 0 Try.underlying22
  cases A with
  | none =>
    obtain ⟨rfl, rfl⟩ := hnil rfl
    have : xs = [] := List.eq_nil_of_length_eq_zero hn
    subst this
    clear hn hr hnil
    go_enter Try.func27, Try.ntmps27
    go_wp2
    go_ret
    exact ⟨_, _, rfl, Own.nil _ _ _ _, Below.refl _ _⟩
  | some a =>
    clear hnil
    have h0 : Own .u8 5 (w.alloc (.cells (bts []) 5)) w.heap.size (.slice (some ⟨w.heap.size, 0, none⟩) 0 0) [] := Own.new w [] _ (by simp [maxLen])
    have H0 := Lib.hid h0
    have HN := Lib.hid hn
    have HR := Lib.hid hr
    clear h0 hn hr
    go_enter Try.func27, Try.ntmps27
    go_wp2_with (at_builtin; refine wpList_app _ .u8 rfl (.tmp 5) (.tmp 6) 22 rfl 5 (.int .u8 0) 1 Try.underlying22 info_byte rfl w.heap.size (.slice (some ⟨w.heap.size, 0, none⟩) 0 0) [] rfl H0.out (some a) n c rfl xs HN.out (HR.out.alloc _) (by simp [maxLen]; omega) (by simp; omega) (by simp) ?_; intro A' c' w' ho hg)
    go_ret
    simp only [List.length_nil, Nat.zero_add, List.nil_append] at ho ⊢
    exact ⟨A', c', rfl, ho, ((Below.refl _ _).alloc (Nat.le_refl _) _).trans (grown_below hg (by simp) (by simp [Value.ownBlock]))⟩
end Go.Proofs.Ytheecfgehfhimaa

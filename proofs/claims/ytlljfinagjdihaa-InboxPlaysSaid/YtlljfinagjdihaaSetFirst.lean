/-
  What First of package ranges tells of a Set: contracts over the program.
-/
import Derived.Test.YtlljfinagjdihaaSets
import Derived.Laws.ResultCell
namespace Go.Proofs.Ytlljfinagjdihaa
open Go.RowKit
open Go.Sort (grow grow_grow grow_empty alloc_eq_grow)

set_option maxHeartbeats 400000 in
theorem first_none (p : Nat) (v : Value) (B : Nat) (w : World) (hs : SetAt w B p v []) :
    Calls Try.prog 47 #[.pointer (some ⟨p, 0, none⟩)] w fun e w' => e = .returned (.tuple #[.agg #[.int .i64 0, .int .i64 0], .bool false]) ∧ Below w.heap.size w w' := by
  obtain ⟨A, c, rfl⟩ := hs.own.form
  have c0 := (hs.alloc (.cells #[.int .i64 0, .int .i64 0] 64)).c0
  clear hs
  go_enter Try.func47, Try.ntmps47
  go_wp2
  refine bodyPost_ret (v := .tuple #[.agg #[.int .i64 0, .int .i64 0], .bool false]) ?_ rfl ⟨rfl, (Below.refl _ _).alloc (Nat.le_refl _) _⟩
  rw [results_cell_tmp rfl]
  go_simp

set_option maxHeartbeats 400000 in
theorem first_some (p : Nat) (v : Value) (q : Int × Int) (ps : List (Int × Int)) (B : Nat) (w : World) (hs : SetAt w B p v (q :: ps)) :
    Calls Try.prog 47 #[.pointer (some ⟨p, 0, none⟩)] w fun e w' => e = .returned (.tuple #[.agg #[.int .i64 q.1, .int .i64 q.2], .bool true]) ∧ Below w.heap.size w w' := by
  rcases hs.form with ⟨_, h⟩ | ⟨g, c, rfl⟩
  · cases h
  · have hs1 := hs.alloc (.cells #[.int .i64 0, .int .i64 0] 64)
    have c0 := hs1.c0
    have c1 := (hs1.own.cells 0 (by simp)).1
    have c2 := (hs1.own.cells 0 (by simp)).2
    obtain ⟨n, hn⟩ : ∃ n, (q :: ps).length = n := ⟨_, rfl⟩
    have h0 : (0 : Int) < (n : Int) := by rw [← hn]; simp
    have h1 : ¬ ((n : Int) = 0) := by omega
    rw [hn] at c0
    simp at c1 c2
    obtain ⟨x, y⟩ := q
    simp only [] at c1 c2 ⊢
    clear hs hs1 hn
    go_enter Try.func47, Try.ntmps47
    go_wp2
    refine bodyPost_ret (v := .tuple #[.agg #[.int .i64 x, .int .i64 y], .bool true]) ?_ rfl ⟨rfl, (Below.refl _ _).alloc (Nat.le_refl _) _⟩
    rw [results_cell_tmp rfl]
    go_simp

end Go.Proofs.Ytlljfinagjdihaa

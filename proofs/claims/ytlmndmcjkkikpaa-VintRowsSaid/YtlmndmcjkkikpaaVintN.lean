/-
  What the statements' own N hands out: some int. Contract over the program.
-/
import Derived.Test.YtlmndmcjkkikpaaVintNum
import Derived.Handy
namespace Go.Proofs.Ytlmndmcjkkikpaa
open Go.RowKit

/-- Some int is returned; nothing that was there has changed. -/
def IntOut (w : World) (e : Ending) (w' : World) : Prop := ∃ x : Int, (-9223372036854775808 ≤ x ∧ x ≤ 9223372036854775807) ∧ e = .returned (.int .i64 x) ∧ Below w.heap.size w w'

/-- Just x is returned; nothing that was there has changed. -/
def IntIs (x : Int) (w : World) (e : Ending) (w' : World) : Prop := e = .returned (.int .i64 x) ∧ Below w.heap.size w w'

theorem n_4_0 (n how : Int) (w : World) (hk : how % 8 = 4) (hr : n % 10 = 0) :
    Calls Try.prog 9 #[.int .i64 n, .int .i64 how] w (IntIs (63) w) := by
  go_enter Try.func9, Try.ntmps9
  go_wp2_with (go_at_call 13; refine (within_any _ _ _ (by omega) (by omega)).mono ?_; rintro e w' ⟨rfl, rfl⟩)
  go_ret
  exact ⟨rfl, (Below.refl _ _).alloc (Nat.le_refl _) _⟩
theorem n_4_1 (n how : Int) (w : World) (hk : how % 8 = 4) (hr : n % 10 = 1) :
    Calls Try.prog 9 #[.int .i64 n, .int .i64 how] w (IntIs (64) w) := by
  go_enter Try.func9, Try.ntmps9
  go_wp2_with (go_at_call 13; refine (within_any _ _ _ (by omega) (by omega)).mono ?_; rintro e w' ⟨rfl, rfl⟩)
  go_ret
  exact ⟨rfl, (Below.refl _ _).alloc (Nat.le_refl _) _⟩
theorem n_4_2 (n how : Int) (w : World) (hk : how % 8 = 4) (hr : n % 10 = 2) :
    Calls Try.prog 9 #[.int .i64 n, .int .i64 how] w (IntIs (16383) w) := by
  go_enter Try.func9, Try.ntmps9
  go_wp2_with (go_at_call 13; refine (within_any _ _ _ (by omega) (by omega)).mono ?_; rintro e w' ⟨rfl, rfl⟩)
  go_ret
  exact ⟨rfl, (Below.refl _ _).alloc (Nat.le_refl _) _⟩
theorem n_4_3 (n how : Int) (w : World) (hk : how % 8 = 4) (hr : n % 10 = 3) :
    Calls Try.prog 9 #[.int .i64 n, .int .i64 how] w (IntIs (16384) w) := by
  go_enter Try.func9, Try.ntmps9
  go_wp2_with (go_at_call 13; refine (within_any _ _ _ (by omega) (by omega)).mono ?_; rintro e w' ⟨rfl, rfl⟩)
  go_ret
  exact ⟨rfl, (Below.refl _ _).alloc (Nat.le_refl _) _⟩
theorem n_4_4 (n how : Int) (w : World) (hk : how % 8 = 4) (hr : n % 10 = 4) :
    Calls Try.prog 9 #[.int .i64 n, .int .i64 how] w (IntIs (1073741823) w) := by
  go_enter Try.func9, Try.ntmps9
  go_wp2_with (go_at_call 13; refine (within_any _ _ _ (by omega) (by omega)).mono ?_; rintro e w' ⟨rfl, rfl⟩)
  go_ret
  exact ⟨rfl, (Below.refl _ _).alloc (Nat.le_refl _) _⟩
theorem n_4_5 (n how : Int) (w : World) (hk : how % 8 = 4) (hr : n % 10 = 5) :
    Calls Try.prog 9 #[.int .i64 n, .int .i64 how] w (IntIs (1073741824) w) := by
  go_enter Try.func9, Try.ntmps9
  go_wp2_with (go_at_call 13; refine (within_any _ _ _ (by omega) (by omega)).mono ?_; rintro e w' ⟨rfl, rfl⟩)
  go_ret
  exact ⟨rfl, (Below.refl _ _).alloc (Nat.le_refl _) _⟩
theorem n_4_6 (n how : Int) (w : World) (hk : how % 8 = 4) (hr : n % 10 = 6) :
    Calls Try.prog 9 #[.int .i64 n, .int .i64 how] w (IntIs (4611686018427387903) w) := by
  go_enter Try.func9, Try.ntmps9
  go_wp2_with (go_at_call 13; refine (within_any _ _ _ (by omega) (by omega)).mono ?_; rintro e w' ⟨rfl, rfl⟩)
  go_ret
  exact ⟨rfl, (Below.refl _ _).alloc (Nat.le_refl _) _⟩
theorem n_4_7 (n how : Int) (w : World) (hk : how % 8 = 4) (hr : n % 10 = 7) :
    Calls Try.prog 9 #[.int .i64 n, .int .i64 how] w (IntIs (4611686018427387904) w) := by
  go_enter Try.func9, Try.ntmps9
  go_wp2_with (go_at_call 13; refine (within_any _ _ _ (by omega) (by omega)).mono ?_; rintro e w' ⟨rfl, rfl⟩)
  go_ret
  exact ⟨rfl, (Below.refl _ _).alloc (Nat.le_refl _) _⟩
theorem n_4_8 (n how : Int) (w : World) (hk : how % 8 = 4) (hr : n % 10 = 8) :
    Calls Try.prog 9 #[.int .i64 n, .int .i64 how] w (IntIs (-1) w) := by
  go_enter Try.func9, Try.ntmps9
  go_wp2_with (go_at_call 13; refine (within_any _ _ _ (by omega) (by omega)).mono ?_; rintro e w' ⟨rfl, rfl⟩)
  go_ret
  exact ⟨rfl, (Below.refl _ _).alloc (Nat.le_refl _) _⟩
theorem n_4_9 (n how : Int) (w : World) (hk : how % 8 = 4) (hr : n % 10 = 9) :
    Calls Try.prog 9 #[.int .i64 n, .int .i64 how] w (IntIs (0) w) := by
  go_enter Try.func9, Try.ntmps9
  go_wp2_with (go_at_call 13; refine (within_any _ _ _ (by omega) (by omega)).mono ?_; rintro e w' ⟨rfl, rfl⟩)
  go_ret
  exact ⟨rfl, (Below.refl _ _).alloc (Nat.le_refl _) _⟩
theorem n_0 (n how : Int) (w : World) (hk : how % 8 = 0) :
    Calls Try.prog 9 #[.int .i64 n, .int .i64 how] w (IntIs (n) w) := by
  go_enter Try.func9, Try.ntmps9
  go_wp2_with (go_at_call 13; refine (within_any _ _ _ (by omega) (by omega)).mono ?_; rintro e w' ⟨rfl, rfl⟩)
  go_ret
  exact ⟨rfl, Below.refl _ _⟩
theorem n_1 (n how : Int) (w : World) (hk : how % 8 = 1) :
    Calls Try.prog 9 #[.int .i64 n, .int .i64 how] w (IntIs (n % 70) w) := by
  go_enter Try.func9, Try.ntmps9
  go_wp2_with (go_at_call 13; refine (within_any _ _ _ (by omega) (by omega)).mono ?_; rintro e w' ⟨rfl, rfl⟩)
  go_ret
  exact ⟨rfl, Below.refl _ _⟩
theorem n_2 (n how : Int) (w : World) (hk : how % 8 = 2) :
    Calls Try.prog 9 #[.int .i64 n, .int .i64 how] w (IntIs (n % 16389) w) := by
  go_enter Try.func9, Try.ntmps9
  go_wp2_with (go_at_call 13; refine (within_any _ _ _ (by omega) (by omega)).mono ?_; rintro e w' ⟨rfl, rfl⟩)
  go_ret
  exact ⟨rfl, Below.refl _ _⟩
theorem n_3 (n how : Int) (w : World) (hk : how % 8 = 3) :
    Calls Try.prog 9 #[.int .i64 n, .int .i64 how] w (IntIs (n % 1073741829) w) := by
  go_enter Try.func9, Try.ntmps9
  go_wp2_with (go_at_call 13; refine (within_any _ _ _ (by omega) (by omega)).mono ?_; rintro e w' ⟨rfl, rfl⟩)
  go_ret
  exact ⟨rfl, Below.refl _ _⟩
theorem n_5 (n how k : Int) (w : World) (hk : how % 8 = k) (h5 : 5 ≤ k) :
    Calls Try.prog 9 #[.int .i64 n, .int .i64 how] w (IntIs (n % 4611686018427387903) w) := by
  have k0 : (k == 0) = false := by simp; omega
  have k1 : (k == 1) = false := by simp; omega
  have k2 : (k == 2) = false := by simp; omega
  have k3 : (k == 3) = false := by simp; omega
  have k4 : (k == 4) = false := by simp; omega
  go_enter Try.func9, Try.ntmps9
  go_wp2_with (go_at_call 13; refine (within_any _ _ _ (by omega) (by omega)).mono ?_; rintro e w' ⟨rfl, rfl⟩)
  go_ret
  exact ⟨rfl, Below.refl _ _⟩
/-- N hands out one int, which hangs on its arguments alone. -/
theorem n_det (n how : Int) (w : World) (h1 : -9223372036854775808 ≤ n) (h2 : n ≤ 9223372036854775807) :
    ∃ x : Int, (-9223372036854775808 ≤ x ∧ x ≤ 9223372036854775807) ∧ Calls Try.prog 9 #[.int .i64 n, .int .i64 how] w (IntIs x w) := by
  have hk : how % 8 = 0 ∨ how % 8 = 1 ∨ how % 8 = 2 ∨ how % 8 = 3 ∨ how % 8 = 4 ∨ 5 ≤ how % 8 := by omega
  rcases hk with hk | hk | hk | hk | hk | hk
  · exact ⟨_, ⟨h1, h2⟩, n_0 n how w hk⟩
  · exact ⟨_, by omega, n_1 n how w hk⟩
  · exact ⟨_, by omega, n_2 n how w hk⟩
  · exact ⟨_, by omega, n_3 n how w hk⟩
  · have hr : n % 10 = 0 ∨ n % 10 = 1 ∨ n % 10 = 2 ∨ n % 10 = 3 ∨ n % 10 = 4 ∨ n % 10 = 5 ∨ n % 10 = 6 ∨ n % 10 = 7 ∨ n % 10 = 8 ∨ n % 10 = 9 := by omega
    rcases hr with hr | hr | hr | hr | hr | hr | hr | hr | hr | hr
    · exact ⟨_, by omega, n_4_0 n how w hk hr⟩
    · exact ⟨_, by omega, n_4_1 n how w hk hr⟩
    · exact ⟨_, by omega, n_4_2 n how w hk hr⟩
    · exact ⟨_, by omega, n_4_3 n how w hk hr⟩
    · exact ⟨_, by omega, n_4_4 n how w hk hr⟩
    · exact ⟨_, by omega, n_4_5 n how w hk hr⟩
    · exact ⟨_, by omega, n_4_6 n how w hk hr⟩
    · exact ⟨_, by omega, n_4_7 n how w hk hr⟩
    · exact ⟨_, by omega, n_4_8 n how w hk hr⟩
    · exact ⟨_, by omega, n_4_9 n how w hk hr⟩
  · exact ⟨_, by omega, n_5 n how _ w rfl hk⟩
theorem n_any (n how : Int) (w : World) (h1 : -9223372036854775808 ≤ n) (h2 : n ≤ 9223372036854775807) :
    Calls Try.prog 9 #[.int .i64 n, .int .i64 how] w (IntOut w) := by
  obtain ⟨x, hx, h⟩ := n_det n how w h1 h2
  exact h.mono fun e w' ⟨he, hb⟩ => ⟨x, hx, he, hb⟩
end Go.Proofs.Ytlmndmcjkkikpaa

/-
  What the document's own Take answers of any bytes: contracts over the program.
-/
import Derived.Test.YtbjneoeiognahaaRefPut
namespace Go.Proofs.Ytbjneoeiognahaa
open Go.RowKit

set_option maxRecDepth 10000 in
set_option maxHeartbeats 400000 in
theorem refTake_nil (A : Option Addr) (c : Nat) (w : World) :
    Calls Try.prog 94 #[.slice A 0 c] w fun e w' => e = .returned (.tuple #[.int .i64 0, .int .i64 0, .bool false]) ∧ w = w' := by
  go_enter Try.func94, Try.ntmps94
  go_wp2
  go_ret3
  exact ⟨rfl, rfl⟩

set_option maxRecDepth 10000 in
set_option maxHeartbeats 400000 in
theorem refTake_short (b off n c s : Nat) (x q : Int) (w : World) (h0 : 0 < n) (hc : w.cell? ⟨b, off, none⟩ = some (.int .u8 x)) (_hx0 : 0 ≤ x) (_hx1 : x < 256) (hq : x / 64 = q)
    (hqs : (q = 0 ∧ s = 1) ∨ (q = 1 ∧ s = 2) ∨ (q = 2 ∧ s = 4) ∨ (q = 3 ∧ s = 8)) (hs : (n : Int) < (s : Int)) :
    Calls Try.prog 94 #[.slice (some ⟨b, off, none⟩) n c] w fun e w' => e = .returned (.tuple #[.int .i64 0, .int .i64 0, .bool false]) ∧ w = w' := by
  have hn : ((n : Int) == 0) = false := by simp; omega
  have hn0 : (0 : Int) < (n : Int) := by omega
  rcases hqs with ⟨rfl, rfl⟩ | ⟨rfl, rfl⟩ | ⟨rfl, rfl⟩ | ⟨rfl, rfl⟩
  · omega
  all_goals
    go_enter Try.func94, Try.ntmps94
    go_wp2
    go_ret3
    exact ⟨rfl, rfl⟩

set_option maxRecDepth 10000 in
set_option maxHeartbeats 400000 in
theorem refTake_1_yes (b off n c : Nat) (x0 m0 : Int) (w : World) (h0 : (1 : Int) ≤ (n : Int)) (hx : 0 ≤ x0 ∧ x0 < 256) (hq : x0 / 64 = 0) (hm : x0 % 64 = m0)
    (c0 : w.cell? ⟨b, off, none⟩ = some (.int .u8 x0))
     (_e0 : 0 ≤ m0 ∧ m0 < 64)
     (hz : szV m0 = 1) :
    Calls Try.prog 94 #[.slice (some ⟨b, off, none⟩) n c] w fun e w' => e = .returned (.tuple #[.int .i64 m0, .int .i64 1, .bool true]) ∧ w = w' := by
  have hn : ((n : Int) == 0) = false := by simp; omega
  have hn0 : (0 : Int) < (n : Int) := by omega

  obtain ⟨hx0, hx1⟩ := hx
  go_enter Try.func94, Try.ntmps94
  go_wp2_with fail
  refine wp_loop_rounds 1 ?_
  (rw [rounds_succ]; go_wp2_with fail)
  refine (refSize_any _ _).mono ?_
  rintro e w' ⟨rfl, rfl⟩
  go_wp2
  go_ret3
  exact ⟨rfl, rfl⟩

set_option maxRecDepth 10000 in
set_option maxHeartbeats 400000 in
theorem refTake_1_no (b off n c : Nat) (x0 m0 : Int) (w : World) (h0 : (1 : Int) ≤ (n : Int)) (hx : 0 ≤ x0 ∧ x0 < 256) (hq : x0 / 64 = 0) (hm : x0 % 64 = m0)
    (c0 : w.cell? ⟨b, off, none⟩ = some (.int .u8 x0))
     (_e0 : 0 ≤ m0 ∧ m0 < 64)
     (hz : (szV m0 != 1) = true) :
    Calls Try.prog 94 #[.slice (some ⟨b, off, none⟩) n c] w fun e w' => e = .returned (.tuple #[.int .i64 0, .int .i64 0, .bool false]) ∧ w = w' := by
  have hn : ((n : Int) == 0) = false := by simp; omega
  have hn0 : (0 : Int) < (n : Int) := by omega

  obtain ⟨hx0, hx1⟩ := hx
  go_enter Try.func94, Try.ntmps94
  go_wp2_with fail
  refine wp_loop_rounds 1 ?_
  (rw [rounds_succ]; go_wp2_with fail)
  refine (refSize_any _ _).mono ?_
  rintro e w' ⟨rfl, rfl⟩
  go_wp2
  go_ret3
  exact ⟨rfl, rfl⟩

set_option maxRecDepth 10000 in
set_option maxHeartbeats 400000 in
theorem refTake_2_yes (b off n c : Nat) (x0 x1 m0 m1 : Int) (w : World) (h0 : (2 : Int) ≤ (n : Int)) (hx : 0 ≤ x0 ∧ x0 < 256) (hq : x0 / 64 = 1) (hm : x0 % 64 = m0)
    (c0 : w.cell? ⟨b, off, none⟩ = some (.int .u8 x0)) (c1 : w.cell? ⟨b, off + 1, none⟩ = some (.int .u8 x1))
    (_d1 : 0 ≤ x1 ∧ x1 < 256) (_e0 : 0 ≤ m0 ∧ m0 < 64) (_e1 : 0 ≤ m1 ∧ m1 < 16384)
    (o1 : bits .or .i64 (m0 * 256) x1 = m1) (hz : szV m1 = 2) :
    Calls Try.prog 94 #[.slice (some ⟨b, off, none⟩) n c] w fun e w' => e = .returned (.tuple #[.int .i64 m1, .int .i64 2, .bool true]) ∧ w = w' := by
  have hn : ((n : Int) == 0) = false := by simp; omega
  have hn0 : (0 : Int) < (n : Int) := by omega
  have i1 : (1 : Int) < (n : Int) := by omega
  obtain ⟨hx0, hx1⟩ := hx
  go_enter Try.func94, Try.ntmps94
  go_wp2_with fail
  refine wp_loop_rounds 2 ?_
  (rw [rounds_succ]; go_wp2_with fail)
  (rw [rounds_succ]; go_wp2_with fail)
  refine (refSize_any _ _).mono ?_
  rintro e w' ⟨rfl, rfl⟩
  go_wp2
  go_ret3
  exact ⟨rfl, rfl⟩

set_option maxRecDepth 10000 in
set_option maxHeartbeats 400000 in
theorem refTake_2_no (b off n c : Nat) (x0 x1 m0 m1 : Int) (w : World) (h0 : (2 : Int) ≤ (n : Int)) (hx : 0 ≤ x0 ∧ x0 < 256) (hq : x0 / 64 = 1) (hm : x0 % 64 = m0)
    (c0 : w.cell? ⟨b, off, none⟩ = some (.int .u8 x0)) (c1 : w.cell? ⟨b, off + 1, none⟩ = some (.int .u8 x1))
    (_d1 : 0 ≤ x1 ∧ x1 < 256) (_e0 : 0 ≤ m0 ∧ m0 < 64) (_e1 : 0 ≤ m1 ∧ m1 < 16384)
    (o1 : bits .or .i64 (m0 * 256) x1 = m1) (hz : (szV m1 != 2) = true) :
    Calls Try.prog 94 #[.slice (some ⟨b, off, none⟩) n c] w fun e w' => e = .returned (.tuple #[.int .i64 0, .int .i64 0, .bool false]) ∧ w = w' := by
  have hn : ((n : Int) == 0) = false := by simp; omega
  have hn0 : (0 : Int) < (n : Int) := by omega
  have i1 : (1 : Int) < (n : Int) := by omega
  obtain ⟨hx0, hx1⟩ := hx
  go_enter Try.func94, Try.ntmps94
  go_wp2_with fail
  refine wp_loop_rounds 2 ?_
  (rw [rounds_succ]; go_wp2_with fail)
  (rw [rounds_succ]; go_wp2_with fail)
  refine (refSize_any _ _).mono ?_
  rintro e w' ⟨rfl, rfl⟩
  go_wp2
  go_ret3
  exact ⟨rfl, rfl⟩

set_option maxRecDepth 10000 in
set_option maxHeartbeats 400000 in
theorem refTake_4_yes (b off n c : Nat) (x0 x1 x2 x3 m0 m1 m2 m3 : Int) (w : World) (h0 : (4 : Int) ≤ (n : Int)) (hx : 0 ≤ x0 ∧ x0 < 256) (hq : x0 / 64 = 2) (hm : x0 % 64 = m0)
    (c0 : w.cell? ⟨b, off, none⟩ = some (.int .u8 x0)) (c1 : w.cell? ⟨b, off + 1, none⟩ = some (.int .u8 x1)) (c2 : w.cell? ⟨b, off + 2, none⟩ = some (.int .u8 x2)) (c3 : w.cell? ⟨b, off + 3, none⟩ = some (.int .u8 x3))
    (_d1 : 0 ≤ x1 ∧ x1 < 256) (_d2 : 0 ≤ x2 ∧ x2 < 256) (_d3 : 0 ≤ x3 ∧ x3 < 256) (_e0 : 0 ≤ m0 ∧ m0 < 64) (_e1 : 0 ≤ m1 ∧ m1 < 16384) (_e2 : 0 ≤ m2 ∧ m2 < 4194304) (_e3 : 0 ≤ m3 ∧ m3 < 1073741824)
    (o1 : bits .or .i64 (m0 * 256) x1 = m1) (o2 : bits .or .i64 (m1 * 256) x2 = m2) (o3 : bits .or .i64 (m2 * 256) x3 = m3) (hz : szV m3 = 4) :
    Calls Try.prog 94 #[.slice (some ⟨b, off, none⟩) n c] w fun e w' => e = .returned (.tuple #[.int .i64 m3, .int .i64 4, .bool true]) ∧ w = w' := by
  have hn : ((n : Int) == 0) = false := by simp; omega
  have hn0 : (0 : Int) < (n : Int) := by omega
  have i1 : (1 : Int) < (n : Int) := by omega
  have i2 : (2 : Int) < (n : Int) := by omega
  have i3 : (3 : Int) < (n : Int) := by omega
  obtain ⟨hx0, hx1⟩ := hx
  go_enter Try.func94, Try.ntmps94
  go_wp2_with fail
  refine wp_loop_rounds 4 ?_
  (rw [rounds_succ]; go_wp2_with fail)
  (rw [rounds_succ]; go_wp2_with fail)
  (rw [rounds_succ]; go_wp2_with fail)
  (rw [rounds_succ]; go_wp2_with fail)
  refine (refSize_any _ _).mono ?_
  rintro e w' ⟨rfl, rfl⟩
  go_wp2
  go_ret3
  exact ⟨rfl, rfl⟩

set_option maxRecDepth 10000 in
set_option maxHeartbeats 400000 in
theorem refTake_4_no (b off n c : Nat) (x0 x1 x2 x3 m0 m1 m2 m3 : Int) (w : World) (h0 : (4 : Int) ≤ (n : Int)) (hx : 0 ≤ x0 ∧ x0 < 256) (hq : x0 / 64 = 2) (hm : x0 % 64 = m0)
    (c0 : w.cell? ⟨b, off, none⟩ = some (.int .u8 x0)) (c1 : w.cell? ⟨b, off + 1, none⟩ = some (.int .u8 x1)) (c2 : w.cell? ⟨b, off + 2, none⟩ = some (.int .u8 x2)) (c3 : w.cell? ⟨b, off + 3, none⟩ = some (.int .u8 x3))
    (_d1 : 0 ≤ x1 ∧ x1 < 256) (_d2 : 0 ≤ x2 ∧ x2 < 256) (_d3 : 0 ≤ x3 ∧ x3 < 256) (_e0 : 0 ≤ m0 ∧ m0 < 64) (_e1 : 0 ≤ m1 ∧ m1 < 16384) (_e2 : 0 ≤ m2 ∧ m2 < 4194304) (_e3 : 0 ≤ m3 ∧ m3 < 1073741824)
    (o1 : bits .or .i64 (m0 * 256) x1 = m1) (o2 : bits .or .i64 (m1 * 256) x2 = m2) (o3 : bits .or .i64 (m2 * 256) x3 = m3) (hz : (szV m3 != 4) = true) :
    Calls Try.prog 94 #[.slice (some ⟨b, off, none⟩) n c] w fun e w' => e = .returned (.tuple #[.int .i64 0, .int .i64 0, .bool false]) ∧ w = w' := by
  have hn : ((n : Int) == 0) = false := by simp; omega
  have hn0 : (0 : Int) < (n : Int) := by omega
  have i1 : (1 : Int) < (n : Int) := by omega
  have i2 : (2 : Int) < (n : Int) := by omega
  have i3 : (3 : Int) < (n : Int) := by omega
  obtain ⟨hx0, hx1⟩ := hx
  go_enter Try.func94, Try.ntmps94
  go_wp2_with fail
  refine wp_loop_rounds 4 ?_
  (rw [rounds_succ]; go_wp2_with fail)
  (rw [rounds_succ]; go_wp2_with fail)
  (rw [rounds_succ]; go_wp2_with fail)
  (rw [rounds_succ]; go_wp2_with fail)
  refine (refSize_any _ _).mono ?_
  rintro e w' ⟨rfl, rfl⟩
  go_wp2
  go_ret3
  exact ⟨rfl, rfl⟩

set_option maxRecDepth 10000 in
set_option maxHeartbeats 400000 in
theorem refTake_8_yes (b off n c : Nat) (x0 x1 x2 x3 x4 x5 x6 x7 m0 m1 m2 m3 m4 m5 m6 m7 : Int) (w : World) (h0 : (8 : Int) ≤ (n : Int)) (hx : 0 ≤ x0 ∧ x0 < 256) (hq : x0 / 64 = 3) (hm : x0 % 64 = m0)
    (c0 : w.cell? ⟨b, off, none⟩ = some (.int .u8 x0)) (c1 : w.cell? ⟨b, off + 1, none⟩ = some (.int .u8 x1)) (c2 : w.cell? ⟨b, off + 2, none⟩ = some (.int .u8 x2)) (c3 : w.cell? ⟨b, off + 3, none⟩ = some (.int .u8 x3)) (c4 : w.cell? ⟨b, off + 4, none⟩ = some (.int .u8 x4)) (c5 : w.cell? ⟨b, off + 5, none⟩ = some (.int .u8 x5)) (c6 : w.cell? ⟨b, off + 6, none⟩ = some (.int .u8 x6)) (c7 : w.cell? ⟨b, off + 7, none⟩ = some (.int .u8 x7))
    (_d1 : 0 ≤ x1 ∧ x1 < 256) (_d2 : 0 ≤ x2 ∧ x2 < 256) (_d3 : 0 ≤ x3 ∧ x3 < 256) (_d4 : 0 ≤ x4 ∧ x4 < 256) (_d5 : 0 ≤ x5 ∧ x5 < 256) (_d6 : 0 ≤ x6 ∧ x6 < 256) (_d7 : 0 ≤ x7 ∧ x7 < 256) (_e0 : 0 ≤ m0 ∧ m0 < 64) (_e1 : 0 ≤ m1 ∧ m1 < 16384) (_e2 : 0 ≤ m2 ∧ m2 < 4194304) (_e3 : 0 ≤ m3 ∧ m3 < 1073741824) (_e4 : 0 ≤ m4 ∧ m4 < 274877906944) (_e5 : 0 ≤ m5 ∧ m5 < 70368744177664) (_e6 : 0 ≤ m6 ∧ m6 < 18014398509481984) (_e7 : 0 ≤ m7 ∧ m7 < 4611686018427387904)
    (o1 : bits .or .i64 (m0 * 256) x1 = m1) (o2 : bits .or .i64 (m1 * 256) x2 = m2) (o3 : bits .or .i64 (m2 * 256) x3 = m3) (o4 : bits .or .i64 (m3 * 256) x4 = m4) (o5 : bits .or .i64 (m4 * 256) x5 = m5) (o6 : bits .or .i64 (m5 * 256) x6 = m6) (o7 : bits .or .i64 (m6 * 256) x7 = m7) (hz : szV m7 = 8) :
    Calls Try.prog 94 #[.slice (some ⟨b, off, none⟩) n c] w fun e w' => e = .returned (.tuple #[.int .i64 m7, .int .i64 8, .bool true]) ∧ w = w' := by
  have hn : ((n : Int) == 0) = false := by simp; omega
  have hn0 : (0 : Int) < (n : Int) := by omega
  have i1 : (1 : Int) < (n : Int) := by omega
  have i2 : (2 : Int) < (n : Int) := by omega
  have i3 : (3 : Int) < (n : Int) := by omega
  have i4 : (4 : Int) < (n : Int) := by omega
  have i5 : (5 : Int) < (n : Int) := by omega
  have i6 : (6 : Int) < (n : Int) := by omega
  have i7 : (7 : Int) < (n : Int) := by omega
  obtain ⟨hx0, hx1⟩ := hx
  go_enter Try.func94, Try.ntmps94
  go_wp2_with fail
  refine wp_loop_rounds 8 ?_
  (rw [rounds_succ]; go_wp2_with fail)
  (rw [rounds_succ]; go_wp2_with fail)
  (rw [rounds_succ]; go_wp2_with fail)
  (rw [rounds_succ]; go_wp2_with fail)
  (rw [rounds_succ]; go_wp2_with fail)
  (rw [rounds_succ]; go_wp2_with fail)
  (rw [rounds_succ]; go_wp2_with fail)
  (rw [rounds_succ]; go_wp2_with fail)
  refine (refSize_any _ _).mono ?_
  rintro e w' ⟨rfl, rfl⟩
  go_wp2
  go_ret3
  exact ⟨rfl, rfl⟩

set_option maxRecDepth 10000 in
set_option maxHeartbeats 400000 in
theorem refTake_8_no (b off n c : Nat) (x0 x1 x2 x3 x4 x5 x6 x7 m0 m1 m2 m3 m4 m5 m6 m7 : Int) (w : World) (h0 : (8 : Int) ≤ (n : Int)) (hx : 0 ≤ x0 ∧ x0 < 256) (hq : x0 / 64 = 3) (hm : x0 % 64 = m0)
    (c0 : w.cell? ⟨b, off, none⟩ = some (.int .u8 x0)) (c1 : w.cell? ⟨b, off + 1, none⟩ = some (.int .u8 x1)) (c2 : w.cell? ⟨b, off + 2, none⟩ = some (.int .u8 x2)) (c3 : w.cell? ⟨b, off + 3, none⟩ = some (.int .u8 x3)) (c4 : w.cell? ⟨b, off + 4, none⟩ = some (.int .u8 x4)) (c5 : w.cell? ⟨b, off + 5, none⟩ = some (.int .u8 x5)) (c6 : w.cell? ⟨b, off + 6, none⟩ = some (.int .u8 x6)) (c7 : w.cell? ⟨b, off + 7, none⟩ = some (.int .u8 x7))
    (_d1 : 0 ≤ x1 ∧ x1 < 256) (_d2 : 0 ≤ x2 ∧ x2 < 256) (_d3 : 0 ≤ x3 ∧ x3 < 256) (_d4 : 0 ≤ x4 ∧ x4 < 256) (_d5 : 0 ≤ x5 ∧ x5 < 256) (_d6 : 0 ≤ x6 ∧ x6 < 256) (_d7 : 0 ≤ x7 ∧ x7 < 256) (_e0 : 0 ≤ m0 ∧ m0 < 64) (_e1 : 0 ≤ m1 ∧ m1 < 16384) (_e2 : 0 ≤ m2 ∧ m2 < 4194304) (_e3 : 0 ≤ m3 ∧ m3 < 1073741824) (_e4 : 0 ≤ m4 ∧ m4 < 274877906944) (_e5 : 0 ≤ m5 ∧ m5 < 70368744177664) (_e6 : 0 ≤ m6 ∧ m6 < 18014398509481984) (_e7 : 0 ≤ m7 ∧ m7 < 4611686018427387904)
    (o1 : bits .or .i64 (m0 * 256) x1 = m1) (o2 : bits .or .i64 (m1 * 256) x2 = m2) (o3 : bits .or .i64 (m2 * 256) x3 = m3) (o4 : bits .or .i64 (m3 * 256) x4 = m4) (o5 : bits .or .i64 (m4 * 256) x5 = m5) (o6 : bits .or .i64 (m5 * 256) x6 = m6) (o7 : bits .or .i64 (m6 * 256) x7 = m7) (hz : (szV m7 != 8) = true) :
    Calls Try.prog 94 #[.slice (some ⟨b, off, none⟩) n c] w fun e w' => e = .returned (.tuple #[.int .i64 0, .int .i64 0, .bool false]) ∧ w = w' := by
  have hn : ((n : Int) == 0) = false := by simp; omega
  have hn0 : (0 : Int) < (n : Int) := by omega
  have i1 : (1 : Int) < (n : Int) := by omega
  have i2 : (2 : Int) < (n : Int) := by omega
  have i3 : (3 : Int) < (n : Int) := by omega
  have i4 : (4 : Int) < (n : Int) := by omega
  have i5 : (5 : Int) < (n : Int) := by omega
  have i6 : (6 : Int) < (n : Int) := by omega
  have i7 : (7 : Int) < (n : Int) := by omega
  obtain ⟨hx0, hx1⟩ := hx
  go_enter Try.func94, Try.ntmps94
  go_wp2_with fail
  refine wp_loop_rounds 8 ?_
  (rw [rounds_succ]; go_wp2_with fail)
  (rw [rounds_succ]; go_wp2_with fail)
  (rw [rounds_succ]; go_wp2_with fail)
  (rw [rounds_succ]; go_wp2_with fail)
  (rw [rounds_succ]; go_wp2_with fail)
  (rw [rounds_succ]; go_wp2_with fail)
  (rw [rounds_succ]; go_wp2_with fail)
  (rw [rounds_succ]; go_wp2_with fail)
  refine (refSize_any _ _).mono ?_
  rintro e w' ⟨rfl, rfl⟩
  go_wp2
  go_ret3
  exact ⟨rfl, rfl⟩

set_option maxRecDepth 10000 in
/-- The document's Take, of any bytes. -/
theorem refTake_any (A : Option Addr) (n c : Nat) (xs : List Int) (w : World) (hn : xs.length = n) (hr : Rd .u8 w A xs) (hb : ∀ x ∈ xs, 0 ≤ x ∧ x < 256) :
    Calls Try.prog 94 #[.slice A n c] w fun e w' => e = .returned (.tuple #[.int .i64 (takeV xs).1, .int .i64 (takeV xs).2.1, .bool (takeV xs).2.2]) ∧ w = w' := by
  by_cases h0 : n = 0
  · subst h0
    rw [takeV_nil hn]
    exact refTake_nil A c w
  · obtain ⟨b, off, rfl, hx⟩ := hr.some_ (by omega)
    have hxb : ∀ i, i < xs.length → 0 ≤ xs.getD i 0 ∧ xs.getD i 0 < 256 := fun i hi => by
      have := hb (xs[i]) (List.getElem_mem hi)
      simpa [List.getD, hi] using this
    have hnb := numV_bd hxb
    have b0 := hxb 0 (by omega)
    have c0 := hx 0 (by omega)
    rw [Nat.add_zero] at c0
    have hq : xs.getD 0 0 / 64 = 0 ∨ xs.getD 0 0 / 64 = 1 ∨ xs.getD 0 0 / 64 = 2 ∨ xs.getD 0 0 / 64 = 3 := by omega
    rcases hq with hq | hq | hq | hq
    · have hs : leadV (xs.getD 0 0) = 1 := by unfold leadV; (repeat' split) <;> omega
      by_cases hl : xs.length < 1
      · rw [takeV_short (by rw [hs]; exact hl)]
        exact refTake_short b off n c 1 _ _ w (by omega) c0 b0.1 b0.2 hq (by omega) (by omega)
      · by_cases hz : szV (numV xs 1) = 1
        · rw [takeV_yes hs (by omega) hl rfl hz]
          exact refTake_1_yes b off n c (xs.getD 0 0) (numV xs 1) w (by omega) b0 hq rfl c0 
             (hnb 0 (by omega) (by omega))  hz
        · rw [takeV_no hs hl rfl hz]
          exact refTake_1_no b off n c (xs.getD 0 0) (numV xs 1) w (by omega) b0 hq rfl c0 
             (hnb 0 (by omega) (by omega))  (by rw [bne_iff_ne]; exact hz)
    · have hs : leadV (xs.getD 0 0) = 2 := by unfold leadV; (repeat' split) <;> omega
      by_cases hl : xs.length < 2
      · rw [takeV_short (by rw [hs]; exact hl)]
        exact refTake_short b off n c 2 _ _ w (by omega) c0 b0.1 b0.2 hq (by omega) (by omega)
      · by_cases hz : szV (numV xs 2) = 2
        · rw [takeV_yes hs (by omega) hl rfl hz]
          exact refTake_2_yes b off n c (xs.getD 0 0) (xs.getD 1 0) (numV xs 1) (numV xs 2) w (by omega) b0 hq rfl c0 (hx 1 (by omega))
            (hxb 1 (by omega)) (hnb 0 (by omega) (by omega)) (hnb 1 (by omega) (by omega)) (or256 _ _ (hnb 0 (by omega) (by omega)).1 (by have := (hnb 0 (by omega) (by omega)).2; simp at this; omega) (hxb 1 (by omega)).1 (hxb 1 (by omega)).2) hz
        · rw [takeV_no hs hl rfl hz]
          exact refTake_2_no b off n c (xs.getD 0 0) (xs.getD 1 0) (numV xs 1) (numV xs 2) w (by omega) b0 hq rfl c0 (hx 1 (by omega))
            (hxb 1 (by omega)) (hnb 0 (by omega) (by omega)) (hnb 1 (by omega) (by omega)) (or256 _ _ (hnb 0 (by omega) (by omega)).1 (by have := (hnb 0 (by omega) (by omega)).2; simp at this; omega) (hxb 1 (by omega)).1 (hxb 1 (by omega)).2) (by rw [bne_iff_ne]; exact hz)
    · have hs : leadV (xs.getD 0 0) = 4 := by unfold leadV; (repeat' split) <;> omega
      by_cases hl : xs.length < 4
      · rw [takeV_short (by rw [hs]; exact hl)]
        exact refTake_short b off n c 4 _ _ w (by omega) c0 b0.1 b0.2 hq (by omega) (by omega)
      · by_cases hz : szV (numV xs 4) = 4
        · rw [takeV_yes hs (by omega) hl rfl hz]
          exact refTake_4_yes b off n c (xs.getD 0 0) (xs.getD 1 0) (xs.getD 2 0) (xs.getD 3 0) (numV xs 1) (numV xs 2) (numV xs 3) (numV xs 4) w (by omega) b0 hq rfl c0 (hx 1 (by omega)) (hx 2 (by omega)) (hx 3 (by omega))
            (hxb 1 (by omega)) (hxb 2 (by omega)) (hxb 3 (by omega)) (hnb 0 (by omega) (by omega)) (hnb 1 (by omega) (by omega)) (hnb 2 (by omega) (by omega)) (hnb 3 (by omega) (by omega)) (or256 _ _ (hnb 0 (by omega) (by omega)).1 (by have := (hnb 0 (by omega) (by omega)).2; simp at this; omega) (hxb 1 (by omega)).1 (hxb 1 (by omega)).2) (or256 _ _ (hnb 1 (by omega) (by omega)).1 (by have := (hnb 1 (by omega) (by omega)).2; simp at this; omega) (hxb 2 (by omega)).1 (hxb 2 (by omega)).2) (or256 _ _ (hnb 2 (by omega) (by omega)).1 (by have := (hnb 2 (by omega) (by omega)).2; simp at this; omega) (hxb 3 (by omega)).1 (hxb 3 (by omega)).2) hz
        · rw [takeV_no hs hl rfl hz]
          exact refTake_4_no b off n c (xs.getD 0 0) (xs.getD 1 0) (xs.getD 2 0) (xs.getD 3 0) (numV xs 1) (numV xs 2) (numV xs 3) (numV xs 4) w (by omega) b0 hq rfl c0 (hx 1 (by omega)) (hx 2 (by omega)) (hx 3 (by omega))
            (hxb 1 (by omega)) (hxb 2 (by omega)) (hxb 3 (by omega)) (hnb 0 (by omega) (by omega)) (hnb 1 (by omega) (by omega)) (hnb 2 (by omega) (by omega)) (hnb 3 (by omega) (by omega)) (or256 _ _ (hnb 0 (by omega) (by omega)).1 (by have := (hnb 0 (by omega) (by omega)).2; simp at this; omega) (hxb 1 (by omega)).1 (hxb 1 (by omega)).2) (or256 _ _ (hnb 1 (by omega) (by omega)).1 (by have := (hnb 1 (by omega) (by omega)).2; simp at this; omega) (hxb 2 (by omega)).1 (hxb 2 (by omega)).2) (or256 _ _ (hnb 2 (by omega) (by omega)).1 (by have := (hnb 2 (by omega) (by omega)).2; simp at this; omega) (hxb 3 (by omega)).1 (hxb 3 (by omega)).2) (by rw [bne_iff_ne]; exact hz)
    · have hs : leadV (xs.getD 0 0) = 8 := by unfold leadV; (repeat' split) <;> omega
      by_cases hl : xs.length < 8
      · rw [takeV_short (by rw [hs]; exact hl)]
        exact refTake_short b off n c 8 _ _ w (by omega) c0 b0.1 b0.2 hq (by omega) (by omega)
      · by_cases hz : szV (numV xs 8) = 8
        · rw [takeV_yes hs (by omega) hl rfl hz]
          exact refTake_8_yes b off n c (xs.getD 0 0) (xs.getD 1 0) (xs.getD 2 0) (xs.getD 3 0) (xs.getD 4 0) (xs.getD 5 0) (xs.getD 6 0) (xs.getD 7 0) (numV xs 1) (numV xs 2) (numV xs 3) (numV xs 4) (numV xs 5) (numV xs 6) (numV xs 7) (numV xs 8) w (by omega) b0 hq rfl c0 (hx 1 (by omega)) (hx 2 (by omega)) (hx 3 (by omega)) (hx 4 (by omega)) (hx 5 (by omega)) (hx 6 (by omega)) (hx 7 (by omega))
            (hxb 1 (by omega)) (hxb 2 (by omega)) (hxb 3 (by omega)) (hxb 4 (by omega)) (hxb 5 (by omega)) (hxb 6 (by omega)) (hxb 7 (by omega)) (hnb 0 (by omega) (by omega)) (hnb 1 (by omega) (by omega)) (hnb 2 (by omega) (by omega)) (hnb 3 (by omega) (by omega)) (hnb 4 (by omega) (by omega)) (hnb 5 (by omega) (by omega)) (hnb 6 (by omega) (by omega)) (hnb 7 (by omega) (by omega)) (or256 _ _ (hnb 0 (by omega) (by omega)).1 (by have := (hnb 0 (by omega) (by omega)).2; simp at this; omega) (hxb 1 (by omega)).1 (hxb 1 (by omega)).2) (or256 _ _ (hnb 1 (by omega) (by omega)).1 (by have := (hnb 1 (by omega) (by omega)).2; simp at this; omega) (hxb 2 (by omega)).1 (hxb 2 (by omega)).2) (or256 _ _ (hnb 2 (by omega) (by omega)).1 (by have := (hnb 2 (by omega) (by omega)).2; simp at this; omega) (hxb 3 (by omega)).1 (hxb 3 (by omega)).2) (or256 _ _ (hnb 3 (by omega) (by omega)).1 (by have := (hnb 3 (by omega) (by omega)).2; simp at this; omega) (hxb 4 (by omega)).1 (hxb 4 (by omega)).2) (or256 _ _ (hnb 4 (by omega) (by omega)).1 (by have := (hnb 4 (by omega) (by omega)).2; simp at this; omega) (hxb 5 (by omega)).1 (hxb 5 (by omega)).2) (or256 _ _ (hnb 5 (by omega) (by omega)).1 (by have := (hnb 5 (by omega) (by omega)).2; simp at this; omega) (hxb 6 (by omega)).1 (hxb 6 (by omega)).2) (or256 _ _ (hnb 6 (by omega) (by omega)).1 (by have := (hnb 6 (by omega) (by omega)).2; simp at this; omega) (hxb 7 (by omega)).1 (hxb 7 (by omega)).2) hz
        · rw [takeV_no hs hl rfl hz]
          exact refTake_8_no b off n c (xs.getD 0 0) (xs.getD 1 0) (xs.getD 2 0) (xs.getD 3 0) (xs.getD 4 0) (xs.getD 5 0) (xs.getD 6 0) (xs.getD 7 0) (numV xs 1) (numV xs 2) (numV xs 3) (numV xs 4) (numV xs 5) (numV xs 6) (numV xs 7) (numV xs 8) w (by omega) b0 hq rfl c0 (hx 1 (by omega)) (hx 2 (by omega)) (hx 3 (by omega)) (hx 4 (by omega)) (hx 5 (by omega)) (hx 6 (by omega)) (hx 7 (by omega))
            (hxb 1 (by omega)) (hxb 2 (by omega)) (hxb 3 (by omega)) (hxb 4 (by omega)) (hxb 5 (by omega)) (hxb 6 (by omega)) (hxb 7 (by omega)) (hnb 0 (by omega) (by omega)) (hnb 1 (by omega) (by omega)) (hnb 2 (by omega) (by omega)) (hnb 3 (by omega) (by omega)) (hnb 4 (by omega) (by omega)) (hnb 5 (by omega) (by omega)) (hnb 6 (by omega) (by omega)) (hnb 7 (by omega) (by omega)) (or256 _ _ (hnb 0 (by omega) (by omega)).1 (by have := (hnb 0 (by omega) (by omega)).2; simp at this; omega) (hxb 1 (by omega)).1 (hxb 1 (by omega)).2) (or256 _ _ (hnb 1 (by omega) (by omega)).1 (by have := (hnb 1 (by omega) (by omega)).2; simp at this; omega) (hxb 2 (by omega)).1 (hxb 2 (by omega)).2) (or256 _ _ (hnb 2 (by omega) (by omega)).1 (by have := (hnb 2 (by omega) (by omega)).2; simp at this; omega) (hxb 3 (by omega)).1 (hxb 3 (by omega)).2) (or256 _ _ (hnb 3 (by omega) (by omega)).1 (by have := (hnb 3 (by omega) (by omega)).2; simp at this; omega) (hxb 4 (by omega)).1 (hxb 4 (by omega)).2) (or256 _ _ (hnb 4 (by omega) (by omega)).1 (by have := (hnb 4 (by omega) (by omega)).2; simp at this; omega) (hxb 5 (by omega)).1 (hxb 5 (by omega)).2) (or256 _ _ (hnb 5 (by omega) (by omega)).1 (by have := (hnb 5 (by omega) (by omega)).2; simp at this; omega) (hxb 6 (by omega)).1 (hxb 6 (by omega)).2) (or256 _ _ (hnb 6 (by omega) (by omega)).1 (by have := (hnb 6 (by omega) (by omega)).2; simp at this; omega) (hxb 7 (by omega)).1 (hxb 7 (by omega)).2) (by rw [bne_iff_ne]; exact hz)
end Go.Proofs.Ytbjneoeiognahaa

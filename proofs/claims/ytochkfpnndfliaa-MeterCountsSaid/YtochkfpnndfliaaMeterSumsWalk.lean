/-
  The walk of MeterSums.
-/
import Derived.Test.YtochkfpnndfliaaMeter
import Derived.Test.YtochkfpnndfliaaWithin
import Derived.IntWalk
namespace Go.Proofs.Ytochkfpnndfliaa
open Go.RowKit

/-- Eight counters, all 0 but the one at k. -/
def one (k : Nat) (s : Int) : List Int := [0,0,0,0,0,0,0,0].set k s
theorem one_get (k : Nat) (s : Int) (h : k < 8) : (one k s).getD k 0 = s := by simp [one, List.getD, h]
theorem one_set (k : Nat) (s t : Int) : (one k s).set k t = one k t := by simp [one]
theorem one_zero (k : Nat) (h : k < 8) : one k 0 = [0,0,0,0,0,0,0,0] := by
  match k, h with
  | 0, _ | 1, _ | 2, _ | 3, _ | 4, _ | 5, _ | 6, _ | 7, _ => rfl
theorem one_at (k : Nat) (s : Int) (i : Nat) (hi : i < 8) (hk : k < 8) : allF (one k s) 8 i = .int .i64 (if i = k then s else 0) := by
  unfold allF
  rw [if_pos hi]
  unfold one
  rw [set_getD _ _ _ _ hk]
  by_cases h : i = k
  · rw [if_pos h, if_pos h]
  · rw [if_neg h, if_neg h]
    match i, hi with
    | 0, _ | 1, _ | 2, _ | 3, _ | 4, _ | 5, _ | 6, _ | 7, _ => rfl

theorem add_one (b k : Nat) (s n : Int) (w : World) (hm : Met w b (one k s)) (hk : k < 8) (h0 : 0 ≤ n) (h1 : n ≤ 2147483647) (hs : 0 ≤ s) (ht : s ≤ 4611686018427387904) :
    Calls Try.prog 17 #[.pointer (some ⟨b, 0, none⟩), .int .i64 k, .int .i64 n] w fun e w' => e = .returned (.int .i64 (s + n)) ∧ Met w' b (one k (s + n)) ∧ w.grownBy w' (some b) := by
  have := add_yes b (one k s) k n w hm hk h0 h1 (by rw [one_get k s hk]; exact hs) (by rw [one_get k s hk]; exact ht)
  rwa [one_get k s hk, one_set] at this
theorem get_one (b k : Nat) (s : Int) (w : World) (hm : Met w b (one k s)) (hk : k < 8) :
    Calls Try.prog 18 #[.pointer (some ⟨b, 0, none⟩), .int .i64 k] w fun e w' => e = .returned (.int .i64 s) ∧ Met w' b (one k s) ∧ w.grownBy w' (some b) := by
  have := get_yes b (one k s) k w hm hk
  rwa [one_get k s hk] at this
theorem own_grown {w w1 w2 : World} {b : Nat} (hb : Below w.heap.size w w1) (hg : w1.grownBy w2 (some b)) (h : w.heap.size ≤ b) : Below w.heap.size w w2 := hb.grown hg hb.size (by intro g hg; simp at hg; omega)

set_option maxRecDepth 100000 in
set_option maxHeartbeats 4000000 in
theorem meterSums_walk (A : Option Addr) (n c : Nat) (xs : List Int) (a1 : Int) (w : World) (ha : ArgI .i64 8 w A n c xs) (_ : (Lit.int .i64 a1).wf = true) :
    Calls Try.prog 6 #[.slice A n c, .int .i64 a1] w fun e w' => e = .returned (.bool true) ∧ Below w.heap.size w w' := by
  have r1 := ha.reach
  have l1 := ha.le
  have HA := Lib.hid ha
  clear ha
  go_enter Try.func6, Try.ntmps6
  go_wp2_with fail
  refine (new_any w).mono ?_
  rintro e w1 ⟨rfl, h1, b1, z1⟩
  obtain ⟨b, hb⟩ : ∃ b, w.heap.size = b := ⟨_, rfl⟩
  rw [hb] at h1
  have H1 := Lib.hid h1
  have B1 := Lib.hid b1
  have HB := Lib.hid hb
  rw [hb]
  clear h1 b1 z1 hb
  go_wp2_with fail
  refine (within_any _ _ _ (by omega) (by omega)).mono ?_
  rintro e w' ⟨rfl, rfl⟩
  obtain ⟨k, hk⟩ := Int.eq_ofNat_of_zero_le (Int.emod_nonneg a1 (show (8 : Int) ≠ 0 by decide))
  have hk8 : k < 8 := by have := Int.emod_lt_of_pos a1 (show (0 : Int) < 8 by decide); omega
  rw [hk]
  clear hk
  go_wp2_with fail
  go_loopw [6, 7] (fun s i wr => ∃ (j : Nat) (t : Int), j ≤ n ∧ j ≤ 20 ∧ i = .int .i64 (j : Nat) ∧ s = .int .i64 t ∧ 0 ≤ t ∧ t ≤ 2147483648 * (j : Nat) ∧ Hid (Met wr b (one k t)) ∧ Hid (Below w.heap.size w wr)) (fun _ i _ => 20 - (intOf i).toNat)
  case atStart => exact ⟨0, 0, by omega, by omega, rfl, rfl, by omega, by omega, by rw [one_zero k hk8]; exact H1, B1⟩
  case round =>
    obtain ⟨j, t, hj, hj2, rfl, rfl, ht0, ht1, hm, hbl⟩ := hrel
    by_cases hlt : j < n ∧ j < 20
    · obtain ⟨hlt1, hlt2⟩ := hlt
      have q1 : decide ((j : Int) < (n : Int)) = true := by simp; omega
      have q2 : decide (j < n) = true := by simp; omega
      have q3 : (j : Int) < 20 := by omega
      have q4 : (0 : Int) ≤ (j : Int) := by omega
      obtain ⟨b', off', rfl, hc⟩ := (HA.out.rd.later hbl.out).some_ (by rw [HA.out.len]; omega)
      have c1 := hc j (by rw [HA.out.len]; exact hlt1)
      obtain ⟨x, hx⟩ : ∃ x, xs.getD j 0 = x := ⟨_, rfl⟩
      rw [hx] at c1
      clear hx hc
      go_wp2_with fail
      refine (within_any _ _ _ (by omega) (by omega)).mono ?_
      rintro e w' ⟨rfl, rfl⟩
      clear c1
      obtain ⟨m, hm'⟩ : ∃ m, x % 2147483648 = m := ⟨_, rfl⟩
      have m0 : 0 ≤ m := by rw [← hm']; exact Int.emod_nonneg x (by decide)
      have m1 : m < 2147483648 := by rw [← hm']; exact Int.emod_lt_of_pos x (by decide)
      rw [hm']
      clear hm'
      have ht2 : t ≤ 42949672960 := by omega
      go_wp2_with fail
      refine (add_one b k t m _ hm.out hk8 m0 (by omega) ht0 (by omega)).mono ?_
      rintro e w2 ⟨rfl, h2, g2⟩
      have H2 := Lib.hid h2
      have B2 := Lib.hid (own_grown hbl.out g2 (by rw [HB.out]; omega))
      clear h2 g2 hm hbl
      go_wp2_with fail
      refine (add_no _ _ _ _ (by omega)).mono ?_
      rintro e w' ⟨rfl, rfl⟩
      go_wp2_with fail
      refine (add_no _ _ _ _ (by omega)).mono ?_
      rintro e w' ⟨rfl, rfl⟩
      go_wp2_with fail
      refine (add_no _ _ _ _ (by omega)).mono ?_
      rintro e w' ⟨rfl, rfl⟩
      go_wp2_with fail
      refine (add_no _ _ _ _ (by omega)).mono ?_
      rintro e w' ⟨rfl, rfl⟩
      go_wp2_with fail
      refine (get_one b k (t + m) _ H2.out hk8).mono ?_
      rintro e w3 ⟨rfl, h3, g3⟩
      have H3 := Lib.hid h3
      have B3 := Lib.hid (own_grown B2.out g3 (by rw [HB.out]; omega))
      clear h3 g3 H2 B2
      go_wp2
      go_roundw
      case rel => exact ⟨j + 1, t + m, by omega, by omega, by go_num, rfl, by omega, by omega, H3, B3⟩
      case measure => simp [intOf]; omega
    · have ht2 : t ≤ 42949672960 := by omega
      have hq : ¬ (j : Int) < (n : Int) ∨ ((j : Int) < (n : Int) ∧ ¬ (j : Int) < 20) := by omega
      clear hlt hj hj2 ht1
      rcases hq with hq | ⟨hq, hq2⟩
      all_goals
        go_wp2_with fail
        refine (all_any b _ _ hm.out).mono ?_
        rintro e w2 ⟨g, hg, rfl, hr, h2, g2⟩
        have H2 := Lib.hid h2
        have B2 := Lib.hid (own_grown hbl.out g2 (by rw [HB.out]; omega))
        have R := Lib.hid hr
        clear h2 g2 hr hm hbl
        go_wp2_with fail
        go_loopw [82] (fun i wr' => ∃ j : Nat, j ≤ 8 ∧ i = .int .i64 (j : Nat) ∧ wr' = w2) (fun i _ => 8 - (intOf i).toNat)
        case atStart => exact ⟨0, by omega, rfl, rfl⟩
        case round =>
          obtain ⟨i, hi, rfl, rfl⟩ := hrel
          by_cases hlt : i < 8
          · have n1 : (i : Int) < 8 := by omega
            have n2 : (0 : Int) ≤ (i : Int) := by omega
            have c1 := R.out.cell (i := i) hlt
            rw [one_at k t i hlt hk8] at c1
            by_cases hik : i = k
            · subst hik
              rw [if_pos rfl] at c1
              go_wp2_with fail
              go_roundw
              case rel => exact ⟨i + 1, by omega, by go_num, trivial⟩
              case measure => simp [intOf]; omega
            · rw [if_neg hik] at c1
              have n3 : ((i : Int) != (k : Int)) = true := by rw [bne_iff_ne]; omega
              have n4 : ((i : Int) == (k : Int)) = false := by rw [beq_eq_false_iff_ne]; omega
              go_wp2_with fail
              go_roundw
              case rel => exact ⟨i + 1, by omega, by go_num, trivial⟩
              case measure => simp [intOf]; omega
          · obtain rfl : i = 8 := by omega
            clear hlt hi
            go_wp2_with fail
            refine (reset_any b _ _ H2.out).mono ?_
            rintro e w3 ⟨rfl, h3, g3⟩
            have H3 := Lib.hid h3
            have B3 := Lib.hid (own_grown B2.out g3 (by rw [HB.out]; omega))
            clear h3 g3 H2 B2 R
            go_wp2_with fail
            refine (get_yes b _ k _ H3.out hk8).mono ?_
            rintro e w4 ⟨rfl, h4, g4⟩
            rw [← one_zero k hk8, one_get k 0 hk8]
            have H4 := Lib.hid h4
            have B4 := Lib.hid (own_grown B3.out g4 (by rw [HB.out]; omega))
            clear h4 g4 H3 B3
            go_wp2_with fail
            refine (get_no _ _ _ (by omega)).mono ?_
            rintro e w' ⟨rfl, rfl⟩
            go_wp2_with fail
            refine (get_no _ _ _ (by omega)).mono ?_
            rintro e w' ⟨rfl, rfl⟩
            go_wp2_with fail
            refine (all_any b _ _ H4.out).mono ?_
            rintro e w5 ⟨g', hg', rfl, hr, h5, g5⟩
            have B5 := Lib.hid (own_grown B4.out g5 (by rw [HB.out]; omega))
            clear h5 g5 hr H4 B4
            go_wp2_with fail
            refine (wakes_any _).mono ?_
            rintro e w6 ⟨rfl, b6⟩
            go_wp2
            go_ret
            exact ⟨rfl, B5.out.trans (b6.mono B5.out.size)⟩
end Go.Proofs.Ytochkfpnndfliaa

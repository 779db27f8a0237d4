/-
  The walk of VintOrder.
-/
import Derived.Test.YtlmndmcjkkikpaaWakes
import Derived.Test.YtlmndmcjkkikpaaVintN
import Derived.Test.YtlmndmcjkkikpaaOrderMath
import Derived.Test.YtlmndmcjkkikpaaConv
import Derived.Deep.RegionWith
import Derived.Lib.Strings
import Derived.Deep.DrawnRows
namespace Go.Proofs.Ytlmndmcjkkikpaa
open Go.RowKit
attribute [local go_sem ↓] Go.wp_at_zero Go.wp_at_succ

set_option maxHeartbeats 1000000 in
theorem vintOrder_walk (a0 a1 a2 a3 : Int) (w : World) (h0 : (Lit.int .i64 a0).wf = true) (h1 : (Lit.int .i64 a1).wf = true) (_ : (Lit.int .i64 a2).wf = true) (_ : (Lit.int .i64 a3).wf = true) :
    Calls Try.prog 3 #[.int .i64 a0, .int .i64 a1, .int .i64 a2, .int .i64 a3] w fun e w' => e = .returned (.bool true) ∧ Below w.heap.size w w' := by
  have b0 := wf_i64 h0
  have b1 := wf_i64 h1
  go_enter Try.func3, Try.ntmps3
  go_wp2_with fail
  refine (n_any a0 a2 w b0.1 b0.2).mono ?_
  rintro e w1 ⟨n, _, rfl, hb1⟩
  go_wp2_with fail
  refine (n_any a1 a3 w1 b1.1 b1.2).mono ?_
  rintro e w2 ⟨m, _, rfl, hb2⟩
  clear b0 b1 h0 h1
  have hb := hb1.trans (hb2.mono hb1.size)
  clear hb1 hb2
  by_cases h : n < 0 ∨ m < 0 ∨ 4611686018427387903 < n ∨ 4611686018427387903 < m
  · have HB := Lib.hid hb
    clear hb
    rcases (show n < 0 ∨ (0 ≤ n ∧ m < 0) ∨ (0 ≤ n ∧ 0 ≤ m ∧ 4611686018427387903 < n) ∨ (0 ≤ n ∧ 0 ≤ m ∧ n ≤ 4611686018427387903 ∧ 4611686018427387903 < m) from by omega) with h' | ⟨h1, h2⟩ | ⟨h1, h2, h3⟩ | ⟨h1, h2, h3, h4⟩
    all_goals
      clear h
      go_wp2_with fail
      refine (wakes_any _).mono ?_
      rintro e w3 ⟨rfl, hb3⟩
      go_wp2_with fail
      go_ret
      exact ⟨rfl, HB.out.trans (hb3.mono HB.out.size)⟩
  · have n0 : 0 ≤ n := by omega
    have n1 : n ≤ 4611686018427387903 := by omega
    have m0 : 0 ≤ m := by omega
    have m1 : m ≤ 4611686018427387903 := by omega
    clear h
    have HB := Lib.hid hb
    clear hb
    have t1 : Op.bytesLess (strOfNums (putL n)).toList (strOfNums (putL m)).toList = decide (n < m) := by rw [Lib.toList_data, Lib.toList_data]; exact strs_less n0 n1 m0 m1
    have t2 : ((strOfNums (putL n)).toList == (strOfNums (putL m)).toList) = (n == m) := by
      rw [Lib.toList_data, Lib.toList_data]
      by_cases e : n = m
      · subst e; simp
      · have : ¬ (strOfNums (putL n)).data.toList = (strOfNums (putL m)).data.toList := fun h => e (putL_inj n0 n1 m0 m1 (map_byte_inj _ _ (putL_bytes n) (putL_bytes m) (by simpa [strOfNums] using h)))
        rw [beq_eq_false_iff_ne.2 this, beq_eq_false_iff_ne.2 e]
    have hcase : (decide (szV n ≤ szV m) = true) ∨ (decide (szV n ≤ szV m) = false ∧ m < n) := by
      by_cases hs : szV n ≤ szV m
      · exact .inl (by simpa using hs)
      · refine .inr ⟨by simpa using hs, ?_⟩
        rcases (show n ≤ m ∨ m < n from by omega) with h | h
        · exact absurd (szV_mono n0 m1 h) hs
        · exact h
    go_wp2_with fail
    go_region_with (first
      | (go_at_call_of 11 (Value.int .i64 n); refine (put_own n _).mono ?_; rintro e w3 ⟨P, cp, rfl, hp, hb3⟩; have q1 := conv_rd cp rfl hp.rd)
      | (go_at_call_of 11 (Value.int .i64 m); refine (put_own m _).mono ?_; rintro e w4 ⟨R, cr, rfl, hr, hb4⟩; have q2 := conv_rd cp rfl (hp.rd.later hb4); have q3 := conv_rd cr rfl hr.rd))
    all_goals
      clear q1 q2 q3
      have hb' := (HB.out.drew.trans (hb3.mono HB.out.drew.size)).trans (hb4.mono (HB.out.drew.trans (hb3.mono HB.out.drew.size)).size)
      have HB' := Lib.hid hb'
      clear hp hr hb3 hb4 hb'
      rcases hcase with hs | ⟨hs, hmn⟩
      all_goals
        go_wp2_with (first
          | (go_at_call 12; refine (size_any _ _).mono ?_; rintro e w' ⟨rfl, rfl⟩)
          | (go_at_call 10; refine (wakes_any _).mono ?_; rintro e w5 ⟨rfl, hb5⟩))
        go_ret
        exact ⟨rfl, HB'.out.trans (hb5.mono HB'.out.size)⟩
end Go.Proofs.Ytlmndmcjkkikpaa

/-
  The walk of PlanWaits.
-/
import Derived.Test.YtjpnpaacekdeeaaPlanOut
import Derived.Test.YtjpnpaacekdeeaaWithin
namespace Go.Proofs.Ytjpnpaacekdeeaa
open Go.RowKit

theorem wrap_in {n : Int} (h1 : -9223372036854775808 ≤ n) (h2 : n ≤ 9223372036854775807) : wrap64 n = n := by unfold wrap64; omega

/-- Nothing is lost, nothing acknowledged; l is what may be sent. -/
theorem next_none (O : Ou) (s l c T : Int) (hc : 1 ≤ c ∧ c ≤ 64) (hT : O.till l = T) :
    (s < T → ∃ r, s < r ∧ r ≤ T ∧ (Pl.mk [] s).next O l c = ⟨s, r, true, ⟨[], r⟩⟩) ∧ (¬ s < T → (Pl.mk [] s).next O l c = ⟨0, 0, false, ⟨[], s⟩⟩) := by
  have hk : chk c = c := by unfold chk; omega
  have h := Pl.next_new O s l c
  rw [hT, hk] at h
  refine ⟨fun hs => ?_, fun hs => by rw [h, if_neg hs]⟩
  rw [if_pos hs] at h
  have := Pl.reach_range O hc.1 hs
  exact ⟨_, this.1, this.2, h⟩

set_option maxRecDepth 100000 in
set_option maxHeartbeats 4000000 in
theorem planWaits_walk (a0 : Option Addr) (len0 cap0 : Nat) (z0 : List Int) (a1 a2 : Int) (W : World) (h0 : ArgI .u8 1 W a0 len0 cap0 z0) (_ : (Lit.int .i64 a1).wf = true) (_ : (Lit.int .i64 a2).wf = true) :
    Calls Try.prog 6 #[.slice a0 len0 cap0, .int .i64 a1, .int .i64 a2] W fun e W' => e = .returned (.bool true) ∧ Below W.heap.size W W' := by
  have hre0 := h0.reach
  have hle0 := h0.le
  have HC0 := Lib.hid (Go.Proofs.Ytjpnpaacekdeeaa.cut_any a0 len0 cap0 50 z0 W h0.len h0.le h0.rd (by omega) (by omega) (by omega))
  obtain ⟨xs, hxs⟩ : ∃ xs, z0.take 50 = xs := ⟨_, rfl⟩
  have hl : xs.length ≤ 50 := by rw [← hxs]; exact List.length_take_le _ _
  obtain ⟨L, hL⟩ : ∃ n, xs.length = n := ⟨_, rfl⟩
  rw [hL] at hl
  rw [show (50 : Int).toNat = 50 from rfl, hxs, hL] at HC0
  obtain ⟨ys, hys⟩ : ∃ ys, xs ++ [1] = ys := ⟨_, rfl⟩
  have hyl : ys.length = L + 1 := by rw [← hys, List.length_append, hL]; rfl
  obtain ⟨N, hN⟩ : ∃ N, L + 1 = N := ⟨_, rfl⟩
  rw [hN] at hyl
  have n0 : 0 < N := by omega
  have n1 : N ≤ 51 := by omega
  have HYL := Lib.hid hyl
  have HYS := Lib.hid hys
  have HL := Lib.hid hL
  have HN := Lib.hid hN
  have HW1 := Lib.hid (fun w => within_any a1 (N : Int) w (by omega) (by omega))
  have HW2 := Lib.hid (fun w => within_any a2 60 w (by omega) (by omega))
  obtain ⟨l, hl1⟩ : ∃ l, a1 % (N : Int) = l := ⟨_, rfl⟩
  have l0 : 0 ≤ l ∧ l < N := by rw [← hl1]; exact ⟨Int.emod_nonneg _ (by omega), Int.emod_lt_of_pos _ (by omega)⟩
  obtain ⟨c0, hc1⟩ : ∃ c, a2 % 60 = c := ⟨_, rfl⟩
  have c00 : 0 ≤ c0 ∧ c0 < 60 := by rw [← hc1]; exact ⟨Int.emod_nonneg _ (by omega), Int.emod_lt_of_pos _ (by omega)⟩
  rw [hl1] at HW1
  rw [hc1] at HW2
  obtain ⟨C, hC⟩ : ∃ C, 1 + c0 = C := ⟨_, rfl⟩
  have hwC : wrap64 (1 + c0) = C := by unfold wrap64; omega
  have hC1 : 1 ≤ C ∧ C ≤ 64 := by omega
  obtain ⟨O, hO⟩ : ∃ O : Ou, (⟨100, ys, true, 0⟩ : Ou) = O := ⟨_, rfl⟩
  have t1 : O.till l = l := by rw [← hO]; unfold Ou.till; rw [if_neg (by rw [hyl]; omega)]; omega
  have t2 : ∀ i : Int, 0 ≤ i → O.till ((N : Int) + i) = (N : Int) + 1 := fun i hi => by rw [← hO]; unfold Ou.till; rw [if_pos (by rw [hyl]; omega)]; unfold Ou.places; simp [hyl]
  have X1 := Lib.hid (fun s => next_none O s l C l hC1 t1)
  have X2 := Lib.hid (fun s (i : Int) (hi : 0 ≤ i) => next_none O s ((N : Int) + i) C ((N : Int) + 1) hC1 (t2 i hi))
  have HO := Lib.hid hO
  have HW3 := Lib.hid (show wrap64 ((N : Int) + 1) = (N : Int) + 1 from wrap_in (by omega) (by omega))
  have HW4 := Lib.hid (show ∀ k : Nat, (k : Int) < 100 → wrap64 ((N : Int) + (k : Int)) = (N : Int) + (k : Int) from fun k hk => wrap_in (by omega) (by omega))
  have HWA := Lib.hid wakesP_any
  clear h0 hxs hL hyl hys hN hl1 hc1 hC t1 t2 hO c00
  go_enter Try.func6, Try.ntmps6
  go_wp2_with fail
  refine HC0.out.mono ?_
  rintro e w1 ⟨A0, c0', rfl, ho, hb⟩
  have HO0 := Lib.hid ho
  have HB1 := Lib.hid hb
  clear ho hb HC0
  have e1 : xs.length + 1 ≤ maxLen := by rw [HL.out]; unfold maxLen; omega
  have e2 : (xs.length + 1) * 1 ≤ 140737488355328 := by rw [HL.out]; omega
  have e3 : W.heap.size ≤ (w1.alloc (.cells (bts [1]) 5)).heap.size := by have := HB1.out.size; rw [World.size_alloc]; omega
  have e4 : Hid (∀ A' c' w', Own .u8 5 w' W.heap.size (.slice A' (xs.length + 1) c') (xs ++ [1]) → Own .u8 5 w' W.heap.size (.slice A' N c') ys) := Lib.hid (fun A' c' w' h => by rw [← HN.out, ← HYS.out, ← HL.out]; exact h)
  have e5 : Hid (xs.length + 1 = N) := Lib.hid (by rw [HL.out, HN.out])
  have e6 : Hid (∀ w', (w1.alloc (.cells (bts [1]) 5)).grownBy w' (Value.slice A0 L c0').ownBlock → Below W.heap.size W w') := Lib.hid (fun w' hg => (HB1.out.alloc HB1.out.size _).grown hg e3 (fun k e => ((HO0.out.alloc (.cells (bts [1]) 5)).lt k e).1))
  have HE1 := Lib.hid e1
  have HE2 := Lib.hid e2
  have HE3 := Lib.hid e3
  clear e1 e2 e3
  go_wp2_with (at_builtin; go_loud (refine wpList_app _ .u8 rfl (.tmp 19) (.tmp 20) 22 rfl 5 (.int .u8 0) 1 Try.underlying22 info_byte rfl W.heap.size (.slice A0 L c0') xs rfl (HO0.out.alloc _) (some ⟨w1.heap.size, 0, none⟩) 1 1 rfl [1] rfl (Rd.new w1 [1] _) HE1.out HE2.out HE3.out ?_); intro A1 c1 w2 ho hg; have HO1 := Lib.hid (e4.out _ _ _ ho); have HB2 := Lib.hid (e6.out _ hg); clear ho hg; rw [e5.out])
  clear HO0 HB1 HE1 HE2 HE3 e4 e5 e6
  refine (HW1.out _).mono ?_
  rintro e w' ⟨rfl, rfl⟩
  go_wp2_with fail
  refine (HW2.out _).mono ?_
  rintro e w' ⟨rfl, rfl⟩
  go_wp2_with fail
  obtain ⟨b, hb⟩ : ∃ b, w2.heap.size = b := ⟨_, rfl⟩
  have HN1 := newplan_any w2
  rw [hb] at HN1
  have HBB := Lib.hid hb
  clear hb
  refine HN1.mono ?_
  rintro e w3 ⟨rfl, h3, b3, _⟩
  rw [← HBB.out] at h3 b3
  have H3 := Lib.hid h3
  have HO3 := Lib.hid (HO1.out.later b3)
  have HB3 := Lib.hid b3
  clear h3 b3 HO1 HN1
  go_wp2_with fail
  obtain ⟨po, hpo⟩ : ∃ b, w3.heap.size = b := ⟨_, rfl⟩
  have HN1 := newout_any 100 w3
  rw [hpo] at HN1
  have HPO := Lib.hid hpo
  clear hpo
  refine HN1.mono ?_
  rintro e w4 ⟨rfl, h4, b4, _⟩
  rw [← HPO.out] at h4 b4
  have h4' := PO.new H3.out HB3.out h4 b4
  rw [HPO.out, HBB.out] at h4'
  have H4 := Lib.hid h4'
  have HO4 := Lib.hid (HO3.out.later b4)
  have HWR := Lib.hid (H4.out.write A1 N c1 ys HYL.out HO4.out.rd HO4.out.cap (by omega) N (by rw [show (Ou.new 100).room = 100 from by decide]; omega))
  rw [show (Ou.new 100).more (ys.take N) = ⟨100, ys, false, 0⟩ from by rw [List.take_of_length_le (by rw [HYL.out]; exact Nat.le_refl _)]; rfl] at HWR
  clear h4 b4 h4' H3 HB3 HN1 HO3
  go_wp2_with fail
  refine HWR.out.mono ?_
  rintro e w5 ⟨rfl, vo, h5, _⟩
  have H5 := Lib.hid h5
  clear h5 HWR H4 HO4
  go_wp2_with fail
  refine H5.out.close.mono ?_
  rintro e w6 ⟨rfl, h6, _⟩
  rw [show (Ou.shut ⟨100, ys, false, 0⟩) = O from HO.out] at h6
  have H6 := Lib.hid h6
  clear h6 H5
  go_wp2_with fail
  go_loopw [9, 10] (fun s i wr => ∃ (k : Nat) (s' : Int) (v : Value), i = .int .i64 k ∧ s = .int .i64 s' ∧ (k : Int) ≤ s' ∧ s' ≤ l ∧ Hid (PO w2 wr (b + 1) b v ⟨[], s'⟩ po vo O)) (fun _ i _ => 100 - (intOf i).toNat)
  case atStart => exact ⟨0, 0, _, rfl, rfl, by omega, by omega, H6⟩
  case round =>
    obtain ⟨k, s, v, rfl, rfl, hk, hs, hp⟩ := hrel
    have i1 : (k : Int) < 100 := by omega
    by_cases hlt : s < l
    · obtain ⟨r, hr1, hr2, hx⟩ := (X1.out s).1 hlt
      have HC := Lib.hid (hp.out.next l C _ hx)
      have i2 : ¬ (r > l) := by omega
      clear hx hp
      go_wp2_with fail
      refine HC.out.mono ?_
      rintro e w7 ⟨rfl, v7, h7, _⟩
      have H7 := Lib.hid h7
      clear h7 HC
      go_wp2
      go_roundw
      case rel => exact ⟨k + 1, r, v7, by go_num, rfl, by omega, hr2, H7⟩
      case measure => simp [intOf]; omega
    · obtain rfl : s = l := by omega
      have HC := Lib.hid (hp.out.next s C _ ((X1.out s).2 (by omega)))
      clear hp
      go_wp2_with fail
      refine HC.out.mono ?_
      rintro e w7 ⟨rfl, v7, h7, _⟩
      have H7 := Lib.hid h7
      clear h7 HC
      go_wp2_with fail
      refine (sent_any H7.out.pl).mono ?_
      rintro e w8 ⟨rfl, rfl⟩
      go_wp2_with fail
      go_loopw [9, 14] (fun a i wr => ∃ (k : Nat) (s' : Int) (v : Value), i = .int .i64 k ∧ a = .int .i64 s' ∧ (k : Int) ≤ s' ∧ s' ≤ (N : Int) + 1 ∧ Hid (PO w2 wr (b + 1) b v ⟨[], s'⟩ po vo O)) (fun _ i _ => 100 - (intOf i).toNat)
      case atStart => exact ⟨0, _, v7, rfl, rfl, by omega, by omega, H7⟩
      case round =>
        obtain ⟨k2, s2, v2, rfl, rfl, hk2, hs2, hp2⟩ := hrel
        have j1 : (k2 : Int) < 100 := by omega
        have hX2 := X2.out s2 k2 (by omega)
        have HS2 := Lib.hid hs2
        have HK2 := Lib.hid hk2
        obtain ⟨G, hG⟩ : ∃ G, (N : Int) + (k2 : Int) = G := ⟨_, rfl⟩
        rw [hG] at hX2
        have j2 : wrap64 ((N : Int) + (k2 : Int)) = G := by rw [HW4.out k2 j1, hG]
        have j3 := HW3.out
        by_cases hlt2 : s2 < (N : Int) + 1
        · obtain ⟨r, hr1, hr2, hx⟩ := hX2.1 hlt2
          have HC := Lib.hid (hp2.out.next G C _ hx)
          have HR := Lib.hid (And.intro hr1 hr2)
          clear hx hp2 hX2 hr1 hr2 hlt2 hG hs2 hk2 X1 X2 HW1 HW2 hs hlt l0 hk hre0 hle0 hl n0 n1 hwC hC1 H7 H6
          go_wp2_with fail
          refine HC.out.mono ?_
          rintro e w9 ⟨rfl, v9, h9, _⟩
          have H9 := Lib.hid h9
          clear h9 HC
          go_wp2
          go_roundw
          case rel => exact ⟨k2 + 1, r, v9, by go_num, rfl, by clear j2 j3; have := HR.out; have := HK2.out; omega, HR.out.2, H9⟩
          case measure => clear j2 j3; simp [intOf]; omega
        · have hle2 : (N : Int) + 1 ≤ s2 := Int.not_lt.1 hlt2
          have hx := hX2.2 hle2
          have he2 : s2 = (N : Int) + 1 := Int.le_antisymm hs2 hle2
          subst he2
          have HC := Lib.hid (hp2.out.next G C _ hx)
          clear hp2 hx hX2 hlt2 hle2 hG hs2 hk2 X1 X2 HW1 HW2 hs hlt l0 hk hre0 hle0 hl n0 n1 hwC hC1 H7 H6
          go_wp2_with fail
          refine HC.out.mono ?_
          rintro e w9 ⟨rfl, v9, h9, _⟩
          have HF := Lib.hid (HB2.out.trans (h9.bel.mono HB2.out.size))
          clear h9 HC
          go_wp2_with fail
          refine (HWA.out _).mono ?_
          rintro e w10 ⟨rfl, hb10⟩
          have HF2 := Lib.hid (HF.out.trans (hb10.mono HF.out.size))
          clear hb10 HF
          go_wp2_with fail
          go_ret
          exact ⟨rfl, HF2.out⟩
end Go.Proofs.Ytjpnpaacekdeeaa

/-
  The walk of InboxFirst.
-/
import Derived.Test.YtlljfinagjdihaaInMid3
import Derived.Test.YtlljfinagjdihaaWithin
namespace Go.Proofs.Ytlljfinagjdihaa
open Go.RowKit

set_option maxRecDepth 100000 in
set_option maxHeartbeats 4000000 in
theorem inboxFirst_walk (a0 a1 a2 a3 : Int) (W : World) :
    Calls Try.prog 8 #[.int .u8 a0, .int .u8 a1, .int .i64 a2, .int .i64 a3] W fun e W' => e = .returned (.bool true) ∧ Below W.heap.size W W' := by
  have q0 := Int.emod_nonneg a2 (show (30 : Int) ≠ 0 by omega)
  have q1 := Int.emod_lt_of_pos a2 (show (0 : Int) < 30 by omega)
  have HW0 := Lib.hid (fun w => within_any a2 30 w (by omega) (by omega))
  obtain ⟨z0, hz0⟩ : ∃ z : Int, a2 % 30 = z := ⟨_, rfl⟩
  rw [hz0] at HW0 q0 q1
  obtain ⟨V, hV⟩ : ∃ V : Int, 5 + z0 = V := ⟨_, rfl⟩
  have HWV := Lib.hid (show wrap64 (5 + z0) = V from wrap_at hV (by omega) (by omega))
  have r0 := Int.emod_nonneg a3 (show V ≠ 0 by omega)
  have r1 := Int.emod_lt_of_pos a3 (show (0 : Int) < V by omega)
  have HW1 := Lib.hid (fun w => within_any a3 V w (by omega) (by omega))
  obtain ⟨n, hn⟩ : ∃ n : Nat, a3 % V = (n : Int) := ⟨(a3 % V).toNat, by omega⟩
  rw [hn] at HW1 r0 r1
  obtain ⟨K, hK⟩ : ∃ K : Nat, K = n + 1 := ⟨_, rfl⟩
  have HK1 := Lib.hid (show wrap64 ((n : Int) + 1) = (K : Int) from wrap_at (by omega) (by omega) (by omega))
  have HK2 := Lib.hid (show wrap64 ((n : Int) + 2) = (n : Int) + 2 from wrap_at rfl (by omega) (by omega))
  have HNUM := Lib.hid (show 5 ≤ V ∧ V ≤ 34 ∧ (n : Int) < V ∧ K = n + 1 by omega)
  obtain ⟨xs, hxs⟩ : ∃ xs, List.replicate n a1 ++ [a0] = xs := ⟨_, rfl⟩
  have HXL := Lib.hid (show xs.length = K by rw [← hxs, List.length_append, List.length_replicate, hK]; rfl)
  have HXA := Lib.hid (show xs.getD n 0 = a0 by rw [← hxs]; exact gd_last n a0 a1)
  have HXB := Lib.hid (show ∀ k : Int, 0 ≤ k → k < (n : Int) → xs.getD k.toNat 0 = a1 from fun k h0 h1 => by rw [← hxs]; exact gd_rep n a0 a1 k h0 h1)
  have HNI := Lib.hid (fun w => wv_new V xs w (show min (max V 1) 400 = V by omega))
  clear q0 q1 hz0 hV r0 r1 hn hK hxs
  go_enter Try.func8, Try.ntmps8
  go_wp2_with fail
  refine (HW0.out _).mono ?_
  rintro e w0 ⟨rfl, rfl⟩
  clear HW0
  go_wp2_with fail
  rw [HWV.out]
  refine (HW1.out _).mono ?_
  rintro e w0 ⟨rfl, rfl⟩
  clear HW1
  go_wp2_with fail
  refine (HNI.out _).mono ?_
  rintro e w1 ⟨p, F, rfl, hx⟩
  have HX := Lib.hid hx
  clear hx HNI
  have hk1 := HK1.out
  have hk2 := HK2.out
  have hyA : Hid (∀ k : Int, (n : Int) ≤ k → k < (n : Int) + ((1 : Nat) : Int) → 0 ≤ k → k < 0 + V → ((-1 : Int) < 0 ∨ k < -1) → ¬ (0 ≤ k ∧ k < 0) → [a0].getD (k - (n : Int)).toNat 0 = xs.getD k.toNat 0) := Lib.hid fun k h1 h2 _ _ _ _ => by
    have e : k = (n : Int) := by omega
    rw [e, Int.sub_self, Int.toNat_natCast, HXA.out]
    rfl
  have hyB : Hid (∀ k : Int, -1 ≤ k → k < -1 + ((2 : Nat) : Int) → 0 ≤ k → k < 0 + V → ((-1 : Int) < 0 ∨ k < -1) → ¬ ((n : Int) ≤ k ∧ k < (n : Int) + 1) → [a0, a1].getD (k - (-1)).toNat 0 = xs.getD k.toNat 0) := Lib.hid fun k h1 h2 h3 _ _ h6 => by
    have e : k = 0 := by omega
    rw [HXB.out k h3 (by omega), e]
    rfl
  go_wp2_with fail
  refine (HX.out.putLit (f := n) (m := 1) (ys := [a0]) rfl rfl rfl false (by have := HNUM.out; omega) (by have := HNUM.out; omega) (by have := HNUM.out; omega) (-1) (fun k => (n : Int) ≤ k ∧ k < (n : Int) + 1) ((n : Int)) ((n : Int) + 1) (1) (by have := HNUM.out; intro k; (try dsimp only); omega) hyA.out (.inr ⟨.inl rfl, rfl⟩) (by have := HNUM.out; omega) (by have := HNUM.out; intro k; (try dsimp only); omega) (by have := HNUM.out; omega)).mono ?_
  rintro e w101 ⟨rfl, F101, hx, -⟩
  have HY9 := Lib.hid hx
  clear hx HX
  have HX := HY9
  clear HY9
  go_wp2_with fail
  refine (HX.out.putLit (f := n) (m := 1) (ys := [a1]) rfl rfl rfl false (by have := HNUM.out; omega) (by have := HNUM.out; omega) (by have := HNUM.out; omega) (-1) (fun k => (n : Int) ≤ k ∧ k < (n : Int) + 1) (0) (0) (0) (by have := HNUM.out; intro k; (try dsimp only); omega) (fun k h1 h2 h3 h4 h5 h6 => by exfalso; have := HNUM.out; (try dsimp only at h6); omega) (.inr ⟨.inl rfl, rfl⟩) (by have := HNUM.out; omega) (by have := HNUM.out; intro k; (try dsimp only); omega) (by have := HNUM.out; omega)).mono ?_
  rintro e w101 ⟨rfl, F101, hx, -⟩
  have HY9 := Lib.hid hx
  clear hx HX
  have HX := HY9
  clear HY9
  go_wp2_with fail
  refine (HX.out.putLit (f := V) (m := 1) (ys := [a0]) rfl rfl rfl false (by have := HNUM.out; omega) (by have := HNUM.out; omega) (by have := HNUM.out; omega) (-1) (fun k => (n : Int) ≤ k ∧ k < (n : Int) + 1) (0) (0) (0) (by have := HNUM.out; intro k; (try dsimp only); omega) (fun k h1 h2 h3 h4 h5 h6 => by exfalso; have := HNUM.out; (try dsimp only at h6); omega) (.inr ⟨.inl rfl, rfl⟩) (by have := HNUM.out; omega) (by have := HNUM.out; intro k; (try dsimp only); omega) (by have := HNUM.out; omega)).mono ?_
  rintro e w102 ⟨rfl, F102, hx, -⟩
  have HY9 := Lib.hid hx
  clear hx HX
  have HX := HY9
  clear HY9
  go_wp2_with fail
  refine (HX.out.putLit (f := -1) (m := 2) (ys := [a0, a1]) rfl rfl rfl false (by have := HNUM.out; omega) (by have := HNUM.out; omega) (by have := HNUM.out; omega) (-1) (fun k => k = (n : Int) ∨ k = 0) (0) (min (n : Int) 1) (min (n : Int) 1) (by have := HNUM.out; intro k; (try dsimp only); omega) hyB.out (.inr ⟨.inl rfl, rfl⟩) (by have := HNUM.out; omega) (by have := HNUM.out; intro k; (try dsimp only); omega) (by have := HNUM.out; omega)).mono ?_
  rintro e w103 ⟨rfl, F103, hx, -⟩
  have HY9 := Lib.hid hx
  clear hx HX
  have HX := HY9
  clear HY9
  go_wp2_with fail
  refine (HX.out.putNil true (by have := HNUM.out; omega) (by have := HNUM.out; omega) (-1) (.inr ⟨.inr (.inr (.inr (.inr ⟨(n : Int), by omega, .inl rfl⟩))), rfl⟩)).mono ?_
  rintro e w104 ⟨rfl, F104, hx, -⟩
  have HY9 := Lib.hid hx
  clear hx HX
  have HX := HY9
  clear HY9
  go_wp2_with fail
  refine (HX.out.putNil true (by have := HNUM.out; omega) (by have := HNUM.out; omega) (K : Int) (.inl ⟨rfl, by omega, (by have := HNUM.out; omega), (by have := HNUM.out; omega), (by have := HNUM.out; intro j; (try dsimp only); omega), rfl⟩)).mono ?_
  rintro e w105 ⟨rfl, F105, hx, -⟩
  have HY9 := Lib.hid hx
  clear hx HX
  have HX := HY9
  clear HY9
  go_wp2_with fail
  refine (HX.out.putLit (f := (n : Int) + 2) (m := 1) (ys := [9]) rfl rfl rfl true (by have := HNUM.out; omega) (by have := HNUM.out; omega) (by have := HNUM.out; omega) (K) (fun k => k = (n : Int) ∨ k = 0) (0) (0) (0) (by have := HNUM.out; intro k; (try dsimp only); omega) (fun k h1 h2 h3 h4 h5 h6 => by exfalso; have := HNUM.out; (try dsimp only at h6); omega) (.inr ⟨.inr (.inl (by omega)), rfl⟩) (by have := HNUM.out; omega) (by have := HNUM.out; intro k; (try dsimp only); omega) (by have := HNUM.out; omega)).mono ?_
  rintro e w106 ⟨rfl, F106, hx, -⟩
  have HY9 := Lib.hid hx
  clear hx HX
  have HX := HY9
  clear HY9
  go_wp2_with fail
  refine (HX.out.putLit (f := K) (m := 1) (ys := [9]) rfl rfl rfl false (by have := HNUM.out; omega) (by have := HNUM.out; omega) (by have := HNUM.out; omega) (K) (fun k => k = (n : Int) ∨ k = 0) (0) (0) (0) (by have := HNUM.out; intro k; (try dsimp only); omega) (fun k h1 h2 h3 h4 h5 h6 => by exfalso; have := HNUM.out; (try dsimp only at h6); omega) (.inr ⟨.inl rfl, rfl⟩) (by have := HNUM.out; omega) (by have := HNUM.out; intro k; (try dsimp only); omega) (by have := HNUM.out; omega)).mono ?_
  rintro e w107 ⟨rfl, F107, hx, -⟩
  have HY9 := Lib.hid hx
  clear hx HX
  have HX := HY9
  clear HY9
  go_wp2_with fail
  have HL0 : Hid (∃ F, WV W w107 p F V 0 (K : Int) (fun j => j = (n : Int) ∨ j = 0 ∨ (0 ≤ j ∧ j < ((0 : Nat) : Int))) xs) := Lib.hid ⟨_, HX.out.congr (by have := HNUM.out; intro k; (try dsimp only); omega)⟩
  clear HX hyA hyB
  go_loopw [10] (fun kv wr => ∃ k : Nat, k ≤ n ∧ kv = .int .i64 k ∧ Hid (∃ F, WV W wr p F V 0 (K : Int) (fun j => j = (n : Int) ∨ j = 0 ∨ (0 ≤ j ∧ j < (k : Int))) xs)) (fun kv _ => n - (intOf kv).toNat)
  case atStart => exact ⟨0, by omega, rfl, HL0⟩
  case round =>
    clear HL0
    obtain ⟨i, hi, rfl, hmid⟩ := hrel
    by_cases hin : i < n
    · obtain ⟨F, hx⟩ := hmid.out
      have HX := Lib.hid hx
      have HI := Lib.hid hin
      have i1 : (i : Int) < (n : Int) := by omega
      have HIW := Lib.hid (show wrap64 ((i : Int) + 1) = ((i + 1 : Nat) : Int) from wrap_at (by omega) (by have := HNUM.out; omega) (by have := HNUM.out; omega))
      have hyC : Hid (∀ k : Int, (i : Int) ≤ k → k < (i : Int) + ((1 : Nat) : Int) → 0 ≤ k → k < 0 + V → ((K : Int) < 0 ∨ k < (K : Int)) → ¬ (k = (n : Int) ∨ k = 0 ∨ (0 ≤ k ∧ k < (i : Int))) → [a1].getD (k - (i : Int)).toNat 0 = xs.getD k.toNat 0) := Lib.hid fun k h1 h2 h3 _ _ _ => by
        have e : k = (i : Int) := by omega
        rw [HXB.out k h3 (by omega), e, Int.sub_self]
        rfl
      clear hx hmid hi hin
      go_wp2_with fail
      refine (HX.out.putLit (f := (i : Int)) (m := 1) (ys := [a1]) rfl rfl rfl false (by have := HNUM.out; have := HI.out; omega) (by have := HNUM.out; have := HI.out; omega) (by have := HNUM.out; have := HI.out; omega) (K) (fun j => j = (n : Int) ∨ j = 0 ∨ (0 ≤ j ∧ j < ((i + 1 : Nat) : Int))) ((i : Int)) (min ((i : Int) + 1) (2 * (i : Int))) (min ((i : Int) + 1) (2 * (i : Int)) - (i : Int)) (by have := HNUM.out; have := HI.out; intro k; (try dsimp only); omega) hyC.out (.inr ⟨.inl rfl, rfl⟩) (by have := HNUM.out; have := HI.out; omega) (by have := HNUM.out; have := HI.out; intro k; (try dsimp only); omega) (by have := HNUM.out; have := HI.out; omega)).mono ?_
      rintro e w108 ⟨rfl, F108, hx, -⟩
      have HY9 := Lib.hid hx
      clear hx HX
      have HX := HY9
      clear HY9
      clear hyC
      go_wp2
      go_roundw
      case rel => exact ⟨i + 1, by have := HI.out; omega, by first | rfl | (rw [HIW.out]) | go_num, Lib.hid ⟨_, HX.out⟩⟩
      case measure => (try rw [HIW.out]); have := HI.out; simp [intOf]; omega
    · have : i = n := by omega
      subst this
      obtain ⟨F, hx⟩ := hmid.out
      have HX := Lib.hid (hx.congr (P' := fun j => 0 ≤ j ∧ j < (K : Int)) (by have := HNUM.out; intro k; (try dsimp only); omega))
      have j1 : ¬ ((i : Int) < (i : Int)) := by omega
      clear hx hmid hi hin
      have kk : Hid ((K : Int) = (i : Int) + 1) := Lib.hid (by have := HNUM.out; omega)
      have kl : (i : Int) < (K : Int) := by have := kk.out; omega
      go_wp2_with fail
      refine (HX.out.read V K 0 K (by have := HNUM.out; omega) (by have := HNUM.out; intro k; (try dsimp only); omega) (by have := HNUM.out; (try dsimp only); omega) rfl (by have := HNUM.out; omega) (by have := HNUM.out; omega) (by rw [HXL.out]; omega) (K : Int) (by omega)).mono ?_
      rintro e w170 ⟨A9, c9, rfl, ho, hx, -⟩
      rw [show (xs.drop 0).take K = xs by rw [List.drop_zero, List.take_of_length_le (by rw [HXL.out]; omega)]] at ho
      obtain ⟨g9, rfl, -, -, -, hcell, -⟩ := ho.block (by have := HNUM.out; omega)
      have HY9 := Lib.hid hx
      clear hx HX
      have HX := HY9
      clear HY9
      have y1 := hcell i (by have := HNUM.out; omega)
      rw [HXA.out] at y1
      by_cases hi0 : i = 0
      · subst hi0
        clear hcell ho
        go_wp2_with fail
        refine (HX.out.done true (decide_eq_true (by have := HNUM.out; omega)).symm).mono ?_
        rintro e w109 ⟨rfl, hb⟩
        have HY9 := Lib.hid (HX.out.later hb)
        clear HX
        have HX := HY9
        clear HY9
        clear hb
        go_wp2_with fail
        refine (HX.out.seen K (((0 : Nat) : Int) + 2) (by have := HNUM.out; omega) (by have := HNUM.out; intro k; (try dsimp only); omega) (by have := HNUM.out; (try dsimp only); omega) (by have := HNUM.out; omega) (.inl ⟨rfl, (by have := HNUM.out; omega)⟩)).mono ?_
        rintro e w110 ⟨rfl, hb⟩
        have HY9 := Lib.hid (HX.out.later hb)
        clear HX
        have HX := HY9
        clear HY9
        clear hb
        go_wp2_with fail
        refine (wakesI_any _).mono ?_
        rintro e w160 ⟨rfl, hb⟩
        have HFIN := Lib.hid (HX.out.later hb).bel
        clear hb HX
        go_wp2
        go_ret
        exact ⟨rfl, HFIN.out⟩
      · have y0 := hcell 0 (by have := HNUM.out; omega)
        rw [show (0 : Nat) = (0 : Int).toNat from rfl, HXB.out 0 (by omega) (by omega)] at y0
        have y0b : w170.cell? ⟨g9, 0, none⟩ = some (.int .u8 a1) := y0
        have hi1 : ¬ ((i : Int) = 0) := by omega
        have k0 : (0 : Int) < (K : Int) := by have := kk.out; omega
        clear hcell ho y0
        go_wp2_with fail
        refine (HX.out.done true (decide_eq_true (by have := HNUM.out; omega)).symm).mono ?_
        rintro e w111 ⟨rfl, hb⟩
        have HY9 := Lib.hid (HX.out.later hb)
        clear HX
        have HX := HY9
        clear HY9
        clear hb
        go_wp2_with fail
        refine (HX.out.seen K ((i : Int) + 2) (by have := HNUM.out; omega) (by have := HNUM.out; intro k; (try dsimp only); omega) (by have := HNUM.out; (try dsimp only); omega) (by have := HNUM.out; omega) (.inl ⟨rfl, (by have := HNUM.out; omega)⟩)).mono ?_
        rintro e w112 ⟨rfl, hb⟩
        have HY9 := Lib.hid (HX.out.later hb)
        clear HX
        have HX := HY9
        clear HY9
        clear hb
        go_wp2_with fail
        refine (wakesI_any _).mono ?_
        rintro e w160 ⟨rfl, hb⟩
        have HFIN := Lib.hid (HX.out.later hb).bel
        clear hb HX
        go_wp2
        go_ret
        exact ⟨rfl, HFIN.out⟩
end Go.Proofs.Ytlljfinagjdihaa

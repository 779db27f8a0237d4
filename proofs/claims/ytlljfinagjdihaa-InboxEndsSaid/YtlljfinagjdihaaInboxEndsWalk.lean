/-
  The walk of InboxEnds.
-/
import Derived.Test.YtlljfinagjdihaaInMid3
import Derived.Test.YtlljfinagjdihaaWithin
namespace Go.Proofs.Ytlljfinagjdihaa
open Go.RowKit

set_option maxRecDepth 100000 in
set_option maxHeartbeats 4000000 in
theorem inboxEnds_walk (a0 : Int) (W : World) :
    Calls Try.prog 5 #[.int .i64 a0] W fun e W' => e = .returned (.bool true) ∧ Below W.heap.size W W' := by
  have q0 := Int.emod_nonneg a0 (show (50 : Int) ≠ 0 by omega)
  have q1 := Int.emod_lt_of_pos a0 (show (0 : Int) < 50 by omega)
  have HW0 := Lib.hid (fun w => within_any a0 50 w (by omega) (by omega))
  obtain ⟨z0, hz0⟩ : ∃ z : Int, a0 % 50 = z := ⟨_, rfl⟩
  rw [hz0] at HW0 q0 q1
  obtain ⟨n, hn⟩ : ∃ n : Int, 1 + z0 = n := ⟨_, rfl⟩
  have HWN := Lib.hid (show wrap64 (1 + z0) = n from wrap_at hn (by omega) (by omega))
  have HNG := Lib.hid (show wrap64 (-n) = -n from wrap_at rfl (by omega) (by omega))
  have HPL := Lib.hid (show wrap64 (4096 + n) = 4096 + n from wrap_at rfl (by omega) (by omega))
  have HNUM := Lib.hid (show 1 ≤ n ∧ n ≤ 50 by omega)
  have HNI := Lib.hid (wv_new (W := 10) 10 [7, 8, 9, 1, 2, 1] W rfl)
  have HNJ := Lib.hid (fun w => wv_new (W := 10) 10 [] w rfl)
  clear q0 q1 hz0 hn
  go_enter Try.func5, Try.ntmps5
  go_wp2_with fail
  refine (HW0.out _).mono ?_
  rintro e w0 ⟨rfl, rfl⟩
  clear HW0
  go_wp2_with fail
  try rw [HWN.out]
  refine HNI.out.mono ?_
  rintro e w1 ⟨p, F, rfl, hx⟩
  have HX := Lib.hid hx
  clear hx HNI
  go_wp2_with fail
  refine (HNJ.out _).mono ?_
  rintro e w2 ⟨p2, G, rfl, hy⟩
  have HS := Lib.hid (show Sep G F from fun k hg hf => by have := (hy.foot k hg).1; have := (HX.out.foot k hf).2; omega)
  have HJ := Lib.hid (hy.base HX.out.bel)
  have HX9 := Lib.hid (HX.out.later hy.bel)
  clear HX hy HNJ
  have HX := HX9
  clear HX9
  have hng := HNG.out
  have hpl := HPL.out
  have hwn := HWN.out
  go_wp2_with fail
  refine (HX.out.putNil true (by have := HNUM.out; omega) (by omega) (-1) (.inr ⟨.inr (.inr (.inl (by have := HNUM.out; omega))), rfl⟩)).mono ?_
  rintro e w101 ⟨rfl, F101, hx, hsc⟩
  have HY9 := Lib.hid hx
  have hj9 := HJ.out.other hsc HS.out (fun k hk => (HX.out.foot k hk).1)
  have HJ9 := Lib.hid hj9.1
  have HS9 := Lib.hid hj9.2
  clear hj9 HJ HS hsc
  have HJ := HJ9
  have HS := HS9
  clear HJ9 HS9
  clear hx HX
  have HX := HY9
  clear HY9
  go_wp2_with fail
  refine (HX.out.putNil true (by have := HNUM.out; omega) (by omega) (-1) (.inr ⟨.inr (.inr (.inr (.inl (by have := HNUM.out; omega)))), rfl⟩)).mono ?_
  rintro e w102 ⟨rfl, F102, hx, hsc⟩
  have HY9 := Lib.hid hx
  have hj9 := HJ.out.other hsc HS.out (fun k hk => (HX.out.foot k hk).1)
  have HJ9 := Lib.hid hj9.1
  have HS9 := Lib.hid hj9.2
  clear hj9 HJ HS hsc
  have HJ := HJ9
  have HS := HS9
  clear HJ9 HS9
  clear hx HX
  have HX := HY9
  clear HY9
  go_wp2_with fail
  refine (HX.out.done false (by decide)).mono ?_
  rintro e w103 ⟨rfl, hb⟩
  have HY9 := Lib.hid (HX.out.later hb)
  clear HX
  have HX := HY9
  clear HY9
  have HY9 := Lib.hid (HJ.out.later hb)
  clear HJ
  have HJ := HY9
  clear HY9
  clear hb
  go_wp2_with fail
  refine (HX.out.seen 0 0 (by omega) (by have := HNUM.out; intro k; (try dsimp only); omega) (by have := HNUM.out; (try dsimp only); omega) (by omega) (by omega)).mono ?_
  rintro e w104 ⟨rfl, hb⟩
  have HY9 := Lib.hid (HX.out.later hb)
  clear HX
  have HX := HY9
  clear HY9
  have HY9 := Lib.hid (HJ.out.later hb)
  clear HJ
  have HJ := HY9
  clear HY9
  clear hb
  go_wp2_with fail
  refine (HX.out.putLit (f := 5) (m := 1) (ys := [1]) rfl rfl rfl false (by have := HNUM.out; omega) (by have := HNUM.out; omega) (by have := HNUM.out; omega) (-1) (fun k => 5 ≤ k ∧ k < 6) (5) (6) (1) (by have := HNUM.out; intro k; (try dsimp only); omega) (fun k h1 h2 _ _ _ _ => getD_lit [1] [7, 8, 9, 1, 2, 1] 5 (by decide) k h1 h2) (.inr ⟨.inl rfl, rfl⟩) (by have := HNUM.out; omega) (by have := HNUM.out; intro k; (try dsimp only); omega) (by have := HNUM.out; omega)).mono ?_
  rintro e w105 ⟨rfl, F105, hx, hsc⟩
  have HY9 := Lib.hid hx
  have hj9 := HJ.out.other hsc HS.out (fun k hk => (HX.out.foot k hk).1)
  have HJ9 := Lib.hid hj9.1
  have HS9 := Lib.hid hj9.2
  clear hj9 HJ HS hsc
  have HJ := HJ9
  have HS := HS9
  clear HJ9 HS9
  clear hx HX
  have HX := HY9
  clear HY9
  go_wp2_with fail
  refine (HX.out.putNil true (by omega) (by omega) (-1) (.inr ⟨.inr (.inr (.inr (.inr ⟨5, by omega, by (try dsimp only); omega⟩))), rfl⟩)).mono ?_
  rintro e w106 ⟨rfl, F106, hx, hsc⟩
  have HY9 := Lib.hid hx
  have hj9 := HJ.out.other hsc HS.out (fun k hk => (HX.out.foot k hk).1)
  have HJ9 := Lib.hid hj9.1
  have HS9 := Lib.hid hj9.2
  clear hj9 HJ HS hsc
  have HJ := HJ9
  have HS := HS9
  clear HJ9 HS9
  clear hx HX
  have HX := HY9
  clear HY9
  go_wp2_with fail
  refine (HX.out.putLit (f := 3) (m := 2) (ys := [1, 2]) rfl rfl rfl true (by have := HNUM.out; omega) (by have := HNUM.out; omega) (by have := HNUM.out; omega) (-1) (fun k => 3 ≤ k ∧ k < 6) (3) (5) (2) (by have := HNUM.out; intro k; (try dsimp only); omega) (fun k h1 h2 _ _ _ _ => getD_lit [1, 2] [7, 8, 9, 1, 2, 1] 3 (by decide) k h1 h2) (.inr ⟨.inr (.inr (.inr (.inr ⟨5, by omega, by (try dsimp only); omega⟩))), rfl⟩) (by have := HNUM.out; omega) (by have := HNUM.out; intro k; (try dsimp only); omega) (by have := HNUM.out; omega)).mono ?_
  rintro e w107 ⟨rfl, F107, hx, hsc⟩
  have HY9 := Lib.hid hx
  have hj9 := HJ.out.other hsc HS.out (fun k hk => (HX.out.foot k hk).1)
  have HJ9 := Lib.hid hj9.1
  have HS9 := Lib.hid hj9.2
  clear hj9 HJ HS hsc
  have HJ := HJ9
  have HS := HS9
  clear HJ9 HS9
  clear hx HX
  have HX := HY9
  clear HY9
  go_wp2_with fail
  refine (HX.out.done false (by decide)).mono ?_
  rintro e w108 ⟨rfl, hb⟩
  have HY9 := Lib.hid (HX.out.later hb)
  clear HX
  have HX := HY9
  clear HY9
  have HY9 := Lib.hid (HJ.out.later hb)
  clear HJ
  have HJ := HY9
  clear HY9
  clear hb
  go_wp2_with fail
  refine (HX.out.seen 0 0 (by omega) (by have := HNUM.out; intro k; (try dsimp only); omega) (by have := HNUM.out; (try dsimp only); omega) (by omega) (by omega)).mono ?_
  rintro e w109 ⟨rfl, hb⟩
  have HY9 := Lib.hid (HX.out.later hb)
  clear HX
  have HX := HY9
  clear HY9
  have HY9 := Lib.hid (HJ.out.later hb)
  clear HJ
  have HJ := HY9
  clear HY9
  clear hb
  go_wp2_with fail
  refine (HX.out.putLit (f := 0) (m := 3) (ys := [7, 8, 9]) rfl rfl rfl false (by have := HNUM.out; omega) (by have := HNUM.out; omega) (by have := HNUM.out; omega) (-1) (fun k => 0 ≤ k ∧ k < 6) (0) (3) (3) (by have := HNUM.out; intro k; (try dsimp only); omega) (fun k h1 h2 _ _ _ _ => getD_lit [7, 8, 9] [7, 8, 9, 1, 2, 1] 0 (by decide) k h1 h2) (.inr ⟨.inl rfl, rfl⟩) (by have := HNUM.out; omega) (by have := HNUM.out; intro k; (try dsimp only); omega) (by have := HNUM.out; omega)).mono ?_
  rintro e w110 ⟨rfl, F110, hx, hsc⟩
  have HY9 := Lib.hid hx
  have hj9 := HJ.out.other hsc HS.out (fun k hk => (HX.out.foot k hk).1)
  have HJ9 := Lib.hid hj9.1
  have HS9 := Lib.hid hj9.2
  clear hj9 HJ HS hsc
  have HJ := HJ9
  have HS := HS9
  clear HJ9 HS9
  clear hx HX
  have HX := HY9
  clear HY9
  go_wp2_with fail
  refine (HX.out.seen 6 6 (by omega) (by have := HNUM.out; intro k; (try dsimp only); omega) (by have := HNUM.out; (try dsimp only); omega) (by omega) (by omega)).mono ?_
  rintro e w111 ⟨rfl, hb⟩
  have HY9 := Lib.hid (HX.out.later hb)
  clear HX
  have HX := HY9
  clear HY9
  have HY9 := Lib.hid (HJ.out.later hb)
  clear HJ
  have HJ := HY9
  clear HY9
  clear hb
  go_wp2_with fail
  refine (HX.out.putNil true (by omega) (by omega) 6 (.inl ⟨rfl, by omega, by omega, by omega, (by have := HNUM.out; intro j; (try dsimp only); omega), rfl⟩)).mono ?_
  rintro e w112 ⟨rfl, F112, hx, hsc⟩
  have HY9 := Lib.hid hx
  have hj9 := HJ.out.other hsc HS.out (fun k hk => (HX.out.foot k hk).1)
  have HJ9 := Lib.hid hj9.1
  have HS9 := Lib.hid hj9.2
  clear hj9 HJ HS hsc
  have HJ := HJ9
  have HS := HS9
  clear HJ9 HS9
  clear hx HX
  have HX := HY9
  clear HY9
  go_wp2_with fail
  refine (HX.out.seen 6 7 (by omega) (by have := HNUM.out; intro k; (try dsimp only); omega) (by have := HNUM.out; (try dsimp only); omega) (by omega) (by omega)).mono ?_
  rintro e w113 ⟨rfl, hb⟩
  have HY9 := Lib.hid (HX.out.later hb)
  clear HX
  have HX := HY9
  clear HY9
  have HY9 := Lib.hid (HJ.out.later hb)
  clear HJ
  have HJ := HY9
  clear HY9
  clear hb
  go_wp2_with fail
  refine (HX.out.putLit (f := 6) (m := 1) (ys := [1]) rfl rfl rfl false (by have := HNUM.out; omega) (by have := HNUM.out; omega) (by have := HNUM.out; omega) (6) (fun k => 0 ≤ k ∧ k < 6) (0) (0) (0) (by have := HNUM.out; intro k; (try dsimp only); omega) (fun k h1 h2 h3 h4 h5 h6 => by exfalso; have := HNUM.out; (try dsimp only at h6); omega) (.inr ⟨.inl rfl, rfl⟩) (by have := HNUM.out; omega) (by have := HNUM.out; intro k; (try dsimp only); omega) (by have := HNUM.out; omega)).mono ?_
  rintro e w114 ⟨rfl, F114, hx, hsc⟩
  have HY9 := Lib.hid hx
  have hj9 := HJ.out.other hsc HS.out (fun k hk => (HX.out.foot k hk).1)
  have HJ9 := Lib.hid hj9.1
  have HS9 := Lib.hid hj9.2
  clear hj9 HJ HS hsc
  have HJ := HJ9
  have HS := HS9
  clear HJ9 HS9
  clear hx HX
  have HX := HY9
  clear HY9
  go_wp2_with fail
  refine (HJ.out.putNil true (by omega) (by omega) 0 (.inl ⟨rfl, by omega, by omega, by omega, (by have := HNUM.out; intro j; (try dsimp only); omega), rfl⟩)).mono ?_
  rintro e w115 ⟨rfl, F115, hx, hsc⟩
  have HY9 := Lib.hid hx
  have hj9 := HX.out.other hsc HS.out.symm (fun k hk => (HJ.out.foot k hk).1)
  have HX9 := Lib.hid hj9.1
  have HS9 := Lib.hid hj9.2.symm
  clear hj9 HX HS hsc
  have HX := HX9
  have HS := HS9
  clear HX9 HS9
  clear hx HJ
  have HJ := HY9
  clear HY9
  go_wp2_with fail
  refine (HJ.out.done true (by decide)).mono ?_
  rintro e w116 ⟨rfl, hb⟩
  have HY9 := Lib.hid (HJ.out.later hb)
  clear HJ
  have HJ := HY9
  clear HY9
  have HY9 := Lib.hid (HX.out.later hb)
  clear HX
  have HX := HY9
  clear HY9
  clear hb
  go_wp2_with fail
  refine (HJ.out.seen 0 1 (by omega) (by have := HNUM.out; intro k; (try dsimp only); omega) (by have := HNUM.out; (try dsimp only); omega) (by omega) (by omega)).mono ?_
  rintro e w117 ⟨rfl, hb⟩
  have HY9 := Lib.hid (HJ.out.later hb)
  clear HJ
  have HJ := HY9
  clear HY9
  have HY9 := Lib.hid (HX.out.later hb)
  clear HX
  have HX := HY9
  clear HY9
  clear hb
  go_wp2_with fail
  refine (HJ.out.putLit (f := 0) (m := 1) (ys := [1]) rfl rfl rfl false (by have := HNUM.out; omega) (by have := HNUM.out; omega) (by have := HNUM.out; omega) (0) (fun k => 0 ≤ k ∧ k < 0) (0) (0) (0) (by have := HNUM.out; intro k; (try dsimp only); omega) (fun k h1 h2 h3 h4 h5 h6 => by exfalso; have := HNUM.out; (try dsimp only at h6); omega) (.inr ⟨.inl rfl, rfl⟩) (by have := HNUM.out; omega) (by have := HNUM.out; intro k; (try dsimp only); omega) (by have := HNUM.out; omega)).mono ?_
  rintro e w118 ⟨rfl, F118, hx, hsc⟩
  have HY9 := Lib.hid hx
  have hj9 := HX.out.other hsc HS.out.symm (fun k hk => (HJ.out.foot k hk).1)
  have HX9 := Lib.hid hj9.1
  have HS9 := Lib.hid hj9.2.symm
  clear hj9 HX HS hsc
  have HX := HX9
  have HS := HS9
  clear HX9 HS9
  clear hx HJ
  have HJ := HY9
  clear HY9
  go_wp2_with fail
  refine (HJ.out.read 5 0 0 0 (by omega) (by have := HNUM.out; intro k; (try dsimp only); omega) (by have := HNUM.out; (try dsimp only); omega) rfl (by decide) (by omega) (by decide) 0 rfl).mono ?_
  rintro e w150 ⟨A9, c9, rfl, -, -, hsc⟩
  have HX9 := Lib.hid (HX.out.other hsc HS.out.symm (fun k hk => (HJ.out.foot k hk).1)).1
  clear HX HJ HS hsc
  have HX := HX9
  clear HX9
  go_wp2_with fail
  refine (HX.out.read 9 6 0 6 (by omega) (by have := HNUM.out; intro k; (try dsimp only); omega) (by have := HNUM.out; (try dsimp only); omega) rfl (by decide) (by omega) (by decide) 6 rfl).mono ?_
  rintro e w151 ⟨A8, c8, rfl, ho, hx, -⟩
  have HY9 := Lib.hid hx
  have HO := Lib.hid ho
  clear hx ho HX
  have HX := HY9
  clear HY9
  go_wp2_with fail
  refine (same_true [7, 8, 9, 1, 2, 1] rfl rfl (HO.out.rd.alloc _) (Rd.newM w151 [7, 8, 9, 1, 2, 1] _ _) (by unfold maxLen; decide)).mono ?_
  rintro e w152 ⟨rfl, k6, rfl⟩
  have HY9 := Lib.hid ((HX.out.later ((Below.refl _ _).alloc (Nat.le_refl _) (.cells (bts [7, 8, 9, 1, 2, 1]) 5))).later (below_drewN _ k6))
  clear HX HO
  have HX := HY9
  clear HY9
  go_wp2_with fail
  refine (HX.out.done true (by decide)).mono ?_
  rintro e w119 ⟨rfl, hb⟩
  have HY9 := Lib.hid (HX.out.later hb)
  clear HX
  have HX := HY9
  clear HY9
  clear hb
  go_wp2_with fail
  refine (wakesI_any _).mono ?_
  rintro e w160 ⟨rfl, hb⟩
  have HFIN := Lib.hid (HX.out.later hb).bel
  clear hb HX
  go_wp2
  go_ret
  exact ⟨rfl, HFIN.out⟩
end Go.Proofs.Ytlljfinagjdihaa

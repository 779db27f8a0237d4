/-
  The walk of InboxWhole.
-/
import Derived.Test.YtlljfinagjdihaaInWhole
import Derived.Test.YtlljfinagjdihaaWithin
import Derived.Deep.DeepCutAuto
import Derived.Deep.CutBlock
import Derived.Lib.AppendZerosOnto
namespace Go.Proofs.Ytlljfinagjdihaa
open Go.RowKit

theorem mod_20 (x : Int) : ∃ r : Nat, x % 20 = (r : Int) ∧ r < 20 := ⟨(x % 20).toNat, by omega, by omega⟩

set_option maxRecDepth 100000 in
set_option maxHeartbeats 8000000 in
theorem inboxWhole_walk (a0 : Option Addr) (len0 cap0 : Nat) (z0 : List Int) (a1 a2 : Int) (a3 : Option Addr) (len3 cap3 : Nat) (z3 : List Int) (W : World) (h0 : ArgI .u8 1 W a0 len0 cap0 z0) (h3 : ArgI .i64 8 W a3 len3 cap3 z3) :
    Calls Try.prog 7 #[.slice a0 len0 cap0, .int .i64 a1, .int .i64 a2, .slice a3 len3 cap3] W fun e W' => e = .returned (.bool true) ∧ Below W.heap.size W W' := by
  have hre0 := h0.reach
  have hle0 := h0.le
  have hre3 := h3.reach
  have hle3 := h3.le
  have HC := Lib.hid (Go.Proofs.Ytlljfinagjdihaa.cut_any a0 len0 cap0 60 z0 W h0.len h0.le h0.rd (by omega) (by omega) (by omega))
  obtain ⟨b, hb⟩ : ∃ xs, z0.take 60 = xs := ⟨_, rfl⟩
  have n1 : b.length ≤ 60 := by rw [← hb]; exact List.length_take_le _ _
  obtain ⟨N, hN⟩ : ∃ n, b.length = n := ⟨_, rfl⟩
  rw [hN] at n1
  rw [show (60 : Int).toNat = 60 from rfl, hb, hN] at HC
  have HBL := Lib.hid hN
  -- order's numbers
  have HORD := Lib.hid (show ∀ (w : World), Below W.heap.size W w → ∀ i, i < len3 → ∃ g o x, a3 = some ⟨g, o, none⟩ ∧ w.cell? ⟨g, o + i, none⟩ = some (.int .i64 x) from fun w hw i hi => by
    obtain ⟨g, o, rfl, hc⟩ := (h3.rd.later hw).some_ (by rw [h3.len]; omega)
    exact ⟨g, o, _, rfl, hc i (by rw [h3.len]; exact hi)⟩)
  have HL3 := Lib.hid (show len3 ≤ 140737488351232 by omega)
  -- the numbers
  have q0 := Int.emod_nonneg a1 (show (40 : Int) ≠ 0 by omega)
  have q1 := Int.emod_lt_of_pos a1 (show (0 : Int) < 40 by omega)
  have HW0 := Lib.hid (fun w => within_any a1 40 w (by omega) (by omega))
  obtain ⟨y0, hy0⟩ : ∃ z : Int, a1 % 40 = z := ⟨_, rfl⟩
  rw [hy0] at HW0 q0 q1
  obtain ⟨V, hV⟩ : ∃ V : Nat, 1 + y0 = (V : Int) := ⟨(1 + y0).toNat, by omega⟩
  have HWV := Lib.hid (show wrap64 (1 + y0) = (V : Int) from wrap_at hV (by omega) (by omega))
  have r0 := Int.emod_nonneg a2 (show (12 : Int) ≠ 0 by omega)
  have r1 := Int.emod_lt_of_pos a2 (show (0 : Int) < 12 by omega)
  have HW1 := Lib.hid (fun w => within_any a2 12 w (by omega) (by omega))
  obtain ⟨y1, hy1⟩ : ∃ z : Int, a2 % 12 = z := ⟨_, rfl⟩
  rw [hy1] at HW1 r0 r1
  obtain ⟨C, hC⟩ : ∃ C : Nat, 1 + y1 = (C : Int) := ⟨(1 + y1).toNat, by omega⟩
  have HWC := Lib.hid (show wrap64 (1 + y1) = (C : Int) from wrap_at hC (by omega) (by omega))
  have c0 : ¬ (C = 0) := by omega
  obtain ⟨Q, hQ⟩ : ∃ Q : Nat, N / C = Q := ⟨_, rfl⟩
  have hQ1 : Q * C ≤ N := by rw [← hQ]; exact Nat.div_mul_le_self N C
  have hQ2 : N < (Q + 1) * C := by rw [← hQ, Nat.add_mul, Nat.one_mul]; exact Nat.lt_div_mul_add (by omega)
  have hQN : Q ≤ 60 := by rw [← hQ]; exact Nat.le_trans (Nat.div_le_self N C) n1
  have HQD := Lib.hid (show (N : Int).tdiv (C : Int) = (Q : Int) by rw [Int.tdiv_eq_ediv_of_nonneg (by omega), ← hQ]; exact (Int.natCast_ediv N C).symm)
  obtain ⟨M, hM⟩ : ∃ M : Nat, M = Q + 1 := ⟨_, rfl⟩
  have HWQ := Lib.hid (show wrap64 (Q : Int) = (Q : Int) from wrap_at rfl (by omega) (by omega))
  have HWM := Lib.hid (show wrap64 ((Q : Int) + 1) = (M : Int) from wrap_at (by omega) (by omega) (by omega))
  have HWN1 := Lib.hid (show wrap64 ((N : Int) + 1) = (N : Int) + 1 from wrap_at rfl (by omega) (by omega))
  have HMUL := Lib.hid (show ∀ k, k < M → k * C ≤ N from fun k hk => Nat.le_trans (Nat.mul_le_mul_right C (by omega)) hQ1)
  have HMC := Lib.hid (show N < M * C by rw [hM]; exact hQ2)
  have HNUM := Lib.hid (show N ≤ 60 ∧ 1 ≤ V ∧ V ≤ 40 ∧ 1 ≤ C ∧ C ≤ 12 ∧ 1 ≤ M ∧ M ≤ 61 by omega)
  have HWI := Lib.hid (show ∀ (x : Int) (w : World), ∃ k : Nat, k < M ∧ Calls Try.prog 9 #[.int .i64 x, .int .i64 (M : Int)] w fun e w' => e = .returned (.int .i64 (k : Int)) ∧ w = w' from fun x w => by
    have h1 := within_any x (M : Int) w (by omega) (by omega)
    have s0 := Int.emod_nonneg x (show (M : Int) ≠ 0 by omega)
    have s1 := Int.emod_lt_of_pos x (show (0 : Int) < (M : Int) by omega)
    obtain ⟨k, hk⟩ : ∃ k : Nat, x % (M : Int) = (k : Int) := ⟨(x % (M : Int)).toNat, by omega⟩
    rw [hk] at h1
    exact ⟨k, by omega, h1⟩)
  have HNI := Lib.hid (fun w => wv_new (V : Int) b w (show min (max (V : Int) 1) 400 = (V : Int) by omega))
  clear hre0 hle0 hre3 hle3 hb n1 hN q0 q1 hy0 hV r0 r1 hy1 hC hQ hQ1 hQ2 hQN hM h0 h3
  go_enter Try.func7, Try.ntmps7
  go_wp2_with fail
  refine HC.out.mono ?_
  rintro e w1 ⟨A2, c2, rfl, ho, hb1⟩
  have HCAP := Lib.hid ho.cap
  have HRB := Lib.hid ho.rd
  have HB1 := Lib.hid hb1
  clear ho hb1 HC
  go_wp2_with fail
  refine (HW0.out _).mono ?_
  rintro e w9 ⟨rfl, rfl⟩
  clear HW0
  go_wp2_with fail
  refine (HW1.out _).mono ?_
  rintro e w9 ⟨rfl, rfl⟩
  clear HW1
  go_wp2_with fail
  rw [HWV.out, HWC.out]
  refine (HNI.out _).mono ?_
  rintro e w2 ⟨p, F, rfl, hx⟩
  have HG0 : Hid (∃ F e P, WG w1 w2 p F V 0 e P b N none 0) := Lib.hid ⟨_, _, _, WG.start hx HBL.out (by have := HNUM.out; omega)⟩
  clear hx HNI
  have hqd := HQD.out
  go_upto_block 0 with (fail)
  rw [HWQ.out, HWM.out]
  clear hqd
  go_cut [11] (fun gv wx => ∃ wz, wz = wx ∧ ∃ (T : Nat) (GA : Option Addr) (Gc : Nat), gv = .slice GA T Gc ∧ Hid (∃ F e P, WG w1 wz p F V T e P b N GA Gc))
  case first =>
    go_wp2_with fail
    go_loopw [12, 11] (fun kv gv wr => ∃ (k T : Nat) (GA : Option Addr) (Gc : Nat), k ≤ 30 ∧ kv = .int .i64 k ∧ gv = .slice GA T Gc ∧ Hid (∃ F e P, WG w1 wr p F V T e P b N GA Gc)) (fun kv _ _ => 30 - (intOf kv).toNat)
    case atStart => exact ⟨0, 0, none, 0, by omega, rfl, rfl, HG0⟩
    case round =>
      clear HG0
      obtain ⟨k, T, GA, Gc, hk30, rfl, rfl, hmid⟩ := hrel
      by_cases hk : k < len3
      · by_cases hk2 : k < 30
        · obtain ⟨F, e, P, hg⟩ := hmid.out
          have HG := Lib.hid hg
          obtain ⟨g3, o3, x, rfl, y0⟩ := HORD.out wr (HB1.out.trans (hg.wv.bel.mono HB1.out.size)) k hk
          have i1 : (k : Int) < (len3 : Int) := by omega
          have i2 : (k : Int) < 30 := by omega
          have i3 : (0 : Int) ≤ (k : Int) := by omega
          have HKK := Lib.hid (And.intro hk hk2)
          have HKW := Lib.hid (show wrap64 ((k : Int) + 1) = ((k + 1 : Nat) : Int) from wrap_at (by omega) (by omega) (by omega))
          obtain ⟨kk, hkk, hwi⟩ := HWI.out x wr
          have HWX := Lib.hid hwi
          have HKM := Lib.hid hkk
          clear hmid hg hk hk2 hk30 hwi hkk
          go_wp2_with fail
          refine HWX.out.mono ?_
          rintro e9 w9 ⟨rfl, rfl⟩
          clear HWX
          go_wp2_with fail
          refine (give_any HG.out ((HG.out.wv.old HRB.out).1 |> fun _ => HRB.out) HCAP.out (by have := HNUM.out; omega) (HMUL.out kk HKM.out)).mono ?_
          rintro e9 w4 ⟨rfl, F4, e4, hg4, -, -⟩
          have HG4 := Lib.hid hg4
          obtain ⟨g9, o9, x9, hA9, y4⟩ := HORD.out w4 (HB1.out.trans (hg4.wv.bel.mono HB1.out.size)) k HKK.out.1
          obtain ⟨rfl, rfl⟩ : g3 = g9 ∧ o3 = o9 := by injection hA9 with hA9; injection hA9 with h1 h2; exact ⟨h1, h2⟩
          clear hg4 hA9 y0 HG i1 i2
          by_cases hx3 : x9.tmod 3 = 0
          · obtain ⟨r, hr20, hr⟩ := mod_20 x9
            have HW20 := Lib.hid (fun w => within_any x9 20 w (by omega) (by omega))
            rw [hr20] at HW20
            have HR20 := Lib.hid hr
            clear hr20 hr
            have i1 : (k : Int) < (len3 : Int) := by have := HKK.out; omega
            go_wp2_with fail
            refine (HW20.out _).mono ?_
            rintro e9 w9 ⟨rfl, rfl⟩
            clear HW20
            go_wp2_with fail
            obtain ⟨f, f1, f2, f3, f4, f5⟩ := HG4.out.front
            obtain ⟨kr, hkr⟩ : ∃ kr : Nat, (kr : Int) = min (max (r : Int) 0) ((f : Int) - (T : Int)) := ⟨(min (max (r : Int) 0) ((f : Int) - (T : Int))).toNat, by omega⟩
            refine (HG4.out.read (r : Int) f kr f1 f2 f4 f5 hkr).mono ?_
            rintro e9 w5 ⟨A5, c5, rfl, GA2, Gc2, w6, hrun, hg6⟩
            obtain ⟨T2, hT2⟩ : ∃ T2, T + kr = T2 := ⟨_, rfl⟩
            rw [hT2] at hrun hg6
            have HG := Lib.hid hg6
            clear hg6 hT2 f1 f2 f3 f4 f5 hkr HG4 y4 i1
            go_wp2_with (at_builtin; refine Lib.wpList_append_run _ rfl _ _ _ _ rfl _ _ rfl rfl _ _ hrun ?_)
            clear hrun
            have HTN := Lib.hid HG.out.tn
            have tn : ¬ ((T2 : Int) > (N : Int)) := by have := HTN.out; omega
            have hs := fun W => slice_hI A2 N c2 T2 (by have := HTN.out; have := HCAP.out; omega) W
            obtain ⟨f, f1, f2, f3, f4, f5⟩ := HG.out.front
            have HFF := Lib.hid (And.intro f1 (And.intro f2 f3))
            have HF4 := Lib.hid f4
            have HF5 := Lib.hid f5
            clear f1 f2 f3 f4 f5
            try go_wp2_with fail
            refine (HG.out.wv.taken).mono ?_
            rintro e9 w101 ⟨rfl, hb⟩
            have HY9 := Lib.hid (HG.out.later hb)
            clear HG
            have HG := HY9
            clear HY9
            clear hb
            go_wp2_with fail
            refine (same_true (b.take T2) (by rw [List.length_take, HBL.out]; have := HTN.out; omega) (by rw [List.length_take, HBL.out]; have := HTN.out; omega) HG.out.own.rd ((HG.out.wv.old HRB.out).1.take T2) (by rw [List.length_take, HBL.out]; have := HNUM.out; unfold maxLen; omega)).mono ?_
            rintro e9 w102 ⟨rfl, k9, rfl⟩
            have HY9 := Lib.hid (HG.out.later (below_drewN _ k9))
            clear HG
            have HG := HY9
            clear HY9
            have hwa : wrap64 ((T2 : Int) + (V : Int)) = (T2 : Int) + (V : Int) := wrap_at rfl (by omega) (by have := HTN.out; have := HNUM.out; omega)
            have HWA := Lib.hid hwa
            go_wp2_with fail
            refine (HG.out.wv.limit' (by have := HTN.out; have := HNUM.out; omega) ((T2 : Int) + (V : Int)) rfl).mono ?_
            rintro e9 w103 ⟨rfl, hb⟩
            have HY9 := Lib.hid (HG.out.later hb)
            clear HG
            have HG := HY9
            clear HY9
            clear hb
            go_wp2_with fail
            clear hwa
            obtain ⟨SN, hSN⟩ : ∃ SN : Int, ((f : Int) = e4 ∧ SN = (f : Int) + 1) ∨ ((f : Int) ≠ e4 ∧ SN = (f : Int)) := by
              by_cases h : (f : Int) = e4
              · exact ⟨(f : Int) + 1, .inl ⟨h, rfl⟩⟩
              · exact ⟨(f : Int), .inr ⟨h, rfl⟩⟩
            have HSN := Lib.hid hSN
            have sn1 : ¬ (SN < (f : Int)) := by omega
            have sn2 : ¬ (SN > (N : Int) + 1) := by have := HFF.out; have := HG.out.e1; omega
            clear hSN
            refine (HG.out.wv.seen (f : Int) SN (by omega) HF4.out HF5.out (by have := HFF.out; have := HNUM.out; omega) HSN.out).mono ?_
            rintro e9 w104 ⟨rfl, hb⟩
            have HY9 := Lib.hid (HG.out.later hb)
            clear HG
            have HG := HY9
            clear HY9
            clear hb
            go_wp2_with fail
            have hwb : wrap64 ((T2 : Int) + ((f : Int) - (T2 : Int))) = (f : Int) := wrap_at (by omega) (by omega) (by have := HFF.out; have := HNUM.out; omega)
            have hwn := HWN1.out
            refine (HG.out.wv.ready (f : Int) ((f : Int) - (T2 : Int)) (by omega) HF4.out HF5.out (by have := HFF.out; have := HNUM.out; have := HTN.out; omega) rfl).mono ?_
            rintro e9 w105 ⟨rfl, hb⟩
            have HY9 := Lib.hid (HG.out.later hb)
            clear HG
            have HG := HY9
            clear HY9
            clear hb
            go_wp2_with fail
            refine (HG.out.wv.seen (f : Int) SN (by omega) HF4.out HF5.out (by have := HFF.out; have := HNUM.out; omega) HSN.out).mono ?_
            rintro e9 w106 ⟨rfl, hb⟩
            have HY9 := Lib.hid (HG.out.later hb)
            clear HG
            have HG := HY9
            clear HY9
            clear hb
            go_wp2_with fail
            clear hwb hwn
            go_roundw
            case rel => exact ⟨k + 1, T2, GA2, Gc2, by have := HKK.out; omega, by first | rfl | (rw [HKW.out]) | go_num, rfl, Lib.hid ⟨_, _, _, HG.out⟩⟩
            case measure => (try rw [HKW.out]); have := HKK.out; simp [intOf]; omega
          · obtain ⟨T2, hT2⟩ : ∃ T2, T = T2 := ⟨_, rfl⟩
            subst hT2
            obtain ⟨GA2, hGA2⟩ : ∃ GA2, GA = GA2 := ⟨_, rfl⟩
            subst hGA2
            have HG := Lib.hid HG4.out
            have i1 : (k : Int) < (len3 : Int) := by have := HKK.out; omega
            clear HG4
            go_wp2_with fail
            clear y4 i1
            have HTN := Lib.hid HG.out.tn
            have tn : ¬ ((T : Int) > (N : Int)) := by have := HTN.out; omega
            have hs := fun W => slice_hI A2 N c2 T (by have := HTN.out; have := HCAP.out; omega) W
            obtain ⟨f, f1, f2, f3, f4, f5⟩ := HG.out.front
            have HFF := Lib.hid (And.intro f1 (And.intro f2 f3))
            have HF4 := Lib.hid f4
            have HF5 := Lib.hid f5
            clear f1 f2 f3 f4 f5
            try go_wp2_with fail
            refine (HG.out.wv.taken).mono ?_
            rintro e9 w101 ⟨rfl, hb⟩
            have HY9 := Lib.hid (HG.out.later hb)
            clear HG
            have HG := HY9
            clear HY9
            clear hb
            go_wp2_with fail
            refine (same_true (b.take T) (by rw [List.length_take, HBL.out]; have := HTN.out; omega) (by rw [List.length_take, HBL.out]; have := HTN.out; omega) HG.out.own.rd ((HG.out.wv.old HRB.out).1.take T) (by rw [List.length_take, HBL.out]; have := HNUM.out; unfold maxLen; omega)).mono ?_
            rintro e9 w102 ⟨rfl, k9, rfl⟩
            have HY9 := Lib.hid (HG.out.later (below_drewN _ k9))
            clear HG
            have HG := HY9
            clear HY9
            have hwa : wrap64 ((T : Int) + (V : Int)) = (T : Int) + (V : Int) := wrap_at rfl (by omega) (by have := HTN.out; have := HNUM.out; omega)
            have HWA := Lib.hid hwa
            go_wp2_with fail
            refine (HG.out.wv.limit' (by have := HTN.out; have := HNUM.out; omega) ((T : Int) + (V : Int)) rfl).mono ?_
            rintro e9 w103 ⟨rfl, hb⟩
            have HY9 := Lib.hid (HG.out.later hb)
            clear HG
            have HG := HY9
            clear HY9
            clear hb
            go_wp2_with fail
            clear hwa
            obtain ⟨SN, hSN⟩ : ∃ SN : Int, ((f : Int) = e4 ∧ SN = (f : Int) + 1) ∨ ((f : Int) ≠ e4 ∧ SN = (f : Int)) := by
              by_cases h : (f : Int) = e4
              · exact ⟨(f : Int) + 1, .inl ⟨h, rfl⟩⟩
              · exact ⟨(f : Int), .inr ⟨h, rfl⟩⟩
            have HSN := Lib.hid hSN
            have sn1 : ¬ (SN < (f : Int)) := by omega
            have sn2 : ¬ (SN > (N : Int) + 1) := by have := HFF.out; have := HG.out.e1; omega
            clear hSN
            refine (HG.out.wv.seen (f : Int) SN (by omega) HF4.out HF5.out (by have := HFF.out; have := HNUM.out; omega) HSN.out).mono ?_
            rintro e9 w104 ⟨rfl, hb⟩
            have HY9 := Lib.hid (HG.out.later hb)
            clear HG
            have HG := HY9
            clear HY9
            clear hb
            go_wp2_with fail
            have hwb : wrap64 ((T : Int) + ((f : Int) - (T : Int))) = (f : Int) := wrap_at (by omega) (by omega) (by have := HFF.out; have := HNUM.out; omega)
            have hwn := HWN1.out
            refine (HG.out.wv.ready (f : Int) ((f : Int) - (T : Int)) (by omega) HF4.out HF5.out (by have := HFF.out; have := HNUM.out; have := HTN.out; omega) rfl).mono ?_
            rintro e9 w105 ⟨rfl, hb⟩
            have HY9 := Lib.hid (HG.out.later hb)
            clear HG
            have HG := HY9
            clear HY9
            clear hb
            go_wp2_with fail
            refine (HG.out.wv.seen (f : Int) SN (by omega) HF4.out HF5.out (by have := HFF.out; have := HNUM.out; omega) HSN.out).mono ?_
            rintro e9 w106 ⟨rfl, hb⟩
            have HY9 := Lib.hid (HG.out.later hb)
            clear HG
            have HG := HY9
            clear HY9
            clear hb
            go_wp2_with fail
            clear hwb hwn
            go_roundw
            case rel => exact ⟨k + 1, T, GA, Gc, by have := HKK.out; omega, by first | rfl | (rw [HKW.out]) | go_num, rfl, Lib.hid ⟨_, _, _, HG.out⟩⟩
            case measure => (try rw [HKW.out]); have := HKK.out; simp [intOf]; omega
        · have i1 : (k : Int) < (len3 : Int) := by omega
          have i2 : ¬ ((k : Int) < 30) := by omega
          clear hk hk2 hk30
          go_wp2_with fail
          go_meet
          exact ⟨_, rfl, T, GA, Gc, rfl, hmid⟩
      · have i1 : ¬ ((k : Int) < (len3 : Int)) := by omega
        clear hk hk30
        go_wp2_with fail
        go_meet
        exact ⟨_, rfl, T, GA, Gc, rfl, hmid⟩
  case rest =>
  obtain ⟨w3, rfl, T, GA, Gc, rfl, hg0⟩ := hcut
  clear HG0 HORD HL3 HWI
  have HG1 : Hid (∃ F e P, WG w1 w3 p F V T e P b N GA Gc ∧ min 0 N ≤ T ∧ (1 ≤ 0 → e = (N : Int))) := by
    obtain ⟨F, e, P, hg⟩ := hg0.out
    exact Lib.hid ⟨F, e, P, hg, by omega, fun x => by omega⟩
  clear hg0
  go_wp2_with fail
  go_loopw [13, 11] (fun kv gv wr => ∃ (k T : Nat) (GA : Option Addr) (Gc : Nat), k ≤ 200 ∧ kv = .int .i64 k ∧ gv = .slice GA T Gc ∧ Hid (∃ F e P, WG w1 wr p F V T e P b N GA Gc ∧ min k N ≤ T ∧ (1 ≤ k → e = (N : Int)))) (fun kv _ _ => 200 - (intOf kv).toNat)
  case atStart => exact ⟨0, T, GA, Gc, by omega, rfl, rfl, HG1⟩
  case round =>
    clear HG1
    obtain ⟨k, T, GA, Gc, hk, rfl, rfl, hmid⟩ := hrel
    obtain ⟨F, e, P, hg, hkT, hke⟩ := hmid.out
    have HG := Lib.hid hg
    clear hmid
    by_cases hk2 : k < 200
    · have i1 : (k : Int) < 200 := by omega
      by_cases hd : 0 ≤ e ∧ (T : Int) = e
      · have HTE := Lib.hid (show (T : Int) = N ∧ e = N by have := hg.e1; omega)
        have HDD := Lib.hid (decide_eq_true hd).symm
        clear hg hkT hke hk hk2 hd
        go_wp2_with fail
        refine (HG.out.wv.done _ HDD.out).mono ?_
        rintro e9 w201 ⟨rfl, hb⟩
        have HY9 := Lib.hid (HG.out.later hb)
        clear HG
        have HG := HY9
        clear HY9
        clear hb HDD
        clear i1
        have hpA : Hid (∀ j : Int, 0 ≤ j → j < (N : Int) → P j) := Lib.hid (by
          have hrg := HG.out.wv.range
          have htk := HTE.out
          exact fun j h0 h1 => hrg.2.2.2.2.2.2.2 j h0 (by omega))
        have hpN : Hid (¬ P (N : Int)) := Lib.hid (fun x => by have := HG.out.pn _ x; omega)
        have hbt : Hid (b.take T = b) := Lib.hid (List.take_of_length_le (by rw [HBL.out]; have := HTE.out; omega))
        have hwn := HWN1.out
        try go_wp2_with fail
        refine (HG.out.wv.done true (decide_eq_true (by have := HTE.out; omega)).symm).mono ?_
        rintro e9 w301 ⟨rfl, hb⟩
        have HY9 := Lib.hid (HG.out.later hb)
        clear HG
        have HG := HY9
        clear HY9
        clear hb
        go_wp2_with fail
        refine (same_true b (by rw [HBL.out]; have := HTE.out; omega) HBL.out (by have := HG.out.own.rd; rw [hbt.out] at this; exact this) (HG.out.wv.old HRB.out).1 (by rw [HBL.out]; have := HNUM.out; unfold maxLen; omega)).mono ?_
        rintro e9 w302 ⟨rfl, k9, rfl⟩
        have HY9 := Lib.hid (HG.out.later (below_drewN _ k9))
        clear HG
        have HG := HY9
        clear HY9
        go_wp2_with fail
        refine (HG.out.wv.seen (N : Int) ((N : Int) + 1) (by omega) hpA.out hpN.out (by have := HNUM.out; omega) (.inl ⟨by have := HTE.out; omega, rfl⟩)).mono ?_
        rintro e9 w303 ⟨rfl, hb⟩
        have HY9 := Lib.hid (HG.out.later hb)
        clear HG
        have HG := HY9
        clear HY9
        clear hb
        go_wp2_with fail
        refine (HG.out.wv.ready (N : Int) 0 (by omega) hpA.out hpN.out (by have := HNUM.out; have := HTE.out; omega) (by have := HTE.out; omega)).mono ?_
        rintro e9 w304 ⟨rfl, hb⟩
        have HY9 := Lib.hid (HG.out.later hb)
        clear HG
        have HG := HY9
        clear HY9
        clear hb
        go_wp2_with fail
        refine (HG.out.wv.putOld HBL.out HRB.out true (by omega) (by have := HNUM.out; omega) (by have := HNUM.out; have := HTE.out; omega) e P 0 0 0 (fun k => ⟨.inl, fun x => x.elim id (fun y => hpA.out k (by omega) (by omega))⟩) (fun k k1 k2 k3 _ _ k6 => absurd (hpA.out k k3 (by omega)) k6) (.inr ⟨.inr (.inl (by have := HTE.out; omega)), rfl⟩) (Int.le_refl _) (fun k => ⟨fun x => absurd (hpA.out k (by omega) (by omega)) x.2.2.2.2.2, fun x => by omega⟩) rfl).mono ?_
        rintro e9 w350 ⟨rfl, F9, hx, -⟩
        have HX := Lib.hid hx
        clear hx HG
        go_wp2_with fail
        refine (wakesI_any _).mono ?_
        rintro e9 w360 ⟨rfl, hb⟩
        have HFIN := Lib.hid (HB1.out.trans ((HX.out.later hb).bel.mono HB1.out.size))
        clear hb HX
        go_wp2
        go_ret
        exact ⟨rfl, HFIN.out⟩
      · have HDD := Lib.hid (decide_eq_false hd).symm
        have HKT := Lib.hid (And.intro hkT hk2)
        have HKW := Lib.hid (show wrap64 ((k : Int) + 1) = ((k + 1 : Nat) : Int) from wrap_at (by omega) (by omega) (by omega))
        clear hg hkT hk hk2 hd hke
        go_wp2_with fail
        refine (HG.out.wv.done _ HDD.out).mono ?_
        rintro e9 w201 ⟨rfl, hb⟩
        have HY9 := Lib.hid (HG.out.later hb)
        clear HG
        have HG := HY9
        clear HY9
        clear hb HDD
        have HGI : Hid (∃ F e P, WG w1 w201 p F V T e P b N GA Gc ∧ (∀ i : Int, 0 ≤ i → i < ((0 * C : Nat) : Int) → i < (N : Int) → i < (T : Int) + (V : Int) → P i) ∧ (1 ≤ 0 → N ≤ 0 * C → e = (N : Int))) := Lib.hid ⟨_, _, _, HG.out, fun i j1 j2 => by simp at j2; omega, fun x => by omega⟩
        clear HG
        go_wp2_with fail
        go_loopw [14] (fun jv wr => ∃ j : Nat, j ≤ M ∧ jv = .int .i64 j ∧ Hid (∃ F e P, WG w1 wr p F V T e P b N GA Gc ∧ (∀ i : Int, 0 ≤ i → i < ((j * C : Nat) : Int) → i < (N : Int) → i < (T : Int) + (V : Int) → P i) ∧ (1 ≤ j → N ≤ j * C → e = (N : Int)))) (fun jv _ => M - (intOf jv).toNat)
        case atStart => exact ⟨0, by omega, rfl, HGI⟩
        case round =>
          clear HGI
          obtain ⟨j, hj, rfl, hin⟩ := hrel
          obtain ⟨F, e, P, hg, hall, hen⟩ := hin.out
          have HG := Lib.hid hg
          have HALL := Lib.hid hall
          have HEN := Lib.hid hen
          clear hin hg hall hen
          by_cases hjM : j < M
          · have j1 : (j : Int) < (M : Int) := by omega
            have HJW := Lib.hid (show wrap64 ((j : Int) + 1) = ((j + 1 : Nat) : Int) from wrap_at (by omega) (by omega) (by have := HNUM.out; omega))
            have HJM := Lib.hid hjM
            clear hj hjM
            go_wp2_with fail
            refine (give_any HG.out HRB.out HCAP.out (by have := HNUM.out; omega) (HMUL.out j HJM.out)).mono ?_
            rintro e9 w5 ⟨rfl, F5, e5, hg5, he5, -⟩
            have HNX : Hid (∃ F e P, WG w1 w5 p F V T e P b N GA Gc ∧ (∀ i : Int, 0 ≤ i → i < (((j + 1) * C : Nat) : Int) → i < (N : Int) → i < (T : Int) + (V : Int) → P i) ∧ (1 ≤ j + 1 → N ≤ (j + 1) * C → e = (N : Int))) := by
              have hm : (j + 1) * C = j * C + C := by rw [Nat.add_mul, Nat.one_mul]
              have ha := HALL.out
              refine Lib.hid ⟨_, _, _, hg5, fun i k1 k2 k3 k4 => ?_, fun _ k2 => he5 (by rw [hm] at k2; omega)⟩
              rw [hm] at k2
              by_cases hi : i < ((j * C : Nat) : Int)
              · exact .inl (ha i k1 hi k3 k4)
              · exact .inr ⟨by omega, by omega, k4⟩
            clear hg5 he5 HG HALL HEN
            go_wp2
            go_roundw
            case rel => exact ⟨j + 1, by have := HJM.out; omega, by first | rfl | (rw [HJW.out]) | go_num, HNX⟩
            case measure => (try rw [HJW.out]); have := HJM.out; simp [intOf]; omega
          · have hjM2 : j = M := by omega
            subst hjM2
            have j1 : ¬ ((j : Int) < (j : Int)) := by omega
            have hen := HEN.out (by have := HNUM.out; omega) (by have := HMC.out; omega)
            obtain ⟨f, f1, f2, f3, f4, f5⟩ := HG.out.front
            have hff : f = min N (T + V) := by
              by_cases hc : f < min N (T + V)
              · exact absurd (HALL.out (f : Int) (by omega) (by have := HMC.out; omega) (by omega) (by omega)) f5
              · omega
            obtain ⟨kr, hkr⟩ : ∃ kr : Nat, (kr : Int) = min (max (4096 : Int) 0) ((f : Int) - (T : Int)) := ⟨(min (max (4096 : Int) 0) ((f : Int) - (T : Int))).toNat, by omega⟩
            have hfk : T + kr = f := by have := HNUM.out; omega
            have HKR := Lib.hid (show min (k + 1) N ≤ T + kr by have := HKT.out; have := HNUM.out; omega)
            have HRD := Lib.hid (HG.out.read 4096 f kr f1 f2 f4 f5 hkr)
            have HEN2 := Lib.hid hen
            clear hj hjM HEN HALL hen f1 f2 f3 f4 f5 hff hkr hfk HG
            go_wp2_with fail
            refine HRD.out.mono ?_
            rintro e9 w5 ⟨A5, c5, rfl, GA2, Gc2, w6, hrun, hg6⟩
            obtain ⟨T2, hT2⟩ : ∃ T2, T + kr = T2 := ⟨_, rfl⟩
            rw [hT2] at hrun hg6 HKR
            have HNX : Hid (∃ F e P, WG w1 w6 p F V T2 e P b N GA2 Gc2 ∧ min (k + 1) N ≤ T2 ∧ (1 ≤ k + 1 → e = (N : Int))) := Lib.hid ⟨_, _, _, hg6, HKR.out, fun _ => HEN2.out⟩
            clear hg6 hT2 HRD j1
            go_wp2_with (at_builtin; refine Lib.wpList_append_run _ rfl _ _ _ _ rfl _ _ rfl rfl _ _ hrun ?_)
            clear hrun
            go_roundw
            case rel => exact ⟨k + 1, T2, GA2, Gc2, by have := HKT.out; omega, by first | rfl | (rw [HKW.out]) | go_num, rfl, HNX⟩
            case measure => (try rw [HKW.out]); have := HKT.out; simp [intOf]; omega
    · have i1 : ¬ ((k : Int) < 200) := by omega
      have HTE := Lib.hid (show (T : Int) = N ∧ e = N by have := hg.tn; have := hke (by omega); have := HNUM.out; omega)
      clear hg hkT hke hk hk2
      go_wp2_with fail
      clear i1
      have hpA : Hid (∀ j : Int, 0 ≤ j → j < (N : Int) → P j) := Lib.hid (by
        have hrg := HG.out.wv.range
        have htk := HTE.out
        exact fun j h0 h1 => hrg.2.2.2.2.2.2.2 j h0 (by omega))
      have hpN : Hid (¬ P (N : Int)) := Lib.hid (fun x => by have := HG.out.pn _ x; omega)
      have hbt : Hid (b.take T = b) := Lib.hid (List.take_of_length_le (by rw [HBL.out]; have := HTE.out; omega))
      have hwn := HWN1.out
      try go_wp2_with fail
      refine (HG.out.wv.done true (decide_eq_true (by have := HTE.out; omega)).symm).mono ?_
      rintro e9 w301 ⟨rfl, hb⟩
      have HY9 := Lib.hid (HG.out.later hb)
      clear HG
      have HG := HY9
      clear HY9
      clear hb
      go_wp2_with fail
      refine (same_true b (by rw [HBL.out]; have := HTE.out; omega) HBL.out (by have := HG.out.own.rd; rw [hbt.out] at this; exact this) (HG.out.wv.old HRB.out).1 (by rw [HBL.out]; have := HNUM.out; unfold maxLen; omega)).mono ?_
      rintro e9 w302 ⟨rfl, k9, rfl⟩
      have HY9 := Lib.hid (HG.out.later (below_drewN _ k9))
      clear HG
      have HG := HY9
      clear HY9
      go_wp2_with fail
      refine (HG.out.wv.seen (N : Int) ((N : Int) + 1) (by omega) hpA.out hpN.out (by have := HNUM.out; omega) (.inl ⟨by have := HTE.out; omega, rfl⟩)).mono ?_
      rintro e9 w303 ⟨rfl, hb⟩
      have HY9 := Lib.hid (HG.out.later hb)
      clear HG
      have HG := HY9
      clear HY9
      clear hb
      go_wp2_with fail
      refine (HG.out.wv.ready (N : Int) 0 (by omega) hpA.out hpN.out (by have := HNUM.out; have := HTE.out; omega) (by have := HTE.out; omega)).mono ?_
      rintro e9 w304 ⟨rfl, hb⟩
      have HY9 := Lib.hid (HG.out.later hb)
      clear HG
      have HG := HY9
      clear HY9
      clear hb
      go_wp2_with fail
      refine (HG.out.wv.putOld HBL.out HRB.out true (by omega) (by have := HNUM.out; omega) (by have := HNUM.out; have := HTE.out; omega) e P 0 0 0 (fun k => ⟨.inl, fun x => x.elim id (fun y => hpA.out k (by omega) (by omega))⟩) (fun k k1 k2 k3 _ _ k6 => absurd (hpA.out k k3 (by omega)) k6) (.inr ⟨.inr (.inl (by have := HTE.out; omega)), rfl⟩) (Int.le_refl _) (fun k => ⟨fun x => absurd (hpA.out k (by omega) (by omega)) x.2.2.2.2.2, fun x => by omega⟩) rfl).mono ?_
      rintro e9 w350 ⟨rfl, F9, hx, -⟩
      have HX := Lib.hid hx
      clear hx HG
      go_wp2_with fail
      refine (wakesI_any _).mono ?_
      rintro e9 w360 ⟨rfl, hb⟩
      have HFIN := Lib.hid (HB1.out.trans ((HX.out.later hb).bel.mono HB1.out.size))
      clear hb HX
      go_wp2
      go_ret
      exact ⟨rfl, HFIN.out⟩
end Go.Proofs.Ytlljfinagjdihaa

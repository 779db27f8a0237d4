/-
  The walk of SchedPicks.
-/
import Derived.Test.YtffofgockddpiaaSchedMid
import Derived.Test.YtffofgockddpiaaArgR
import Derived.Test.YtffofgockddpiaaCopyI
import Derived.Test.YtffofgockddpiaaWithin
import Derived.Deep.DeepCutAuto
import Derived.Deep.CutBlock
namespace Go.Proofs.Ytffofgockddpiaa
open Go.RowKit

/-- The program's Sched and the document's, of the same kind; both picked l last. -/
structure SP (w0 w : World) (b1 b2 : Nat) (k l : Int) : Prop where
  s1 : ScS w b1 k l
  s2 : ScA tDSch w b2 k l
  ne : b1 ≠ b2
  g1 : w0.heap.size ≤ b1
  g2 : w0.heap.size ≤ b2
  lr : -1 ≤ l ∧ l ≤ 100
  bel : Below w0.heap.size w0 w
section
variable {w0 w w' : World} {b1 b2 : Nat} {k l : Int}
theorem SP.later (h : SP w0 w b1 b2 k l) (hb : Below w.heap.size w w') : SP w0 w' b1 b2 k l :=
  ⟨h.s1.later hb, h.s2.later hb, h.ne, h.g1, h.g2, h.lr, h.bel.trans (hb.mono h.bel.size)⟩
theorem SP.row (h : SP w0 w b1 b2 k l) {v : Value} {xs : List Int} (ho : Own .i64 3 w w0.heap.size v xs) (hg : w.grownBy w' v.ownBlock) : SP w0 w' b1 b2 k l :=
  ⟨h.s1.kept (Trn.of_grown hg) (own_ne_sc ho h.s1 (by decide)), h.s2.kept (Trn.of_grown hg) (own_ne_sc ho h.s2 (by decide)), h.ne, h.g1, h.g2, h.lr, h.bel.trans ((Trn.of_grown hg).below h.bel.size (fun k hk => (ho.lt k hk).1))⟩
end
/-- At the outer loop's head. -/
def SHead (W w : World) (b1 b2 : Nat) (k : Int) : Prop := ∃ l, SP W w b1 b2 k l
/-- So many means are laid. -/
def SMean (W w : World) (b1 b2 : Nat) (k : Int) (MA : Option Addr) (n Mc : Nat) : Prop := ∃ (l : Int) (ms : List Int), ms.length = n ∧ Own .i64 3 w W.heap.size (.slice MA n Mc) ms ∧ SP W w b1 b2 k l

set_option maxRecDepth 100000 in
set_option maxHeartbeats 8000000 in
theorem schedPicks_walk (a0 : Int) (a1 : Option Addr) (len1 cap1 : Nat) (ra1 : Nat → Option Addr) (rn1 rc1 : Nat → Nat) (rz1 : Nat → List Int) (W : World) (h1 : ArgR W a1 len1 cap1 ra1 rn1 rc1 rz1) :
    Calls Try.prog 4 #[.int .i64 a0, .slice a1 len1 cap1] W fun e W' => e = .returned (.bool true) ∧ Below W.heap.size W W' := by
  have HA := Lib.hid h1
  have HLC := Lib.hid (And.intro h1.le h1.reach)
  have HW0 := Lib.hid (fun w => within_any a0 3 w (by omega) (by omega))
  clear h1
  go_enter Try.func4, Try.ntmps4
  go_upto_if 14 with (fail)
  go_cut [0] (fun s0 wx => ∃ m : Int, s0 = .int .i64 m ∧ W = wx)
  case first =>
    by_cases h5 : a0.tmod 5 = 4
    · go_wp2
      go_meet
      exact ⟨_, rfl, rfl⟩
    · go_wp2_with fail
      refine (HW0.out _).mono ?_
      rintro e w2 ⟨rfl, rfl⟩
      go_wp2
      go_meet
      exact ⟨_, rfl, rfl⟩
  case rest =>
  obtain ⟨m, rfl, rfl⟩ := hcut
  clear HW0
  go_wp2_with fail
  refine (newsc_any m W).mono ?_
  rintro e w1 ⟨rfl, hs1, hb1⟩
  have HS1 := Lib.hid hs1
  have HB1 := Lib.hid hb1
  clear hs1 hb1
  go_wp2_with fail
  refine (newds_any m w1).mono ?_
  rintro e w2 ⟨rfl, hs2, hb2⟩
  obtain ⟨b1, hb1'⟩ : ∃ b, W.heap.size = b := ⟨_, rfl⟩
  obtain ⟨b2, hb2'⟩ : ∃ b, w1.heap.size = b := ⟨_, rfl⟩
  have H0 : Hid (SHead W w2 b1 b2 m) := Lib.hid (by
    have := HS1.out.lt
    exact ⟨-1, by rw [← hb1']; exact HS1.out.later hb2, by rw [← hb2']; exact hs2, by omega, by omega, by have := HB1.out.size; omega, by omega, HB1.out.trans (hb2.mono HB1.out.size)⟩)
  rw [hb1', hb2']
  clear hs2 hb2 HS1 HB1 hb1' hb2'
  go_wp2_with fail
  go_loopw [7] (fun iv wr => ∃ i : Nat, i ≤ 16 ∧ iv = .int .i64 i ∧ Hid (SHead W wr b1 b2 m)) (fun iv _ => 16 - (intOf iv).toNat)
  case atStart => exact ⟨0, by omega, rfl, H0⟩
  case round =>
    clear H0
    obtain ⟨i, hi16, rfl, hhd⟩ := hrel
    by_cases hlt : i < len1 ∧ i < 16
    · have i1 : (i : Int) < (len1 : Int) := by omega
      have i2 : (i : Int) < 16 := by omega
      have i3 : (0 : Int) ≤ (i : Int) := by omega
      have HI := Lib.hid hlt
      have HIW := Lib.hid (show wrap64 ((i : Int) + 1) = ((i + 1 : Nat) : Int) from wrap_atS (by omega) (by omega) (by omega))
      have HM0 : Hid (SMean W wr b1 b2 m none 0 0) := Lib.hid (by
        obtain ⟨l, h⟩ := hhd.out
        exact ⟨l, [], rfl, Own.nil _ _ _ _, h⟩)
      clear hhd hi16 hlt
      go_upto_block 2 with (fail)
      go_cut [8] (fun mv wx => ∃ wz, wz = wx ∧ ∃ (MA : Option Addr) (n Mc : Nat), mv = .slice MA n Mc ∧ n ≤ 4 ∧ Hid (SMean W wz b1 b2 m MA n Mc))
      case first =>
        go_wp2_with fail
        go_loopw [9, 8] (fun kv mv wv => ∃ (k : Nat) (MA : Option Addr) (Mc : Nat), k ≤ 4 ∧ kv = .int .i64 k ∧ mv = .slice MA k Mc ∧ Hid (SMean W wv b1 b2 m MA k Mc)) (fun kv _ _ => 4 - (intOf kv).toNat)
        case atStart => exact ⟨0, none, 0, by omega, rfl, rfl, HM0⟩
        case round =>
          clear HM0
          obtain ⟨k, MA, Mc, hk4, rfl, rfl, hmid⟩ := hrel
          obtain ⟨ba, off, rfl, hcell⟩ := HA.out.cell (by have := HI.out; omega)
          have hbW : Below W.heap.size W wr := by
            obtain ⟨l, ms, -, -, h⟩ := hmid.out
            exact h.bel
          have r1 := cell_later hbW (hcell i HI.out.1)
          obtain ⟨rl, hrl⟩ : ∃ n, rn1 i = n := ⟨_, rfl⟩
          obtain ⟨rA, hrA⟩ : ∃ n, ra1 i = n := ⟨_, rfl⟩
          obtain ⟨rc, hrc⟩ : ∃ n, rc1 i = n := ⟨_, rfl⟩
          have hrow := HA.out.row i HI.out.1
          rw [hrl, hrA, hrc] at r1 hrow
          by_cases hkl : k < rl
          · by_cases hk : k < 4
            · obtain ⟨ga, oa, rfl, hcx⟩ := (hrow.2.2.2.1.later hbW).some_ (by rw [hrow.1]; omega)
              have x1 := hcx k (by rw [hrow.1]; exact hkl)
              obtain ⟨x, hx⟩ : ∃ x, (rz1 i).getD k 0 = x := ⟨_, rfl⟩
              rw [hx] at x1
              have j1 : (k : Int) < (rl : Int) := by omega
              have j2 : (k : Int) < 4 := by omega
              have j3 : (0 : Int) ≤ (k : Int) := by omega
              have HK := Lib.hid hk
              have HKW := Lib.hid (show wrap64 ((k : Int) + 1) = ((k + 1 : Nat) : Int) from wrap_atS (by omega) (by omega) (by omega))
              have HWX := Lib.hid (fun w => within_any x 9 w (by omega) (by omega))
              clear hcell hrl hrc hrow hcx hx hkl hk hk4 hbW
              go_wp2_with fail
              refine (HWX.out _).mono ?_
              rintro e w9 ⟨rfl, rfl⟩
              clear HWX
              go_upto_if 64 with (fail)
              go_cut [10] (fun yv wx => ∃ y : Int, yv = .int .i64 y ∧ wr = wx)
              case first =>
                by_cases h11 : x.tmod 11 = 10
                · go_wp2
                  go_meet
                  exact ⟨_, rfl, rfl⟩
                · go_wp2
                  go_meet
                  exact ⟨_, rfl, rfl⟩
              case rest =>
              obtain ⟨y, rfl, rfl⟩ := hcut
              clear r1 x1 j1 j2
              obtain ⟨l, ms, hml, hmo, hsp⟩ := hmid.out
              obtain ⟨A2, c2, w4, hrun, ho2, hg2, -⟩ := run_append_f (P := Try.prog) (wr.alloc (.cells #[.int .i64 y] 3)) .i64 22 22 3 (.int .i64 0) 8 Try.underlying22 info_intS rfl W.heap.size (.slice MA k Mc) ms (hmo.alloc _) (some ⟨wr.heap.size, 0, none⟩) 1 1 [y] rfl (Rd.newK .i64 wr [y] 3 (0, 0)) (by have := HK.out; rw [hml]; unfold maxLen; omega) (by have := HK.out; rw [hml]; omega) (by have := hsp.bel.size; simp; omega)
              rw [hml] at hrun ho2
              have HNX : Hid (SMean W w4 b1 b2 m A2 (k + 1) c2) := Lib.hid ⟨l, ms ++ [y], by rw [List.length_append, hml]; rfl, ho2, (hsp.later ((Below.refl _ _).alloc (Nat.le_refl _) _)).row (hmo.alloc _) hg2⟩
              clear hmid hml hmo hsp ho2 hg2
              go_wp2_with (at_builtin; refine Lib.wpList_append_run _ rfl _ _ _ _ rfl _ _ rfl rfl _ _ hrun ?_)
              clear hrun
              go_roundw
              case rel => exact ⟨k + 1, A2, c2, by have := HK.out; omega, by first | rfl | (rw [HKW.out]) | go_num, by first | rfl | trivial, HNX⟩
              case measure => (try rw [HKW.out]); have := HK.out; simp [intOf]; omega
            · have j1 : (k : Int) < (rl : Int) := by omega
              have j2 : ¬ ((k : Int) < 4) := by omega
              clear hcell hrl hrc hrow hkl hk hbW
              go_wp2_with fail
              go_meet
              exact ⟨_, rfl, MA, k, Mc, rfl, hk4, hmid⟩
          · have j1 : ¬ ((k : Int) < (rl : Int)) := by omega
            clear hcell hrl hrc hrow hkl hbW
            go_wp2_with fail
            go_meet
            exact ⟨_, rfl, MA, k, Mc, rfl, hk4, hmid⟩
      case rest =>
      obtain ⟨w5, rfl, MA, n, Mc, rfl, hn4, hmean⟩ := hcut
      obtain ⟨l, ms, hml, hmo, hsp⟩ := hmean.out
      have HML := Lib.hid hml
      have HN4 := Lib.hid hn4
      have HCP := Lib.hid (copyI_any MA n Mc ms w5 hml hmo.rd (by omega))
      have HMO := Lib.hid hmo
      have HSP := Lib.hid hsp
      clear HM0 hmean hml hmo hsp hn4 i1 i2
      go_wp2_with fail
      refine HCP.out.mono ?_
      rintro e w6 ⟨A6, c6, rfl, ho6, hb6⟩
      have HL6 := Lib.hid (ho6.less HSP.out.bel.size)
      have HM6 := Lib.hid (HMO.out.later hb6)
      have HS6 := Lib.hid (HSP.out.later hb6)
      clear ho6 hb6 HCP HMO HSP
      have HP1 := Lib.hid (pick_any HS6.out.s1 MA n Mc ms HML.out HM6.out.rd (by have := HS6.out.lr; omega) (by have := HN4.out; omega))
      go_wp2_with fail
      refine HP1.out.mono ?_
      rintro e w7 ⟨A7, c7, L, l', rfl, ho7, hp7, hs7, hsc7⟩
      have hsc7b := hsc7
      have HL7 := Lib.hid (sc_own hsc7 HL6.out HS6.out.s1 (by decide))
      have HM7 := Lib.hid (sc_own hsc7 HM6.out HS6.out.s1 (by decide))
      have HD7 := Lib.hid (sc_sc hsc7 HS6.out.s2 (Ne.symm HS6.out.ne))
      have HS7 := Lib.hid hs7
      have HO7 := Lib.hid ho7
      have HPK := Lib.hid hp7
      have HB7 := Lib.hid (HS6.out.bel.trans (sc_bel hsc7 HS6.out.bel.size HS6.out.g1))
      have HP2 := Lib.hid (dspick_any HD7.out MA n Mc ms HML.out HM7.out.rd (by have := HN4.out; omega))
      clear ho7 hp7 hs7 hsc7 hsc7b HP1 HL6 HM6
      go_wp2_with fail
      refine HP2.out.mono ?_
      rintro e w8 ⟨A8, c8, L8, l8, rfl, ho8, hp8, hs8, hsc8⟩
      obtain ⟨rfl, rfl⟩ := HPK.out.eq hp8
      have HL8 := Lib.hid (sc_own hsc8 HL7.out HD7.out (by decide))
      have HM8 := Lib.hid (sc_own hsc8 HM7.out HD7.out (by decide))
      have HO8 := Lib.hid (sc_own hsc8 HO7.out HD7.out (by decide))
      have HQ8 := Lib.hid ho8
      have HSP8 : Hid (SP W w8 b1 b2 m l') := Lib.hid ⟨sc_sc hsc8 HS7.out HS6.out.ne, hs8, HS6.out.ne, HS6.out.g1, HS6.out.g2, HPK.out.last HS6.out.lr (by have := HML.out; have := HN4.out; omega), HB7.out.trans (sc_bel hsc8 HB7.out.size HS6.out.g2)⟩
      have HLL := Lib.hid (show L.length ≤ 4 by have := HPK.out.len; have := HML.out; have := HN4.out; omega)
      obtain ⟨LN, hLN⟩ : ∃ LN, L.length = LN := ⟨_, rfl⟩
      have HLN := Lib.hid hLN
      rw [hLN] at HO8 HQ8 ⊢
      clear ho8 hp8 hs8 hsc8 HP2 HL7 HM7 HD7 HS7 HO7 hLN
      go_wp2_with fail
      refine (sameI_true L HLN.out HLN.out HO8.out.rd HQ8.out.rd (by have := HLL.out; unfold maxLen; omega)).mono ?_
      rintro e w9 ⟨rfl, k9, rfl⟩
      have hb9 := below_drS w8 k9
      obtain ⟨w9, hw9⟩ : ∃ w9, w8.drewN k9 = w9 := ⟨_, rfl⟩
      rw [hw9] at hb9 ⊢
      have HL9 := Lib.hid (HL8.out.later hb9)
      have HM9 := Lib.hid (HM8.out.later hb9)
      have HSP9 := Lib.hid (HSP8.out.later hb9)
      clear hb9 hw9 HL8 HM8 HSP8 HO8 HQ8
      go_wp2_with fail
      refine (sameI_true ms HML.out HML.out HM9.out.rd HL9.out.rd (by rw [HML.out]; have := HN4.out; unfold maxLen; omega)).mono ?_
      rintro e w10 ⟨rfl, k10, rfl⟩
      have HNX : Hid (SHead W (w9.drewN k10) b1 b2 m) := Lib.hid ⟨_, HSP9.out.later (below_drS w9 k10)⟩
      clear HL9 HM9 HSP9
      go_wp2
      go_roundw
      case rel => exact ⟨i + 1, by have := HI.out; omega, by first | rfl | (rw [HIW.out]) | go_num, HNX⟩
      case measure => (try rw [HIW.out]); have := HI.out; simp [intOf]; omega
    · have HB : Hid (Below W.heap.size W wr) := Lib.hid (by
        obtain ⟨l, h⟩ := hhd.out
        exact h.bel)
      clear hhd
      by_cases hil : i < len1
      · have i1 : (i : Int) < (len1 : Int) := by omega
        have i2 : ¬ ((i : Int) < 16) := by omega
        clear hlt hil hi16
        go_wp2_with fail
        refine (wakesS17_any _).mono ?_
        rintro e w9 ⟨rfl, hb⟩
        have HFIN := Lib.hid (HB.out.trans (hb.mono HB.out.size))
        clear hb
        go_wp2
        go_ret
        exact ⟨rfl, HFIN.out⟩
      · have i1 : ¬ ((i : Int) < (len1 : Int)) := by omega
        clear hlt hil hi16
        go_wp2_with fail
        refine (wakesS17_any _).mono ?_
        rintro e w9 ⟨rfl, hb⟩
        have HFIN := Lib.hid (HB.out.trans (hb.mono HB.out.size))
        clear hb
        go_wp2
        go_ret
        exact ⟨rfl, HFIN.out⟩
end Go.Proofs.Ytffofgockddpiaa

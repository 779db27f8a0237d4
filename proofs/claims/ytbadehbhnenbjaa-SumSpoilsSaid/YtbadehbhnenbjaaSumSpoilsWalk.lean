/-
  The walk of SumSpoils.
-/
import Derived.Test.YtbadehbhnenbjaaSumSpoil
import Derived.Test.YtbadehbhnenbjaaSumWakes
import Derived.Test.YtbadehbhnenbjaaKeep
import Derived.Test.YtbadehbhnenbjaaWithin
namespace Go.Proofs.Ytbadehbhnenbjaa
open Go.RowKit

/-- Are the digits at the place k what they should be? -/
theorem digit_of (l : List Nat) (bit : Int) (mask k : Nat) (hk : k < 8 * l.length) :
    (l.getD (k / 8) 0 ^^^ (spoilN l bit mask).getD (k / 8) 0) / 2 ^ (k % 8) % 2 = (if (decide (bit ≤ k) && decide ((k : Int) < bit + 32) && mask.testBit ((k : Int) - bit).toNat) then 1 else 0) := by
  have h := spoilN_dg l bit mask k hk
  obtain ⟨C, hC⟩ : ∃ C, (decide (bit ≤ k) && decide ((k : Int) < bit + 32) && mask.testBit ((k : Int) - bit).toNat) = C := ⟨_, rfl⟩
  rw [hC] at h ⊢
  have h2 : (l.getD (k / 8) 0 ^^^ (spoilN l bit mask).getD (k / 8) 0).testBit (k % 8) = C := by
    rw [Nat.testBit_xor]
    unfold dg at h
    rw [h]
    cases (l.getD (k / 8) 0).testBit (k % 8) <;> cases C <;> rfl
  rw [Nat.testBit_eq_decide_div_mod_eq] at h2
  have h3 := Nat.mod_two_eq_zero_or_one ((l.getD (k / 8) 0 ^^^ (spoilN l bit mask).getD (k / 8) 0) / 2 ^ (k % 8))
  rcases h3 with h3 | h3 <;> rw [h3] at h2 ⊢ <;> subst h2 <;> rfl

set_option maxHeartbeats 2000000 in
theorem sumSpoils_walk (A : Option Addr) (n c : Nat) (xs : List Int) (a1 a2 : Int) (w : World) (ha : ArgI .u8 1 w A n c xs) (_ : (Lit.int .i64 a1).wf = true) (h2 : (Lit.int .u32 a2).wf = true) :
    Calls Try.prog 5 #[.slice A n c, .int .i64 a1, .int .u32 a2] w fun e w' => e = .returned (.bool true) ∧ Below w.heap.size w w' := by
  have hm := wf_u32 h2
  obtain ⟨mask, rfl⟩ := Int.eq_ofNat_of_zero_le hm.1
  have hmask : mask < 2 ^ 32 := by omega
  have hreach := ha.reach
  have hle := ha.le
  have hxs := nats_of (fun x hx => wf_u8 (ha.wf x hx))
  obtain ⟨l, hl⟩ : ∃ l, (xs.map Int.toNat).take 40 = l := ⟨_, rfl⟩
  have hl2 : xs.take 40 = nats l := by rw [← hl, ← nats_take, hxs]
  have hl3 : ∀ x ∈ l, x < 256 := fun x hx => bytes_nat (fun x hx => wf_u8 (ha.wf x hx)) x (by rw [← hl] at hx; exact List.mem_of_mem_take hx)
  have hl4 : l.length ≤ 40 := by rw [← hl, List.length_take]; omega
  have hcut := cut_any A n c 40 xs w ha.len ha.le ha.rd (by omega) (by omega) (by omega)
  rw [show ((40 : Int)).toNat = 40 from rfl, hl2, nats_len] at hcut
  obtain ⟨m, hm'⟩ : ∃ m, l.length = m := ⟨_, rfl⟩
  rw [hm'] at hcut hl4
  have HM := Lib.hid hm'
  have HL := Lib.hid hl3
  have HC := Lib.hid hcut
  clear hxs hl hl2 hl3 hcut hm' ha h2 hm
  go_enter Try.func5, Try.ntmps5
  go_wp2_with fail
  refine HC.out.mono ?_
  rintro e w1 ⟨P, cp, rfl, hp, hb1⟩
  have HP := Lib.hid hp
  have HB1 := Lib.hid hb1
  clear HC hp hb1
  go_wp2_with fail
  refine (within_any _ _ _ (by omega) (by omega)).mono ?_
  rintro e w' ⟨rfl, rfl⟩
  obtain ⟨bb, hbb⟩ : ∃ bb, a1 % (8 * (m : Int) + 40) = bb := ⟨_, rfl⟩
  have b0 : 0 ≤ bb ∧ bb < 8 * (m : Int) + 40 := by rw [← hbb]; exact ⟨Int.emod_nonneg _ (by omega), Int.emod_lt_of_pos _ (by omega)⟩
  rw [hbb]
  clear hbb
  go_wp2_with fail
  obtain ⟨bit, hbit⟩ : ∃ bit, bb - 36 = bit := ⟨_, rfl⟩
  rw [hbit]
  have b1 : -36 ≤ bit ∧ bit < 400 := by omega
  clear hbit b0
  refine (spoil_any P m cp l bit mask _ HM.out HP.out.rd HL.out (by omega) HP.out.none_len (by omega) (by omega) hmask).mono ?_
  rintro e w2 ⟨R, cr, rfl, hr, hb2⟩
  have HR := Lib.hid hr
  have HB2 := Lib.hid hb2
  clear hr hb2
  have hrdP : Rd .u8 w2 P (nats l) := HP.out.rd.later HB2.out
  have HRP := Lib.hid hrdP
  clear hrdP
  go_wp2
  go_loopw [8] (fun i wr => ∃ k nd : Nat, k ≤ 8 * m ∧ i = .int .i64 (k : Nat) ∧ wr = w2.drewN nd) (fun i _ => 8 * m - (intOf i).toNat)
  case atStart => exact ⟨0, 0, by omega, rfl, rfl⟩
  case round =>
    obtain ⟨k, nd, hk, rfl, rfl⟩ := hrel
    by_cases hlt : k < 8 * m
    · obtain ⟨g1, o1, rfl, hc1⟩ := HRP.out.some_ (by rw [nats_len, HM.out]; omega)
      obtain ⟨g2, o2, rfl, hc2⟩ := HR.out.rd.some_ (by rw [nats_len, spoilN_len, HM.out]; omega)
      have c1 := hc1 (k / 8) (by rw [nats_len, HM.out]; omega)
      have c2 := hc2 (k / 8) (by rw [nats_len, spoilN_len, HM.out]; omega)
      rw [nats_getD] at c1 c2
      have hx := getD_lt HL.out (k / 8)
      have hy := getD_lt (spoilN_lt HL.out bit mask) (k / 8)
      have hd := digit_of l bit mask k (by rw [HM.out]; exact hlt)
      obtain ⟨x, hx'⟩ : ∃ x, l.getD (k / 8) 0 = x := ⟨_, rfl⟩
      obtain ⟨y, hy'⟩ : ∃ y, (spoilN l bit mask).getD (k / 8) 0 = y := ⟨_, rfl⟩
      rw [hx'] at c1 hx hd
      rw [hy'] at c2 hy hd
      have x8 := xor8 x y hx hy
      have hz : x ^^^ y < 256 := Nat.xor_lt_two_pow (n := 8) hx hy
      obtain ⟨z, hz'⟩ : ∃ z, x ^^^ y = z := ⟨_, rfl⟩
      rw [hz'] at x8 hz hd
      have e2 : ((k : Int)).tdiv 8 = ((k / 8 : Nat) : Int) := by rw [Int.tdiv_eq_ediv_of_nonneg (by omega)]; omega
      have e3 : ((k : Int)).tmod 8 = ((k % 8 : Nat) : Int) := by rw [Int.tmod_eq_emod_of_nonneg (by omega)]; omega
      have hq1 : k / 8 < m := by omega
      have hr1 : k % 8 < 8 := by omega
      obtain ⟨q, hq⟩ : ∃ q, k / 8 = q := ⟨_, rfl⟩
      obtain ⟨r, hr⟩ : ∃ r, k % 8 = r := ⟨_, rfl⟩
      rw [hq] at e2 c1 c2 hq1
      rw [hr] at e3 hr1 hd
      have e1 : IntKind.i64.wrap (k : Int) = (k : Int) := IntWalk.i64_in _ (by omega)
      have e4 : IntKind.i64.wrap (q : Int) = (q : Int) := IntWalk.i64_in _ (by omega)
      have e5 : IntKind.i64.wrap (r : Int) = (r : Int) := IntWalk.i64_in _ (by omega)
      have i1 : (q : Int) < (m : Int) := by omega
      have i0 : (0 : Int) ≤ (q : Int) := by omega
      have r1 : (r : Int) < 8 := by omega
      have r0 : (0 : Int) ≤ (r : Int) := by omega
      have hk1 : (k : Int) < 8 * (m : Int) := by omega
      have hand : bits .and .u8 ((z : Int) / 2 ^ r) 1 = ((z / 2 ^ r % 2 : Nat) : Int) := by
        have h1 : ((z : Int) / 2 ^ r) = ((z / 2 ^ r : Nat) : Int) := by simp
        rw [h1, and1_8 _ (Nat.lt_of_le_of_lt (Nat.div_le_self _ _) hz)]
      rw [hd] at hand
      have HX := Lib.hid hx'
      have HY := Lib.hid hy'
      have HZ := Lib.hid hz'
      have HQ := Lib.hid hq
      have HRR := Lib.hid hr
      clear hx' hy' hz' hq hr hd hc1 hc2
      by_cases hA : bit ≤ (k : Int)
      · by_cases hB : (k : Int) < bit + 32
        · obtain ⟨t, ht⟩ := Int.eq_ofNat_of_zero_le (show 0 ≤ (k : Int) - bit by omega)
          have ht2 : t < 32 := by omega
          have hbt : bit = (k : Int) - (t : Int) := by omega
          rw [decide_eq_true hA, decide_eq_true hB, ht, Int.toNat_natCast, Bool.true_and, Bool.true_and] at hand
          subst hbt
          have hms := mask_bit mask t hmask
          have t0 : (0 : Int) ≤ (t : Int) := by omega
          have t1 : (t : Int) < 32 := by omega
          have t2 : (t : Int) ≤ 31 := by omega
          have s1 : (k : Int) - ((k : Int) - (t : Int)) = (t : Int) := by omega
          have m1 : min (t : Int) 31 = (t : Int) := by omega
          have m2 : max (t : Int) 0 = (t : Int) := by omega
          by_cases hT : mask.testBit t = true
          · rw [if_pos hT] at hand hms
            rw [show ((1 : Nat) : Int) = 1 from rfl] at hand
            clear hT ht
            go_wp2_with fail
            go_quiet (fail)
            go_wp2
            go_roundw
            case rel => exact ⟨k + 1, _, by omega, by go_num, rfl⟩
            case measure => simp [intOf]; omega
          · rw [if_neg hT] at hand hms
            rw [show ((0 : Nat) : Int) = 0 from rfl] at hand
            clear hT ht
            go_wp2_with fail
            go_quiet (fail)
            go_wp2
            go_roundw
            case rel => exact ⟨k + 1, _, by omega, by go_num, rfl⟩
            case measure => simp [intOf]; omega
        · rw [decide_eq_true hA, decide_eq_false hB, Bool.and_false, Bool.false_and, if_neg (by decide), show ((0 : Nat) : Int) = 0 from rfl] at hand
          go_wp2_with fail
          go_quiet (fail)
          go_wp2
          go_roundw
          case rel => exact ⟨k + 1, _, by omega, by go_num, rfl⟩
          case measure => simp [intOf]; omega
      · rw [decide_eq_false hA, Bool.false_and, Bool.false_and, if_neg (by decide), show ((0 : Nat) : Int) = 0 from rfl] at hand
        go_wp2_with fail
        go_quiet (fail)
        go_wp2
        go_roundw
        case rel => exact ⟨k + 1, _, by omega, by go_num, rfl⟩
        case measure => simp [intOf]; omega
    · have : k = 8 * m := by omega
      subst this
      have hbB : Below w.heap.size w w2 := HB1.out.trans (HB2.out.mono HB1.out.size)
      have hs1 := HB2.out.size
      have HBB := Lib.hid hbB
      clear hbB
      go_wp2_with fail
      refine (spoil_any R m cr (spoilN l bit mask) bit mask _ (by rw [spoilN_len, HM.out]) (HR.out.rd.drewN nd) (spoilN_lt HL.out bit mask) (by omega) HR.out.none_len (by omega) (by omega) hmask).mono ?_
      rintro e w3 ⟨S, cs, rfl, hs, hb3⟩
      rw [spoilN_twice HL.out] at hs
      have HS := Lib.hid hs
      have HB3 := Lib.hid hb3
      clear hs hb3
      have hbC : Below w.heap.size w w3 := (below_drewN' HBB.out nd).trans (HB3.out.mono HBB.out.size)
      have HBC := Lib.hid hbC
      clear hbC
      go_wp2_with fail
      refine (same_true (nats l) (by rw [nats_len, HM.out]) (by rw [nats_len, HM.out]) HS.out.rd ((HRP.out.drewN nd).later HB3.out) (by rw [nats_len, HM.out]; unfold maxLen; omega)).mono ?_
      rintro e w4 ⟨rfl, n4, rfl⟩
      go_wp2_with fail
      refine (spoil_any P m cp l bit 0 _ HM.out (((HRP.out.drewN nd).later HB3.out).drewN n4) HL.out (by omega) HP.out.none_len (by omega) (by omega) (by omega)).mono ?_
      rintro e w5 ⟨T, ct, rfl, hs, hb5⟩
      rw [spoilN_zero HL.out] at hs
      have HT := Lib.hid hs
      have HB5 := Lib.hid hb5
      clear hs hb5
      go_wp2_with fail
      refine (same_true (nats l) (by rw [nats_len, HM.out]) (by rw [nats_len, HM.out]) HT.out.rd ((((HRP.out.drewN nd).later HB3.out).drewN n4).later HB5.out) (by rw [nats_len, HM.out]; unfold maxLen; omega)).mono ?_
      rintro e w6 ⟨rfl, n6, rfl⟩
      go_wp2_with fail
      refine (wakes_any _).mono ?_
      rintro e w7 ⟨rfl, hb7⟩
      go_wp2_with fail
      go_ret
      have hbD : Below w.heap.size w (w5.drewN n6) := below_drewN' ((below_drewN' HBC.out n4).trans (HB5.out.mono HBC.out.size)) n6
      exact ⟨rfl, hbD.trans (hb7.mono hbD.size)⟩
end Go.Proofs.Ytbadehbhnenbjaa

/-
  The walk of SpanReads.
-/
import Derived.Test.YtheecfgehfhimaaSpan
import Derived.Test.YtheecfgehfhimaaRefSpan
import Derived.Test.YtheecfgehfhimaaSpanPack
import Derived.Test.YtheecfgehfhimaaLend
import Derived.Test.YtheecfgehfhimaaArgT
import Derived.Deep.DeepCutAuto
import Derived.Deep.CutBlock
import Derived.Deep.LoopGhost
namespace Go.Proofs.Ytheecfgehfhimaa
open Go.RowKit

/-- Bytes that are read somewhere. -/
structure Bts (W w : World) (A : Option Addr) (n c : Nat) (L : List Int) : Prop where
  len : L.length = n
  le : n ≤ c
  reach : n ≤ 140737488351232
  nil : A = none → c = 0 ∧ n = 0
  rd : Rd .u8 w A L
  bytes : ∀ x ∈ L, 0 ≤ x ∧ x < 256
  bel : Below W.heap.size W w

/-- What the first loop has made. -/
def ReadsInv (W wr : World) (vc vi : Value) : Prop :=
  ∃ (j : Nat) (L : List Int) (A : Option Addr) (c : Nat), j ≤ 6 ∧ vi = .int .i64 (j : Nat) ∧ vc = .slice A L.length c ∧ L.length ≤ 90 * j ∧ Hid (∀ x ∈ L, 0 ≤ x ∧ x < 256) ∧ Hid (Own .u8 5 wr W.heap.size (.slice A L.length c) L) ∧ Hid (Below W.heap.size W wr)

theorem bytT_len (xs : List Int) (a : Nat) (bad : Bool) (most : Int) : (bytT xs a bad most).1.length ≤ xs.length := by
  unfold bytT
  split
  · simp
  · simp; omega

set_option maxRecDepth 100000 in
set_option maxHeartbeats 4000000 in
theorem spanReads_walk (A0 : Option Addr) (n0 c0 : Nat) (xs : List Int) (A1 : Option Addr) (n1 c1 : Nat) (ns : List Int) (A2 : Option Addr) (n2 c2 : Nat) (Ra : Nat → Option Addr) (Rn Rc : Nat → Nat) (Rz : Nat → List Int)
    (A3 : Option Addr) (n3 c3 : Nat) (acts : List Int) (raw : Bool) (w : World) (h0 : ArgI .u8 1 w A0 n0 c0 xs) (h1 : ArgI .i64 8 w A1 n1 c1 ns) (h2 : ArgT w A2 n2 c2 Ra Rn Rc Rz) (h3 : ArgI .i64 8 w A3 n3 c3 acts) :
    Calls Try.prog 4 #[.slice A0 n0 c0, .slice A1 n1 c1, .slice A2 n2 c2, .slice A3 n3 c3, .bool raw] w fun e w' => e = .returned (.bool true) ∧ Below w.heap.size w w' := by
  have r0 := h0.reach
  have r1 := h1.reach
  have r2 := h2.reach
  have r3 := h3.reach
  have l0 := h0.le
  have l1 := h1.le
  have l2 := h2.le
  have l3 := h3.le
  have H0 := Lib.hid h0
  have H1 := Lib.hid h1
  have H2 := Lib.hid h2
  have H3 := Lib.hid h3
  clear h0 h1 h2 h3
  go_enter Try.func4, Try.ntmps4
  go_upto_if 19 with (fail)
  go_cut [0, 11, 12] (fun s0 s11 s12 wx => ∃ A n c L, s0 = .slice A n c ∧ Hid (Bts w wx A n c L))
  case first =>
    cases raw with
    | true =>
      go_wp2_with fail
      go_meet
      exact ⟨_, _, _, xs, rfl, ⟨H0.out.len, l0, by omega, fun h => by have := H0.out.nil h; omega, H0.out.rd, fun x hx => wf_u8 (H0.out.wf x hx), Below.refl _ _⟩⟩
    | false =>
      go_wp2_with fail
      simp only [Bool.not_false]
      go_loopw [11, 12] (fun vc vi wr => ReadsInv w wr vc vi) (fun _ vi _ => 6 - (intOf vi).toNat)
      case atStart => exact ⟨0, [], none, 0, by omega, rfl, rfl, by simp, Lib.hid (by simp), Lib.hid (Own.nil _ _ _ _), Lib.hid (Below.refl _ _)⟩
      case round =>
        obtain ⟨j, L, A, c, hj, rfl, rfl, hL, hby, ho, hbl⟩ := hrel
        by_cases hlt : j < n1 ∧ j < 6
        · obtain ⟨t1, t2⟩ := hlt
          obtain ⟨b1, o1, rfl, hc1⟩ := (H1.out.rd.later hbl.out).some_ (by rw [H1.out.len]; omega)
          have k1 := hc1 j (by rw [H1.out.len]; omega)
          clear hc1
          obtain ⟨x, hx⟩ : ∃ x, ns.getD j 0 = x := ⟨_, rfl⟩
          rw [hx] at k1
          clear hx
          have i1 : (j : Int) < (n1 : Int) := by omega
          have i2 : (j : Int) < 6 := by omega
          have i3 : (0 : Int) ≤ (j : Int) := by omega
          go_wp2_with fail
          refine (within_any _ _ _ (by omega) (by omega)).mono ?_
          rintro e w' ⟨rfl, rfl⟩
          obtain ⟨z, hz⟩ : ∃ z, x % 1073741824 = z := ⟨_, rfl⟩
          rw [hz]
          clear hz
          go_wp2_with fail
          refine (refPut_own z _).mono ?_
          rintro e w1 ⟨P, cp, rfl, hp, hb1⟩
          have hpl := putL_len z
          have hbl1 := hbl.out.trans (hb1.mono hbl.out.size)
          have ho1 := ho.out.later hb1
          clear hb1
          go_upto_region 7 with (at_builtin; refine wpList_app _ .u8 rfl (.tmp 30) (.tmp 36) 22 rfl 5 (.int .u8 0) 1 Try.underlying22 info_byte rfl w.heap.size (.slice A L.length c) L rfl ho1 _ _ _ rfl (putL z) rfl hp.rd (by unfold maxLen; omega) (by omega) hbl1.size ?_; intro F fc w2 hf hg2)
          have hbl2 := hbl1.grown hg2 hbl1.size (fun g hg => (ho1.lt g hg).1)
          have hby2 : ∀ x ∈ L ++ putL z, 0 ≤ x ∧ x < 256 := fun x hx => by
            rcases List.mem_append.1 hx with hx | hx
            · exact hby.out x hx
            · exact putL_bytes z x hx
          have hfl : (L ++ putL z).length = L.length + (putL z).length := List.length_append
          obtain ⟨L2, hL2⟩ : ∃ L2, L ++ putL z = L2 := ⟨_, rfl⟩
          rw [hL2] at hf hby2 hfl
          rw [← hfl] at hf ⊢
          have hl2 : L2.length ≤ 90 * j + 8 := by omega
          have HF := Lib.hid hf
          have HBL2 := Lib.hid hbl2
          have HBY2 := Lib.hid hby2
          clear hg2 ho1 hbl1 hf hbl2 hby2 hfl hL2 hpl hp hL ho hbl hby k1
          by_cases t3 : j < n2
          · have i4 : (j : Int) < (n2 : Int) := by omega
            obtain ⟨b2, o2, rfl, hc2⟩ := H2.out.cell (by omega)
            have k2 := cell_later HBL2.out (hc2 j t3)
            obtain ⟨q1, q2, q3, q4, q5⟩ := H2.out.row j t3
            have q3' : Rc j ≤ 9223372036854775807 := by unfold maxLen at q3; exact q3
            obtain ⟨T, hT⟩ : ∃ T, Ra j = T := ⟨_, rfl⟩
            obtain ⟨tn, htn⟩ : ∃ tn, Rn j = tn := ⟨_, rfl⟩
            obtain ⟨tc, htc⟩ : ∃ tc, Rc j = tc := ⟨_, rfl⟩
            obtain ⟨ts, hts⟩ : ∃ ts, Rz j = ts := ⟨_, rfl⟩
            rw [hT, htn, htc] at k2
            rw [hT, hts] at q4
            rw [hts, htn] at q1
            rw [htn, htc] at q2
            rw [htc] at q3'
            rw [hts] at q5
            clear hT htn htc hts hc2 q3
            have Q1 := Lib.hid q1
            have Q4 := Lib.hid (q4.later HBL2.out)
            have Q5 := Lib.hid q5
            clear q1 q4 q5
            go_wp2_with fail
            refine (cut_any T tn tc 70 ts _ Q1.out q2 Q4.out (by omega) (by omega) (by omega)).mono ?_
            rw [show (70 : Int).toNat = 70 from rfl]
            have hk : (ts.take 70).length ≤ 70 := by simp; omega
            obtain ⟨us, hus⟩ : ∃ us, ts.take 70 = us := ⟨_, rfl⟩
            have Q6 := Lib.hid (show ∀ x ∈ us, 0 ≤ x ∧ x < 256 from fun x hx => Q5.out x (List.mem_of_mem_take (hus ▸ hx)))
            rw [hus] at hk ⊢
            clear hus
            rintro e w3 ⟨U, cu, rfl, hu, hb3⟩
            have HF3 := Lib.hid (HF.out.later hb3)
            have HBL3 := Lib.hid (HBL2.out.trans (hb3.mono HBL2.out.size))
            clear hb3 k2 q2 q3'
            go_wp2_with fail
            refine (wrap_any U us.length cu us _ rfl hu.rd (by omega)).mono ?_
            rintro e w4 ⟨V, cv, rfl, hv, hb4⟩
            have hvl := putL_len us.length
            have hvt : (putL us.length ++ us).length = (putL us.length).length + us.length := List.length_append
            obtain ⟨vs, hvs⟩ : ∃ vs, putL us.length ++ us = vs := ⟨_, rfl⟩
            have Q7 := Lib.hid (show ∀ x ∈ vs, 0 ≤ x ∧ x < 256 from fun x hx => by
              rw [← hvs] at hx
              rcases List.mem_append.1 hx with hx | hx
              · exact putL_bytes _ x hx
              · exact Q6.out x hx)
            rw [hvs] at hvt hv
            rw [← hvt] at hv ⊢
            have hvl2 : vs.length ≤ 78 := by omega
            have HF4 := Lib.hid (HF3.out.later hb4)
            have HBL4 := Lib.hid (HBL3.out.trans (hb4.mono HBL3.out.size))
            clear hb4 HF3 HBL3 hvs hu hvl hvt
            go_wp2_with (at_builtin; refine wpList_app _ .u8 rfl (.tmp 42) (.tmp 48) 22 rfl 5 (.int .u8 0) 1 Try.underlying22 info_byte rfl w.heap.size (.slice F L2.length fc) L2 rfl HF4.out _ _ _ rfl vs rfl hv.rd (by unfold maxLen; omega) (by omega) HBL4.out.size ?_; intro G gc w5 hg5 hh5)
            have HBL5 := Lib.hid (HBL4.out.grown hh5 HBL4.out.size (fun g hg => (HF4.out.lt g hg).1))
            go_roundw
            case rel =>
              refine ⟨j + 1, L2 ++ vs, G, gc, by omega, by go_num, by rw [List.length_append], by rw [List.length_append]; omega, Lib.hid (fun x hx => ?_), Lib.hid (by rw [List.length_append]; exact hg5), HBL5⟩
              rcases List.mem_append.1 hx with hx | hx
              · exact HBY2.out x hx
              · exact Q7.out x hx
            case measure => simp [intOf]; omega
          · have i4 : ¬ (j : Int) < (n2 : Int) := by omega
            go_wp2_with fail
            go_roundw
            case rel => exact ⟨j + 1, L2, F, fc, by omega, by go_num, rfl, by omega, HBY2, HF, HBL2⟩
            case measure => simp [intOf]; omega
        · have hcase : ¬ (j : Int) < (n1 : Int) ∨ ((j : Int) < (n1 : Int) ∧ ¬ (j : Int) < 6) := by omega
          clear hlt
          have hrd := Lib.hid (H0.out.rd.later hbl.out)
          rcases hcase with t0 | ⟨t0, t1⟩
          all_goals
            go_wp2_with fail
            refine (cut_any A0 n0 c0 4 xs _ H0.out.len l0 hrd.out (by omega) (by omega) (by omega)).mono ?_
            rw [show (4 : Int).toNat = 4 from rfl]
            have hk : (xs.take 4).length ≤ 4 := by simp; omega
            obtain ⟨us, hus⟩ : ∃ us, xs.take 4 = us := ⟨_, rfl⟩
            have Q6 := Lib.hid (show ∀ x ∈ us, 0 ≤ x ∧ x < 256 from fun x hx => wf_u8 (H0.out.wf x (List.mem_of_mem_take (hus ▸ hx))))
            rw [hus] at hk ⊢
            clear hus
            rintro e w3 ⟨U, cu, rfl, hu, hb3⟩
            have HF3 := Lib.hid (ho.out.later hb3)
            have HBL3 := Lib.hid (hbl.out.trans (hb3.mono hbl.out.size))
            clear hb3
            go_wp2_with (at_builtin; refine wpList_app _ .u8 rfl (.tmp 50) (.tmp 52) 22 rfl 5 (.int .u8 0) 1 Try.underlying22 info_byte rfl w.heap.size (.slice A L.length c) L rfl HF3.out _ _ _ rfl us rfl hu.rd (by unfold maxLen; omega) (by omega) HBL3.out.size ?_; intro G gc w5 hg5 hh5)
            have HBL5 := Lib.hid (HBL3.out.grown hh5 HBL3.out.size (fun g hg => (HF3.out.lt g hg).1))
            go_meet
            refine ⟨_, _, _, L ++ us, rfl, Lib.hid ⟨by rw [List.length_append], hg5.cap, by omega, hg5.none_len, hg5.rd, fun x hx => ?_, HBL5.out⟩⟩
            rcases List.mem_append.1 hx with hx | hx
            · exact hby.out x hx
            · exact Q6.out x hx
  case rest =>
  obtain ⟨A, n, c, L, rfl, hb⟩ := hcut
  have rb := hb.out.reach
  have lb := hb.out.le
  clear H0 H1 H2 r0 r1 r2 l0 l1 l2
  go_wp2_with fail
  refine (lend_any A n c L wc hb.out.len hb.out.rd (by omega)).mono ?_
  rintro e w1 ⟨Le, rfl, hl, hb1⟩
  have hrl : Rd .u8 w1 Le L := by
    have := hl.take L.length
    simpa using this
  have hne : Le = none → n + 3 = 0 ∧ n = 0 := fun h => by
    obtain ⟨b, off, hA, _⟩ := hl.some_ (by simp)
    rw [h] at hA; cases hA
  have HRL := Lib.hid hrl
  have HL := Lib.hid hl
  have HB1 := Lib.hid hb1
  have HRB := Lib.hid (hb.out.rd.later hb1)
  clear hl hb1 hrl
  go_wp2_with fail
  refine (new_any Le n (n + 3) L w1 hb.out.len HRL.out (by omega) hne hb.out.bytes).mono ?_
  rintro e w2 ⟨p, B, d, rfl, h2, b2, z2, y2⟩
  have K2 := Lib.hid h2
  have B2 := Lib.hid b2
  clear h2 b2 hne
  go_wp2_with fail
  refine (copy_any A n c L w2 hb.out.len (HRB.out.later B2.out) (by omega)).mono ?_
  rintro e w3 ⟨C, cc, rfl, o3, b3⟩
  have K3 := K2.out.later b3
  have B3 := B2.out.trans (b3.mono B2.out.size)
  have z3 := b3.size
  have O3 := Lib.hid o3
  clear K2 B2 o3 b3
  have hC : Ref (w3.alloc (.cells #[.slice C n cc, .int .i64 0, .bool false] 38)) w3.heap.size C cc L 0 false := by
    have hn := hb.out.len
    refine ⟨by decide, ?_, ?_, Nat.zero_le _, by omega, hb.out.bytes⟩
    · have := World.rowIs_alloc w3 #[.slice C n cc, .int .i64 0, .bool false] 38 (rdrF C L.length cc 0 false) (fun i hi => by
        have : i < 3 := hi
        rw [hn]
        match i, this with
        | 0, _ | 1, _ | 2, _ => rfl)
      exact this
    · rw [hn]; exact (O3.out.less (Nat.zero_le _)).alloc _
  have K4 := Lib.hid (K3.alloc (.cells #[.slice C n cc, .int .i64 0, .bool false] 38))
  have B4 := Lib.hid (B3.alloc B3.size (.cells #[.slice C n cc, .int .i64 0, .bool false] 38))
  have X4 := Lib.hid hC
  have z4 := B3.size
  have hpq : p ≠ w3.heap.size := by omega
  clear K3 B3 hC O3
  go_wp2_with fail
  obtain ⟨q, hq⟩ : ∃ q, w3.heap.size = q := ⟨_, rfl⟩
  rw [hq] at X4 z4 hpq ⊢
  obtain ⟨W4, hW4⟩ : ∃ W4, w3.alloc (.cells #[.slice C n cc, .int .i64 0, .bool false] 38) = W4 := ⟨_, rfl⟩
  rw [hW4] at X4 K4 B4 ⊢
  clear hW4 hq z3 y2
  have HWB := Lib.hid (hb.out.bel.trans (HB1.out.mono hb.out.bel.size))
  go_loopg [16, 17, 84, 92] 20 (fun k i s17 s84 s92 wr => ∃ (j a : Nat) (bad : Bool), j ≤ n3 ∧ j + k = 20 ∧ i = .int .i64 (j : Nat) ∧ Hid (Rdr wr p B d L a bad) ∧ Hid (Ref wr q C cc L a bad) ∧ Hid (Below w1.heap.size w1 wr))
  case atStart => exact ⟨0, 0, false, by omega, by omega, rfl, K4, X4, B4⟩
  case round =>
    clear K4 X4 B4
    obtain ⟨j, a, bad, hj, hj3, rfl, hK, hX, hbl⟩ := hrel
    by_cases hlt : j < n3 ∧ j < 20
    · obtain ⟨t1, t2⟩ := hlt
      have HWL := Lib.hid (HWB.out.trans (hbl.out.mono HWB.out.size))
      obtain ⟨b3, o3, rfl, hc3⟩ := (H3.out.rd.later HWL.out).some_ (by rw [H3.out.len]; omega)
      have k3 := hc3 j (by rw [H3.out.len]; exact t1)
      obtain ⟨x, hx⟩ : ∃ x, acts.getD j 0 = x := ⟨_, rfl⟩
      rw [hx] at k3
      clear hx hc3
      have i1 : (j : Int) < (n3 : Int) := by omega
      have i2 : (j : Int) < 20 := by omega
      have i3 : (0 : Int) ≤ (j : Int) := by omega
      go_wp2_with fail
      refine (within_any x 4 _ (by omega) (by omega)).mono ?_
      rintro e w' ⟨rfl, rfl⟩
      obtain ⟨y, hy⟩ : ∃ y, x % 4 = y := ⟨_, rfl⟩
      have hy4 : y = 0 ∨ y = 1 ∨ y = 2 ∨ y = 3 := by omega
      rw [hy]
      clear hy
      go_upto_block 4 with (fail)
      go_cut [17, 84, 92] (fun s17 s84 s92 wx => ∃ (a' : Nat) (bad' : Bool), Hid (Rdr wx p B d L a' bad') ∧ Hid (Ref wx q C cc L a' bad') ∧ Hid (Below w1.heap.size w1 wx))
      case first =>
        have hlen := Lib.hid (show L.length ≤ 140737488351232 by rw [hb.out.len]; exact rb)
        rcases hy4 with rfl | rfl | rfl | rfl
        · go_wp2_with fail
          refine (numberX_any hK.out).mono ?_
          rintro e w5 ⟨rfl, h5, g5⟩
          have X5 := Lib.hid (hX.out.other hK.out hpq.symm g5)
          have K5 := Lib.hid h5
          have B5 := Lib.hid (bel_rdr hbl.out hbl.out.size z2 g5)
          clear h5 g5 hK hX hbl k3
          go_wp2_with fail
          refine (refNumber_any X5.out).mono ?_
          rintro e w6 ⟨rfl, h6, g6⟩
          have K6 := Lib.hid (K5.out.other X5.out hpq g6)
          have X6 := Lib.hid h6
          have B6 := Lib.hid (bel_rdr B5.out B5.out.size z4 g6)
          clear h6 g6 K5 X5 B5
          go_wp2_with fail
          go_meet
          exact ⟨_, _, K6, X6, B6⟩
        · go_wp2_with fail
          refine (numberX_any hK.out).mono ?_
          rintro e w5 ⟨rfl, h5, g5⟩
          have X5 := Lib.hid (hX.out.other hK.out hpq.symm g5)
          have K5 := Lib.hid h5
          have B5 := Lib.hid (bel_rdr hbl.out hbl.out.size z2 g5)
          clear h5 g5 hK hX hbl k3
          go_wp2_with fail
          refine (refNumber_any X5.out).mono ?_
          rintro e w6 ⟨rfl, h6, g6⟩
          have K6 := Lib.hid (K5.out.other X5.out hpq g6)
          have X6 := Lib.hid h6
          have B6 := Lib.hid (bel_rdr B5.out B5.out.size z4 g6)
          clear h6 g6 K5 X5 B5
          go_wp2_with fail
          go_meet
          exact ⟨_, _, K6, X6, B6⟩
        · go_wp2_with fail
          refine (within_any x 100 _ (by omega) (by omega)).mono ?_
          rintro e w' ⟨rfl, rfl⟩
          have t9 := Int.lt_tmod_of_pos x (show (0 : Int) < 9 by decide)
          have t9' := Int.tmod_lt_of_pos x (show (0 : Int) < 9 by decide)
          have hw9 : IntKind.i64.wrap (4 - x.tmod 9) = 4 - x.tmod 9 := IntWalk.i64_in _ (by omega)
          by_cases hm : x.tmod 7 = 6
          · have hm' : (x.tmod 7 == 6) = true := by simpa using hm
            go_wp2_with fail
            refine (bytesX_any _ hK.out).mono ?_
            rintro e w5 ⟨A5, c5, rfl, o5, h5, g5⟩
            have X5 := Lib.hid (hX.out.other hK.out hpq.symm g5)
            have K5 := Lib.hid h5
            have B5 := Lib.hid (bel_rdr hbl.out hbl.out.size z2 g5)
            have O5 := Lib.hid o5
            clear h5 g5 hK hX hbl k3 o5
            go_wp2_with fail
            refine (refBytes_any _ X5.out).mono ?_
            rintro e w6 ⟨A6, c6, rfl, o6, h6, g6⟩
            have K6 := Lib.hid (K5.out.other X5.out hpq g6)
            have X6 := Lib.hid h6
            have B6 := Lib.hid (bel_rdr B5.out B5.out.size z4 g6)
            have O6 := Lib.hid (Own.rdr O5.out X5.out g6)
            have P6 := Lib.hid o6
            clear h6 g6 K5 X5 B5 O5 o6
            go_wp2_with fail
            refine (same_true _ rfl rfl O6.out.rd P6.out.rd (by have := bytT_len L a bad (4 - x.tmod 9); have := hlen.out; unfold maxLen; omega)).mono ?_
            rintro e w7 ⟨rfl, k7, rfl⟩
            go_wp2_with fail
            go_meet
            exact ⟨_, _, Lib.hid (K6.out.drewN k7), Lib.hid (X6.out.drewN k7), Lib.hid (below_drewN' B6.out k7)⟩
          · have hm' : (x.tmod 7 == 6) = false := by simpa using hm
            go_wp2_with fail
            refine (bytesX_any _ hK.out).mono ?_
            rintro e w5 ⟨A5, c5, rfl, o5, h5, g5⟩
            have X5 := Lib.hid (hX.out.other hK.out hpq.symm g5)
            have K5 := Lib.hid h5
            have B5 := Lib.hid (bel_rdr hbl.out hbl.out.size z2 g5)
            have O5 := Lib.hid o5
            clear h5 g5 hK hX hbl k3 o5
            go_wp2_with fail
            refine (refBytes_any _ X5.out).mono ?_
            rintro e w6 ⟨A6, c6, rfl, o6, h6, g6⟩
            have K6 := Lib.hid (K5.out.other X5.out hpq g6)
            have X6 := Lib.hid h6
            have B6 := Lib.hid (bel_rdr B5.out B5.out.size z4 g6)
            have O6 := Lib.hid (Own.rdr O5.out X5.out g6)
            have P6 := Lib.hid o6
            clear h6 g6 K5 X5 B5 O5 o6
            go_wp2_with fail
            refine (same_true _ rfl rfl O6.out.rd P6.out.rd (by have := bytT_len L a bad (x % 100); have := hlen.out; unfold maxLen; omega)).mono ?_
            rintro e w7 ⟨rfl, k7, rfl⟩
            go_wp2_with fail
            go_meet
            exact ⟨_, _, Lib.hid (K6.out.drewN k7), Lib.hid (X6.out.drewN k7), Lib.hid (below_drewN' B6.out k7)⟩
        · go_wp2_with fail
          refine (byteX_any hK.out).mono ?_
          rintro e w5 ⟨rfl, h5, g5⟩
          have X5 := Lib.hid (hX.out.other hK.out hpq.symm g5)
          have K5 := Lib.hid h5
          have B5 := Lib.hid (bel_rdr hbl.out hbl.out.size z2 g5)
          clear h5 g5 hK hX hbl k3
          go_wp2_with fail
          refine (refByte_any X5.out).mono ?_
          rintro e w6 ⟨rfl, h6, g6⟩
          have K6 := Lib.hid (K5.out.other X5.out hpq g6)
          have X6 := Lib.hid h6
          have B6 := Lib.hid (bel_rdr B5.out B5.out.size z4 g6)
          clear h6 g6 K5 X5 B5
          go_wp2_with fail
          go_meet
          exact ⟨_, _, K6, X6, B6⟩
      case rest =>
      clear hK hX hbl k3 hy4 HWL
      obtain ⟨a', bad', hK, hX, hbl⟩ := hcut
      have hle := hK.out.le
      rw [hb.out.len] at hle
      have hln := hb.out.len
      have c1 := hX.out.c1
      have c2 := hX.out.c2
      have q1 := fun k => quiet_eq (at_any (hK.out.drewN k))
      have q2 := fun k => Calls.quiet_of (left_any (hK.out.drewN k))
      have q3 := fun k => quiet_eq (bad_any (hK.out.drewN k))
      have e1 : ((n - a' : Nat) : Int) = (n : Int) - (a' : Int) := by omega
      rw [hln, e1] at q2
      have Q1 := Lib.hid q1
      have Q2 := Lib.hid q2
      have Q3 := Lib.hid q3
      have v1 : IntKind.i64.wrap ((n : Int) - (a' : Int)) = (n : Int) - (a' : Int) := IntWalk.i64_in _ (by omega)
      have v2 : ((a' : Int) != (a' : Int)) = false := by simp
      have v3 : ((n : Int) - (a' : Int) != (n : Int) - (a' : Int)) = false := by simp
      have v4 : (bad' != bad') = false := by simp
      clear q1 q2 q3 e1 hln
      go_wp2_with fail
      go_quiet ((first | (go_at_call 12; exact Q1.out _) | (go_at_call 13; exact Q2.out _) | (go_at_call 11; exact Q3.out _)))
      clear v1 v2 v3 v4 Q1 Q2 Q3
      go_wp2
      go_roundg (gk - 1)
      case measure => omega
      case rel => exact ⟨j + 1, a', bad', by omega, by omega, by go_num, Lib.hid (hK.out.drewN _), Lib.hid (hX.out.drewN _), Lib.hid (below_drewN' hbl.out _)⟩
    · have hcase : ¬ (j : Int) < (n3 : Int) ∨ ((j : Int) < (n3 : Int) ∧ ¬ (j : Int) < 20) := by omega
      clear hlt
      have hrl := HL.out.later hbl.out
      have hrb := HRB.out.later hbl.out
      have HL5 := Lib.hid hrl
      have HB5 := Lib.hid hrb
      have HBB := Lib.hid (HWB.out.trans (hbl.out.mono HWB.out.size))
      clear hrl hrb hK hX hbl hj hj3
      rcases hcase with t0 | ⟨t0, t1⟩
      all_goals
        go_wp2_with fail
        refine (intact_any Le A n c L _ hb.out.len HL5.out HB5.out (by omega)).mono ?_
        rintro e w6 ⟨rfl, k6, rfl⟩
        go_wp2_with fail
        refine (pack_any A n c L _ hb.out.len (HB5.out.drewN k6) rb).mono ?_
        rintro e w7 ⟨A7, c7, rfl, o7, b7⟩
        have O7 := Lib.hid o7
        have B7 := Lib.hid b7
        clear o7 b7
        go_wp2_with fail
        refine (wrap_any A n c L _ hb.out.len ((HB5.out.drewN k6).later B7.out) rb).mono ?_
        rintro e w8 ⟨A8, c8, rfl, o8, b8⟩
        have O8 := Lib.hid o8
        have B8 := Lib.hid (B7.out.trans (b8.mono B7.out.size))
        have P8 := Lib.hid (O7.out.later b8)
        clear o8 b8 O7 B7
        go_wp2_with fail
        have hpl := putL_len n
        have hlt : (putL (n : Int) ++ L).length = (putL (n : Int)).length + n := by rw [List.length_append, hb.out.len]
        refine (same_true _ hlt hlt P8.out.rd O8.out.rd (by rw [hlt]; unfold maxLen; omega)).mono ?_
        rintro e w9 ⟨rfl, k9, rfl⟩
        go_wp2_with fail
        refine (wakes_any _).mono ?_
        rintro e w10 ⟨rfl, b10⟩
        go_wp2_with fail
        go_ret
        have hA := (below_drewN' HBB.out k6)
        have hB := hA.trans (B8.out.mono hA.size)
        have hC := below_drewN' hB k9
        exact ⟨rfl, hC.trans (b10.mono hC.size)⟩
end Go.Proofs.Ytheecfgehfhimaa

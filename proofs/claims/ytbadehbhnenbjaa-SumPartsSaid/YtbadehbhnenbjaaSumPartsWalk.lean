/-
  The walk of SumParts.
-/
import Derived.Test.YtbadehbhnenbjaaSumBurst
import Derived.Test.YtbadehbhnenbjaaSumWakes
import Derived.Test.YtbadehbhnenbjaaSumSpoil
import Derived.Test.YtbadehbhnenbjaaCopy
import Derived.Test.YtbadehbhnenbjaaWithin
import Derived.RegionTactic
import Derived.ChangeAlike
import Derived.StillTailTactics
import Derived.IntWalk
import Derived.Deep.RegionWith
import Derived.Deep.RegionHeld3
namespace Go.Proofs.Ytbadehbhnenbjaa
open Go.RowKit

/-- From w on nothing that was there has changed. -/
def Since (w w' : World) : Prop := Below w.heap.size w w'

theorem Rd.grown {w w' : World} {g gP : Nat} {ys : List Int} (h : Rd .u8 w (some ⟨g, 0, none⟩) ys) (hg : w.grownBy w' (some gP)) (hlt : g < w.heap.size) (hne : g ≠ gP) : Rd .u8 w' (some ⟨g, 0, none⟩) ys := by
  rcases h with h | ⟨b, off, hA, h⟩
  · exact .inl h
  · simp only [Option.some.injEq, Addr.mk.injEq, and_true] at hA
    obtain ⟨rfl, rfl⟩ := hA
    refine .inr ⟨_, _, rfl, fun i hi => ?_⟩
    have hb := hg.block g hlt (fun e => hne (Option.some.inj e))
    rw [World.cell?_of_block (a := ⟨g, 0 + i, none⟩) hb]
    exact h i hi
theorem rd_new_at (w : World) (g : Nat) (a : Int) (t : TypeId) (hg : g = w.heap.size) : Rd .u8 (w.alloc (.cells #[.int .u8 a] t)) (some ⟨g, 0, none⟩) [a] := by
  subst hg; exact Rd.new w [a] t
theorem keepS {w7 wi wj : World} {p q : Addr} {a b : Option Value} (h : Since w7 wi ∧ wi.cell? p = a ∧ wi.cell? q = b) (hp : p.block < w7.heap.size) (hq : q.block < w7.heap.size) (hb : Below w7.heap.size wi wj) :
    Since w7 wj ∧ wj.cell? p = a ∧ wj.cell? q = b := by
  obtain ⟨h1, h2, h3⟩ := h
  exact ⟨h1.trans hb, by rw [hb.cell hp, h2], by rw [hb.cell hq, h3]⟩

set_option maxRecDepth 100000 in
set_option maxHeartbeats 4000000 in
theorem sumParts_walk (A : Option Addr) (n c : Nat) (xs : List Int) (a1 a2 : Int) (w : World) (ha : ArgI .u8 1 w A n c xs) (_ : (Lit.int .i64 a1).wf = true) (_ : (Lit.int .i64 a2).wf = true) :
    Calls Try.prog 3 #[.slice A n c, .int .i64 a1, .int .i64 a2] w fun e w' => e = .returned (.bool true) ∧ Below w.heap.size w w' := by
  have hreach := ha.reach
  have hle := ha.le
  have hxs := nats_of (fun x hx => wf_u8 (ha.wf x hx))
  obtain ⟨l0, hl⟩ : ∃ l0, (xs.map Int.toNat).take 60 = l0 := ⟨_, rfl⟩
  have hl2 : xs.take 60 = nats l0 := by rw [← hl, ← nats_take, hxs]
  have hl3 : ∀ x ∈ l0, x < 256 := fun x hx => bytes_nat (fun x hx => wf_u8 (ha.wf x hx)) x (by rw [← hl] at hx; exact List.mem_of_mem_take hx)
  have hl4 : l0.length ≤ 60 := by rw [← hl, List.length_take]; omega
  have hcut := cut_any A n c 60 xs w ha.len ha.le ha.rd (by omega) (by omega) (by omega)
  rw [show ((60 : Int)).toNat = 60 from rfl, hl2, nats_len] at hcut
  obtain ⟨m0, hm'⟩ : ∃ m0, l0.length = m0 := ⟨_, rfl⟩
  rw [hm'] at hcut hl4
  obtain ⟨l, hll⟩ : ∃ l, l0 ++ [1, 2] = l := ⟨_, rfl⟩
  have hl5 : l.length = m0 + 2 := by rw [← hll]; simp [hm']
  have hl6 : ∀ x ∈ l, x < 256 := fun x hx => by
    rw [← hll] at hx
    rcases List.mem_append.1 hx with h' | h'
    · exact hl3 x h'
    · simp at h'; omega
  have hl7 : nats l0 ++ [1, 2] = nats l := by rw [← hll]; simp [nats]
  have HLL := Lib.hid hl7
  have HLB := Lib.hid hl6
  have HLN := Lib.hid hl5
  have HC := Lib.hid hcut
  have HM0 := Lib.hid (show (nats l0).length = m0 by rw [nats_len, hm'])
  clear hxs hl hl2 hl3 hcut hm' ha hll hl5 hl6 hl7
  go_enter Try.func3, Try.ntmps3
  go_wp2_with fail
  refine HC.out.mono ?_
  rintro e w1 ⟨P, cp, rfl, hp, hb1⟩
  have HP := Lib.hid hp
  have HB1 := Lib.hid hb1
  clear HC hp hb1
  have hz1 := HB1.out.size
  have hn2 : Rd .u8 (w1.alloc (.cells (bts [1, 2]) 5)) (some ⟨w1.heap.size, 0, none⟩) [1, 2] := Rd.new _ _ _
  have HN2 := Lib.hid hn2
  clear hn2
  go_wp2_with (at_builtin; refine wpList_app _ .u8 rfl (.tmp 13) (.tmp 14) 22 rfl 5 (.int .u8 0) 1 Try.underlying22 info_byte rfl w.heap.size (.slice P m0 cp) (nats l0) rfl (by first | exact HP.out.alloc _ | (rw [HM0.out]; exact HP.out.alloc _)) (some ⟨w1.heap.size, 0, none⟩) 2 2 rfl [1, 2] rfl HN2.out (by rw [HM0.out]; unfold maxLen; omega) (by rw [HM0.out]; omega) (by simp; omega) ?_; intro D dd w2 hd hg6)
  obtain ⟨m, hm⟩ : ∃ m, (nats l0).length + 2 = m := ⟨_, rfl⟩
  have hm2 : l.length = m := by rw [HLN.out, ← hm, HM0.out]
  have hm3 : 2 ≤ m := by omega
  have hm4 : m ≤ 62 := by rw [← hm, HM0.out]; omega
  rw [HLL.out, hm] at hd
  rw [hm]
  have hb2 : Below w.heap.size w w2 := (HB1.out.alloc hz1 _).trans (grown_below hg6 (by simp; omega) (fun g hg => (HP.out.lt g hg).1))
  have HM := Lib.hid hm2
  have HB2 := Lib.hid hb2
  obtain ⟨gb, rfl, hgb1, hgb2, -, hbcell, -⟩ := hd.block (by omega)
  have HD := Lib.hid hd
  have HBC := Lib.hid hbcell
  clear hm hm2 hb2 hd hg6 hbcell HN2 HP HB1 HLL HLN HM0
  refine (table_any w2).mono ?_
  rintro e w3 ⟨rfl, ht, hb3, hz3⟩
  have hb4 : Below w.heap.size w w3 := HB2.out.trans (hb3.mono HB2.out.size)
  have hr3 : Rd .u8 w3 (some ⟨gb, 0, none⟩) (nats l) := HD.out.rd.later hb3
  obtain ⟨g, hg⟩ : ∃ g, w2.heap.size = g := ⟨_, rfl⟩
  rw [hg] at ht hz3 hgb2 ⊢
  have HT := Lib.hid ht
  have HB4 := Lib.hid hb4
  have HR3 := Lib.hid hr3
  have HZ3 := Lib.hid hz3
  have hgw : w.heap.size ≤ g := by rw [← hg]; exact HB2.out.size
  clear ht hb3 hz3 hb4 hr3 HB2 HBC HD hg
  have hlb := nats_bytes HLB.out
  have HNB := Lib.hid hlb
  clear hlb
  obtain ⟨want, hwant⟩ : ∃ want, sumI (nats l) = want := ⟨_, rfl⟩
  have ho := of_any g (some ⟨gb, 0, none⟩) m dd (nats l) w3 HT.out (by rw [nats_len, HM.out]) HR3.out HNB.out (by unfold maxLen; omega)
  rw [hwant] at ho
  have HO := Lib.hid ho
  have HWANT := Lib.hid hwant
  clear ho hwant
  go_wp2_with fail
  refine HO.out.mono ?_
  rintro e w' ⟨rfl, rfl⟩
  clear HO
  go_wp2_with fail
  refine (within_any _ _ _ (by omega) (by omega)).mono ?_
  rintro e w' ⟨rfl, rfl⟩
  have hi0 := Int.emod_nonneg a1 (show ((m : Int) - 1) ≠ 0 by omega)
  have hi1 := Int.emod_lt_of_pos a1 (show (0 : Int) < (m : Int) - 1 by omega)
  obtain ⟨i, hi⟩ := Int.eq_ofNat_of_zero_le hi0
  rw [hi] at hi1 ⊢
  clear hi hi0
  have hi2 : i + 1 < m := by omega
  clear hi1
  go_wp2_with fail
  refine (copy_any (some ⟨gb, 0, none⟩) m dd (nats l) _ (by rw [nats_len, HM.out]) HR3.out (by omega)).mono ?_
  rintro e w4 ⟨C, cc, rfl, hc, hb5⟩
  obtain ⟨gc, rfl, hgc1, hgc2, hclen, hccell, hcfr⟩ := hc.block (by omega)
  have c1 := hccell i (by omega)
  have c2 := hccell (i + 1) (by omega)
  have f1 := hcfr i
  have f2 := hcfr (i + 1)
  rw [nats_getD] at c1 c2
  obtain ⟨x, hx⟩ : ∃ x, l.getD i 0 = x := ⟨_, rfl⟩
  obtain ⟨y, hy⟩ : ∃ y, l.getD (i + 1) 0 = y := ⟨_, rfl⟩
  rw [hx] at c1
  rw [hy] at c2
  have HX := Lib.hid hx
  have HY := Lib.hid hy
  have HCO := Lib.hid hc
  have HB5 := Lib.hid hb5
  have HCL := Lib.hid hclen
  clear hx hy hc hb5 hccell hcfr hclen
  have i0 : (0 : Int) ≤ (i : Int) := by omega
  have i1 : (i : Int) + 1 < (m : Int) := by omega
  have i2 : (i : Int) < (m : Int) := by omega
  have i3 : (0 : Int) ≤ (i : Int) + 1 := by omega
  go_wp2_with fail
  go_region
  clear c1 c2 f1 f2
  obtain ⟨w5, hw5⟩ : ∃ w5, ((w4.setCell ⟨gc, i, none⟩ (.int .u8 (y : Nat))).setCell ⟨gc, i + 1, none⟩ (.int .u8 (x : Nat))).drew = w5 := ⟨_, rfl⟩
  rw [hw5]
  have hc5 : Own .u8 5 w5 w3.heap.size (.slice (some ⟨gc, 0, none⟩) m cc) (nats (swap1 l i)) := by
    rw [← hw5]
    have h1 := (HCO.out.stored HCL.out i ((y : Nat) : Int))
    rw [nats_set] at h1
    have h2 := h1.stored (by rw [nats_len, List.length_set, HM.out]) (i + 1) ((x : Nat) : Int)
    rw [nats_set, ← HY.out, ← HX.out] at h2
    rw [← HY.out, ← HX.out]
    exact h2
  have hb6 : Below w3.heap.size w3 w5 := by rw [← hw5]; exact ((HB5.out.setCell hgc1 _).setCell hgc1 _).drew
  have HC5 := Lib.hid hc5
  have HB6 := Lib.hid hb6
  clear hc5 hb6 hw5 HCO HB5
  have hr5 : Rd .u8 w5 (some ⟨gb, 0, none⟩) (nats l) := HR3.out.later HB6.out
  have HR5 := Lib.hid hr5
  clear hr5
  go_wp2_with fail
  refine (copy_any (some ⟨gb, 0, none⟩) m dd (nats l) _ (by rw [nats_len, HM.out]) HR5.out (by omega)).mono ?_
  rintro e w6 ⟨E, ce, rfl, he, hb7⟩
  obtain ⟨ge, rfl, hge1, hge2, helen, hecell, hefr⟩ := he.block (by omega)
  have HE := Lib.hid he
  have HB7 := Lib.hid hb7
  have HEC := Lib.hid hecell
  have HEF := Lib.hid hefr
  have HEL := Lib.hid helen
  clear he hb7 hecell hefr helen
  go_wp2_with fail
  refine (within_any _ _ _ (by omega) (by omega)).mono ?_
  rintro e w' ⟨rfl, rfl⟩
  have hk0 := Int.emod_nonneg a2 (show (8 * (m : Int)) ≠ 0 by omega)
  have hk1 := Int.emod_lt_of_pos a2 (show (0 : Int) < 8 * (m : Int) by omega)
  obtain ⟨k, hk⟩ := Int.eq_ofNat_of_zero_le hk0
  rw [hk] at hk1 ⊢
  clear hk hk0
  have hk2 : k < 8 * m := by omega
  clear hk1
  have c1 := HEC.out (k / 8) (by omega)
  have f1 := HEF.out (k / 8)
  clear HEC HEF
  rw [nats_getD] at c1
  have hz8 := getD_lt HLB.out (k / 8)
  obtain ⟨z, hz⟩ : ∃ z, l.getD (k / 8) 0 = z := ⟨_, rfl⟩
  rw [hz] at c1 hz8
  have hq1 : k / 8 < m := by omega
  have hr1 : k % 8 < 8 := by omega
  have e2 : (k : Int) / 8 = ((k / 8 : Nat) : Int) := by omega
  have e3 : (k : Int) % 8 = ((k % 8 : Nat) : Int) := by omega
  obtain ⟨q, hq⟩ : ∃ q, k / 8 = q := ⟨_, rfl⟩
  obtain ⟨r, hr⟩ : ∃ r, k % 8 = r := ⟨_, rfl⟩
  rw [hq] at e2 c1 f1 hq1
  rw [hr] at e3 hr1
  have HZ := Lib.hid hz
  have HQ := Lib.hid hq
  have HR := Lib.hid hr
  clear hz hq hr
  have q1 : (q : Int) < (m : Int) := by omega
  have q0 : (0 : Int) ≤ (q : Int) := by omega
  have r1 : (r : Int) < 8 := by omega
  have r0 : (0 : Int) ≤ (r : Int) := by omega
  have k0 : (0 : Int) ≤ (k : Int) := by omega
  have k1 : (k : Int) < 8 * (m : Int) := by omega
  have hx8 := xor_pow8 z r hz8 hr1
  go_wp2_with fail
  obtain ⟨w7, hw7⟩ : ∃ w7, w6.setCell ⟨ge, q, none⟩ (.int .u8 ((z ^^^ 2 ^ r : Nat) : Int)) = w7 := ⟨_, rfl⟩
  rw [hw7]
  have he7 : Own .u8 5 w7 w5.heap.size (.slice (some ⟨ge, 0, none⟩) m ce) (nats (flip1 l k)) := by
    rw [← hw7]
    have h1 := HE.out.stored HEL.out q (((z ^^^ 2 ^ r : Nat)) : Int)
    rw [nats_set, ← HZ.out, ← HQ.out, ← HR.out] at h1
    rw [← HZ.out, ← HQ.out, ← HR.out]
    exact h1
  have hb8 : Below w5.heap.size w5 w7 := by rw [← hw7]; exact HB7.out.setCell hge1 _
  have HE7 := Lib.hid he7
  have HB8 := Lib.hid hb8
  clear he7 hb8 hw7 c1 f1 hx8 HE HB7 HEL e2 e3 HZ HQ HR q0 q1 r0 r1 hz8
  -- what holds from here on
  have hlb := HLB.out
  have hM := HM.out
  have s5 := HB6.out.size
  have s7 := HB8.out.size
  have tb : ∀ wi, Since w7 wi → TabIs wi g := fun wi h => (((HT.out.later HB6.out (by rw [HZ3.out]; omega)).later HB8.out (by rw [HZ3.out] at s5; omega)).later h (by rw [HZ3.out] at s5; omega))
  have rb : ∀ wi, Since w7 wi → Rd .u8 wi (some ⟨gb, 0, none⟩) (nats l) := fun wi h => (HR5.out.later HB8.out).later h
  have TB := Lib.hid tb
  have RB := Lib.hid rb
  obtain ⟨sc, hsc⟩ : ∃ sc, sumI (nats (swap1 l i)) = sc := ⟨_, rfl⟩
  obtain ⟨sd, hsd⟩ : ∃ sd, sumI (nats (flip1 l k)) = sd := ⟨_, rfl⟩
  have oc : ∀ wi, Since w7 wi → Calls Try.prog 8 #[.slice (some ⟨g, 0, none⟩) 256 256, .slice (some ⟨gc, 0, none⟩) m cc] wi fun e w' => e = .returned (.int .u32 (sc : Nat)) ∧ wi = w' := fun wi h => by
    rw [← hsc]
    exact of_any g _ m cc (nats (swap1 l i)) wi (TB.out wi h) (by rw [nats_len, swap1_len, HM.out]) ((HC5.out.rd.later HB8.out).later h) (nats_bytes (swap1_lt HLB.out i)) (by unfold maxLen; omega)
  have od : ∀ wi, Since w7 wi → Calls Try.prog 8 #[.slice (some ⟨g, 0, none⟩) 256 256, .slice (some ⟨ge, 0, none⟩) m ce] wi fun e w' => e = .returned (.int .u32 (sd : Nat)) ∧ wi = w' := fun wi h => by
    rw [← hsd]
    exact of_any g _ m ce (nats (flip1 l k)) wi (TB.out wi h) (by rw [nats_len, flip1_len, HM.out]) (HE7.out.rd.later h) (nats_bytes (flip1_lt HLB.out k)) (by unfold maxLen; omega)
  have OC := Lib.hid oc
  have OD := Lib.hid od
  have n1 : sd ≠ want := by
    rw [← hsd, ← HWANT.out, sumI_nats, sumI_nats]
    exact sumN_flip HLB.out (by rw [HM.out]; exact hk2)
  have n2 : sumI (nats l ++ [0]) ≠ sumI (nats l ++ [1]) := by
    rw [show nats l ++ [0] = nats (l ++ [0]) from by simp [nats], show nats l ++ [1] = nats (l ++ [1]) from by simp [nats], sumI_nats, sumI_nats]
    exact sumN_last HLB.out
  have n3 : sc = want ↔ x = y := by
    rw [← hsc, ← HWANT.out, ← HX.out, ← HY.out, sumI_nats, sumI_nats]
    exact swap_eq HLB.out (by rw [HM.out]; exact hi2)
  have b1 : ((sd : Int) != (want : Int)) = true := by rw [bne_iff_ne]; omega
  have b2 : ((sumI (nats l ++ [0]) : Int) != (sumI (nats l ++ [1]) : Int)) = true := by rw [bne_iff_ne]; omega
  have b3 : (((sc : Int) == (want : Int)) == ((x : Int) == (y : Int))) = true := by
    by_cases e : x = y
    · rw [n3.2 e, e]; simp
    · have h1 : ((sc : Int) == (want : Int)) = false := by rw [beq_eq_false_iff_ne]; intro h; exact e (n3.1 (by omega))
      have h2 : ((x : Int) == (y : Int)) = false := by rw [beq_eq_false_iff_ne]; intro h; exact e (by omega)
      rw [h1, h2]; rfl
  obtain ⟨B1, hB1⟩ : ∃ B1, ((sc : Int) == (want : Int)) = B1 := ⟨_, rfl⟩
  obtain ⟨B2, hB2⟩ : ∃ B2, ((x : Int) == (y : Int)) = B2 := ⟨_, rfl⟩
  rw [hB1, hB2] at b3
  obtain ⟨b01, hx1⟩ : ∃ v, sumI (nats l ++ [0]) = v := ⟨_, rfl⟩
  obtain ⟨b02, hx2⟩ : ∃ v, sumI (nats l ++ [1]) = v := ⟨_, rfl⟩
  rw [hx1, hx2] at b2
  have c1 : w7.cell? ⟨gb, i, none⟩ = some (.int .u8 (x : Nat)) := by
    obtain ⟨_, _, h1, h2⟩ := (RB.out w7 (Below.refl _ _)).some_ (by rw [nats_len]; omega)
    simp only [Option.some.injEq, Addr.mk.injEq, and_true] at h1
    obtain ⟨rfl, rfl⟩ := h1
    have := h2 i (by rw [nats_len]; omega)
    rwa [nats_getD, HX.out, Nat.zero_add] at this
  have c2 : w7.cell? ⟨gb, i + 1, none⟩ = some (.int .u8 (y : Nat)) := by
    obtain ⟨_, _, h1, h2⟩ := (RB.out w7 (Below.refl _ _)).some_ (by rw [nats_len]; omega)
    simp only [Option.some.injEq, Addr.mk.injEq, and_true] at h1
    obtain ⟨rfl, rfl⟩ := h1
    have := h2 (i + 1) (by rw [nats_len]; omega)
    rwa [nats_getD, HY.out, Nat.zero_add] at this
  have hgb7 : gb < w7.heap.size := by rw [HZ3.out] at s5; omega
  have HX1 := Lib.hid hx1
  have HX2 := Lib.hid hx2
  have HM' := Lib.hid (show (nats l).length = m by rw [nats_len, hM])
  have hw := (HB4.out.trans (HB6.out.mono HB4.out.size)).trans (HB8.out.mono (Nat.le_trans HB4.out.size s5))
  have HW := Lib.hid hw
  have BY0 : Hid (∀ x ∈ nats l ++ [0], (0 : Int) ≤ x ∧ x < 256) := Lib.hid (fun x hx => by rcases List.mem_append.1 hx with h | h; exact HNB.out x h; simp at h; omega)
  have BY1 : Hid (∀ x ∈ nats l ++ [1], (0 : Int) ≤ x ∧ x < 256) := Lib.hid (fun x hx => by rcases List.mem_append.1 hx with h | h; exact HNB.out x h; simp at h; omega)
  clear tb rb oc od hsc hsd n1 n2 n3 hx1 hx2 hlb hM HX HY hw HT HB4 HR3 HC5 HB6 HR5 HE7 HB8 HWANT s5 s7 HCL HZ3
  clear hgc1 hgc2 hge1 hge2 hgb2 hgw hz1
  have hwr : IntKind.i64.wrap ((i : Int) + 1) = (i : Int) + 1 := IntWalk.i64_in _ (by omega)
  have htn : ((i : Int) + 1).toNat = i + 1 := by omega
  go_region_held3 (fun wi => Since w7 wi ∧ wi.cell? ⟨gb, i, none⟩ = some (.int .u8 (x : Nat)) ∧ wi.cell? ⟨gb, i + 1, none⟩ = some (.int .u8 (y : Nat)))
    (first
      | exact ⟨(Below.refl _ _).drew, c1, c2⟩
      | assumption
      | exact keepS ‹Since w7 _ ∧ _› hgb7 hgb7 ((Below.refl _ _).alloc (‹Since w7 _ ∧ _›).1.size _)
      | exact keepS ‹Since w7 _ ∧ _› hgb7 hgb7 hbM)
    (first
      | (go_at_call 8; (with_reducible refine (OC.out _ (‹Since w7 _ ∧ _›).1).mono ?_); rintro e w' ⟨rfl, rfl⟩)
      | (go_at_call 8; (with_reducible refine (OD.out _ (‹Since w7 _ ∧ _›).1).mono ?_); rintro e w' ⟨rfl, rfl⟩)
      | (go_at_call 10; (with_reducible refine (copy_any _ m dd (nats l) _ HM'.out (RB.out _ (‹Since w7 _ ∧ _›).1) (by omega)).mono ?_); rintro e w' ⟨P, cp, rfl, hp, hb⟩
         obtain ⟨gP, rfl, hP1, hP2, -⟩ := hp.block (by omega)
         have hs := hb.size
         have hS7 : w7.heap.size ≤ _ := (‹Since w7 _ ∧ _›).1.size
         have hbM := hb.mono hS7
         replace hp := hp.less hS7)
      | (go_at_call 8; (with_reducible refine (of_any g _ (m + 1) _ (nats l ++ [0]) _ (TB.out _ (‹Since w7 _ ∧ _›).1) (by simp [HM'.out]) (by first | exact Own.rd ‹Own _ _ _ _ _ (nats l ++ [0])› | exact (Own.rd ‹Own _ _ _ _ _ (nats l ++ [0])›).alloc _) BY0.out (by unfold maxLen; omega)).mono ?_); rintro e w' ⟨rfl, rfl⟩; rw [HX1.out])
      | (go_at_call 8; (with_reducible refine (of_any g _ (m + 1) _ (nats l ++ [1]) _ (TB.out _ (‹Since w7 _ ∧ _›).1) (by simp [HM'.out]) (by exact Own.rd ‹Own _ _ _ _ _ (nats l ++ [1])›) BY1.out (by unfold maxLen; omega)).mono ?_); rintro e w' ⟨rfl, rfl⟩; rw [HX2.out])
      | (go_at_call 11; refine (wakes_any _).mono ?_; rintro e w' ⟨rfl, hb9⟩; have hbM := hb9.mono (‹Since w7 _ ∧ _›).1.size)
      | (refine step_app _ .u8 (by rfl) (.tmp 87) (.tmp 88) 22 rfl 5 (.int .u8 0) 1 Try.underlying22 info_byte rfl w7.heap.size (.slice (some ⟨gP, 0, none⟩) m cp) (nats l) m HM'.out rfl (by repeat (first | assumption | refine Own.alloc ?_ _)) _ 1 1 rfl [0] rfl
          (by repeat (first | exact rd_new_at _ _ _ _ (by simp) | refine Rd.alloc ?_ _ | refine Rd.later ?_ (by assumption))) (by unfold maxLen; omega) (by omega) (‹Since w7 _ ∧ _›).1.size ?_
         intro A' c' w' ho hgrow hbM
         replace hgrow : World.grownBy _ w' (some gP) := hgrow)
      | (refine step_app _ .u8 (by rfl) (.tmp 93) (.tmp 94) 22 rfl 5 (.int .u8 0) 1 Try.underlying22 info_byte rfl w7.heap.size (.slice (some ⟨gP, 0, none⟩) m cp) (nats l) m HM'.out rfl (by repeat (first | assumption | refine Own.alloc ?_ _)) _ 1 1 rfl [1] rfl
          (by repeat (first | exact rd_new_at _ _ _ _ (by simp) | refine Rd.alloc ?_ _ | refine Rd.later ?_ (by assumption) | refine Rd.grown ?_ (by assumption) (by simp only [World.size_alloc, World.size_drew] at *; omega) (by simp only [World.size_alloc, World.size_drew] at *; omega))) (by unfold maxLen; omega) (by omega) (‹Since w7 _ ∧ _›).1.size ?_
         intro A' c' w' ho hgrow hbM
         replace hgrow : World.grownBy _ w' (some gP) := hgrow))
  all_goals go_wp2
  all_goals go_ret
  all_goals exact ⟨rfl, HW.out.trans (Below.mono (‹Since w7 _ ∧ _›).1 HW.out.size)⟩
end Go.Proofs.Ytbadehbhnenbjaa

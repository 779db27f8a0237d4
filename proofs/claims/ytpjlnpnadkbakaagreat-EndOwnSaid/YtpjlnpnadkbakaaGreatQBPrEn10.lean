/-
  PrEn10 · RefPktM · EnMay · Conv · Nats · BytesEq.
-/
import Derived.Test.YtpjlnpnadkbakaaGreatQBPrEn9
import Derived.Test.YtpjlnpnadkbakaaGreatQBCountMath
import Derived.Test.YtpjlnpnadkbakaaGreatQBFresh
import Derived.Test.YtpjlnpnadkbakaaGreatQBRowN
import Derived.Test.YtpjlnpnadkbakaaGreatRows
import Derived.Test.YtpjlnpnadkbakaaGreatQBMem
import Derived.Laws.BytesArg
import Derived.IntWalk
import Derived.Test.YtpjlnpnadkbakaaGreatQBCopy
import Derived.Lib.SliceRun
import Derived.Lib.Strings
namespace Go.Proofs.YtpjlnpnadkbakaaGreat
set_option maxRecDepth 10000
open Go.RowKit
theorem EE.dueCell {w : World} {L : Lab} {K b : Nat} {s : EeS} {E : En} (h : EE w L K b s E) {n : Nat} (hn : E.due.length = n) (h0 : 0 < n) : ∃ g c, s.dv = .slice (some ⟨g, 0, none⟩) n c ∧ w.cell? ⟨b, 0 + 11, none⟩ = some (.slice (some ⟨g, 0, none⟩) n c) ∧ ∀ i, i < n → w.cell? ⟨g, i, none⟩ = some (.int .i64 (E.due.getD i 0)) := by
  subst hn
  obtain ⟨q, h⟩ := h
  obtain ⟨A, c, hdv⟩ := h.p.dvr.form
  have hdr := h.p.dvr
  have h11 := h.cell 11 (by omega)
  rw [show (eeL s q E).getD 11 undef = s.dv from rfl] at h11
  rw [hdv] at hdr h11
  obtain ⟨a, o, hA, hcl⟩ := hdr.rd.some_ h0
  obtain ⟨g, cap, cur, hv, _⟩ := hdr.2.resolve_left (fun e => by rw [hA] at e; cases e.1)
  injection hv with hv1 _ _
  rw [hv1] at hdv h11
  rw [hA] at hv1
  injection hv1 with hv1
  injection hv1 with e1 e2 _
  subst e1
  subst e2
  exact ⟨_, _, hdv, h11, fun i hi => by have := hcl i hi; rw [Nat.zero_add] at this; exact this⟩
theorem EeAt.setNow {w : World} {L : Lab} {K b : Nat} {s : EeS} {q : EeQ} {E : En} (h : EeAt w L K b s q E) (hK : K ≠ 0) (now : Int) : EeAt (w.setCell ⟨b, 8, none⟩ (.int .i64 now)) L K b s q (E.setNow now) ∧ Tn w (w.setCell ⟨b, 8, none⟩ (.int .i64 now)) L L (Es K) := by
  obtain ⟨h1, h2⟩ := h.poke (E' := E.setNow now) hK 8 (.int .i64 now) rfl id h.to1 h.to2
  exact ⟨h1, h2.mono (fun x hx => by subst hx; exact ⟨by omega, by omega⟩)⟩
def EeTi (w : World) (L : Lab) (K b : Nat) (s : EeS) (E : En) (j : Nat) (wr : World) : Prop := ∃ L1 : Lab, EE wr L1 K b s (E.tickN j) ∧ Tn w wr L L1 (Es K)
set_option maxHeartbeats 8000000 in
theorem eetick_any {w : World} {L : Lab} {K b : Nat} {s : EeS} {E : En} (h : EE w L K b s E) (hK : K ≠ 0) (hok : E.ok) (now : Int) {N : Nat} (hc : E.cap N) (hN : N ≤ 260000000000) :
    Calls Tryz.prog 27 #[.pointer (some ⟨b, 0, none⟩), .int .i64 now] w (EeAns w L K b s (E.tick now) (.bool (E.mayT now))) := by
  obtain ⟨q, hd⟩ := h
  have c8 : w.cell? ⟨b, 0 + 8, none⟩ = some (.int .i64 E.now) := hd.cell 8 (by omega)
  have f8 : w.frozen? ⟨b, 0 + 8, none⟩ = false := hd.fr 8
  by_cases hno : now ≤ E.now ∨ 1048576 < now
  · have hm : E.mayT now = false := by
      unfold En.mayT
      rcases hno with h1 | h1
      · rw [decide_eq_false (show ¬ E.now < now by omega)]; rfl
      · rw [decide_eq_false (show ¬ now ≤ 1048576 by omega), Bool.and_false]
    have hE : E.tick now = E := by unfold En.tick; rw [hm]; rfl
    rw [hm]
    have HFIN := Lib.hid (show EeAns w L K b s (E.tick now) (.bool false) (.returned (.bool false)) w from ⟨rfl, L, by rw [hE]; exact ⟨_, hd⟩, Tn.refl _ _ _⟩)
    clear hd hok hc hm hE f8
    by_cases h1 : now ≤ E.now
    · have j1 : decide (now ≤ E.now) = true := decide_eq_true h1
      clear hno
      go_enter Tryz.func27, Tryz.ntmps27
      go_wp2
      go_ret
      exact HFIN.out
    · have j1 : decide (now ≤ E.now) = false := decide_eq_false h1
      have h2 : now > 1048576 := by omega
      have j2 : decide (now > 1048576) = true := decide_eq_true h2
      have j3 : decide (1048576 < now) = true := j2
      clear hno
      go_enter Tryz.func27, Tryz.ntmps27
      go_wp2
      go_ret
      exact HFIN.out
  · have hm : E.mayT now = true := by unfold En.mayT; rw [decide_eq_true (show E.now < now by omega), decide_eq_true (show now ≤ 1048576 by omega)]; rfl
    rw [hm]
    have hn0 := hok.n0
    have j1 : decide (now ≤ E.now) = false := decide_eq_false (by omega)
    have j2 : decide (now > 1048576) = false := decide_eq_false (by omega)
    have j3 : decide (1048576 < now) = false := j2
    have j4 : ¬ now ≤ E.now := by omega
    have j5 : ¬ now > 1048576 := by omega
    have hok1 := hok.setNow (now := now) (by omega) (by omega)
    obtain ⟨h1, ht1⟩ := hd.setNow hK now
    obtain ⟨w1, hw1⟩ : ∃ w1, w.setCell ⟨b, 0 + 8, none⟩ (.int .i64 now) = w1 := ⟨_, rfl⟩
    rw [show (⟨b, 8, none⟩ : Addr) = ⟨b, 0 + 8, none⟩ from rfl, hw1] at h1 ht1
    have hc1 : (E.setNow now).cap N := hc.of_eq rfl rfl rfl
    have HEV := Lib.hid (eenote_plain ⟨_, h1⟩ hK 3 now [] none 0 0 rfl (.inl rfl) (by omega) (fun _ => rfl) (by simp) (by omega) (by omega) (by omega) hc1 (by omega))
    obtain ⟨E0, hE0⟩ : ∃ E0, (E.setNow now).note ⟨3, now, [], Pkt.zero⟩ = E0 := ⟨_, rfl⟩
    have hok0 := hok1.note ⟨3, now, [], Pkt.zero⟩
    have hc0 := hc1.note ⟨3, now, [], Pkt.zero⟩
    rw [hE0] at HEV hok0 hc0
    obtain ⟨n, hn⟩ : ∃ n, E0.ps.length = n := ⟨_, rfl⟩
    have hE : E.tick now = ((E0.tickN n).pump).probe := by
      unfold En.tick
      rw [if_pos hm, hE0, show E.ps.length = n by rw [← hn, ← hE0]; rfl]
    have hnow0 : E0.now = now := by rw [← hE0]; rfl
    have hn3 := hok0.np3
    have hn1 := hok0.np1
    rw [hn] at hn3 hn1
    have HQ := Lib.hid (And.intro ht1 (And.intro hok0 (And.intro hc0 (And.intro hE (And.intro hnow0 (And.intro hn (show 0 ≤ now ∧ now ≤ 1048576 by omega)))))))
    have HN := Lib.hid (And.intro hn1 hn3)
    clear hd hok hc hm h1 ht1 hok1 hc1 hE0 hok0 hc0 hE hnow0 hn hn3 hn1 hn0 hno
    go_enter Tryz.func27, Tryz.ntmps27
    go_wp2_with fail
    try rw [hw1]
    clear hw1 j1 j2 j3 j4 j5 c8 f8
    refine HEV.out.mono ?_
    rintro e w2 ⟨rfl, L2, h2, ht2⟩
    obtain ⟨ht1, hok0, hc0, hE, hnow0, hn, hnr⟩ := HQ.out
    have hnd : E0.due.length = n := by rw [hok0.nd, hn]
    obtain ⟨g, cp, hpv, c10, _, _, _⟩ := h2.look hn (i := 0) HN.out.1
    obtain ⟨gd, cd, hdv, _, _⟩ := h2.dueCell hnd HN.out.1
    have H0 := Lib.hid (show EeTi w L K b s E0 0 w2 from ⟨L2, h2, ht1.trans ht2⟩)
    have HPV := Lib.hid (And.intro hpv hdv)
    clear ht1 hok0 hc0 hE hnow0 hn hnr hnd hpv hdv h2 ht2 HEV
    go_wp2_with fail
    clear c10
    go_loopw [30] (fun iv wr => ∃ j : Nat, j ≤ n ∧ iv = .int .i64 j ∧ Hid (EeTi w L K b s E0 j wr)) (fun iv _ => n - (intOf iv).toNat)
    case atStart => exact ⟨0, by omega, rfl, H0⟩
    case round =>
      clear H0
      obtain ⟨j, hj, rfl, hmid⟩ := hrel
      by_cases hjn : j < n
      · obtain ⟨L1, h1, ht1⟩ := hmid.out
        obtain ⟨_, hok0, hc0, _, hnow0, hn, hnr⟩ := HQ.out
        obtain ⟨hpv, hdv⟩ := HPV.out
        have hokj := hok0.tickN j (by omega)
        have hcj := hc0.tickN hok0 j (by omega)
        have hnw := En.tickN_now (E := E0) j
        have hln := En.tickN_len (E := E0) j
        obtain ⟨E1, hE1⟩ : ∃ E1, E0.tickN j = E1 := ⟨_, rfl⟩
        have hnx : E0.tickN (j + 1) = E1.tick1 j := by rw [← hE1]; rfl
        rw [hE1] at h1 hokj hcj hnw hln
        rw [hn] at hln
        have hj1 : j < E1.ps.length := by omega
        obtain ⟨_, _, hg⟩ := h1.row hpv HN.out.1
        have y := hg j hjn
        obtain ⟨pb, hpb⟩ : ∃ pb, s.pb.getD j 0 = pb := ⟨_, rfl⟩
        rw [hpb] at y
        have HAS := Lib.hid (eeasks_any h1 hokj j hj1)
        obtain ⟨gd', cd', hdv', c11, hdc⟩ := h1.dueCell (show E1.due.length = n by rw [hokj.nd, hln]) HN.out.1
        rw [hdv] at hdv'
        injection hdv' with e1 _ e2
        injection e1 with e1
        injection e1 with e1
        subst e1
        subst e2
        have yd := hdc j hjn
        have hda : E1.dueJ j = (E1.asksP j && decide (E1.due.getD j 0 ≤ now)) := by unfold En.dueJ En.asksP; rw [hnw.1, hnow0]
        have ht1d : E1.tick1 j = if E1.dueJ j = true then E1.join j else (E1.setP j ((E1.pa j).lateN now)).given ((E1.pa j).lates now) := by unfold En.tick1; rw [hnw.1, hnow0]
        obtain ⟨a, ha⟩ : ∃ a, E1.asksP j = a := ⟨_, rfl⟩
        obtain ⟨du, hdu⟩ : ∃ x, E1.due.getD j 0 = x := ⟨_, rfl⟩
        rw [ha] at HAS hda
        rw [hdu] at yd hda
        have i1 : (j : Int) < (n : Int) := by omega
        have i2 : (0 : Int) ≤ (j : Int) := by omega
        have HJ := Lib.hid hjn
        have HIW := Lib.hid (show wrap64 ((j : Int) + 1) = ((j + 1 : Nat) : Int) from wrap_atS (by omega) (by have := HN.out.2; omega) (by have := HN.out.2; omega))
        have HH := Lib.hid (And.intro h1 (And.intro ht1 (And.intro hokj (And.intro hcj (And.intro hnx (And.intro hj1 (And.intro hda (And.intro ht1d (And.intro hpb hnr)))))))))
        clear h1 ht1 hok0 hc0 hnow0 hn hnr hpv hdv hokj hcj hnw hln hE1 hnx hj1 hg hpb hdc hda ht1d ha hdu hmid hj hjn
        go_wp2_with fail
        refine HAS.out.mono ?_
        rintro e w3 ⟨rfl, k, rfl⟩
        obtain ⟨h1, ht1, hokj, hcj, hnx, hj1, hda, ht1d, hpb, hnr⟩ := HH.out
        obtain ⟨w3, hw3⟩ : ∃ w3, wr.drewN k = w3 := ⟨_, rfl⟩
        have h3 := h1.drewN k
        have ht3 := ht1.trans (Tn.drewN wr L1 k _)
        have y3 : (wr.drewN k).cell? ⟨g, j, none⟩ = some (.pointer (some ⟨pb, 0, none⟩)) := y
        have y11 : (wr.drewN k).cell? ⟨b, 0 + 11, none⟩ = some (.slice (some ⟨gd, 0, none⟩) n cd) := c11
        have y4 : (wr.drewN k).cell? ⟨gd, j, none⟩ = some (.int .i64 du) := yd
        rw [hw3] at h3 ht3 y3 y11 y4 ⊢
        have hcN : E1.cap (N + 1 + 1048642 * 3) := hcj.mono (by have := HJ.out; have := HN.out.2; omega)
        have hlate := eelate1_any h3 hK hokj j hj1 now (by omega)
        rw [hpb] at hlate
        clear hw3 y c11 yd hpb
        by_cases hdd : E1.dueJ j = true
        · rw [if_pos hdd] at ht1d
          rw [hdd] at hda
          have ha1 : a = true := by
            cases a
            · rw [Bool.false_and] at hda
              cases hda
            · rfl
          subst ha1
          have hdu1 : decide (du ≤ now) = true := by simpa using hda.symm
          have hdu2 : du ≤ now := by simpa using hdu1
          have HASK := Lib.hid (eeask_any h3 hK hokj j hj1 hcN (by omega))
          have HR := Lib.hid (And.intro ht3 (show E0.tickN (j + 1) = E1.join j by rw [hnx, ht1d]))
          clear h1 ht1 hokj hcj hnx hj1 hda ht1d hnr h3 ht3 hcN hlate hdd HH HAS
          go_wp2_with fail
          refine HASK.out.mono ?_
          rintro e w4 ⟨rfl, L4, h4, ht4⟩
          have HREL := Lib.hid (show EeTi w L K b s E0 (j + 1) w4 from ⟨L4, by rw [HR.out.2]; exact h4, HR.out.1.trans ht4⟩)
          clear h4 ht4 HR HASK y3 y11 y4 hdu1 hdu2
          go_wp2
          go_roundw
          case rel => exact ⟨j + 1, by have := HJ.out; omega, by first | rfl | rw [HIW.out], HREL⟩
          case measure => (try rw [HIW.out]); have := HJ.out; simp [intOf]; omega
        · rw [if_neg hdd] at ht1d
          have hdd2 : E1.dueJ j = false := by simpa using hdd
          rw [hdd2] at hda
          have HLATE := Lib.hid hlate
          have hfl := (hokj.pa hj1).len
          have hfs := (hokj.pa hj1).ok.s2
          have hll := En.late_len (E1.pa j) now
          have hgv := fun (w4 : World) (L4 : Lab) (A4 : Option Addr) (m4 c4 : Nat) (hm : m4 = ((E1.pa j).lates now).length) (h4 : EE w4 L4 K b s (E1.setP j ((E1.pa j).lateN now))) (ho : OwnQ tOutP w4 0 (.slice A4 m4 c4) ((E1.pa j).lates now)) (hl : ∀ g, (Value.slice A4 m4 c4).ownBlock = some g → ¬ L4 g = K + 7) => eegive_any h4 hK _ A4 m4 c4 ho hl (by omega) (N := N + 1 + 1048642 * 3) (hcN.of_eq rfl rfl rfl) (by omega)
          have HGV := Lib.hid hgv
          have HR := Lib.hid (And.intro ht3 (show E0.tickN (j + 1) = (E1.setP j ((E1.pa j).lateN now)).given ((E1.pa j).lates now) by rw [hnx, ht1d]))
          clear h1 ht1 hokj hcj hnx hj1 ht1d hnr h3 ht3 hcN hlate hdd hdd2 hfl hfs hll hgv HH HAS
          cases a
          · clear hda
            go_wp2_with fail
            refine HLATE.out.mono ?_
            rintro e w4 ⟨A4, m4, c4, rfl, hm4, L4, h4, ht4, hown, hlab⟩
            have HGI := Lib.hid (HGV.out w4 L4 A4 m4 c4 hm4 h4 hown hlab)
            have HR2 := Lib.hid (And.intro (HR.out.1.trans ht4) HR.out.2)
            clear h4 ht4 hown hlab hm4 HR HGV HLATE
            go_wp2_with fail
            refine HGI.out.mono ?_
            rintro e w5 ⟨rfl, L5, h5, ht5⟩
            have HREL := Lib.hid (show EeTi w L K b s E0 (j + 1) w5 from ⟨L5, by rw [HR2.out.2]; exact h5, HR2.out.1.trans ht5⟩)
            clear h5 ht5 HR2 HGI
            go_wp2
            go_roundw
            case rel => exact ⟨j + 1, by have := HJ.out; omega, by first | rfl | rw [HIW.out], HREL⟩
            case measure => (try rw [HIW.out]); have := HJ.out; simp [intOf]; omega
          · have hdu1 : decide (du ≤ now) = false := by simpa using hda.symm
            have hdu2 : ¬ du ≤ now := by simpa using hdu1
            clear hda
            go_wp2_with fail
            refine HLATE.out.mono ?_
            rintro e w4 ⟨A4, m4, c4, rfl, hm4, L4, h4, ht4, hown, hlab⟩
            have HGI := Lib.hid (HGV.out w4 L4 A4 m4 c4 hm4 h4 hown hlab)
            have HR2 := Lib.hid (And.intro (HR.out.1.trans ht4) HR.out.2)
            clear h4 ht4 hown hlab hm4 HR HGV HLATE
            go_wp2_with fail
            refine HGI.out.mono ?_
            rintro e w5 ⟨rfl, L5, h5, ht5⟩
            have HREL := Lib.hid (show EeTi w L K b s E0 (j + 1) w5 from ⟨L5, by rw [HR2.out.2]; exact h5, HR2.out.1.trans ht5⟩)
            clear h5 ht5 HR2 HGI
            go_wp2
            go_roundw
            case rel => exact ⟨j + 1, by have := HJ.out; omega, by first | rfl | rw [HIW.out], HREL⟩
            case measure => (try rw [HIW.out]); have := HJ.out; simp [intOf]; omega
      · have e : j = n := by omega
        subst e
        obtain ⟨L1, h1, ht1⟩ := hmid.out
        obtain ⟨_, hok0, hc0, hE, hnow0, hn, hnr⟩ := HQ.out
        have hokj := hok0.tickN j (by omega)
        have hcj := hc0.tickN hok0 j (by omega)
        have hcN : (E0.tickN j).cap (N + 1 + 1048642 * 3) := hcj.mono (by have := HN.out.2; omega)
        have HPU := Lib.hid (eepump_any h1 hK hokj hcN (by omega))
        have HH := Lib.hid (And.intro ht1 (And.intro hokj.pump (And.intro (hcN.pump' hokj) hE)))
        have k1 : ¬ ((j : Int) < (j : Int)) := by omega
        clear h1 ht1 hok0 hc0 hE hnow0 hn hnr hokj hcj hcN hmid hj hjn HQ HPV
        go_wp2_with fail
        refine HPU.out.mono ?_
        rintro e w3 ⟨rfl, L3, h3, ht3⟩
        obtain ⟨ht1, hok3, hc3, hE⟩ := HH.out
        obtain ⟨E3, hE3⟩ : ∃ E3, (E0.tickN j).pump = E3 := ⟨_, rfl⟩
        rw [hE3] at h3 hok3 hc3 hE
        obtain ⟨q3, hq3⟩ := h3
        have hds := hq3.drewN 1
        obtain ⟨W, hW⟩ : ∃ W, w3.drew = W := ⟨_, rfl⟩
        rw [show w3.drewN 1 = W from hW] at hds
        have HOUT := Lib.hid (eeout_sum ⟨_, hds⟩ hok3)
        have S0 := Lib.hid (show W.cell? ⟨b, 0 + 13, none⟩ = some (.pointer (some ⟨s.ob, 0, none⟩)) from hds.cell 13 (by omega))
        obtain ⟨fl, hfl⟩ : ∃ x, E3.flying = x := ⟨_, rfl⟩
        obtain ⟨ak, hak⟩ : ∃ x, E3.o.ak = x := ⟨_, rfl⟩
        obtain ⟨pl, hpl⟩ : ∃ x, E3.o.places = x := ⟨_, rfl⟩
        rw [hfl] at HOUT
        have hpr : E3.probe = if fl = 0 ∧ ak < pl then E3.choose.probes E3.chosen else E3 := by unfold En.probe; rw [hfl, hak, hpl]
        have HA := Lib.hid (show ∀ k, Calls Tryz.prog 78 #[.pointer (some ⟨s.ob, 0, none⟩)] (W.drewN k) fun e w' => e = .returned (.int .i64 ak) ∧ W.drewN k = w' from fun k => by rw [← hak]; exact acked_any (hds.drewN k).p.out)
        have HP := Lib.hid (show ∀ k, Calls Tryz.prog 79 #[.pointer (some ⟨s.ob, 0, none⟩)] (W.drewN k) fun e w' => e = .returned (.int .i64 pl) ∧ W.drewN k = w' from fun k => by rw [← hpl]; exact places_any (hds.drewN k).p.out)
        have HD := Lib.hid (And.intro hds (And.intro ((ht1.trans ht3).trans (show Tn w3 W L3 L3 (Es K) by rw [← hW]; exact Tn.drewN w3 L3 1 _)) (And.intro hok3 (And.intro hc3 (hE.trans hpr)))))
        clear ht1 hok3 hc3 hE hq3 hds hE3 hfl hak hpl hpr ht3 HH HPU k1
        go_wp2_with fail
        refine wp_region_held_drew (S := fun wi => wi.cell? ⟨b, 0 + 13, none⟩ = some (.pointer (some ⟨s.ob, 0, none⟩))) (by kernel_rfl) (by rw [hW]; exact S0.out) ?_
        intro hHeld
        rw [hW] at hHeld ⊢
        clear hW
        by_cases hf0 : fl = 0
        · subst hf0
          refine tkH 0 ?_
          refine wpAnyH_ready (rs := [1]) (by kernel_rfl) (by simp) ?_
          refine AllReadyH.cons rfl (fun K2 hK2 => ?_) AllReadyH.nil
          go_simp
          refine HOUT.out.mono ?_
          rintro e w5 ⟨rfl, k5, rfl⟩
          try go_wp2_with fail
          refine hK2.out _ _ S0.out (fun hHeld2 => ?_)
          clear hK2 K2 hHeld
          have hHeld := hHeld2
          clear hHeld2
          try simp only [Act.put, List.getElem_toArray, List.getElem_cons_zero, List.getElem_cons_succ, List.setIfInBounds_toArray, List.set_cons_zero, List.set_cons_succ]
          refine tkH 2 ?_
          refine tkH 3 ?_
          refine tkH 4 ?_
          refine tkH 5 ?_
          refine tkH 6 ?_
          refine tkH 7 ?_
          refine tkH 9 ?_
          refine tkH 10 ?_
          refine tkH 11 ?_
          refine tkH 12 ?_
          refine wpAnyH_ready (rs := [8]) (by kernel_rfl) (by simp) ?_
          refine AllReadyH.cons rfl (fun K2 hK2 => ?_) AllReadyH.nil
          go_simp
          refine (HA.out k5).mono ?_
          rintro e w6 ⟨rfl, rfl⟩
          try go_wp2_with fail
          refine hK2.out _ _ S0.out (fun hHeld2 => ?_)
          clear hK2 K2 hHeld
          have hHeld := hHeld2
          clear hHeld2
          try simp only [Act.put, List.getElem_toArray, List.getElem_cons_zero, List.getElem_cons_succ, List.setIfInBounds_toArray, List.set_cons_zero, List.set_cons_succ]
          refine wpAnyH_ready (rs := [13]) (by kernel_rfl) (by simp) ?_
          refine AllReadyH.cons rfl (fun K2 hK2 => ?_) AllReadyH.nil
          go_simp
          refine (HP.out k5).mono ?_
          rintro e w6 ⟨rfl, rfl⟩
          try go_wp2_with fail
          refine hK2.out _ _ S0.out (fun hHeld2 => ?_)
          clear hK2 K2 hHeld
          have hHeld := hHeld2
          clear hHeld2
          try simp only [Act.put, List.getElem_toArray, List.getElem_cons_zero, List.getElem_cons_succ, List.setIfInBounds_toArray, List.set_cons_zero, List.set_cons_succ]
          obtain ⟨hds, ht, hok3, hc3, hE⟩ := HD.out
          by_cases hlt : ak < pl
          · rw [if_pos (by first | exact ⟨rfl, hlt⟩ | exact ⟨trivial, hlt⟩)] at hE
            have hlt1 : decide (ak < pl) = true := decide_eq_true hlt
            have HPB := Lib.hid (eeprobe_any ⟨_, hds.drewN k5⟩ hK hok3 hc3 (by omega))
            have HT := Lib.hid (And.intro (ht.trans (Tn.drewN W L3 k5 _)) hE)
            clear hds ht hok3 hc3 hE HD HA HP HOUT
            refine tkH 14 ?_
            refine tkH 15 ?_
            refine wpAnyH_done (by kernel_rfl) ?_ _
            clear hHeld
            go_wp2_with fail
            refine HPB.out.mono ?_
            rintro e w7 ⟨rfl, L7, h7, ht7⟩
            have HFIN := Lib.hid (show EeAns w L K b s (E.tick now) (.bool true) (.returned (.bool true)) w7 from ⟨rfl, L7, by rw [HT.out.2]; exact h7, HT.out.1.trans ht7⟩)
            clear h7 ht7 HPB HT
            go_wp2
            go_ret
            exact HFIN.out
          · rw [if_neg (fun e => hlt e.2)] at hE
            have hlt1 : decide (ak < pl) = false := decide_eq_false hlt
            have HFIN := Lib.hid (show EeAns w L K b s (E.tick now) (.bool true) (.returned (.bool true)) (W.drewN k5) from ⟨rfl, L3, by rw [hE]; exact ⟨_, hds.drewN k5⟩, ht.trans (Tn.drewN W L3 k5 _)⟩)
            clear hds ht hok3 hc3 hE HD HA HP HOUT
            refine tkH 14 ?_
            refine tkH 15 ?_
            refine wpAnyH_done (by kernel_rfl) ?_ _
            clear hHeld
            go_wp2
            go_ret
            exact HFIN.out
        · have hf1 : (fl == 0) = false := by simp; omega
          refine tkH 0 ?_
          refine wpAnyH_ready (rs := [1]) (by kernel_rfl) (by simp) ?_
          refine AllReadyH.cons rfl (fun K2 hK2 => ?_) AllReadyH.nil
          go_simp
          refine HOUT.out.mono ?_
          rintro e w5 ⟨rfl, k5, rfl⟩
          try go_wp2_with fail
          refine hK2.out _ _ S0.out (fun hHeld2 => ?_)
          clear hK2 K2 hHeld
          have hHeld := hHeld2
          clear hHeld2
          try simp only [Act.put, List.getElem_toArray, List.getElem_cons_zero, List.getElem_cons_succ, List.setIfInBounds_toArray, List.set_cons_zero, List.set_cons_succ]
          refine tkH 2 ?_
          refine tkH 3 ?_
          refine wpAnyH_take (i := 4) (v := undef) rfl (by kernel_rfl) (by kernel_rfl) (by kernel_rfl) (fun _ _ _ h => h) (Or.inr ⟨by rfl, rfl⟩) (by assumption) ?_
          try simp only [Act.put, List.getElem_toArray, List.getElem_cons_zero, List.getElem_cons_succ, List.setIfInBounds_toArray, List.set_cons_zero, List.set_cons_succ]
          refine wpAnyH_take (i := 5) (v := undef) rfl (by kernel_rfl) (by kernel_rfl) (by kernel_rfl) (fun _ _ _ h => h) (Or.inr ⟨by rfl, rfl⟩) (by assumption) ?_
          try simp only [Act.put, List.getElem_toArray, List.getElem_cons_zero, List.getElem_cons_succ, List.setIfInBounds_toArray, List.set_cons_zero, List.set_cons_succ]
          refine wpAnyH_take (i := 6) (v := undef) rfl (by kernel_rfl) (by kernel_rfl) (by kernel_rfl) (fun _ _ _ h => h) (Or.inr ⟨by rfl, rfl⟩) (by assumption) ?_
          try simp only [Act.put, List.getElem_toArray, List.getElem_cons_zero, List.getElem_cons_succ, List.setIfInBounds_toArray, List.set_cons_zero, List.set_cons_succ]
          refine wpAnyH_take (i := 7) (v := undef) rfl (by kernel_rfl) (by kernel_rfl) (by kernel_rfl) (fun _ _ _ h => h) (Or.inr ⟨by rfl, rfl⟩) (by assumption) ?_
          try simp only [Act.put, List.getElem_toArray, List.getElem_cons_zero, List.getElem_cons_succ, List.setIfInBounds_toArray, List.set_cons_zero, List.set_cons_succ]
          refine wpAnyH_take (i := 8) (v := undef) rfl (by kernel_rfl) (by kernel_rfl) (by kernel_rfl) (fun _ _ _ h => h) (Or.inr ⟨by rfl, rfl⟩) (by assumption) ?_
          try simp only [Act.put, List.getElem_toArray, List.getElem_cons_zero, List.getElem_cons_succ, List.setIfInBounds_toArray, List.set_cons_zero, List.set_cons_succ]
          refine wpAnyH_take (i := 9) (v := undef) rfl (by kernel_rfl) (by kernel_rfl) (by kernel_rfl) (fun _ _ _ h => h) (Or.inr ⟨by rfl, rfl⟩) (by assumption) ?_
          try simp only [Act.put, List.getElem_toArray, List.getElem_cons_zero, List.getElem_cons_succ, List.setIfInBounds_toArray, List.set_cons_zero, List.set_cons_succ]
          refine wpAnyH_take (i := 10) (v := undef) rfl (by kernel_rfl) (by kernel_rfl) (by kernel_rfl) (fun _ _ _ h => h) (Or.inr ⟨by rfl, rfl⟩) (by assumption) ?_
          try simp only [Act.put, List.getElem_toArray, List.getElem_cons_zero, List.getElem_cons_succ, List.setIfInBounds_toArray, List.set_cons_zero, List.set_cons_succ]
          refine wpAnyH_take (i := 11) (v := undef) rfl (by kernel_rfl) (by kernel_rfl) (by kernel_rfl) (fun _ _ _ h => h) (Or.inr ⟨by rfl, rfl⟩) (by assumption) ?_
          try simp only [Act.put, List.getElem_toArray, List.getElem_cons_zero, List.getElem_cons_succ, List.setIfInBounds_toArray, List.set_cons_zero, List.set_cons_succ]
          refine wpAnyH_take (i := 12) (v := undef) rfl (by kernel_rfl) (by kernel_rfl) (by kernel_rfl) (fun _ _ _ h => h) (Or.inr ⟨by rfl, rfl⟩) (by assumption) ?_
          try simp only [Act.put, List.getElem_toArray, List.getElem_cons_zero, List.getElem_cons_succ, List.setIfInBounds_toArray, List.set_cons_zero, List.set_cons_succ]
          refine wpAnyH_take (i := 13) (v := undef) rfl (by kernel_rfl) (by kernel_rfl) (by kernel_rfl) (fun _ _ _ h => h) (Or.inr ⟨by rfl, rfl⟩) (by assumption) ?_
          try simp only [Act.put, List.getElem_toArray, List.getElem_cons_zero, List.getElem_cons_succ, List.setIfInBounds_toArray, List.set_cons_zero, List.set_cons_succ]
          refine wpAnyH_take (i := 14) (v := undef) rfl (by kernel_rfl) (by kernel_rfl) (by kernel_rfl) (fun _ _ _ h => h) (Or.inr ⟨by rfl, rfl⟩) (by assumption) ?_
          try simp only [Act.put, List.getElem_toArray, List.getElem_cons_zero, List.getElem_cons_succ, List.setIfInBounds_toArray, List.set_cons_zero, List.set_cons_succ]
          refine tkH 15 ?_
          refine wpAnyH_done (by kernel_rfl) ?_ _
          clear hHeld
          obtain ⟨hds, ht, hok3, hc3, hE⟩ := HD.out
          rw [if_neg (fun e => hf0 e.1)] at hE
          have HFIN := Lib.hid (show EeAns w L K b s (E.tick now) (.bool true) (.returned (.bool true)) (W.drewN k5) from ⟨rfl, L3, by rw [hE]; exact ⟨_, hds.drewN k5⟩, ht.trans (Tn.drewN W L3 k5 _)⟩)
          clear hds ht hok3 hc3 hE HD HA HP HOUT
          go_wp2
          go_ret
          exact HFIN.out
end Go.Proofs.YtpjlnpnadkbakaaGreat
namespace Go.Proofs.YtpjlnpnadkbakaaGreat
set_option maxRecDepth 10000
open Go.RowKit
section
variable {k pa nu o fr : Int} {da : List Int} {fin : Bool} {se li : Int}
theorem ok1 : Pkt.ok ⟨1, pa, nu, o, fr, da, fin, se, li⟩ = (inB pa 2 && inB nu 65535 && decide (o = 0) && decide (fr = 0) && decide (da.length = 0) && !fin && decide (se = 0) && decide (li = 0)) := by
  rw [Bool.eq_iff_iff]
  simp [Pkt.ok, Pkt.known, Pkt.same, Pkt.bare, Pkt.bounded, inB]
  constructor
  · intro h
    simp_all
  · intro h
    simp_all
theorem ok2 : Pkt.ok ⟨2, pa, nu, o, fr, da, fin, se, li⟩ = (inB pa 2 && inB nu 65535 && inB o 65535 && decide (fr = 0) && decide (da.length = 0) && !fin && decide (se = 0) && decide (li = 0)) := by
  rw [Bool.eq_iff_iff]
  simp [Pkt.ok, Pkt.known, Pkt.same, Pkt.bare, Pkt.bounded, inB]
  constructor
  · intro h
    simp_all
  · intro h
    simp_all
theorem ok3 : Pkt.ok ⟨3, pa, nu, o, fr, da, fin, se, li⟩ = (inB pa 2 && inB nu 65535 && decide (o = 0) && inB fr 4096 && decide (da.length ≤ 64) && decide (fr + (da.length : Int) ≤ 4096) && decide (se = 0) && decide (li = 0)) := by
  rw [Bool.eq_iff_iff]
  simp [Pkt.ok, Pkt.known, Pkt.same, Pkt.bare, Pkt.bounded, inB]
  constructor
  · intro h
    simp_all
  · intro h
    simp_all
theorem ok4 : Pkt.ok ⟨4, pa, nu, o, fr, da, fin, se, li⟩ = (inB pa 2 && inB nu 65535 && inB o 65535 && decide (fr = 0) && decide (da.length = 0) && !fin && inB se 4097 && inB li 4496) := by
  rw [Bool.eq_iff_iff]
  simp [Pkt.ok, Pkt.known, Pkt.same, Pkt.bare, Pkt.bounded, inB]
  constructor
  · intro h
    simp_all
  · intro h
    simp_all
end
end Go.Proofs.YtpjlnpnadkbakaaGreat
namespace Go.Proofs.YtpjlnpnadkbakaaGreat
set_option maxRecDepth 10000
open Go.RowKit
theorem Pkt.ok_pa {p : Pkt} (h : p.ok = true) : 0 ≤ p.pa ∧ p.pa ≤ 2 := by
  obtain ⟨k, pa, nu, o, fr, da, fin, se, li⟩ := p
  have hk := Pkt.ok_kind h
  simp only at hk ⊢
  have hkk : k = 1 ∨ k = 2 ∨ k = 3 ∨ k = 4 := by omega
  rcases hkk with rfl | rfl | rfl | rfl
  · rw [ok1] at h; simp [inB] at h; omega
  · rw [ok2] at h; simp [inB] at h; omega
  · rw [ok3] at h; simp [inB] at h; omega
  · rw [ok4] at h; simp [inB] at h; omega
def MayS (w : World) (p : Pkt) (A : Option Addr) (c : Nat) (wi : World) : Prop := Below w.heap.size w wi ∧ w.heap.size < wi.heap.size ∧ wi.rangeAt w.heap.size 0 (p.cs A c)
theorem MayS.new (w : World) (p : Pkt) (A : Option Addr) (c : Nat) (ty : TypeId) : MayS w p A c (w.alloc (.cells (p.cs A c).toArray ty)).drew :=
  ⟨((Below.refl _ _).alloc (Nat.le_refl _) _).drew, by simp, fun j v hv => Pkt.range w p A c ty j v hv⟩
theorem MayS.later {w wi wj : World} {p : Pkt} {A : Option Addr} {c : Nat} (h : MayS w p A c wi) (hb : Below wi.heap.size wi wj) : MayS w p A c wj :=
  ⟨h.1.trans (hb.mono h.1.size), Nat.lt_of_lt_of_le h.2.1 hb.size, rangeAt_later h.2.2 hb h.2.1⟩
namespace En
variable {E : En} {p : Pkt}
theorem mayC_no (h : p.ok = false) : E.mayC p = false := by unfold mayC; rw [h]; rfl
theorem mayC_out (h : (E.ps.length : Int) ≤ p.pa) : E.mayC p = false := by
  unfold mayC
  rw [decide_eq_false (show ¬ p.pa < (E.ps.length : Int) by omega), Bool.and_false]
  rfl
theorem mayC_down {i : Nat} (hi : p.pa = (i : Int)) (h : (E.pa i).up = false) : E.mayC p = false := by
  unfold mayC
  rw [hi, Int.toNat_natCast, h, Bool.and_false]
  rfl
def mayK (E : En) (p : Pkt) (i : Nat) : Bool :=
  if p.k = 1 then decide (E.side = 1) else if p.k = 2 then decide (E.side = 0) && decide (p.ofn < (E.pa i).sent) else if p.k = 3 then (E.pa i).jo
    else decide (p.ofn < (E.pa i).sent) && decide (p.se ≤ E.pl.sent)
theorem mayC_up {i : Nat} (ho : p.ok = true) (hi : p.pa = (i : Int)) (hl : i < E.ps.length) (h : (E.pa i).up = true) : E.mayC p = E.mayK p i := by
  unfold mayC mayK
  rw [ho, hi, Int.toNat_natCast, h, decide_eq_true (show (i : Int) < (E.ps.length : Int) by omega)]
  simp
end En
theorem Pkt.ok_nu {p : Pkt} (h : p.ok = true) : 0 ≤ p.nu ∧ p.nu ≤ 65535 := by
  obtain ⟨k, pa, nu, o, fr, da, fin, se, li⟩ := p
  have hk := Pkt.ok_kind h
  simp only at hk ⊢
  have hkk : k = 1 ∨ k = 2 ∨ k = 3 ∨ k = 4 := by omega
  rcases hkk with rfl | rfl | rfl | rfl
  · rw [ok1] at h; simp [inB] at h; omega
  · rw [ok2] at h; simp [inB] at h; omega
  · rw [ok3] at h; simp [inB] at h; omega
  · rw [ok4] at h; simp [inB] at h; omega
theorem Pkt.ok_data {pa nu o fr : Int} {da : List Int} {fin : Bool} {se li : Int} (h : Pkt.ok ⟨3, pa, nu, o, fr, da, fin, se, li⟩ = true) : 0 ≤ fr ∧ fr + (da.length : Int) ≤ 4096 ∧ da.length ≤ 64 := by
  rw [ok3] at h; simp [inB] at h; omega
theorem Pkt.ok_ack {pa nu o fr : Int} {da : List Int} {fin : Bool} {se li : Int} (h : Pkt.ok ⟨4, pa, nu, o, fr, da, fin, se, li⟩ = true) : 0 ≤ li ∧ li ≤ 4496 ∧ 0 ≤ se ∧ se ≤ 4097 := by
  rw [ok4] at h; simp [inB] at h; omega
theorem In.seen_range {E : En} (hok : E.ok) : 0 ≤ E.i.seen ∧ E.i.seen ≤ 4097 := by
  have h1 := En.front_4096 hok
  have h2 := (In.front_is hok.i).ge
  have h3 := hok.i.e1
  unfold In.seen
  split <;> omega
theorem In.limit_range {E : En} (hok : E.ok) : 0 ≤ E.i.limit ∧ E.i.limit ≤ 4496 := by
  have h1 := En.tk_4096 hok
  have h2 := hok.i.t0
  have h3 := hok.i.w1
  have h4 := hok.i.w0
  unfold In.limit
  omega
end Go.Proofs.YtpjlnpnadkbakaaGreat
namespace Go.Proofs.YtpjlnpnadkbakaaGreat
set_option maxRecDepth 10000
open Go.RowKit
theorem conv_rd {A : Option Addr} {n : Nat} (c : Nat) {xs : List Int} {w : World} (hn : xs.length = n) (hr : Rd .u8 w A xs) :
    (convert 29 9 (.slice A n c)).run Tryz.prog w = .ok (.string (strOfNums xs)) w := by
  rcases hr with rfl | ⟨b, off, rfl, h⟩
  · have h0 : n = 0 := by simpa using hn.symm
    subst h0
    cases A with
    | none => exact run_convert_bytes_nil w 29 5 Tryz.underlying29 Tryz.underlying5 0 c 9 Tryz.underlying9
    | some ad =>
      rw [run_convert_bytes_string w 29 9 5 _ 0 c Tryz.underlying29 Tryz.underlying5 Tryz.underlying9]
      have hl : (loadCells ad 0).run Tryz.prog w = .ok (([] : List Int).map (Value.int .u8)).toArray w := by
        have := run_loadCells_list (P := Tryz.prog) w ad [] (fun j v hj => by simp at hj)
        simpa using this
      rw [run_bytesToString w ad 0 c [] hl]
      rfl
  · exact run_convert_bytes_arg w 29 5 Tryz.underlying29 Tryz.underlying5 b off n c xs hn (fun i hi => h i (by omega)) 9 Tryz.underlying9
end Go.Proofs.YtpjlnpnadkbakaaGreat
namespace Go.Proofs.YtpjlnpnadkbakaaGreat
set_option maxRecDepth 10000
theorem byte_eq {a b : Int} (ha : 0 ≤ a ∧ a < 256) (hb : 0 ≤ b ∧ b < 256) : (UInt8.ofNat a.toNat == UInt8.ofNat b.toNat) = (a == b) := by
  rw [Bool.eq_iff_iff]
  simp only [beq_iff_eq, ← UInt8.toNat_inj, UInt8.toNat_ofNat']
  omega
theorem map_byte_inj : ∀ x y : List Int, (∀ a ∈ x, 0 ≤ a ∧ a < 256) → (∀ a ∈ y, 0 ≤ a ∧ a < 256) → (x.map fun n => UInt8.ofNat n.toNat) = (y.map fun n => UInt8.ofNat n.toNat) → x = y
  | [], [], _, _, _ => rfl
  | [], _ :: _, _, _, h => by simp at h
  | _ :: _, [], _, _, h => by simp at h
  | a :: x, b :: y, hx, hy, h => by
    simp only [List.map_cons, List.cons.injEq] at h
    have e := byte_eq (hx a List.mem_cons_self) (hy b List.mem_cons_self)
    rw [h.1, beq_self_eq_true] at e
    rw [show a = b from by simpa using e.symm, map_byte_inj x y (fun c hc => hx c (List.mem_cons_of_mem _ hc)) (fun c hc => hy c (List.mem_cons_of_mem _ hc)) h.2]
end Go.Proofs.YtpjlnpnadkbakaaGreat
namespace Go.Proofs.YtpjlnpnadkbakaaGreat
set_option maxRecDepth 10000
open Go.RowKit
theorem bytesEqual_any (xs ys : List Int) {A B : Option Addr} {n m c d : Nat} {w : World} (hn : xs.length = n) (hm : ys.length = m) (hx : Rd .u8 w A xs) (hy : Rd .u8 w B ys) (bx : ∀ x ∈ xs, 0 ≤ x ∧ x < 256) (by' : ∀ x ∈ ys, 0 ≤ x ∧ x < 256) :
    Calls Tryz.prog 262 #[.slice A n c, .slice B m d] w fun e w' => e = .returned (.bool (decide (xs = ys))) ∧ w = w' := by
  have k1 := conv_rd c hn hx
  have k2 := conv_rd d hm hy
  have k3 : ((strOfNums xs).toList == (strOfNums ys).toList) = decide (xs = ys) := by
    by_cases e : xs = ys
    · subst e; simp
    · have : ¬ (strOfNums xs).toList = (strOfNums ys).toList := fun h => e (by
        rw [Lib.toList_data, Lib.toList_data] at h
        exact map_byte_inj _ _ bx by' (by simpa [strOfNums] using h))
      rw [beq_eq_false_iff_ne.2 this, decide_eq_false e]
  clear hn hm hx hy bx by'
  go_enter Tryz.func262, Tryz.ntmps262
  go_wp2
  go_ret
  exact ⟨rfl, rfl⟩
end Go.Proofs.YtpjlnpnadkbakaaGreat

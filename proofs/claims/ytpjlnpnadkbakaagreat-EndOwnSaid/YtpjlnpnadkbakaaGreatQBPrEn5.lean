/-
  PrEn5 · PrEn6.
-/
import Derived.Test.YtpjlnpnadkbakaaGreatQBPrEn3
import Derived.Test.YtpjlnpnadkbakaaGreatQBMem
namespace Go.Proofs.YtpjlnpnadkbakaaGreat
set_option maxRecDepth 10000
open Go.RowKit
def EeCho (w : World) (L : Lab) (K b : Nat) (s : EeS) (E : En) (e : Ending) (w' : World) : Prop :=
  ∃ A n c, e = .returned (.slice A n c) ∧ E.chosen.length = n ∧ ∃ L', Own .i64 3 w' 0 (.slice A n c) E.chosen ∧ OfV L' 0 (.slice A n c) ∧ EE w' L' K b s E.choose ∧ Tn w w' L L' (Es K)
set_option maxHeartbeats 4000000 in
theorem eechoose_any {w : World} {L : Lab} {K b : Nat} {s : EeS} {E : En} (h : EE w L K b s E) (hK : K ≠ 0) (hok : E.ok) : Calls Tryz.prog 144 #[.pointer (some ⟨b, 0, none⟩)] w (EeCho w L K b s E) := by
  obtain ⟨n, hn⟩ : ∃ n, E.ps.length = n := ⟨_, rfl⟩
  have hn3 : n ≤ 3 := by rw [← hn]; exact hok.np3
  have hn1 : 1 ≤ n := by rw [← hn]; exact hok.np1
  obtain ⟨g, c, hpv, c10, hg, _, _⟩ := h.look hn (i := 0) (by omega)
  have HROW := Lib.hid (show ∀ W, Below w.heap.size w W → ∀ i, i < n → W.cell? ⟨g, i, none⟩ = some (.pointer (some ⟨s.pb.getD i 0, 0, none⟩)) from fun W hb i hi => cell_later hb (hg i hi))
  obtain ⟨q, hq⟩ := h
  have HPT := Lib.hid (show ∀ W, Below w.heap.size w W → ∀ i, i < n → PaAt W 0 (s.pb.getD i 0) (s.pg i) (s.pw i) (s.pf i) (q.fv i) (E.pa i) from fun W hb i hi => (hq.pth i (by omega)).later hb)
  have HPO := Lib.hid (show ∀ i, i < n → (E.pa i).ok from fun i hi => (hok.pa (by omega)).ok)
  have HN := Lib.hid hn
  have H := Lib.hid (And.intro hq hok)
  clear hq hpv hg hn hok hn1
  go_enter Tryz.func144, Tryz.ntmps144
  go_wp2
  go_loopw [3, 4, 14] (fun bv mv iv wr => ∃ (i : Nat) (A1 : Option Addr) (c1 : Nat) (A2 : Option Addr) (n2 c2 : Nat), i ≤ n ∧ iv = .int .i64 i ∧ mv = .slice A1 i c1 ∧ bv = .slice A2 n2 c2 ∧ Hid (Own .i64 3 wr w.heap.size (.slice A1 i c1) (E.means.take i) ∧ Own .i64 3 wr w.heap.size (.slice A2 n2 c2) (canF E.bs i) ∧ (canF E.bs i).length = n2 ∧ Below w.heap.size w wr ∧ ∀ g, (Value.slice A2 n2 c2).ownBlock = some g → (Value.slice A1 i c1).ownBlock ≠ some g)) (fun _ _ iv _ => n - (intOf iv).toNat)
  case atStart => exact ⟨0, none, 0, none, 0, 0, by omega, rfl, rfl, rfl, Lib.hid ⟨Own.nil _ _ _ _, Own.nil _ _ _ _, rfl, Below.refl _ _, fun g hg => by simp [Value.ownBlock] at hg⟩⟩
  case round =>
    obtain ⟨i, A1, c1, A2, n2, c2, hi, rfl, rfl, rfl, hmid⟩ := hrel
    by_cases hin : i < n
    · obtain ⟨m1, m2, m3, m4, m6⟩ := hmid.out
      have y := HROW.out wr m4 i hin
      have hd := HPT.out wr m4 i hin
      have hc := pausable_any hd (HPO.out i hin)
      obtain ⟨pb, hpb⟩ : ∃ pb, s.pb.getD i 0 = pb := ⟨_, rfl⟩
      rw [hpb] at y hc
      have i1 : (i : Int) < (n : Int) := by omega
      have i2 : (0 : Int) ≤ (i : Int) := by omega
      have HI := Lib.hid (And.intro hin (show i < E.ps.length by have := HN.out; omega))
      have HIW := Lib.hid (show wrap64 ((i : Int) + 1) = ((i + 1 : Nat) : Int) from wrap_atS (by omega) (by omega) (by omega))
      have hmt := En.take_meansS HI.out.2
      have hmv := En.means_at HI.out.2
      have hbs := En.bs_at HI.out.2
      have hml : (E.means.take i).length = i := by rw [List.length_take, En.means_len]; have := HI.out.2; omega
      have hnc : n2 ≤ i := by rw [← m3]; exact canF_len _ _
      obtain ⟨u, hu⟩ : ∃ u, (E.pa i).usable = u := ⟨_, rfl⟩
      rw [hu] at hc hmv hbs
      have HC := Lib.hid hc
      have HPB := Lib.hid hpb
      have HM := Lib.hid (And.intro hmt (And.intro hmv (And.intro hbs (And.intro hml hnc))))
      have HMID := Lib.hid (And.intro m1 (And.intro m2 (And.intro m3 (And.intro m4 m6))))
      clear hu hc hpb hi hin m1 m2 m3 m4 m6 hmt hmv hbs hml hnc hmid hd
      go_wp2_with fail
      refine HC.out.mono ?_
      rintro e w1 ⟨rfl, k, rfl⟩
      obtain ⟨w1, hw1⟩ : ∃ w1, wr.drewN k = w1 := ⟨_, rfl⟩
      rw [hw1]
      obtain ⟨m1, m2, m3, m4, m6⟩ := HMID.out
      have hbk : Below wr.heap.size wr w1 := by rw [← hw1]; exact below_drS wr k
      have hbw : Below w.heap.size w w1 := m4.trans (hbk.mono m4.size)
      have n3 : n2 ≤ 1048576 ∧ i ≤ 1048576 := by have := HI.out.1; have := HM.out.2.2.2.2; omega
      have o1 := m1.later hbk
      have o2 := m2.later hbk
      clear hw1 hbk HMID HC m1 m2 m4
      cases u
      · obtain ⟨hmt, hmv, hbs, hml, hnc⟩ := HM.out
        simp only [Bool.false_and, Bool.false_eq_true, if_false] at hmv hbs
        rw [hmv] at hmt
        have hcf := canF_no (ms := E.bs) (i := i) (by rw [hbs]; decide)
        obtain ⟨A', c', w3, hrun, r1, r2, r3, r4⟩ := app_two o1 o2 m6 (-1) i hml n3.2 hbw.size
        have HREL := Lib.hid (show Own .i64 3 w3 w.heap.size (.slice A' (i + 1) c') (E.means.take (i + 1)) ∧ Own .i64 3 w3 w.heap.size (.slice A2 n2 c2) (canF E.bs (i + 1)) ∧ (canF E.bs (i + 1)).length = n2 ∧ Below w.heap.size w w3 ∧ ∀ g, (Value.slice A2 n2 c2).ownBlock = some g → (Value.slice A' (i + 1) c').ownBlock ≠ some g from ⟨by rw [hmt]; exact r1, by rw [hcf]; exact r2, by rw [hcf]; exact m3, hbw.trans r4, r3⟩)
        clear o1 o2 hmt hmv hbs hml hnc hcf r1 r2 r3 r4 hbw m3 m6 n3 HM
        go_wp2_with (at_builtin; refine Lib.wpList_append_run _ rfl _ _ _ _ rfl _ _ rfl rfl _ _ hrun ?_)
        clear hrun
        go_roundw
        case rel => exact ⟨i + 1, A', c', A2, n2, c2, by have := HI.out; omega, by first | rfl | rw [HIW.out], rfl, rfl, HREL⟩
        case measure => (try rw [HIW.out]); have := HI.out; simp [intOf]; omega
      · have hd1 := HPT.out w1 hbw i HI.out.1
        obtain ⟨be, hbe⟩ : ∃ be, (E.pa i).be = be := ⟨_, rfl⟩
        have hbc := pabehind_any hd1
        rw [HPB.out, hbe] at hbc
        have HBC := Lib.hid hbc
        have HBE := Lib.hid hbe
        have HW1 := Lib.hid (And.intro hbw (And.intro o1 (And.intro o2 (And.intro m3 (And.intro m6 n3)))))
        clear hd1 hbe hbc hbw o1 o2 m3 m6 n3
        go_wp2_with fail
        refine HBC.out.mono ?_
        rintro e w2 ⟨rfl, k2, rfl⟩
        obtain ⟨w2, hw2⟩ : ∃ w2, w1.drewN k2 = w2 := ⟨_, rfl⟩
        rw [hw2]
        obtain ⟨hbw, o1, o2, m3, m6, n3⟩ := HW1.out
        have hbk : Below w1.heap.size w1 w2 := by rw [← hw2]; exact below_drS w1 k2
        have hbw2 : Below w.heap.size w w2 := hbw.trans (hbk.mono hbw.size)
        have o1 := o1.later hbk
        have o2 := o2.later hbk
        obtain ⟨hmt, hmv, hbs, hml, hnc⟩ := HM.out
        rw [HBE.out] at hmv hbs
        clear hw2 hbk hbw HW1 HBC HBE HM
        cases be
        · simp only [Bool.not_false, Bool.and_self, if_true, Bool.and_false, Bool.false_eq_true, if_false] at hmv hbs
          rw [hmv] at hmt
          have hcf := canF_no (ms := E.bs) (i := i) (by rw [hbs]; decide)
          have hd2 := HPT.out w2 hbw2 i HI.out.1
          obtain ⟨me, hme⟩ : ∃ me, (E.pa i).g.mean = me := ⟨_, rfl⟩
          have hmc := pamean_any hd2
          rw [HPB.out, hme] at hmc
          rw [hme] at hmt
          have HMC := Lib.hid hmc
          have HW2 := Lib.hid (And.intro hbw2 (And.intro o1 (And.intro o2 (And.intro m3 (And.intro m6 (And.intro n3 (And.intro hmt (And.intro hml hcf))))))))
          clear hd2 hme hmc hbw2 o1 o2 m3 m6 n3 hmt hmv hbs hml hnc hcf
          go_wp2_with fail
          refine HMC.out.mono ?_
          rintro e w3 ⟨rfl, k3, rfl⟩
          obtain ⟨w3, hw3⟩ : ∃ w3, w2.drewN k3 = w3 := ⟨_, rfl⟩
          rw [hw3]
          obtain ⟨hbw, o1, o2, m3, m6, n3, hmt, hml, hcf⟩ := HW2.out
          have hbk : Below w2.heap.size w2 w3 := by rw [← hw3]; exact below_drS w2 k3
          have hbw3 : Below w.heap.size w w3 := hbw.trans (hbk.mono hbw.size)
          have o1 := o1.later hbk
          have o2 := o2.later hbk
          obtain ⟨A', c', w4, hrun, r1, r2, r3, r4⟩ := app_two o1 o2 m6 me i hml n3.2 hbw3.size
          have HREL := Lib.hid (show Own .i64 3 w4 w.heap.size (.slice A' (i + 1) c') (E.means.take (i + 1)) ∧ Own .i64 3 w4 w.heap.size (.slice A2 n2 c2) (canF E.bs (i + 1)) ∧ (canF E.bs (i + 1)).length = n2 ∧ Below w.heap.size w w4 ∧ ∀ g, (Value.slice A2 n2 c2).ownBlock = some g → (Value.slice A' (i + 1) c').ownBlock ≠ some g from ⟨by rw [hmt]; exact r1, by rw [hcf]; exact r2, by rw [hcf]; exact m3, hbw3.trans r4, r3⟩)
          clear hw3 hbk hbw hbw3 o1 o2 m3 m6 n3 hmt hml hcf r1 r2 r3 r4 HW2 HMC
          go_wp2_with (at_builtin; refine Lib.wpList_append_run _ rfl _ _ _ _ rfl _ _ rfl rfl _ _ hrun ?_)
          clear hrun
          go_roundw
          case rel => exact ⟨i + 1, A', c', A2, n2, c2, by have := HI.out; omega, by first | rfl | rw [HIW.out], rfl, rfl, HREL⟩
          case measure => (try rw [HIW.out]); have := HI.out; simp [intOf]; omega
        · simp only [Bool.not_true, Bool.and_false, Bool.and_self, Bool.false_eq_true, if_false, if_true] at hmv hbs
          rw [hmv] at hmt
          have hcf := canF_yes (ms := E.bs) (i := i) (by rw [hbs]; decide)
          obtain ⟨A3, c3, w3, hrun1, r1, r2, r3, r4⟩ := app_two o2 o1 (fun g hg e => m6 g e hg) (i : Int) n2 m3 n3.1 hbw2.size
          have hb3 := hbw2.trans r4
          obtain ⟨A', c', w4, hrun2, s1, s2, s3, s4⟩ := app_two r2 r1 (fun g hg e => r3 g e hg) (-1) i hml n3.2 hb3.size
          have HREL := Lib.hid (show Own .i64 3 w4 w.heap.size (.slice A' (i + 1) c') (E.means.take (i + 1)) ∧ Own .i64 3 w4 w.heap.size (.slice A3 (n2 + 1) c3) (canF E.bs (i + 1)) ∧ (canF E.bs (i + 1)).length = n2 + 1 ∧ Below w.heap.size w w4 ∧ ∀ g, (Value.slice A3 (n2 + 1) c3).ownBlock = some g → (Value.slice A' (i + 1) c').ownBlock ≠ some g from ⟨by rw [hmt]; exact s1, by rw [hcf]; exact s2, by rw [hcf, List.length_append, m3]; rfl, hb3.trans s4, s3⟩)
          clear o1 o2 hmt hmv hbs hml hnc hcf r1 r2 r3 r4 hbw2 m3 m6 n3 hb3 s1 s2 s3 s4
          go_wp2_with (at_builtin; first | refine Lib.wpList_append_run _ rfl (.tmp 28) (.tmp 30) _ _ rfl _ _ rfl rfl _ _ hrun1 ?_ | refine Lib.wpList_append_run _ rfl (.tmp 32) (.tmp 34) _ _ rfl _ _ rfl rfl _ _ hrun2 ?_)
          clear hrun1 hrun2
          go_roundw
          case rel => exact ⟨i + 1, A', c', A3, n2 + 1, c3, by have := HI.out; omega, by first | rfl | rw [HIW.out], rfl, rfl, HREL⟩
          case measure => (try rw [HIW.out]); have := HI.out; simp [intOf]; omega
    · have e : i = n := by omega
      subst e
      obtain ⟨m1, m2, m3, m4, m6⟩ := hmid.out
      obtain ⟨hq, hok⟩ := H.out
      have hml : (E.means.take i).length = i := by rw [List.length_take, En.means_len]; have := HN.out; omega
      have hme : E.means.take i = E.means := List.take_of_length_le (by rw [En.means_len]; have := HN.out; omega)
      rw [hme] at m1 hml
      have hq1 := hq.grow m4 0
      have hla := hok.la
      have HPK := Lib.hid (show Calls Tryz.prog 224 #[.pointer (some ⟨s.sb, 0, none⟩), .slice A1 i c1] wr _ from pick_any hq1.p.sch A1 i c1 E.means hml m1.rd (by show -1 ≤ E.l ∧ E.l ≤ 1048576; omega) (by omega))
      have c12 : wr.cell? ⟨b, 0 + 12, none⟩ = some (.pointer (some ⟨s.sb, 0, none⟩)) := hq1.cell 12 (by omega)
      have HQ := Lib.hid (And.intro hq1 (And.intro m2 (And.intro m3 (And.intro m4 hok))))
      have j1 : ¬ ((i : Int) < (i : Int)) := by omega
      clear hq hok m1 m2 m3 m4 m6 hml hme hq1 hla hmid hi hin H
      go_wp2_with fail
      clear c12
      refine HPK.out.mono ?_
      rintro e w1 ⟨A', c', LL, l', rfl, ho, hpick, hsc', hsc⟩
      obtain ⟨hq1, m2, m3, m4, hok⟩ := HQ.out
      obtain ⟨h2, ht2⟩ := hq1.turnS hK 0 hsc' hsc
      have ht := (Tn.of_below m4 L 0 (Es K)).trans (ht2.mono (fun x hx => by subst hx; exact ⟨by omega, by omega⟩))
      by_cases hf : E.fresh = true
      · obtain ⟨p1, p2, p3⟩ := En.pick_fresh hok hf hpick
        rw [p2] at h2
        subst p1
        have HFIN := Lib.hid (show EeCho w L K b s E (.returned (.slice A' E.chosen.length c')) w1 from ⟨A', _, c', rfl, rfl, _, ho.less (Nat.zero_le _), OfV.new (fun g hg => (ho.lt g hg).1), ⟨_, h2⟩, ht⟩)
        obtain ⟨nn, hnn⟩ : ∃ nn, E.chosen.length = nn := ⟨_, rfl⟩
        rw [hnn] at HFIN p3 ⊢
        have i1 : (nn : Int) > 0 := by omega
        clear hq1 m2 m3 m4 hok h2 ht2 ht p2 p3 ho hpick hsc' hsc hf HQ HPK hnn
        go_wp2
        go_ret
        exact HFIN.out
      · have hf : E.fresh = false := by simpa using hf
        obtain ⟨p1, p2, p3⟩ := En.pick_stale hf hpick
        rw [p2] at h2
        subst p1
        have hob : Own .i64 3 w1 0 (.slice A2 n2 c2) E.chosen ∧ OfV (relab (relab L w.heap.size 0) wr.heap.size 0) 0 (.slice A2 n2 c2) := by
          rw [← p3, HN.out]
          have hv2 : OfV (relab L w.heap.size 0) 0 (.slice A2 n2 c2) := OfV.new (fun g hg => (m2.lt g hg).1)
          exact ⟨ht2.own (m2.less (Nat.zero_le _)) hv2 (by omega), hv2.keep ht2 (own_lt m2)⟩
        have HFIN := Lib.hid (show EeCho w L K b s E (.returned (.slice A2 n2 c2)) w1 from ⟨A2, n2, c2, rfl, by rw [← p3, HN.out]; exact m3, _, hob.1, hob.2, ⟨_, h2⟩, ht⟩)
        simp only [List.length_nil]
        clear hq1 m2 m3 m4 hok h2 ht2 ht p2 p3 ho hpick hsc' hsc hf HQ HPK hob
        go_wp2
        go_ret
        exact HFIN.out
end Go.Proofs.YtpjlnpnadkbakaaGreat
namespace Go.Proofs.YtpjlnpnadkbakaaGreat
set_option maxRecDepth 10000
open Go.RowKit
theorem Byt.pkt {w : World} {L : Lab} {A : Option Addr} {c : Nat} {xs : List Int} (h : Byt w L A c xs) (hb : ∀ x ∈ xs, 0 ≤ x ∧ x < 256) (hl : xs.length ≤ 80) {k pa nu ofn fr se li : Int} {fin : Bool} (h1 : -4611686018427387904 ≤ k ∧ k ≤ 4611686018427387904) (h2 : -4611686018427387904 ≤ pa ∧ pa ≤ 4611686018427387904) (h3 : -4611686018427387904 ≤ nu ∧ nu ≤ 4611686018427387904) (h4 : -4611686018427387904 ≤ ofn ∧ ofn ≤ 4611686018427387904) (h5 : -4611686018427387904 ≤ fr ∧ fr ≤ 4611686018427387904) (h6 : -4611686018427387904 ≤ se ∧ se ≤ 4611686018427387904) (h7 : -4611686018427387904 ≤ li ∧ li ≤ 4611686018427387904) :
    PktAt w ⟨k, pa, nu, ofn, fr, xs, fin, se, li⟩ A c ∧ PkB ⟨k, pa, nu, ofn, fr, xs, fin, se, li⟩ :=
  ⟨pktAt_of h.own hb (by show xs.length ≤ _; omega) (by show _ ≤ k ∧ k ≤ _; omega) (by show _ ≤ pa ∧ pa ≤ _; omega) (by show _ ≤ nu ∧ nu ≤ _; omega) (by show _ ≤ ofn ∧ ofn ≤ _; omega) (by show _ ≤ fr ∧ fr ≤ _; omega) (by show _ ≤ se ∧ se ≤ _; omega) (by show _ ≤ li ∧ li ≤ _; omega),
    ⟨hb, hl, by show _ ≤ k ∧ k ≤ _; omega, by show _ ≤ pa ∧ pa ≤ _; omega, by show _ ≤ nu ∧ nu ≤ _; omega, by show _ ≤ ofn ∧ ofn ≤ _; omega, by show _ ≤ fr ∧ fr ≤ _; omega, by show _ ≤ se ∧ se ≤ _; omega, by show _ ≤ li ∧ li ≤ _; omega⟩⟩
theorem Byt.aps {w : World} {L : Lab} {K : Nat} {A : Option Addr} {c : Nat} {xs : List Int} (h : Byt w L A c xs) (hK : K ≠ 0) : Aps w L K A := fun a e => by
  subst e
  exact ⟨own_lt h.own _ rfl, by rw [h.lab a.block rfl]; unfold Es; omega⟩
def EePu (w : World) (L : Lab) (K b : Nat) (s : EeS) (E : En) (M kx : Nat) (wr : World) : Prop :=
  ∃ (L1 : Lab) (E1 : En) (N1 : Nat), EE wr L1 K b s E1 ∧ Tn w wr L L1 (Es K) ∧ E1.ok ∧ E1.cap N1 ∧ N1 + 198 * kx ≤ M ∧ E1.left < kx ∧ E1.pump = E.pump
def EeDa (w : World) (L : Lab) (K b : Nat) (s : EeS) (E2 : En) (f t : Int) (C : List Int) (v : Value) (A : Option Addr) (c : Nat) (da : List Int) (N1 : Nat) (j : Nat) (wr : World) : Prop :=
  ∃ L2 : Lab, EE wr L2 K b s (E2.datas f t (C.take j)) ∧ Tn w wr L L2 (Es K) ∧ Own .i64 3 wr 0 v C ∧ OfV L2 0 v ∧ Byt wr L2 A c da ∧ (E2.datas f t (C.take j)).ok ∧ (E2.datas f t (C.take j)).cap (N1 + 66 * j)
set_option maxHeartbeats 4000000 in
theorem eepump_any {w : World} {L : Lab} {K b : Nat} {s : EeS} {E : En} (h : EE w L K b s E) (hK : K ≠ 0) (hok : E.ok) {N : Nat} (hc : E.cap N) (hN : N ≤ 274000000000) :
    Calls Tryz.prog 67 #[.pointer (some ⟨b, 0, none⟩)] w (EEnd w L K b s E.pump) := by
  have hlf := En.left_le hok
  have H0 := Lib.hid (show EePu w L K b s E (N + 198 * (E.left + 1)) (E.left + 1) w from ⟨L, E, N, h, Tn.refl _ _ _, hok, hc, Nat.le_refl _, Nat.lt_succ_self _, rfl⟩)
  have HM := Lib.hid (show N + 198 * (E.left + 1) ≤ 274800000000 by omega)
  obtain ⟨M, hM⟩ : ∃ M, N + 198 * (E.left + 1) = M := ⟨_, rfl⟩
  rw [hM] at H0 HM
  obtain ⟨n0, hn0⟩ : ∃ n, E.left + 1 = n := ⟨_, rfl⟩
  rw [hn0] at H0
  clear h hok hc hN hlf hM hn0
  go_enter Tryz.func67, Tryz.ntmps67
  go_wp2_with fail
  go_loopg [] n0 (fun kx wr => Hid (EePu w L K b s E M kx wr))
  case atStart => exact H0
  case round =>
    clear H0
    obtain ⟨L1, E1, N1, hd, ht, hok, hc, hm, hlt, hp⟩ := hrel.out
    clear hrel
    have HU := Lib.hid (eeusable_any hd hok)
    have HH := Lib.hid (And.intro hd (And.intro ht (And.intro hok (And.intro hc (And.intro hm (And.intro hlt hp))))))
    have hpe := En.pump_eq hok
    obtain ⟨u, hu⟩ : ∃ u, E1.usable = u := ⟨_, rfl⟩
    rw [hu] at HU hpe
    have HPE := Lib.hid hpe
    clear hd ht hok hc hm hlt hp hu hpe
    go_wp2_with fail
    refine HU.out.mono ?_
    rintro e w1 ⟨rfl, k, rfl⟩
    cases u
    · obtain ⟨hd, ht, hok, hc, hm, hlt, hp⟩ := HH.out
      have HFIN := Lib.hid (show EEnd w L K b s E.pump (.returned (.tuple #[])) (wr.drewN k) from ⟨rfl, L1, by rw [← hp, HPE.out]; exact hd.drewN k, ht.trans (Tn.drewN wr L1 k _)⟩)
      clear hd ht hok hc hm hlt hp HH HU HPE
      go_wp2
      go_end0
      exact HFIN.out
    · obtain ⟨hd0, ht0, hok, hc, hm, hlt, hp⟩ := HH.out
      obtain ⟨w1, hw1⟩ : ∃ w1, (wr.drewN k).drew = w1 := ⟨_, rfl⟩
      have hd : EE w1 L1 K b s E1 := by rw [← hw1]; exact (hd0.drewN k).drewN 1
      have ht : Tn w w1 L L1 (Es K) := by rw [← hw1]; exact (ht0.trans (Tn.drewN wr L1 k _)).trans (Tn.drewN _ L1 1 _)
      obtain ⟨q, hq⟩ := hd
      have hsep : ∀ x, Oft s.ob q.ov x → ¬ Pft s.pl s.plq q.lv x := fun x hx hy => by
        have h1 := hq.p.outl x hx
        have h2 := hq.p.plnl x hy
        omega
      have HNX := Lib.hid (next_any hq.p.pln hq.p.out hsep E1.limit E1.c.chk)
      have c14 : w1.cell? ⟨b, 0 + 14, none⟩ = some (.pointer (some ⟨s.pl, 0, none⟩)) := hq.cell 14 (by omega)
      have c13 : w1.cell? ⟨b, 0 + 13, none⟩ = some (.pointer (some ⟨s.ob, 0, none⟩)) := hq.cell 13 (by omega)
      have c9 : w1.cell? ⟨b, 0 + 9, none⟩ = some (.int .i64 E1.limit) := hq.cell 9 (by omega)
      have c3 : w1.cell? ⟨b, 0 + 3, none⟩ = some (.int .i64 E1.c.chk) := hq.cell 3 (by omega)
      have HQ := Lib.hid hq
      have HT := Lib.hid ht
      have HR := Lib.hid (And.intro hok (And.intro hc (And.intro hm (And.intro hlt hp))))
      obtain ⟨f, hf⟩ : ∃ f, E1.nx.f = f := ⟨_, rfl⟩
      obtain ⟨t, ht'⟩ : ∃ t, E1.nx.t = t := ⟨_, rfl⟩
      obtain ⟨o, ho⟩ : ∃ o, E1.nx.ok = o := ⟨_, rfl⟩
      have HF := Lib.hid (And.intro hf (And.intro ht' ho))
      have S0 := Lib.hid (show w1.cell? ⟨b, 0 + 14, none⟩ = some (.pointer (some ⟨s.pl, 0, none⟩)) ∧ w1.cell? ⟨b, 0 + 13, none⟩ = some (.pointer (some ⟨s.ob, 0, none⟩)) ∧ w1.cell? ⟨b, 0 + 9, none⟩ = some (.int .i64 E1.limit) ∧ w1.cell? ⟨b, 0 + 3, none⟩ = some (.int .i64 E1.c.chk) from ⟨c14, c13, c9, c3⟩)
      rw [ho] at HPE
      clear hq ht hok hc hm hlt hp hf ht' ho hsep HH HU hd0 ht0 c14 c13 c9 c3
      go_wp2_with fail
      refine wp_region_held_drew (S := fun wi => wi.cell? ⟨b, 0 + 14, none⟩ = some (.pointer (some ⟨s.pl, 0, none⟩)) ∧ wi.cell? ⟨b, 0 + 13, none⟩ = some (.pointer (some ⟨s.ob, 0, none⟩)) ∧ wi.cell? ⟨b, 0 + 9, none⟩ = some (.int .i64 E1.limit) ∧ wi.cell? ⟨b, 0 + 3, none⟩ = some (.int .i64 E1.c.chk)) (by kernel_rfl) (by rw [hw1]; exact S0.out) ?_
      intro hHeld
      rw [hw1] at hHeld ⊢
      clear hw1 S0
      refine tkH 0 ?_
      refine tkH 1 ?_
      refine tkH 2 ?_
      refine tkH 3 ?_
      refine tkH 4 ?_
      refine tkH 5 ?_
      refine tkH 6 ?_
      refine tkH 7 ?_
      refine tkH 8 ?_
      refine tkH 9 ?_
      refine tkH 10 ?_
      refine tkH 11 ?_
      refine tkH 12 ?_
      refine tkH 13 ?_
      refine tkH 14 ?_
      refine tkH 15 ?_
      refine tkH 16 ?_
      refine wpAnyH_ready (rs := [17]) (by kernel_rfl) (by simp) ?_
      refine AllReadyH.cons rfl (fun K2 hK2 => ?_) AllReadyH.nil
      go_simp
      refine HNX.out.mono ?_
      rintro e w2 ⟨rfl, v', hpf, hsc⟩
      obtain ⟨hq2, ht2⟩ := HQ.out.turnP (p' := E1.nx.p) hK hpf hsc
      have ht2 := ht2.mono (S' := Es K) (fun x hx => by subst hx; exact ⟨by omega, by omega⟩)
      rw [show E1.view.pl.next E1.view.o E1.limit E1.c.chk = E1.nx from rfl, HF.out.1, HF.out.2.1, HF.out.2.2]
      have S1 := Lib.hid (show w2.cell? ⟨b, 0 + 14, none⟩ = some (.pointer (some ⟨s.pl, 0, none⟩)) ∧ w2.cell? ⟨b, 0 + 13, none⟩ = some (.pointer (some ⟨s.ob, 0, none⟩)) ∧ w2.cell? ⟨b, 0 + 9, none⟩ = some (.int .i64 E1.limit) ∧ w2.cell? ⟨b, 0 + 3, none⟩ = some (.int .i64 E1.c.chk) from ⟨hq2.cell 14 (by omega), hq2.cell 13 (by omega), hq2.cell 9 (by omega), hq2.cell 3 (by omega)⟩)
      have HT2 := Lib.hid (HT.out.trans ht2)
      have HD2 := Lib.hid (show EE w2 (relab L1 w1.heap.size (K + 7)) K b s (E1.setPl E1.nx.p) from ⟨_, hq2⟩)
      obtain ⟨L2, hL2⟩ : ∃ L2, relab L1 w1.heap.size (K + 7) = L2 := ⟨_, rfl⟩
      rw [hL2] at HT2 HD2
      refine hK2.out _ _ S1.out (fun hHeld2 => ?_)
      clear hK2 K2 hHeld
      have hHeld := hHeld2
      clear hHeld2 hpf hsc hq2 ht2 hL2 HQ HT HNX
      try simp only [Act.put, List.getElem_toArray, List.getElem_cons_zero, List.getElem_cons_succ, List.setIfInBounds_toArray, List.set_cons_zero, List.set_cons_succ]
      refine tkH 18 ?_
      refine tkH 19 ?_
      refine tkH 20 ?_
      refine tkH 21 ?_
      refine tkH 22 ?_
      refine tkH 23 ?_
      refine tkH 24 ?_
      refine wpAnyH_done (by kernel_rfl) ?_ _
      clear hHeld
      cases o
      · obtain ⟨hok, hc, hm, hlt, hp⟩ := HR.out
        have HFIN := Lib.hid (show EEnd w L K b s E.pump (.returned (.tuple #[])) w2 from ⟨rfl, L2, by rw [← hp, HPE.out]; exact HD2.out, HT2.out⟩)
        clear hok hc hm hlt hp HR HD2 HT2 HPE HF S1
        go_wp2
        refine bodyPost_ret (results_none rfl _ _ _) rfl ?_
        exact HFIN.out
      · obtain ⟨hok, hc, hm, hlt, hp⟩ := HR.out
        obtain ⟨hf, ht', ho⟩ := HF.out
        have hpc := En.nx_piece hok ho
        have hless := En.nx_less hok ho
        have hok2 := hok.setNx
        obtain ⟨E2, hE2⟩ : ∃ E2, E1.setPl E1.nx.p = E2 := ⟨_, rfl⟩
        have hpce : E1.piece = E2.choose.datas f t E2.chosen := by rw [← hE2, ← hf, ← ht']; rfl
        have hps := En.piece_left (E := E1)
        have hpok := hok.piece ho
        rw [hE2] at hless hok2 hps
        rw [hpce] at hps hpok
        rw [hf, ht'] at hpc
        have ho1 : E2.o = E1.o := by rw [← hE2]; rfl
        have ho2 : E2.choose.o = E1.o := by rw [(En.choose_keep (E := E2)).2.2.1, ho1]
        have hpl2 : t ≤ E2.choose.pl.sent := by rw [(En.choose_keep (E := E2)).2.1, ← hE2]; exact hpc.2.2.2.1
        have hchi : ∀ x ∈ E2.chosen, ∃ i : Nat, x = (i : Int) ∧ i < E2.choose.ps.length := fun x hx => by
          obtain ⟨i, h1, h2⟩ := En.chosen_in x hx
          exact ⟨i, h1, by rw [(En.choose_keep (E := E2)).1]; exact h2⟩
        have hcl3 : E2.chosen.length ≤ 3 := Nat.le_trans En.chosen_len hok2.np3
        have hc2 : E2.choose.cap N1 := (by rw [← hE2]; exact hc.setPl _ : E2.cap N1).choose
        have hcby := En.cut_by hok f t
        have hhas : E1.o.has f t = true := by unfold Ou.has; exact decide_eq_true ⟨hpc.1, by omega, hpc.2.2.1⟩
        have hd2 := HD2.out
        rw [hE2] at hd2
        obtain ⟨q2, hq2⟩ := hd2
        have ho2q : OutAt w2 0 s.ob q2.ov E1.o := by rw [← ho1]; exact hq2.p.out
        have HPI := Lib.hid (piece_ok ho2q f t hhas)
        obtain ⟨da, hda⟩ : ∃ da, E1.o.cut f t = da := ⟨_, rfl⟩
        obtain ⟨fi, hfi⟩ : ∃ x, E1.o.fin f t = x := ⟨_, rfl⟩
        rw [hda, hfi] at HPI
        rw [hda] at hpc hcby
        have c13 : w2.cell? ⟨b, 0 + 13, none⟩ = some (.pointer (some ⟨s.ob, 0, none⟩)) := S1.out.2.1
        have HD3 := Lib.hid hq2
        have HG := Lib.hid (And.intro hpc (And.intro hless (And.intro hok2 (And.intro hpce (And.intro hps (And.intro hpok (And.intro ho2 (And.intro hpl2 (And.intro hchi (And.intro hcl3 (And.intro hc2 (And.intro hcby (And.intro hda hfi)))))))))))))
        have HPU := Lib.hid (show E1.piece.pump = E.pump by rw [← hp, HPE.out]; rfl)
        have HMM := Lib.hid (And.intro hm hlt)
        clear hok hc hm hlt hp hf ht' ho hpc hless hok2 hpce hps hpok ho1 ho2 hpl2 hchi hcl3 hc2 hcby hhas hq2 ho2q hda hfi hE2 HR HPE HF HD2 S1
        go_wp2_with fail
        clear c13
        refine HPI.out.mono ?_
        rintro e w3 ⟨A1, c1, rfl, hpo, hpb⟩
        have hq3 := HD3.out.grow hpb 0
        have hby : Byt w3 (relab L2 w2.heap.size 0) A1 c1 da := ⟨hpo.less (Nat.zero_le _), OfV.new (fun g hg => (hpo.lt g hg).1)⟩
        have ht3 := HT2.out.trans (Tn.of_below hpb L2 0 (Es K))
        obtain ⟨L3, hL3⟩ : ∃ L3, relab L2 w2.heap.size 0 = L3 := ⟨_, rfl⟩
        rw [hL3] at hq3 hby ht3
        have HCH := Lib.hid (eechoose_any ⟨_, hq3⟩ hK HG.out.2.2.1)
        have HBY := Lib.hid hby
        have HT3 := Lib.hid ht3
        clear hpo hpb hq3 hby ht3 hL3 HD3 HPI HT2
        go_wp2_with fail
        refine HCH.out.mono ?_
        rintro e w4 ⟨A3, n3, c3, rfl, hn3, L4, hown, hlab, hd4, ht4⟩
        obtain ⟨hpc, hless, hok2, hpce, hps, hpok, ho2, hpl2, hchi, hcl3, hc2, hcby, hda, hfi⟩ := HG.out
        have hn3' : n3 ≤ 3 := by rw [← hn3]; exact hcl3
        have HD0 := Lib.hid (show EeDa w L K b s E2.choose f t E2.chosen (.slice A3 n3 c3) A1 c1 da N1 0 w4 from ⟨L4, hd4, HT3.out.trans ht4, hown, hlab, HBY.out.keep ht4 (by unfold Es; omega), hok2.choose, hc2⟩)
        have HN3 := Lib.hid (And.intro hn3 hn3')
        clear hpc hless hok2 hpce hps hpok ho2 hpl2 hchi hcl3 hc2 hcby hda hfi hn3 hn3' hown hlab hd4 ht4 HT3 HBY HCH
        obtain ⟨nd, hnd⟩ : ∃ x, da.length = x := ⟨_, rfl⟩
        rw [hnd]
        go_wp2_with fail
        go_loopw [48] (fun iv wv => ∃ j : Nat, j ≤ n3 ∧ iv = .int .i64 j ∧ Hid (EeDa w L K b s E2.choose f t E2.chosen (.slice A3 n3 c3) A1 c1 da N1 j wv)) (fun iv _ => n3 - (intOf iv).toNat)
        case atStart => exact ⟨0, by omega, rfl, HD0⟩
        case round =>
          clear HD0
          obtain ⟨j, hj, rfl, hmid⟩ := hrel
          by_cases hjn : j < n3
          · obtain ⟨L5, hd, ht, hown, hlab, hby, hok, hcap⟩ := hmid.out
            obtain ⟨hpc, hless, hok2, hpce, hps, hpok, ho2, hpl2, hchi, hcl3, hc2, hcby, hda, hfi⟩ := HG.out
            obtain ⟨hn3, hn3'⟩ := HN3.out
            have hjc : j < E2.chosen.length := by omega
            obtain ⟨i, hi1, hi2⟩ := hchi (E2.chosen.getD j 0) (by simp [List.getD, hjc])
            have hkp := En.keep_datas f t (E2.chosen.take j) E2.choose
            have hnx : E2.choose.datas f t (E2.chosen.take (j + 1)) = (E2.choose.datas f t (E2.chosen.take j)).data (i : Int) f t := by
              rw [List.take_succ_eq_append_getElem hjc, En.datas_snoc]
              congr 1
              rw [← hi1]
              simp [List.getD, hjc]
            have hil : i < (E2.choose.datas f t (E2.chosen.take j)).ps.length := by rw [hkp.len]; exact hi2
            have hM := HMM.out.1
            have hdt : (E2.choose.datas f t (E2.chosen.take j)).data (i : Int) f t = (E2.choose.datas f t (E2.chosen.take j)).sayOut i ⟨3, (i : Int), 0, 0, f, da, fi, 0, 0⟩ f t := by
              unfold En.data En.dataP
              rw [hkp.o, ho2, hda, hfi]
              rfl
            have hp2 := hok2.choose.o
            have hfr : t ≤ 8192 := by have := hpc.2.2.1; have h1 := hok.sp; rw [hkp.o, ho2] at h1; have h2 := (hok.o).l; rw [hkp.o, ho2] at h2; simp only [Ou.places] at this; split at this <;> omega
            obtain ⟨hpa, hpb⟩ := hby.pkt (k := 3) (pa := (i : Int)) (nu := 0) (ofn := 0) (fr := f) (se := 0) (li := 0) (fin := fi) hcby (by have := hpc.2.2.2.2; omega) (by omega) (by have := hok.np3; omega) (by omega) (by omega) (by have := hpc.1; have := hpc.2.1; omega) (by omega) (by omega)
            have hsn := hok.pa hil
            have hpb2 : PkB ⟨3, (i : Int), ((E2.choose.datas f t (E2.chosen.take j)).pa i).sent, 0, f, da, fi, 0, 0⟩ := hpb.nu (by have := hsn.ok.s1; have := hsn.ok.s2; omega)
            have hsend := eesend_any hd hK hok i hil 3 0 0 f da fi 0 0 t A1 c1 hpa (hby.aps hK) hpb2 hcap (by have := HM.out; omega)
            rw [hnd] at hsend
            have HDA := Lib.hid hsend
            have hok' : ((E2.choose.datas f t (E2.chosen.take j)).data (i : Int) f t).ok := hok.sayOut (by simpa using hil) _ (by rw [hkp.pl]; exact hpl2)
            have hcap' := hcap.data (i : Int) f t (by rw [hkp.o, ho2, hda]; exact hpc.2.2.2.2)
            obtain ⟨g, off, rfl, hcl⟩ := hown.rd.some_ (by omega)
            have y := hcl j hjc
            rw [hi1] at y
            have HNX := Lib.hid (And.intro hnx (And.intro hdt (And.intro hok' hcap')))
            have HOW := Lib.hid (And.intro ht (And.intro hown (And.intro hlab hby)))
            have j1 : (j : Int) < (n3 : Int) := by omega
            have j2 : (0 : Int) ≤ (j : Int) := by omega
            have HJ := Lib.hid hjn
            have HJW := Lib.hid (show wrap64 ((j : Int) + 1) = ((j + 1 : Nat) : Int) from wrap_atS (by omega) (by omega) (by omega))
            clear hd ht hown hlab hby hok hcap hpc hless hok2 hpce hps hpok ho2 hpl2 hchi hcl3 hc2 hcby hda hfi hn3 hjc hi1 hi2 hkp hnx hdt hp2 hfr hpa hpb hsn hpb2 hsend hil hM hok' hcap' hcl hmid hj hjn
            go_wp2_with fail
            refine HDA.out.mono ?_
            rintro e w5 ⟨rfl, L6, hd5, ht5⟩
            obtain ⟨hnx, hdt, hok', hcap'⟩ := HNX.out
            obtain ⟨ht, hown, hlab, hby⟩ := HOW.out
            have HMID := Lib.hid (show EeDa w L K b s E2.choose f t E2.chosen (.slice (some ⟨g, off, none⟩) n3 c3) A1 c1 da N1 (j + 1) w5 from ⟨L6, by rw [hnx, hdt]; exact hd5, ht.trans ht5, ht5.own hown hlab (by unfold Es; omega), hlab.keep ht5 (own_lt hown), hby.keep ht5 (by unfold Es; omega), by rw [hnx]; exact hok', by rw [hnx]; exact hcap'.mono (by omega)⟩)
            clear hnx hdt hok' hcap' ht hown hlab hby hd5 ht5 HDA HNX HOW y
            go_wp2
            go_roundw
            case rel => exact ⟨j + 1, by have := HJ.out; omega, by first | rfl | rw [HJW.out], HMID⟩
            case measure => (try rw [HJW.out]); have := HJ.out; simp [intOf]; omega
          · have e : j = n3 := by omega
            subst e
            obtain ⟨L5, hd, ht, hown, hlab, hby, hok, hcap⟩ := hmid.out
            obtain ⟨hpc, hless, hok2, hpce, hps, hpok, ho2, hpl2, hchi, hcl3, hc2, hcby, hda, hfi⟩ := HG.out
            obtain ⟨hn3, hn3'⟩ := HN3.out
            rw [List.take_of_length_le (by omega), ← hpce] at hd hok hcap
            rw [← hpce] at hps
            have hmm := HMM.out
            have HREL := Lib.hid (show EePu w L K b s E M (gk - 1) wr from ⟨L5, E1.piece, N1 + 198, hd, ht, hok, hcap.mono (by omega), by omega, by omega, HPU.out⟩)
            have HGK := Lib.hid (show gk - 1 < gk by omega)
            have j1 : ¬ ((j : Int) < (j : Int)) := by omega
            clear hd ht hown hlab hby hok hcap hpc hless hok2 hpce hps hpok ho2 hpl2 hchi hcl3 hc2 hcby hda hfi hn3 hn3' hmm hmid hj hjn HG HN3 HMM HPU
            go_wp2
            go_roundg (gk - 1)
            case rel => exact HREL
            case measure => exact HGK.out
end Go.Proofs.YtpjlnpnadkbakaaGreat

/-
  PrEn7 · PrEn8.
-/
import Derived.Test.YtpjlnpnadkbakaaGreatQBPrEn5
import Derived.Test.YtpjlnpnadkbakaaGreatQBMem
namespace Go.Proofs.YtpjlnpnadkbakaaGreat
set_option maxRecDepth 10000
open Go.RowKit
def EeGi (w : World) (L : Lab) (K b : Nat) (s : EeS) (E : En) (l : List Qd) (v : Value) (j : Nat) (wr : World) : Prop :=
  ∃ L1 : Lab, EE wr L1 K b s (E.setPl (losts E.pl (l.take j))) ∧ TnB w.heap.size w wr L L1 (Es K) ∧ OwnQ tOutP wr 0 v l ∧ ∀ g, v.ownBlock = some g → ¬ L1 g = K + 7
set_option maxHeartbeats 4000000 in
theorem eegive_any {w : World} {L : Lab} {K b : Nat} {s : EeS} {E : En} (h : EE w L K b s E) (hK : K ≠ 0) (l : List Qd) (A : Option Addr) (n c : Nat) (ho : OwnQ tOutP w 0 (.slice A n c) l) (hl : ∀ g, (Value.slice A n c).ownBlock = some g → ¬ L g = K + 7) (hn : n ≤ 1048576) {N : Nat} (hc : E.cap N) (hN : N ≤ 274000000000) :
    Calls Tryz.prog 83 #[.pointer (some ⟨b, 0, none⟩), .slice A n c] w (EEnd w L K b s (E.given l)) := by
  have hln := ho.len
  have H0 := Lib.hid (show EeGi w L K b s E l (.slice A n c) 0 w from ⟨L, h, TnB.refl _ _ _ (Nat.le_refl _), ho, hl⟩)
  have HL := Lib.hid (And.intro hln (And.intro hc (And.intro hN hn)))
  clear h ho hl hc hN hln
  go_enter Tryz.func83, Tryz.ntmps83
  go_wp2
  go_loopw [8] (fun iv wr => ∃ j : Nat, j ≤ n ∧ iv = .int .i64 j ∧ Hid (EeGi w L K b s E l (.slice A n c) j wr)) (fun iv _ => n - (intOf iv).toNat)
  case atStart => exact ⟨0, by omega, rfl, H0⟩
  case round =>
    clear H0
    obtain ⟨j, hj, rfl, hmid⟩ := hrel
    by_cases hjn : j < n
    · obtain ⟨L1, hd, ht, hown, hlab⟩ := hmid.out
      obtain ⟨hln, hc, hN, hn'⟩ := HL.out
      obtain ⟨g, rfl, -⟩ := hown.at (by omega)
      obtain ⟨y0, y1, y2, y3⟩ := hown.cells j hjn
      obtain ⟨⟨qn, qf, qt, qa⟩, hq⟩ : ∃ q, l.getD j qz = q := ⟨_, rfl⟩
      rw [hq] at y0 y1 y2 y3
      simp only at y0 y1 y2 y3
      have hjl : j < l.length := by omega
      have htk : l.take (j + 1) = l.take j ++ [⟨qn, qf, qt, qa⟩] := by rw [List.take_succ_eq_append_getElem hjl, ← hq]; simp [List.getD, hjl]
      have hsn := losts_snoc E.pl (l.take j) ⟨qn, qf, qt, qa⟩
      rw [← htk] at hsn
      obtain ⟨P1, hP1⟩ : ∃ P1, losts E.pl (l.take j) = P1 := ⟨_, rfl⟩
      rw [hP1] at hd hsn
      obtain ⟨wa, hwa⟩ : ∃ wa, wr.alloc (.cells #[.int .i64 qn, .int .i64 qf, .int .i64 qt, .int .i64 qa] tOutP) = wa := ⟨_, rfl⟩
      have hba : Below wr.heap.size wr wa := by rw [← hwa]; exact (Below.refl _ _).alloc (Nat.le_refl _) _
      obtain ⟨x0, x1, x2, x3⟩ := row4_cells (row4_new wr tOutP ⟨qn, qf, qt, qa⟩)
      simp only at x0 x1 x2 x3
      rw [hwa] at x0 x1 x2 x3
      have hd2 := (hd.grow hba 0).drewN 1
      have ht2 := (ht.below hba 0).drewN 1
      have hown2 : OwnQ tOutP (wa.drewN 1) 0 (.slice (some ⟨g, 0, none⟩) n c) l := (hown.later hba).drewN 1
      have hlab2 : ∀ g', (Value.slice (some ⟨g, 0, none⟩) n c).ownBlock = some g' → ¬ relab L1 wr.heap.size 0 g' = K + 7 := fun g' hg' => by rw [relab_old (hown.lt g' hg').2]; exact hlab g' hg'
      obtain ⟨W, hW⟩ : ∃ W, wa.drew = W := ⟨_, rfl⟩
      rw [show wa.drewN 1 = W from hW] at hd2 ht2 hown2
      obtain ⟨q2, hq2⟩ := hd2
      have HP := Lib.hid (lost_any hq2.p.pln qf qt)
      have c14 : wa.drew.cell? ⟨b, 0 + 14, none⟩ = some (.pointer (some ⟨s.pl, 0, none⟩)) := by rw [hW]; exact hq2.cell 14 (by omega)
      have HD2 := Lib.hid (And.intro hq2 (And.intro ht2 (And.intro hown2 hlab2)))
      have HE := Lib.hid hsn
      have HJ := Lib.hid (And.intro hjn hn')
      have HJW := Lib.hid (show wrap64 ((j : Int) + 1) = ((j + 1 : Nat) : Int) from wrap_atS (by omega) (by omega) (by omega))
      have j1 : (j : Int) < (n : Int) := by omega
      have j2 : (0 : Int) ≤ (j : Int) := by omega
      have z1 : W.cell? ⟨wr.heap.size, 0 + 1, none⟩ = some (.int .i64 qf) := by rw [← hW]; exact x1
      have z2 : W.cell? ⟨wr.heap.size, 0 + 2, none⟩ = some (.int .i64 qt) := by rw [← hW]; exact x2
      have z14 : W.cell? ⟨b, 0 + 14, none⟩ = some (.pointer (some ⟨s.pl, 0, none⟩)) := by rw [← hW]; exact c14
      clear hd ht hown hlab hln hc hN hn' hq hjl htk hsn hP1 hba hq2 ht2 hown2 hlab2 hmid hj hjn x0 x1 x2 x3 c14
      go_wp2_with fail
      refine still_tail 8 (by kernel_rfl) (by kernel_rfl) ?_
      intro W' hW'
      obtain rfl : W' = W := by rw [hW', hW]
      clear hW hW' hwa
      simp only [List.take_succ_cons, List.take_zero, List.drop_succ_cons, List.drop_zero]
      repeat still_step
      refine wpStill_nil ?_
      go_wp2_with fail
      refine HP.out.mono ?_
      rintro e w2 ⟨rfl, v', hpf, hsc⟩
      obtain ⟨hd2, ht2, hown2, hlab2⟩ := HD2.out
      obtain ⟨hd3, ht3⟩ := hd2.turnP hK hpf hsc
      have hown3 := hown2.trn ht3.trn (fun g' hg' e => hlab2 g' hg' e)
      have hlab3 : ∀ g', (Value.slice (some ⟨g, 0, none⟩) n c).ownBlock = some g' → ¬ relab (relab L1 wr.heap.size 0) W'.heap.size (K + 7) g' = K + 7 := fun g' hg' => by rw [relab_old (hown2.lt g' hg').2]; exact hlab2 g' hg'
      have HMID := Lib.hid (show EeGi w L K b s E l (.slice (some ⟨g, 0, none⟩) n c) (j + 1) _ from ⟨_, by rw [HE.out]; exact ⟨_, hd3⟩, ht2.then (ht3.mono (fun x hx => by subst hx; exact ⟨by omega, by omega⟩)), hown3, hlab3⟩)
      clear hpf hsc hd2 ht2 hown2 hlab2 hd3 ht3 hown3 hlab3 HP HD2 HE z1 z2 z14
      go_wp2
      go_roundw
      case rel => exact ⟨j + 1, by have := HJ.out; omega, by first | rfl | rw [HJW.out], HMID⟩
      case measure => (try rw [HJW.out]); have := HJ.out; simp [intOf]; omega
    · have e : j = n := by omega
      subst e
      obtain ⟨L1, hd, ht, hown, hlab⟩ := hmid.out
      obtain ⟨hln, hc, hN, hn'⟩ := HL.out
      rw [List.take_of_length_le (by omega)] at hd
      have c18 := hd.c18
      have HAD := Lib.hid (eecount_any hd hK 7 (by omega) (j : Int) (by omega) (by omega) (hc.setPl _) (by omega) 7 rfl)
      have HFIN := Lib.hid (And.intro ht.toTn hln)
      have j1 : ¬ ((j : Int) < (j : Int)) := by omega
      clear hd ht hown hlab hln hc hN hn' hmid hj hjn HL
      go_wp2_with fail
      clear c18
      refine HAD.out.mono ?_
      rintro e w2 ⟨⟨z, rfl⟩, L2, h2, ht2⟩
      have HF2 := Lib.hid (show EEnd w L K b s (E.given l) (.returned (.tuple #[])) w2 from ⟨rfl, L2, by rw [En.given_eq, HFIN.out.2]; exact h2, HFIN.out.1.trans ht2⟩)
      clear h2 ht2 HAD HFIN
      go_wp2
      go_end0
      exact HF2.out
set_option maxHeartbeats 2000000 in
theorem eeout_sum {w : World} {L : Lab} {K b : Nat} {s : EeS} {E : En} (h : EE w L K b s E) (hok : E.ok) : Calls Tryz.prog 85 #[.pointer (some ⟨b, 0, none⟩)] w fun e w' => e = .returned (.int .i64 E.flying) ∧ ∃ k, w' = w.drewN k := by
  obtain ⟨n, hn⟩ : ∃ n, E.ps.length = n := ⟨_, rfl⟩
  have hn3 : n ≤ 3 := by rw [← hn]; exact hok.np3
  have hn1 : 1 ≤ n := by rw [← hn]; exact hok.np1
  obtain ⟨g, c, hpv, c10, hg, _, _⟩ := h.look hn (i := 0) (by omega)
  have HROW := Lib.hid (show ∀ k i, i < n → (w.drewN k).cell? ⟨g, i, none⟩ = some (.pointer (some ⟨s.pb.getD i 0, 0, none⟩)) from fun k i hi => hg i hi)
  obtain ⟨q, hq⟩ := h
  have HU := Lib.hid (show ∀ k i, i < n → Calls Tryz.prog 165 #[.pointer (some ⟨s.pb.getD i 0, 0, none⟩)] (w.drewN k) fun e w' => e = .returned (.int .i64 ((E.pa i).fl.length : Int)) ∧ ∃ k', w' = (w.drewN k).drewN k' from fun k i hi => palen_any ((hq.drewN k).pth i (by omega)))
  have HRG := Lib.hid (show ∀ i, i ≤ n → 0 ≤ E.flyN i ∧ E.flyN i ≤ 1048576 * (i : Int) from fun i hi => En.flyN_range hok i (by omega))
  have HALL := Lib.hid (show E.flyN n = E.flying by rw [← hn]; exact En.flyN_all)
  clear hq hpv hg hn hok hn1
  go_enter Tryz.func85, Tryz.ntmps85
  go_wp2
  go_loopw [3, 11] (fun av iv wr => ∃ (i k : Nat), i ≤ n ∧ iv = .int .i64 i ∧ av = .int .i64 (E.flyN i) ∧ wr = w.drewN k) (fun _ iv _ => n - (intOf iv).toNat)
  case atStart => exact ⟨0, 0, by omega, rfl, rfl, rfl⟩
  case round =>
    obtain ⟨i, k, hi, rfl, rfl, rfl⟩ := hrel
    by_cases hin : i < n
    · have y := HROW.out k i hin
      have hc := HU.out k i hin
      obtain ⟨pb, hpb⟩ : ∃ pb, s.pb.getD i 0 = pb := ⟨_, rfl⟩
      rw [hpb] at y hc
      have i1 : (i : Int) < (n : Int) := by omega
      have i2 : (0 : Int) ≤ (i : Int) := by omega
      have HI := Lib.hid hin
      have HIW := Lib.hid (show wrap64 ((i : Int) + 1) = ((i + 1 : Nat) : Int) from wrap_atS (by omega) (by omega) (by omega))
      have HC := Lib.hid hc
      have hr1 := HRG.out (i + 1) (by omega)
      have hnx : E.flyN (i + 1) = E.flyN i + ((E.pa i).fl.length : Int) := rfl
      have HSW := Lib.hid (show wrap64 (E.flyN i + ((E.pa i).fl.length : Int)) = E.flyN (i + 1) from wrap_atS hnx.symm (by omega) (by omega))
      obtain ⟨f0, hf0⟩ : ∃ x, E.flyN i = x := ⟨_, rfl⟩
      obtain ⟨f1, hf1⟩ : ∃ x, E.flyN (i + 1) = x := ⟨_, rfl⟩
      obtain ⟨fl, hfl⟩ : ∃ x, (E.pa i).fl.length = x := ⟨_, rfl⟩
      rw [hf0, hf1, hfl] at HSW
      rw [hfl] at HC
      rw [hf0]
      have HF1 := Lib.hid hf1
      clear hc hpb hi hin hr1 hnx hf0 hf1 hfl
      go_wp2_with fail
      refine HC.out.mono ?_
      rintro e w1 ⟨rfl, k', rfl⟩
      rw [World.drewN_drewN]
      go_wp2
      go_roundw
      case rel => exact ⟨i + 1, _, by have := HI.out; omega, by first | rfl | rw [HIW.out], by rw [HF1.out]; first | rfl | rw [HSW.out], rfl⟩
      case measure => (try rw [HIW.out]); have := HI.out; simp [intOf]; omega
    · have e : i = n := by omega
      subst e
      have j1 : ¬ ((i : Int) < (i : Int)) := by omega
      rw [HALL.out]
      clear hi hin
      go_wp2
      go_ret
      exact ⟨rfl, _, rfl⟩
def En.asksP (E : En) (i : Nat) : Bool := decide (E.side = 0) && (E.pa i).up && !(E.pa i).jo
set_option maxHeartbeats 2000000 in
theorem eeasks_any {w : World} {L : Lab} {K b : Nat} {s : EeS} {E : En} (h : EE w L K b s E) (hok : E.ok) (i : Nat) (hi : i < E.ps.length) : Calls Tryz.prog 81 #[.pointer (some ⟨b, 0, none⟩), .int .i64 (i : Int)] w fun e w' => e = .returned (.bool (E.asksP i)) ∧ ∃ k, w' = w.drewN k := by
  obtain ⟨n, hn⟩ : ∃ n, E.ps.length = n := ⟨_, rfl⟩
  obtain ⟨g, c, hpv, c10, hg, _, _⟩ := h.look hn (i := i) (by omega)
  obtain ⟨q, hq⟩ := h
  have c7 : w.cell? ⟨b, 0 + 7, none⟩ = some (.int .i64 E.side) := hq.cell 7 (by omega)
  have y := hg i (by omega)
  have hu := paisup_any (hq.pth i hi)
  have hj := fun k => pajoined_any ((hq.drewN k).pth i hi)
  obtain ⟨pb, hpb⟩ : ∃ pb, s.pb.getD i 0 = pb := ⟨_, rfl⟩
  rw [hpb] at y hu hj
  have i1 : (i : Int) < (n : Int) := by omega
  have i2 : (0 : Int) ≤ (i : Int) := by omega
  have hs := hok.side
  have hD : E.asksP i = (decide (E.side = 0) && (E.pa i).up && !(E.pa i).jo) := rfl
  rw [hD]
  obtain ⟨sd, hsd⟩ : ∃ x, E.side = x := ⟨_, rfl⟩
  obtain ⟨u, hup⟩ : ∃ x, (E.pa i).up = x := ⟨_, rfl⟩
  obtain ⟨jo, hjo⟩ : ∃ x, (E.pa i).jo = x := ⟨_, rfl⟩
  rw [hsd] at c7 hs ⊢
  rw [hup] at hu ⊢
  rw [hjo] at hj ⊢
  have HU := Lib.hid hu
  have HJ := Lib.hid hj
  clear hq hpv hg hn hok hpb hu hj hD hsd hup hjo hi
  rcases hs with rfl | rfl
  · cases u
    · go_enter Tryz.func81, Tryz.ntmps81
      go_wp2_with fail
      refine HU.out.mono ?_
      rintro e w1 ⟨rfl, k, rfl⟩
      go_wp2
      go_ret
      exact ⟨rfl, _, rfl⟩
    · go_enter Tryz.func81, Tryz.ntmps81
      go_wp2_with fail
      refine HU.out.mono ?_
      rintro e w1 ⟨rfl, k, rfl⟩
      go_wp2_with fail
      refine (HJ.out k).mono ?_
      rintro e w2 ⟨rfl, k2, rfl⟩
      rw [World.drewN_drewN]
      cases jo
      · go_wp2
        go_ret
        exact ⟨rfl, _, rfl⟩
      · go_wp2
        go_ret
        exact ⟨rfl, _, rfl⟩
  · go_enter Tryz.func81, Tryz.ntmps81
    go_wp2
    go_ret
    exact ⟨by simp, 0, rfl⟩
set_option maxHeartbeats 4000000 in
theorem eeask_any {w : World} {L : Lab} {K b : Nat} {s : EeS} {E : En} (h : EE w L K b s E) (hK : K ≠ 0) (hok : E.ok) (i : Nat) (hi : i < E.ps.length) {N : Nat} (hc : E.cap N) (hN : N ≤ 274000000000) :
    Calls Tryz.prog 82 #[.pointer (some ⟨b, 0, none⟩), .int .i64 (i : Int)] w (EEnd w L K b s (E.join i)) := by
  have hfi := hok.pa hi
  have h3 := hok.np3
  have hbn := (Byt.nil w L).pkt (k := 1) (pa := (i : Int)) (nu := 0) (ofn := 0) (fr := 0) (se := 0) (li := 0) (fin := false) (by simp) (by simp) (by omega) (by omega) (by omega) (by omega) (by omega) (by omega) (by omega)
  have HSY := Lib.hid (eesay_any h hK hok i hi 1 0 0 0 [] false 0 0 none 0 hbn.1 ((Byt.nil w L).aps hK) (hbn.2.nu (by have := hfi.ok.s1; have := hfi.ok.s2; omega)) hc (by omega))
  have hkp := En.keep_say (E := E) i ⟨1, i, 0, 0, 0, [], false, 0, 0⟩
  have HQ := Lib.hid (And.intro hkp (And.intro hi (And.intro hok.nd (And.intro hok.n0 (And.intro hok.n1 (And.intro hok.c2 h3))))))
  simp only [List.length_nil] at HSY
  clear h hok hi hc hN hfi h3 hbn hkp
  go_enter Tryz.func82, Tryz.ntmps82
  go_wp2_with fail
  refine HSY.out.mono ?_
  rintro e w1 ⟨⟨x, y, rfl⟩, L1, ⟨q, hd⟩, ht⟩
  obtain ⟨hkp, hi, hnd, hn0, hn1, hc2, h3⟩ := HQ.out
  obtain ⟨E1, hE1⟩ : ∃ E1, E.say i ⟨1, i, 0, 0, 0, [], false, 0, 0⟩ = E1 := ⟨_, rfl⟩
  rw [hE1] at hd hkp
  obtain ⟨n, hn⟩ : ∃ n, E1.due.length = n := ⟨_, rfl⟩
  have hin : i < n := by rw [← hn, hkp.due, hnd]; exact hi
  have hn3 : n ≤ 3 := by rw [← hn, hkp.due, hnd]; exact h3
  have hdv : ∃ A c, s.dv = .slice A n c := by rw [← hn]; exact hd.p.dvr.form
  obtain ⟨A, c, hdv⟩ := hdv
  have hdr := (hd.drewN 1).p.dvr
  rw [hdv] at hdr
  obtain ⟨g, rfl, hcl⟩ : ∃ g, A = some ⟨g, 0, none⟩ ∧ (w1.drewN 1).cell? ⟨g, i, none⟩ = some (.int .i64 (E1.due.getD i 0)) := by
    obtain ⟨a, o, hA, hcl⟩ := hdr.rd.some_ (by rw [show E1.view.due = E1.due from rfl]; omega)
    obtain ⟨g, cap, cur, hv, _⟩ := hdr.2.resolve_left (fun e => by rw [hA] at e; cases e.1)
    injection hv with hv1 _ _
    have hv2 := hv1
    rw [hA] at hv1
    injection hv1 with hv1
    injection hv1 with e1 e2 _
    subst e1
    subst e2
    have := hcl i (by rw [show E1.view.due = E1.due from rfl]; omega)
    rw [Nat.zero_add] at this
    exact ⟨_, hv2, this⟩
  have hcl' : w1.drew.cell? ⟨g, i, none⟩ = some (.int .i64 (E1.due.getD i 0)) := hcl
  have c11 : w1.drew.cell? ⟨b, 0 + 11, none⟩ = some (.slice (some ⟨g, 0, none⟩) n c) := by rw [← hdv]; exact (hd.drewN 1).cell 11 (by omega)
  have c8 : w1.drew.cell? ⟨b, 0 + 8, none⟩ = some (.int .i64 E1.now) := (hd.drewN 1).cell 8 (by omega)
  have c5 : w1.drew.cell? ⟨b, 0 + 5, none⟩ = some (.int .i64 E1.c.first) := (hd.drewN 1).cell 5 (by omega)
  have hfz : w1.drew.frozen? ⟨g, i, none⟩ = false := World.ownsRow.frozenAt (xs := cel .i64 E1.due) (by have := hdr; unfold Own at this; rw [show E1.view.due = E1.due from rfl, hn] at this; exact this) i
  have hgl : L1 g = K + 2 := hd.p.dvl g (by rw [hdv]; rfl)
  have hgb : ¬ g = b := fun e => by have := hd.lb; rw [e] at hgl; omega
  have HW := Lib.hid (show IntKind.i64.wrap (E1.now + E1.c.first) = E1.now + E1.c.first from IntWalk.i64_in _ (by rw [hkp.now, hkp.c]; constructor <;> omega))
  have hst := hdr.stored (by exact hn) i (E1.now + E1.c.first)
  obtain ⟨hd2, ht2⟩ := (hd.drewN 1).turnD hK (w' := (w1.drewN 1).setCell ⟨g, i, none⟩ (.int .i64 (E1.now + E1.c.first))) (by rw [hdv]; exact hst) (by rw [hdv]; exact setCell_one _ g i _)
  have hE2 : E.join i = E1.setDue i (E1.now + E1.c.first) := by unfold En.join; rw [hE1, hkp.now, hkp.c]
  have HFIN := Lib.hid (show EEnd w L K b s (E.join i) (.returned (.tuple #[])) ((w1.drewN 1).setCell ⟨g, i, none⟩ (.int .i64 (E1.now + E1.c.first))) from ⟨rfl, _, by rw [hE2]; exact ⟨_, hd2⟩, (ht.trans (Tn.drewN w1 L1 1 _)).trans (ht2.mono (fun x hx => by subst hx; exact ⟨by omega, by omega⟩))⟩)
  have i1 : (i : Int) < (n : Int) := by omega
  have i2 : (0 : Int) ≤ (i : Int) := by omega
  have S0 := Lib.hid (show w1.drew.cell? ⟨b, 0 + 11, none⟩ = some (.slice (some ⟨g, 0, none⟩) n c) ∧ w1.drew.cell? ⟨b, 0 + 8, none⟩ = some (.int .i64 E1.now) ∧ w1.drew.cell? ⟨b, 0 + 5, none⟩ = some (.int .i64 E1.c.first) from ⟨c11, c8, c5⟩)
  clear hd ht hkp hi hnd hn0 hn1 hc2 hE1 hn hdv hdr hst hd2 ht2 hE2 hgl hcl HSY HQ c11 c8 c5 h3
  go_wp2_with fail
  refine wp_region_held_drew (S := fun wi => wi.cell? ⟨b, 0 + 11, none⟩ = some (.slice (some ⟨g, 0, none⟩) n c) ∧ wi.cell? ⟨b, 0 + 8, none⟩ = some (.int .i64 E1.now) ∧ wi.cell? ⟨b, 0 + 5, none⟩ = some (.int .i64 E1.c.first)) (by kernel_rfl) S0.out ?_
  intro hHeld
  refine tkH 0 ?_
  refine tkH 1 ?_
  refine tkH 2 ?_
  refine tkH 3 ?_
  refine tkH 4 ?_
  refine tkH 5 ?_
  refine tkH 6 ?_
  refine tkH 7 ?_
  refine tkH 8 ?_
  refine tkH 9 ?_
  refine tkH 10 ?_
  refine tkH 11 ?_
  refine tkH 12 ?_
  refine tkH 13 ?_
  refine tkH 14 ?_
  refine tkH 15 ?_
  refine wpAnyH_ready (rs := [16]) (by kernel_rfl) (by simp) ?_
  refine AllReadyH.cons rfl (fun K hK => ?_) AllReadyH.nil
  go_simp
  try rw [HW.out]
  refine hK.out _ _ (by obtain ⟨s1, s2, s3⟩ := S0.out; refine ⟨?_, ?_, ?_⟩ <;> go_simp <;> assumption) (fun hHeld2 => ?_)
  clear hK K hHeld
  have hHeld := hHeld2
  clear hHeld2
  try simp only [Act.put, List.getElem_toArray, List.getElem_cons_zero, List.getElem_cons_succ, List.setIfInBounds_toArray, List.set_cons_zero, List.set_cons_succ]
  refine wpAnyH_done (by kernel_rfl) ?_ _
  clear hHeld
  go_wp2
  go_end0
  exact HFIN.out
end Go.Proofs.YtpjlnpnadkbakaaGreat
namespace Go.Proofs.YtpjlnpnadkbakaaGreat
set_option maxRecDepth 10000
open Go.RowKit
def EePb (w : World) (L : Lab) (K b : Nat) (s : EeS) (E : En) (C : List Int) (v : Value) (N1 : Nat) (j : Nat) (wr : World) : Prop :=
  ∃ L2 : Lab, EE wr L2 K b s (E.probes (C.take j)) ∧ Tn w wr L L2 (Es K) ∧ Own .i64 3 wr 0 v C ∧ OfV L2 0 v ∧ (E.probes (C.take j)).ok ∧ (E.probes (C.take j)).cap (N1 + 66 * j)
set_option maxHeartbeats 4000000 in
theorem eeprobe_any {w : World} {L : Lab} {K b : Nat} {s : EeS} {E : En} (h : EE w L K b s E) (hK : K ≠ 0) (hok : E.ok) {N : Nat} (hc : E.cap N) (hN : N ≤ 274000000000) :
    Calls Tryz.prog 86 #[.pointer (some ⟨b, 0, none⟩)] w (EEnd w L K b s (E.choose.probes E.chosen)) := by
  obtain ⟨q, hq⟩ := h
  have c13 : w.cell? ⟨b, 0 + 13, none⟩ = some (.pointer (some ⟨s.ob, 0, none⟩)) := hq.cell 13 (by omega)
  have hak := acked_any hq.p.out
  have HAK := Lib.hid (show Calls Tryz.prog 78 #[.pointer (some ⟨s.ob, 0, none⟩)] w fun e w' => e = .returned (.int .i64 E.o.ak) ∧ w = w' from hak)
  have HCH := Lib.hid (eechoose_any ⟨q, hq⟩ hK hok)
  have hcl3 : E.chosen.length ≤ 3 := Nat.le_trans En.chosen_len hok.np3
  have hchi : ∀ x ∈ E.chosen, ∃ i : Nat, x = (i : Int) ∧ i < E.choose.ps.length := fun x hx => by
    obtain ⟨i, h1, h2⟩ := En.chosen_in x hx
    exact ⟨i, h1, by rw [(En.choose_keep (E := E)).1]; exact h2⟩
  have hoo : E.choose.o = E.o := (En.choose_keep (E := E)).2.2.1
  have hapl := hok.ap
  have hspl := hok.sp
  have hol := hok.o.l
  have hoa := hok.o.a1
  have HQ := Lib.hid (And.intro hok.choose (And.intro hc.choose (And.intro hchi (And.intro hcl3 (And.intro hoo (show 0 ≤ E.o.ak ∧ E.o.ak ≤ 8192 by simp only [Ou.places] at hspl; split at hspl <;> omega))))))
  obtain ⟨ak, hAK⟩ : ∃ x, E.o.ak = x := ⟨_, rfl⟩
  rw [hAK] at HAK
  have HA := Lib.hid hAK
  clear hq hak hok hc hcl3 hchi hoo hapl hspl hol hoa hAK
  go_enter Tryz.func86, Tryz.ntmps86
  go_wp2_with fail
  refine HAK.out.mono ?_
  rintro e w1 ⟨rfl, rfl⟩
  clear c13
  go_wp2_with fail
  refine HCH.out.mono ?_
  rintro e w4 ⟨A3, n3, c3, rfl, hn3, L4, hown, hlab, hd4, ht4⟩
  obtain ⟨hok2, hc2, hchi, hcl3, hoo, hakr⟩ := HQ.out
  have hn3' : n3 ≤ 3 := by rw [← hn3]; exact hcl3
  have HD0 := Lib.hid (show EePb w L K b s E.choose E.chosen (.slice A3 n3 c3) N 0 w4 from ⟨L4, hd4, ht4, hown, hlab, hok2, hc2⟩)
  have HN3 := Lib.hid (And.intro hn3 hn3')
  clear hok2 hc2 hchi hcl3 hoo hakr hn3 hn3' hown hlab hd4 ht4 HCH HAK
  go_wp2_with fail
  go_loopw [13] (fun iv wv => ∃ j : Nat, j ≤ n3 ∧ iv = .int .i64 j ∧ Hid (EePb w L K b s E.choose E.chosen (.slice A3 n3 c3) N j wv)) (fun iv _ => n3 - (intOf iv).toNat)
  case atStart => exact ⟨0, by omega, rfl, HD0⟩
  case round =>
    clear HD0
    obtain ⟨j, hj, rfl, hmid⟩ := hrel
    by_cases hjn : j < n3
    · obtain ⟨L5, hd, ht, hown, hlab, hok, hcap⟩ := hmid.out
      obtain ⟨hok2, hc2, hchi, hcl3, hoo, hakr⟩ := HQ.out
      obtain ⟨hn3, hn3'⟩ := HN3.out
      have hjc : j < E.chosen.length := by omega
      obtain ⟨i, hi1, hi2⟩ := hchi (E.chosen.getD j 0) (by simp [List.getD, hjc])
      have hkp := En.keep_probes (E.chosen.take j) E.choose
      have hnx : E.choose.probes (E.chosen.take (j + 1)) = (E.choose.probes (E.chosen.take j)).probe1 (i : Int) := by
        rw [List.take_succ_eq_append_getElem hjc, En.probes_snoc]
        congr 1
        rw [← hi1]
        simp [List.getD, hjc]
      have hil : i < (E.choose.probes (E.chosen.take j)).ps.length := by rw [hkp.len]; exact hi2
      have hdt : (E.choose.probes (E.chosen.take j)).probe1 (i : Int) = (E.choose.probes (E.chosen.take j)).sayOut i ⟨3, (i : Int), 0, 0, ak, [], false, 0, 0⟩ ak ak := by
        unfold En.probe1 En.probeP
        rw [hkp.o, hoo, HA.out]
        rfl
      rw [HA.out] at hakr
      obtain ⟨hpa, hpb⟩ := (Byt.nil wr L5).pkt (k := 3) (pa := (i : Int)) (nu := 0) (ofn := 0) (fr := ak) (se := 0) (li := 0) (fin := false) (by simp) (by simp) (by omega) (by have := hok.np3; omega) (by omega) (by omega) (by omega) (by omega) (by omega)
      have hsn := hok.pa hil
      have hsend := eesend_any hd hK hok i hil 3 0 0 ak [] false 0 0 ak none 0 hpa ((Byt.nil wr L5).aps hK) (hpb.nu (by have := hsn.ok.s1; have := hsn.ok.s2; omega)) hcap (by omega)
      simp only [List.length_nil] at hsend
      have HDA := Lib.hid hsend
      have hok' : ((E.choose.probes (E.chosen.take j)).probe1 (i : Int)).ok := hok.probe1 hil
      have hcap' := hcap.probe1 (i : Int)
      obtain ⟨g, off, rfl, hcl⟩ := hown.rd.some_ (by omega)
      have y := hcl j hjc
      rw [hi1] at y
      have HNX := Lib.hid (And.intro hnx (And.intro hdt (And.intro hok' hcap')))
      have HOW := Lib.hid (And.intro ht (And.intro hown hlab))
      have j1 : (j : Int) < (n3 : Int) := by omega
      have j2 : (0 : Int) ≤ (j : Int) := by omega
      have HJ := Lib.hid hjn
      have HJW := Lib.hid (show wrap64 ((j : Int) + 1) = ((j + 1 : Nat) : Int) from wrap_atS (by omega) (by omega) (by omega))
      clear hd ht hown hlab hok hcap hok2 hc2 hchi hcl3 hoo hakr hn3 hjc hi1 hi2 hkp hnx hdt hpa hpb hsn hsend hil hok' hcap' hcl hmid hj hjn
      go_wp2_with fail
      refine HDA.out.mono ?_
      rintro e w5 ⟨rfl, L6, hd5, ht5⟩
      obtain ⟨hnx, hdt, hok', hcap'⟩ := HNX.out
      obtain ⟨ht, hown, hlab⟩ := HOW.out
      have HMID := Lib.hid (show EePb w L K b s E.choose E.chosen (.slice (some ⟨g, off, none⟩) n3 c3) N (j + 1) w5 from ⟨L6, by rw [hnx, hdt]; exact hd5, ht.trans ht5, ht5.own hown hlab (by unfold Es; omega), hlab.keep ht5 (own_lt hown), by rw [hnx]; exact hok', by rw [hnx]; exact hcap'.mono (by omega)⟩)
      clear hnx hdt hok' hcap' ht hown hlab hd5 ht5 HDA HNX HOW y
      go_wp2
      go_roundw
      case rel => exact ⟨j + 1, by have := HJ.out; omega, by first | rfl | rw [HJW.out], HMID⟩
      case measure => (try rw [HJW.out]); have := HJ.out; simp [intOf]; omega
    · have e : j = n3 := by omega
      subst e
      obtain ⟨L5, hd, ht, hown, hlab, hok, hcap⟩ := hmid.out
      rw [List.take_of_length_le (by have := HN3.out.1; omega)] at hd
      have HFIN := Lib.hid (show EEnd w L K b s (E.choose.probes E.chosen) (.returned (.tuple #[])) wr from ⟨rfl, L5, hd, ht⟩)
      have j1 : ¬ ((j : Int) < (j : Int)) := by omega
      clear hd ht hown hlab hok hcap hmid hj hjn HQ HN3 HA
      go_wp2
      go_end0
      exact HFIN.out
set_option maxHeartbeats 1000000 in
theorem eehas_any {w : World} {L : Lab} {K b : Nat} {s : EeS} {E : En} (h : EE w L K b s E) (hok : E.ok) (i : Int) : Calls Tryz.prog 94 #[.pointer (some ⟨b, 0, none⟩), .int .i64 i] w fun e w' => e = .returned (.bool (E.there i)) ∧ w = w' := by
  obtain ⟨n, hn⟩ : ∃ n, E.ps.length = n := ⟨_, rfl⟩
  have hn1 := hok.np1
  obtain ⟨g, c, hpv, c10, hg, _, _⟩ := h.look hn (i := 0) (by omega)
  have hE : E.there i = (decide (0 ≤ i) && decide (i < (n : Int))) := by unfold En.there; rw [hn]
  rw [hE]
  clear hpv hg hok hn1 h hE hn
  by_cases h0 : 0 ≤ i
  · have h0' : decide (0 ≤ i) = true := decide_eq_true h0
    by_cases h1 : i < (n : Int)
    · have h1' : decide (i < (n : Int)) = true := decide_eq_true h1
      rw [h0', h1']
      go_enter Tryz.func94, Tryz.ntmps94
      go_wp2
      go_ret
      exact ⟨rfl, rfl⟩
    · have h1' : decide (i < (n : Int)) = false := decide_eq_false h1
      rw [h0', h1']
      go_enter Tryz.func94, Tryz.ntmps94
      go_wp2
      go_ret
      exact ⟨rfl, rfl⟩
  · have h0' : decide (0 ≤ i) = false := decide_eq_false h0
    rw [h0']
    go_enter Tryz.func94, Tryz.ntmps94
    go_wp2
    go_ret
    exact ⟨by simp, rfl⟩
def EeAns (w : World) (L : Lab) (K b : Nat) (s : EeS) (E : En) (v : Value) (e : Ending) (w' : World) : Prop := e = .returned v ∧ ∃ L', EE w' L' K b s E ∧ Tn w w' L L' (Es K)
theorem eenote_plain {w : World} {L : Lab} {K b : Nat} {s : EeS} {E : En} (h : EE w L K b s E) (hK : K ≠ 0) (k n : Int) (xs : List Int) (A : Option Addr) (m c : Nat) (hm : xs.length = m) (hr : Rd .u8 w A xs) (hmc : m ≤ c) (hnil : A = none → c = 0) (hxb : ∀ x ∈ xs, 0 ≤ x ∧ x < 256) (hxl : m ≤ 4096) (h1 : 0 ≤ k ∧ k ≤ 8 ∧ k ≠ 5) (h2 : -4611686018427387904 ≤ n ∧ n ≤ 4611686018427387904) {N : Nat} (hc : E.cap N) (hN : N ≤ 274000000000) :
    Calls Tryz.prog 65 #[.pointer (some ⟨b, 0, none⟩), .agg #[.int .i64 k, .int .i64 n, .slice A m c, .int .i64 0, .int .i64 0, .int .i64 0, .int .i64 0, .int .i64 0, .slice none 0 0, .bool false, .int .i64 0, .int .i64 0]] w (EEnd w L K b s (E.note ⟨k, n, xs, Pkt.zero⟩)) := by
  subst hm
  rw [← En.noteS_in (E := E) (x := ⟨k, n, xs, Pkt.zero⟩) h1.2.2]
  exact eenote_any h hK ⟨k, n, xs, Pkt.zero⟩ A c none 0 ⟨hr, by show xs.length ≤ _; omega, hmc, hnil, hxb, by show _ ≤ k ∧ k ≤ _; omega, by show _ ≤ n ∧ n ≤ _; omega, PktAt.zero w⟩ ⟨hxb, hxl, by show _ ≤ k ∧ k ≤ _; omega, by show _ ≤ n ∧ n ≤ _; omega, PkB.zero⟩ hc (by omega)
set_option maxHeartbeats 2000000 in
theorem eeclose_any {w : World} {L : Lab} {K b : Nat} {s : EeS} {E : En} (h : EE w L K b s E) (hK : K ≠ 0) (hok : E.ok) {N : Nat} (hc : E.cap N) (hN : N ≤ 273000000000) :
    Calls Tryz.prog 21 #[.pointer (some ⟨b, 0, none⟩)] w (EeAns w L K b s E.close (.bool (!E.o.cl))) := by
  obtain ⟨q, h⟩ := h
  have c13 : w.cell? ⟨b, 0 + 13, none⟩ = some (.pointer (some ⟨s.ob, 0, none⟩)) := h.cell 13 (by omega)
  have HCL := Lib.hid (close_any h.p.out)
  have hev : E.view.o = E.o := rfl
  rw [hev] at HCL
  obtain ⟨cl, hcl⟩ : ∃ cl, E.o.cl = cl := ⟨_, rfl⟩
  have HQ := Lib.hid (And.intro h (And.intro hok (And.intro hc hcl)))
  rw [hcl] at HCL ⊢
  clear h hok hc hcl hev
  go_enter Tryz.func21, Tryz.ntmps21
  go_wp2_with fail
  refine HCL.out.mono ?_
  rintro e w1 ⟨rfl, ho, hg⟩
  obtain ⟨h, hok, hc, hcl⟩ := HQ.out
  obtain ⟨h1, ht1⟩ := h.turnO hK ho (sc_p hg)
  have ht1 := ht1.mono (S' := Es K) (fun x hx => by subst hx; exact ⟨by omega, by omega⟩)
  obtain ⟨L1, hL1⟩ : ∃ L1, relab L w.heap.size (K + 3) = L1 := ⟨_, rfl⟩
  rw [hL1] at h1 ht1
  cases cl
  · have hok1 := hok.shutO
    have hc1 : (E.setO E.o.shut).cap N := hc.of_eq rfl rfl rfl
    have hE : E.close = ((E.setO E.o.shut).note ⟨6, 0, [], Pkt.zero⟩).pump := by unfold En.close; rw [hcl]; rfl
    have HEV := Lib.hid (eenote_plain ⟨_, h1⟩ hK 6 0 [] none 0 0 rfl (.inl rfl) (by omega) (fun _ => rfl) (by simp) (by omega) (by omega) (by omega) hc1 (by omega))
    have HQ2 := Lib.hid (And.intro ht1 (And.intro (hok1.note ⟨6, 0, [], Pkt.zero⟩) (And.intro (hc1.note ⟨6, 0, [], Pkt.zero⟩) hE)))
    clear h h1 ht1 hok hok1 hc hc1 hE hcl ho hg hL1 HQ HCL c13
    go_wp2_with fail
    refine HEV.out.mono ?_
    rintro e w2 ⟨rfl, L2, h2, ht2⟩
    obtain ⟨ht1, hok2, hc2, hE⟩ := HQ2.out
    have HPU := Lib.hid (eepump_any h2 hK hok2 hc2 (by omega))
    have HT := Lib.hid (And.intro (ht1.trans ht2) hE)
    clear ht1 hok2 hc2 hE h2 ht2 HEV HQ2
    go_wp2_with fail
    refine HPU.out.mono ?_
    rintro e w3 ⟨rfl, L3, h3, ht3⟩
    have HFIN := Lib.hid (show EeAns w L K b s E.close (.bool true) (.returned (.bool true)) w3 from ⟨rfl, L3, by rw [HT.out.2]; exact h3, HT.out.1.trans ht3⟩)
    clear h3 ht3 HPU HT
    go_wp2
    go_ret
    exact HFIN.out
  · have hE : E.close = E := by unfold En.close; rw [hcl]; rfl
    have hE2 : E.setO E.o.shut = E := by
      unfold En.setO Ou.shut
      rw [← hcl]
    have HFIN := Lib.hid (show EeAns w L K b s E.close (.bool false) (.returned (.bool false)) w1 from ⟨rfl, L1, by rw [hE]; rw [hE2] at h1; exact ⟨_, h1⟩, ht1⟩)
    clear h hok hc hE hcl h1 ht1 ho hg hL1 hE2 HQ HCL c13
    go_wp2
    go_ret
    exact HFIN.out
set_option maxHeartbeats 2000000 in
theorem eewrite_any {w : World} {L : Lab} {K b : Nat} {s : EeS} {E : En} (h : EE w L K b s E) (hK : K ≠ 0) (hok : E.ok) (A : Option Addr) (m c : Nat) (ys : List Int) (hm : ys.length = m) (hr : Rd .u8 w A ys) (hle : m ≤ c) (hm2 : m ≤ 4611686018427387904) (hnil : A = none → c = 0) (hyb : ∀ x ∈ ys, 0 ≤ x ∧ x < 256) (hap : ∀ a, A = some a → ¬ Es K (L a.block)) {N : Nat} (hc : E.cap N) (hN : N ≤ 273000000000) :
    Calls Tryz.prog 18 #[.pointer (some ⟨b, 0, none⟩), .slice A m c] w (EeAns w L K b s (E.write ys) (.int .i64 (E.takes ys : Int))) := by
  obtain ⟨q, h⟩ := h
  have c13 : w.cell? ⟨b, 0 + 13, none⟩ = some (.pointer (some ⟨s.ob, 0, none⟩)) := h.cell 13 (by omega)
  obtain ⟨k, hk⟩ : ∃ k, E.takes ys = k := ⟨_, rfl⟩
  have hkr := En.takes_eq hok ys
  have hkl := En.takes_le (E := E) ys
  rw [hk] at hkr hkl
  have hrr := Ou.room_range hok.o
  have HW := Lib.hid (show Calls Tryz.prog 64 #[.pointer (some ⟨s.ob, 0, none⟩), .slice A m c] w (WriteEnd w 0 s.ob q.ov E.o k ys) from write_any h.p.out A m c ys hm hr hle (by omega) k (by rw [← hm]; exact hkr))
  have hsl := fun W => slice_h A m c k (by omega) W
  have HQ := Lib.hid (And.intro h (And.intro hok (And.intro hc (And.intro hr (And.intro hap (And.intro hyb (And.intro hk hnil)))))))
  have HKL := Lib.hid (show k ≤ ys.length ∧ k ≤ 401 ∧ m = ys.length ∧ k ≤ c by omega)
  have hkm : (k : Int) ≤ (m : Int) := by omega
  have hk0 : (0 : Int) ≤ (k : Int) := by omega
  have hkc : k ≤ c := by omega
  rw [hk]
  clear h hok hc hr hap hyb hm hkr hrr hkl hk hnil
  go_enter Tryz.func18, Tryz.ntmps18
  go_wp2_with fail
  refine HW.out.mono ?_
  rintro e w1 ⟨v', rfl, ho, hsc⟩
  obtain ⟨h, hok, hc, hr, hap, hyb, hk, hnil⟩ := HQ.out
  obtain ⟨h1, ht1⟩ := h.turnO hK ho hsc
  have ht1 := ht1.mono (S' := Es K) (fun x hx => by subst hx; exact ⟨by omega, by omega⟩)
  have hok1 := hok.moreO hyb
  rw [hk] at hok1
  have hc1 : (E.setO (E.o.more (ys.take k))).cap N := hc.of_eq rfl rfl rfl
  obtain ⟨L1, hL1⟩ : ∃ L1, relab L w.heap.size (K + 3) = L1 := ⟨_, rfl⟩
  rw [hL1] at h1 ht1
  by_cases hk1 : 0 < k
  · have hr1 : Rd .u8 w1 A ys := rd_trn hr ht1.trn hap
    have hrt := hr1.take k
    have hlk : (ys.take k).length = k := by rw [List.length_take]; have := HKL.out; omega
    have HEV := Lib.hid (eenote_plain ⟨_, h1⟩ hK 1 0 (ys.take k) A k c hlk hrt (by have := HKL.out; omega) hnil (fun x hx => hyb x (List.mem_of_mem_take hx)) (by have := HKL.out; omega) (by omega) (by omega) hc1 (by omega))
    obtain ⟨E1, hE1⟩ : ∃ E1, (E.setO (E.o.more (ys.take k))).note ⟨1, 0, ys.take k, Pkt.zero⟩ = E1 := ⟨_, rfl⟩
    have hok2 := hok1.note ⟨1, 0, ys.take k, Pkt.zero⟩
    have hc2 := hc1.note ⟨1, 0, ys.take k, Pkt.zero⟩
    rw [hE1] at hok2 hc2 HEV
    have hE : E.write ys = (E1.count 5 (k : Int)).pump := by unfold En.write; rw [hk, if_pos hk1, hE1]
    have HT := Lib.hid (And.intro ht1 (And.intro hok2 (And.intro hc2 hE)))
    have i1 : ((k : Int) == 0) = false := by simp; omega
    have i2 : ¬ (k : Int) = 0 := by omega
    clear h hok hc hr hap hyb hk hnil h1 ht1 hok1 hc1 hr1 hrt hlk hE1 hok2 hc2 hE ho hsc HQ HW hL1 c13 hk1
    go_wp2_with fail
    refine HEV.out.mono ?_
    rintro e w3 ⟨rfl, L3, h3, ht3⟩
    obtain ⟨ht2, hok2, hc2, hE⟩ := HT.out
    have c18 := h3.c18
    have HAD := Lib.hid (eecount_any h3 hK 5 (by omega) (k : Int) (by omega) (by have := HKL.out; omega) hc2 (by omega) 5 rfl)
    have HT2 := Lib.hid (And.intro (ht2.trans ht3) (And.intro (hok2.count 5 (k : Int)) (And.intro (hc2.count 5 (n := (k : Int)) (k := 401) (by omega) (by have := HKL.out; omega)) hE)))
    clear ht2 hok2 hc2 hE h3 ht3 HEV HT
    go_wp2_with fail
    clear c18
    refine HAD.out.mono ?_
    rintro e w4 ⟨⟨z, rfl⟩, L4, h4, ht4⟩
    obtain ⟨ht2, hok2, hc2, hE⟩ := HT2.out
    have HPU := Lib.hid (eepump_any h4 hK hok2 hc2 (by omega))
    have HT4 := Lib.hid (And.intro (ht2.trans ht4) hE)
    clear ht2 hok2 hc2 hE h4 ht4 HAD HT2
    go_wp2_with fail
    refine HPU.out.mono ?_
    rintro e w5 ⟨rfl, L5, h5, ht5⟩
    have HFIN := Lib.hid (show EeAns w L K b s (E.write ys) (.int .i64 (k : Int)) (.returned (.int .i64 (k : Int))) w5 from ⟨rfl, L5, by rw [HT4.out.2]; exact h5, HT4.out.1.trans ht5⟩)
    clear h5 ht5 HPU HT4
    go_wp2
    go_ret
    exact HFIN.out
  · have hk00 : k = 0 := by omega
    subst hk00
    have hE : E.write ys = E.setO (E.o.more (ys.take 0)) := by unfold En.write; rw [hk, if_neg hk1]
    have HFIN := Lib.hid (show EeAns w L K b s (E.write ys) (.int .i64 ((0 : Nat) : Int)) (.returned (.int .i64 0)) w1 from ⟨rfl, L1, by rw [hE]; exact ⟨_, h1⟩, ht1⟩)
    clear h hok hc hr hap hyb hk hnil h1 ht1 hok1 hc1 hE ho hsc HQ HW hL1 c13 hk1
    go_wp2
    go_ret
    exact HFIN.out
def EeRd (w : World) (L : Lab) (K b : Nat) (s : EeS) (E : En) (n : Int) (e : Ending) (w' : World) : Prop :=
  ∃ A c, e = .returned (.slice A (E.i.many n) c) ∧ ∃ L', Byt w' L' A c (E.readN n) ∧ EE w' L' K b s (E.read n) ∧ Tn w w' L L' (Es K)
theorem byt_nilR {w : World} {L : Lab} {E : En} {n : Int} (h : E.readN n = []) : Byt w L none 0 (E.readN n) := by rw [h]; exact Byt.nil w L
set_option maxHeartbeats 2000000 in
theorem eeread_any {w : World} {L : Lab} {K b : Nat} {s : EeS} {E : En} (h : EE w L K b s E) (hK : K ≠ 0) (hok : E.ok) (n : Int) {N : Nat} (hc : E.cap N) (hN : N ≤ 273000000000) :
    Calls Tryz.prog 30 #[.pointer (some ⟨b, 0, none⟩), .int .i64 n] w (EeRd w L K b s E n) := by
  obtain ⟨q, h⟩ := h
  have c15 : w.cell? ⟨b, 0 + 15, none⟩ = some (.pointer (some ⟨s.ib, 0, none⟩)) := h.cell 15 (by omega)
  obtain ⟨xs, ps, hi⟩ := h.p.inb
  have hmn := En.readN_len hok n
  have hml := In.many_le hok.i n
  have hmr := En.ready_le hok
  obtain ⟨k, hk⟩ : ∃ k, E.i.many n = k := ⟨_, rfl⟩
  rw [hk] at hml hmn
  have HRD := Lib.hid (ibread_any hi n E.i.front (In.front_is hok.i) k hml.1 (by have := En.front_4096 hok; omega))
  have HQ := Lib.hid (And.intro h (And.intro hok (And.intro hc hk)))
  have HKL := Lib.hid (show k ≤ 4096 ∧ (E.readN n).length = k by omega)
  clear h hok hc hi hk hmn hml hmr
  go_enter Tryz.func30, Tryz.ntmps30
  go_wp2_with fail
  refine HRD.out.mono ?_
  rintro e w1 ⟨A1, c1, l, rfl, ho, hrd, hdi, hsc⟩
  obtain ⟨h, hok, hc, hk⟩ := HQ.out
  obtain ⟨h1, ht1⟩ := h.turnI hK 0 hdi hsc (.inr rfl)
  have ht1 := ht1.mono (S' := Es K) (fun x hx => by subst hx; exact ⟨by omega, by omega⟩)
  have hl : l = E.readN n := by
    have := In.next_is hok.i (k := k) (by rw [← hk]; exact (In.many_le hok.i n).2)
    unfold En.readN
    rw [hk]
    exact hrd.eq this
  subst hl
  have hok1 := hok.readI n
  have hc1 : (E.setI (E.i.read (E.i.many n))).cap N := hc.of_eq rfl rfl rfl
  rw [hk] at hok1 hc1
  obtain ⟨Ei, hEi⟩ : ∃ Ei, E.setI (E.i.read k) = Ei := ⟨_, rfl⟩
  rw [show E.setI (E.view.i.read k) = Ei from hEi] at h1
  rw [hEi] at hok1 hc1
  have hbyR := En.readN_by hok n
  have hby1 : Byt w1 (relab L w.heap.size 0) A1 c1 (E.readN n) := ⟨by rw [HKL.out.2]; exact ho.less (Nat.zero_le _), OfV.new (by rw [HKL.out.2]; exact fun g hg => (ho.lt g hg).1)⟩
  obtain ⟨L1, hL1⟩ : ∃ L1, relab L w.heap.size 0 = L1 := ⟨_, rfl⟩
  rw [hL1] at h1 ht1 hby1
  have hkm := HKL.out
  by_cases hk1 : 0 < k
  · have hcap := ho.cap
    have hnl := fun e => (ho.none_len e).1
    have HEV := Lib.hid (eenote_plain ⟨_, h1⟩ hK 2 0 (E.readN n) A1 k c1 HKL.out.2 ho.rd hcap hnl hbyR (by omega) (by omega) (by omega) hc1 (by omega))
    obtain ⟨E1, hE1⟩ : ∃ E1, Ei.note ⟨2, 0, E.readN n, Pkt.zero⟩ = E1 := ⟨_, rfl⟩
    have hc2 := hc1.note ⟨2, 0, E.readN n, Pkt.zero⟩
    rw [hE1] at hc2 HEV
    have hE : E.read n = E1.count 6 (k : Int) := by unfold En.read; rw [hk, if_pos hk1, hEi, hE1]
    have HT := Lib.hid (And.intro ht1 (And.intro hc2 (And.intro hE hby1)))
    have HKK := Lib.hid hk
    have i1 : ((k : Int) == 0) = false := by simp; omega
    have i2 : ¬ (k : Int) = 0 := by omega
    clear h hok hc hk h1 ht1 hok1 hc1 ho hrd hdi hsc hE1 hc2 hE hEi hbyR hby1 hL1 hkm hcap hnl HRD HQ c15 hk1
    go_wp2_with fail
    refine HEV.out.mono ?_
    rintro e w3 ⟨rfl, L3, h3, ht3⟩
    obtain ⟨ht2, hc2, hE, hby2⟩ := HT.out
    have c18 := h3.c18
    have HAD := Lib.hid (eecount_any h3 hK 6 (by omega) (k : Int) (by omega) (by have := HKL.out; omega) hc2 (by omega) 6 rfl)
    have HT2 := Lib.hid (And.intro (ht2.trans ht3) (And.intro hE (hby2.keep ht3 (by unfold Es; omega))))
    clear ht2 hc2 hE hby2 h3 ht3 HEV HT
    go_wp2_with fail
    clear c18
    refine HAD.out.mono ?_
    rintro e w4 ⟨⟨z, rfl⟩, L4, h4, ht4⟩
    have HFIN := Lib.hid (show EeRd w L K b s E n (.returned (.slice A1 k c1)) w4 from ⟨A1, c1, by rw [HKK.out], L4, HT2.out.2.2.keep ht4 (by unfold Es; omega), by rw [HT2.out.2.1]; exact h4, HT2.out.1.trans ht4⟩)
    clear h4 ht4 HT2 HAD
    go_wp2
    go_ret
    exact HFIN.out
  · have hk00 : k = 0 := by omega
    subst hk00
    have hE : E.read n = Ei := by unfold En.read; rw [hk, if_neg hk1, hEi]
    have HFIN := Lib.hid (show EeRd w L K b s E n (.returned (.slice none 0 0)) w1 from ⟨none, 0, by rw [hk], L1, byt_nilR (List.eq_nil_of_length_eq_zero HKL.out.2), by rw [hE]; exact ⟨_, h1⟩, ht1⟩)
    clear h hok hc hk h1 ht1 hok1 hc1 ho hrd hdi hsc hE hEi hbyR hby1 hL1 hkm HRD HQ c15 hk1
    go_wp2
    go_ret
    exact HFIN.out
end Go.Proofs.YtpjlnpnadkbakaaGreat

/-
  PrEn7.
-/
import Derived.Test.YtpjlnpnadkbakaaGreatQEcPrEn6
namespace Go.Proofs.YtpjlnpnadkbakaaGreat
set_option maxRecDepth 10000
open Go.RowKit

theorem losts_sent (l : List Qd) : ∀ p : Pl, (losts p l).sent = p.sent := by
  induction l with
  | nil => intro p; rfl
  | cons x l ih => intro p; exact ih (p.lost x.f x.t)
/-- Where the giving up of packets stands. -/
def EeGi (w : World) (L : Lab) (K b : Nat) (s : EeS) (E : En) (l : List Qd) (v : Value) (j : Nat) (wr : World) : Prop :=
  ∃ L1 : Lab, EE wr L1 K b s (E.setPl (losts E.pl (l.take j))) ∧ TnB w.heap.size w wr L L1 (Es K) ∧ OwnQ tOutP wr 0 v l ∧ ∀ g, v.ownBlock = some g → ¬ L1 g = K + 7
set_option maxHeartbeats 4000000 in
theorem eegive_any {w : World} {L : Lab} {K b : Nat} {s : EeS} {E : En} (h : EE w L K b s E) (hK : K ≠ 0) (l : List Qd) (A : Option Addr) (n c : Nat) (ho : OwnQ tOutP w 0 (.slice A n c) l) (hl : ∀ g, (Value.slice A n c).ownBlock = some g → ¬ L g = K + 7) (hn : n ≤ 1048576) {N : Nat} (hc : E.cap N) (hN : N ≤ 274000000000) :
    Calls Tryz.prog 83 #[.pointer (some ⟨b, 0, none⟩), .slice A n c] w (EEnd w L K b s (E.given l)) := by
  have hln := ho.len
  have H0 := Lib.hid (show EeGi w L K b s E l (.slice A n c) 0 w from ⟨L, h, TnB.refl _ _ _ (Nat.le_refl _), ho, hl⟩)
  have HL := Lib.hid (And.intro hln (And.intro hc (And.intro hN hn)))
  clear h ho hl hc hN hln
  go_enter Tryz.func83, Tryz.ntmps83
  go_wp2
  go_loopw [8] (fun iv wr => ∃ j : Nat, j ≤ n ∧ iv = .int .i64 j ∧ Hid (EeGi w L K b s E l (.slice A n c) j wr)) (fun iv _ => n - (intOf iv).toNat)
  case atStart => exact ⟨0, by omega, rfl, H0⟩
  case round =>
    clear H0
    obtain ⟨j, hj, rfl, hmid⟩ := hrel
    by_cases hjn : j < n
    · obtain ⟨L1, hd, ht, hown, hlab⟩ := hmid.out
      obtain ⟨hln, hc, hN, hn'⟩ := HL.out
      obtain ⟨g, rfl, -⟩ := hown.at (by omega)
      obtain ⟨y0, y1, y2, y3⟩ := hown.cells j hjn
      obtain ⟨⟨qn, qf, qt, qa⟩, hq⟩ : ∃ q, l.getD j qz = q := ⟨_, rfl⟩
      rw [hq] at y0 y1 y2 y3
      simp only at y0 y1 y2 y3
      have hjl : j < l.length := by omega
      have htk : l.take (j + 1) = l.take j ++ [⟨qn, qf, qt, qa⟩] := by rw [List.take_succ_eq_append_getElem hjl, ← hq]; simp [List.getD, hjl]
      have hsn := losts_snoc E.pl (l.take j) ⟨qn, qf, qt, qa⟩
      rw [← htk] at hsn
      obtain ⟨P1, hP1⟩ : ∃ P1, losts E.pl (l.take j) = P1 := ⟨_, rfl⟩
      rw [hP1] at hd hsn
      obtain ⟨wa, hwa⟩ : ∃ wa, wr.alloc (.cells #[.int .i64 qn, .int .i64 qf, .int .i64 qt, .int .i64 qa] tOutP) = wa := ⟨_, rfl⟩
      have hba : Below wr.heap.size wr wa := by rw [← hwa]; exact (Below.refl _ _).alloc (Nat.le_refl _) _
      obtain ⟨x0, x1, x2, x3⟩ := row4_cells (row4_new wr tOutP ⟨qn, qf, qt, qa⟩)
      simp only at x0 x1 x2 x3
      rw [hwa] at x0 x1 x2 x3
      have hd2 := (hd.grow hba 0).drewN 1
      have ht2 := (ht.below hba 0).drewN 1
      have hown2 : OwnQ tOutP (wa.drewN 1) 0 (.slice (some ⟨g, 0, none⟩) n c) l := (hown.later hba).drewN 1
      have hlab2 : ∀ g', (Value.slice (some ⟨g, 0, none⟩) n c).ownBlock = some g' → ¬ relab L1 wr.heap.size 0 g' = K + 7 := fun g' hg' => by rw [relab_old (hown.lt g' hg').2]; exact hlab g' hg'
      obtain ⟨W, hW⟩ : ∃ W, wa.drew = W := ⟨_, rfl⟩
      rw [show wa.drewN 1 = W from hW] at hd2 ht2 hown2
      obtain ⟨q2, hq2⟩ := hd2
      have HP := Lib.hid (lost_any hq2.p.pln qf qt)
      have c14 : wa.drew.cell? ⟨b, 0 + 14, none⟩ = some (.pointer (some ⟨s.pl, 0, none⟩)) := by rw [hW]; exact hq2.cell 14 (by omega)
      have HD2 := Lib.hid (And.intro hq2 (And.intro ht2 (And.intro hown2 hlab2)))
      have HE := Lib.hid hsn
      have HJ := Lib.hid (And.intro hjn hn')
      have HJW := Lib.hid (show wrap64 ((j : Int) + 1) = ((j + 1 : Nat) : Int) from wrap_atS (by omega) (by omega) (by omega))
      have j1 : (j : Int) < (n : Int) := by omega
      have j2 : (0 : Int) ≤ (j : Int) := by omega
      have z1 : W.cell? ⟨wr.heap.size, 0 + 1, none⟩ = some (.int .i64 qf) := by rw [← hW]; exact x1
      have z2 : W.cell? ⟨wr.heap.size, 0 + 2, none⟩ = some (.int .i64 qt) := by rw [← hW]; exact x2
      have z14 : W.cell? ⟨b, 0 + 14, none⟩ = some (.pointer (some ⟨s.pl, 0, none⟩)) := by rw [← hW]; exact c14
      clear hd ht hown hlab hln hc hN hn' hq hjl htk hsn hP1 hba hq2 ht2 hown2 hlab2 hmid hj hjn x0 x1 x2 x3 c14
      go_wp2_with fail
      refine still_tail 8 (by kernel_rfl) (by kernel_rfl) ?_
      intro W' hW'
      obtain rfl : W' = W := by rw [hW', hW]
      clear hW hW' hwa
      simp only [List.take_succ_cons, List.take_zero, List.drop_succ_cons, List.drop_zero]
      repeat still_step
      refine wpStill_nil ?_
      go_wp2_with fail
      refine HP.out.mono ?_
      rintro e w2 ⟨rfl, v', hpf, hsc⟩
      obtain ⟨hd2, ht2, hown2, hlab2⟩ := HD2.out
      obtain ⟨hd3, ht3⟩ := hd2.turnP hK hpf hsc
      have hown3 := hown2.trn ht3.trn (fun g' hg' e => hlab2 g' hg' e)
      have hlab3 : ∀ g', (Value.slice (some ⟨g, 0, none⟩) n c).ownBlock = some g' → ¬ relab (relab L1 wr.heap.size 0) W'.heap.size (K + 7) g' = K + 7 := fun g' hg' => by rw [relab_old (hown2.lt g' hg').2]; exact hlab2 g' hg'
      have HMID := Lib.hid (show EeGi w L K b s E l (.slice (some ⟨g, 0, none⟩) n c) (j + 1) _ from ⟨_, by rw [HE.out]; exact ⟨_, hd3⟩, ht2.then (ht3.mono (fun x hx => by subst hx; exact ⟨by omega, by omega⟩)), hown3, hlab3⟩)
      clear hpf hsc hd2 ht2 hown2 hlab2 hd3 ht3 hown3 hlab3 HP HD2 HE z1 z2 z14
      go_wp2
      go_roundw
      case rel => exact ⟨j + 1, by have := HJ.out; omega, by first | rfl | rw [HJW.out], HMID⟩
      case measure => (try rw [HJW.out]); have := HJ.out; simp [intOf]; omega
    · have e : j = n := by omega
      subst e
      obtain ⟨L1, hd, ht, hown, hlab⟩ := hmid.out
      obtain ⟨hln, hc, hN, hn'⟩ := HL.out
      rw [List.take_of_length_le (by omega)] at hd
      have c18 := hd.c18
      have HAD := Lib.hid (eecount_any hd hK 7 (by omega) (j : Int) (by omega) (by omega) (hc.setPl _) (by omega) 7 rfl)
      have HFIN := Lib.hid (And.intro ht.toTn hln)
      have j1 : ¬ ((j : Int) < (j : Int)) := by omega
      clear hd ht hown hlab hln hc hN hn' hmid hj hjn HL
      go_wp2_with fail
      clear c18
      refine HAD.out.mono ?_
      rintro e w2 ⟨⟨z, rfl⟩, L2, h2, ht2⟩
      have HF2 := Lib.hid (show EEnd w L K b s (E.given l) (.returned (.tuple #[])) w2 from ⟨rfl, L2, by rw [En.given_eq, HFIN.out.2]; exact h2, HFIN.out.1.trans ht2⟩)
      clear h2 ht2 HAD HFIN
      go_wp2
      go_end0
      exact HF2.out

set_option maxHeartbeats 2000000 in
theorem eeout_sum {w : World} {L : Lab} {K b : Nat} {s : EeS} {E : En} (h : EE w L K b s E) (hok : E.ok) : Calls Tryz.prog 85 #[.pointer (some ⟨b, 0, none⟩)] w fun e w' => e = .returned (.int .i64 E.flying) ∧ ∃ k, w' = w.drewN k := by
  obtain ⟨n, hn⟩ : ∃ n, E.ps.length = n := ⟨_, rfl⟩
  have hn3 : n ≤ 3 := by rw [← hn]; exact hok.np3
  have hn1 : 1 ≤ n := by rw [← hn]; exact hok.np1
  obtain ⟨g, c, hpv, c10, hg, _, _⟩ := h.look hn (i := 0) (by omega)
  have HROW := Lib.hid (show ∀ k i, i < n → (w.drewN k).cell? ⟨g, i, none⟩ = some (.pointer (some ⟨s.pb.getD i 0, 0, none⟩)) from fun k i hi => hg i hi)
  obtain ⟨q, hq⟩ := h
  have HU := Lib.hid (show ∀ k i, i < n → Calls Tryz.prog 165 #[.pointer (some ⟨s.pb.getD i 0, 0, none⟩)] (w.drewN k) fun e w' => e = .returned (.int .i64 ((E.pa i).fl.length : Int)) ∧ ∃ k', w' = (w.drewN k).drewN k' from fun k i hi => palen_any ((hq.drewN k).pth i (by omega)))
  have HRG := Lib.hid (show ∀ i, i ≤ n → 0 ≤ E.flyN i ∧ E.flyN i ≤ 1048576 * (i : Int) from fun i hi => En.flyN_range hok i (by omega))
  have HALL := Lib.hid (show E.flyN n = E.flying by rw [← hn]; exact En.flyN_all)
  clear hq hpv hg hn hok hn1
  go_enter Tryz.func85, Tryz.ntmps85
  go_wp2
  go_loopw [3, 11] (fun av iv wr => ∃ (i k : Nat), i ≤ n ∧ iv = .int .i64 i ∧ av = .int .i64 (E.flyN i) ∧ wr = w.drewN k) (fun _ iv _ => n - (intOf iv).toNat)
  case atStart => exact ⟨0, 0, by omega, rfl, rfl, rfl⟩
  case round =>
    obtain ⟨i, k, hi, rfl, rfl, rfl⟩ := hrel
    by_cases hin : i < n
    · have y := HROW.out k i hin
      have hc := HU.out k i hin
      obtain ⟨pb, hpb⟩ : ∃ pb, s.pb.getD i 0 = pb := ⟨_, rfl⟩
      rw [hpb] at y hc
      have i1 : (i : Int) < (n : Int) := by omega
      have i2 : (0 : Int) ≤ (i : Int) := by omega
      have HI := Lib.hid hin
      have HIW := Lib.hid (show wrap64 ((i : Int) + 1) = ((i + 1 : Nat) : Int) from wrap_atS (by omega) (by omega) (by omega))
      have HC := Lib.hid hc
      have hr1 := HRG.out (i + 1) (by omega)
      have hnx : E.flyN (i + 1) = E.flyN i + ((E.pa i).fl.length : Int) := rfl
      have HSW := Lib.hid (show wrap64 (E.flyN i + ((E.pa i).fl.length : Int)) = E.flyN (i + 1) from wrap_atS hnx.symm (by omega) (by omega))
      obtain ⟨f0, hf0⟩ : ∃ x, E.flyN i = x := ⟨_, rfl⟩
      obtain ⟨f1, hf1⟩ : ∃ x, E.flyN (i + 1) = x := ⟨_, rfl⟩
      obtain ⟨fl, hfl⟩ : ∃ x, (E.pa i).fl.length = x := ⟨_, rfl⟩
      rw [hf0, hf1, hfl] at HSW
      rw [hfl] at HC
      rw [hf0]
      have HF1 := Lib.hid hf1
      clear hc hpb hi hin hr1 hnx hf0 hf1 hfl
      go_wp2_with fail
      refine HC.out.mono ?_
      rintro e w1 ⟨rfl, k', rfl⟩
      rw [World.drewN_drewN]
      go_wp2
      go_roundw
      case rel => exact ⟨i + 1, _, by have := HI.out; omega, by first | rfl | rw [HIW.out], by rw [HF1.out]; first | rfl | rw [HSW.out], rfl⟩
      case measure => (try rw [HIW.out]); have := HI.out; simp [intOf]; omega
    · have e : i = n := by omega
      subst e
      have j1 : ¬ ((i : Int) < (i : Int)) := by omega
      rw [HALL.out]
      clear hi hin
      go_wp2
      go_ret
      exact ⟨rfl, _, rfl⟩

/-- Has the end to ask for the path i? -/
def En.asksP (E : En) (i : Nat) : Bool := decide (E.side = 0) && (E.pa i).up && !(E.pa i).jo
set_option maxHeartbeats 2000000 in
theorem eeasks_any {w : World} {L : Lab} {K b : Nat} {s : EeS} {E : En} (h : EE w L K b s E) (hok : E.ok) (i : Nat) (hi : i < E.ps.length) : Calls Tryz.prog 81 #[.pointer (some ⟨b, 0, none⟩), .int .i64 (i : Int)] w fun e w' => e = .returned (.bool (E.asksP i)) ∧ ∃ k, w' = w.drewN k := by
  obtain ⟨n, hn⟩ : ∃ n, E.ps.length = n := ⟨_, rfl⟩
  obtain ⟨g, c, hpv, c10, hg, _, _⟩ := h.look hn (i := i) (by omega)
  obtain ⟨q, hq⟩ := h
  have c7 : w.cell? ⟨b, 0 + 7, none⟩ = some (.int .i64 E.side) := hq.cell 7 (by omega)
  have y := hg i (by omega)
  have hu := paisup_any (hq.pth i hi)
  have hj := fun k => pajoined_any ((hq.drewN k).pth i hi)
  obtain ⟨pb, hpb⟩ : ∃ pb, s.pb.getD i 0 = pb := ⟨_, rfl⟩
  rw [hpb] at y hu hj
  have i1 : (i : Int) < (n : Int) := by omega
  have i2 : (0 : Int) ≤ (i : Int) := by omega
  have hs := hok.side
  have hD : E.asksP i = (decide (E.side = 0) && (E.pa i).up && !(E.pa i).jo) := rfl
  rw [hD]
  obtain ⟨sd, hsd⟩ : ∃ x, E.side = x := ⟨_, rfl⟩
  obtain ⟨u, hup⟩ : ∃ x, (E.pa i).up = x := ⟨_, rfl⟩
  obtain ⟨jo, hjo⟩ : ∃ x, (E.pa i).jo = x := ⟨_, rfl⟩
  rw [hsd] at c7 hs ⊢
  rw [hup] at hu ⊢
  rw [hjo] at hj ⊢
  have HU := Lib.hid hu
  have HJ := Lib.hid hj
  clear hq hpv hg hn hok hpb hu hj hD hsd hup hjo hi
  rcases hs with rfl | rfl
  · cases u
    · go_enter Tryz.func81, Tryz.ntmps81
      go_wp2_with fail
      refine HU.out.mono ?_
      rintro e w1 ⟨rfl, k, rfl⟩
      go_wp2
      go_ret
      exact ⟨rfl, _, rfl⟩
    · go_enter Tryz.func81, Tryz.ntmps81
      go_wp2_with fail
      refine HU.out.mono ?_
      rintro e w1 ⟨rfl, k, rfl⟩
      go_wp2_with fail
      refine (HJ.out k).mono ?_
      rintro e w2 ⟨rfl, k2, rfl⟩
      rw [World.drewN_drewN]
      cases jo
      · go_wp2
        go_ret
        exact ⟨rfl, _, rfl⟩
      · go_wp2
        go_ret
        exact ⟨rfl, _, rfl⟩
  · go_enter Tryz.func81, Tryz.ntmps81
    go_wp2
    go_ret
    exact ⟨by simp, 0, rfl⟩

set_option maxHeartbeats 4000000 in
theorem eeask_any {w : World} {L : Lab} {K b : Nat} {s : EeS} {E : En} (h : EE w L K b s E) (hK : K ≠ 0) (hok : E.ok) (i : Nat) (hi : i < E.ps.length) {N : Nat} (hc : E.cap N) (hN : N ≤ 274000000000) :
    Calls Tryz.prog 82 #[.pointer (some ⟨b, 0, none⟩), .int .i64 (i : Int)] w (EEnd w L K b s (E.join i)) := by
  have hfi := hok.pa hi
  have h3 := hok.np3
  have hbn := (Byt.nil w L).pkt (k := 1) (pa := (i : Int)) (nu := 0) (ofn := 0) (fr := 0) (se := 0) (li := 0) (fin := false) (by simp) (by simp) (by omega) (by omega) (by omega) (by omega) (by omega) (by omega) (by omega)
  have HSY := Lib.hid (eesay_any h hK hok i hi 1 0 0 0 [] false 0 0 none 0 hbn.1 ((Byt.nil w L).aps hK) (hbn.2.nu (by have := hfi.ok.s1; have := hfi.ok.s2; omega)) hc (by omega))
  have hkp := En.keep_say (E := E) i ⟨1, i, 0, 0, 0, [], false, 0, 0⟩
  have HQ := Lib.hid (And.intro hkp (And.intro hi (And.intro hok.nd (And.intro hok.n0 (And.intro hok.n1 (And.intro hok.c2 h3))))))
  simp only [List.length_nil] at HSY
  clear h hok hi hc hN hfi h3 hbn hkp
  go_enter Tryz.func82, Tryz.ntmps82
  go_wp2_with fail
  refine HSY.out.mono ?_
  rintro e w1 ⟨⟨x, y, rfl⟩, L1, ⟨q, hd⟩, ht⟩
  obtain ⟨hkp, hi, hnd, hn0, hn1, hc2, h3⟩ := HQ.out
  obtain ⟨E1, hE1⟩ : ∃ E1, E.say i ⟨1, i, 0, 0, 0, [], false, 0, 0⟩ = E1 := ⟨_, rfl⟩
  rw [hE1] at hd hkp
  obtain ⟨n, hn⟩ : ∃ n, E1.due.length = n := ⟨_, rfl⟩
  have hin : i < n := by rw [← hn, hkp.due, hnd]; exact hi
  have hn3 : n ≤ 3 := by rw [← hn, hkp.due, hnd]; exact h3
  have hdv : ∃ A c, s.dv = .slice A n c := by rw [← hn]; exact hd.p.dvr.form
  obtain ⟨A, c, hdv⟩ := hdv
  have hdr := (hd.drewN 1).p.dvr
  rw [hdv] at hdr
  obtain ⟨g, rfl, hcl⟩ : ∃ g, A = some ⟨g, 0, none⟩ ∧ (w1.drewN 1).cell? ⟨g, i, none⟩ = some (.int .i64 (E1.due.getD i 0)) := by
    obtain ⟨a, o, hA, hcl⟩ := hdr.rd.some_ (by rw [show E1.view.due = E1.due from rfl]; omega)
    obtain ⟨g, cap, cur, hv, _⟩ := hdr.2.resolve_left (fun e => by rw [hA] at e; cases e.1)
    injection hv with hv1 _ _
    have hv2 := hv1
    rw [hA] at hv1
    injection hv1 with hv1
    injection hv1 with e1 e2 _
    subst e1
    subst e2
    have := hcl i (by rw [show E1.view.due = E1.due from rfl]; omega)
    rw [Nat.zero_add] at this
    exact ⟨_, hv2, this⟩
  have hcl' : w1.drew.cell? ⟨g, i, none⟩ = some (.int .i64 (E1.due.getD i 0)) := hcl
  have c11 : w1.drew.cell? ⟨b, 0 + 11, none⟩ = some (.slice (some ⟨g, 0, none⟩) n c) := by rw [← hdv]; exact (hd.drewN 1).cell 11 (by omega)
  have c8 : w1.drew.cell? ⟨b, 0 + 8, none⟩ = some (.int .i64 E1.now) := (hd.drewN 1).cell 8 (by omega)
  have c5 : w1.drew.cell? ⟨b, 0 + 5, none⟩ = some (.int .i64 E1.c.first) := (hd.drewN 1).cell 5 (by omega)
  have hfz : w1.drew.frozen? ⟨g, i, none⟩ = false := World.ownsRow.frozenAt (xs := cel .i64 E1.due) (by have := hdr; unfold Own at this; rw [show E1.view.due = E1.due from rfl, hn] at this; exact this) i
  have hgl : L1 g = K + 2 := hd.p.dvl g (by rw [hdv]; rfl)
  have hgb : ¬ g = b := fun e => by have := hd.lb; rw [e] at hgl; omega
  have HW := Lib.hid (show IntKind.i64.wrap (E1.now + E1.c.first) = E1.now + E1.c.first from IntWalk.i64_in _ (by rw [hkp.now, hkp.c]; constructor <;> omega))
  have hst := hdr.stored (by exact hn) i (E1.now + E1.c.first)
  obtain ⟨hd2, ht2⟩ := (hd.drewN 1).turnD hK (w' := (w1.drewN 1).setCell ⟨g, i, none⟩ (.int .i64 (E1.now + E1.c.first))) (by rw [hdv]; exact hst) (by rw [hdv]; exact setCell_one _ g i _)
  have hE2 : E.join i = E1.setDue i (E1.now + E1.c.first) := by unfold En.join; rw [hE1, hkp.now, hkp.c]
  have HFIN := Lib.hid (show EEnd w L K b s (E.join i) (.returned (.tuple #[])) ((w1.drewN 1).setCell ⟨g, i, none⟩ (.int .i64 (E1.now + E1.c.first))) from ⟨rfl, _, by rw [hE2]; exact ⟨_, hd2⟩, (ht.trans (Tn.drewN w1 L1 1 _)).trans (ht2.mono (fun x hx => by subst hx; exact ⟨by omega, by omega⟩))⟩)
  have i1 : (i : Int) < (n : Int) := by omega
  have i2 : (0 : Int) ≤ (i : Int) := by omega
  have S0 := Lib.hid (show w1.drew.cell? ⟨b, 0 + 11, none⟩ = some (.slice (some ⟨g, 0, none⟩) n c) ∧ w1.drew.cell? ⟨b, 0 + 8, none⟩ = some (.int .i64 E1.now) ∧ w1.drew.cell? ⟨b, 0 + 5, none⟩ = some (.int .i64 E1.c.first) from ⟨c11, c8, c5⟩)
  clear hd ht hkp hi hnd hn0 hn1 hc2 hE1 hn hdv hdr hst hd2 ht2 hE2 hgl hcl HSY HQ c11 c8 c5 h3
  go_wp2_with fail
  refine wp_region_held_drew (S := fun wi => wi.cell? ⟨b, 0 + 11, none⟩ = some (.slice (some ⟨g, 0, none⟩) n c) ∧ wi.cell? ⟨b, 0 + 8, none⟩ = some (.int .i64 E1.now) ∧ wi.cell? ⟨b, 0 + 5, none⟩ = some (.int .i64 E1.c.first)) (by kernel_rfl) S0.out ?_
  intro hHeld
  refine wpAnyH_take (i := 0) (v := ?_) rfl (by kernel_rfl) (by kernel_rfl) (by kernel_rfl) (fun _ _ _ h => h) (Or.inl ⟨by rfl, ?_⟩) (by assumption) ?_
  rotate_left
  · intro w hSw
    (try dsimp only at hSw)
    go_simp
    try (with_reducible rfl)
  try simp only [Act.put, List.getElem_toArray, List.getElem_cons_zero, List.setIfInBounds_toArray, List.set_cons_zero, List.set_cons_succ]
  refine wpAnyH_take (i := 1) (v := ?_) rfl (by kernel_rfl) (by kernel_rfl) (by kernel_rfl) (fun _ _ _ h => h) (Or.inl ⟨by rfl, ?_⟩) (by assumption) ?_
  rotate_left
  · intro w hSw
    (try dsimp only at hSw)
    go_simp
    try (with_reducible rfl)
  try simp only [Act.put, List.getElem_toArray, List.getElem_cons_zero, List.getElem_cons_succ, List.setIfInBounds_toArray, List.set_cons_zero, List.set_cons_succ]
  refine wpAnyH_take (i := 2) (v := ?_) rfl (by kernel_rfl) (by kernel_rfl) (by kernel_rfl) (fun _ _ _ h => h) (Or.inl ⟨by rfl, ?_⟩) (by assumption) ?_
  rotate_left
  · intro w hSw
    (try dsimp only at hSw)
    go_simp
    try (with_reducible rfl)
  try simp only [Act.put, List.getElem_toArray, List.getElem_cons_zero, List.getElem_cons_succ, List.setIfInBounds_toArray, List.set_cons_zero, List.set_cons_succ]
  refine wpAnyH_take (i := 3) (v := ?_) rfl (by kernel_rfl) (by kernel_rfl) (by kernel_rfl) (fun _ _ _ h => h) (Or.inl ⟨by rfl, ?_⟩) (by assumption) ?_
  rotate_left
  · intro w hSw
    (try dsimp only at hSw)
    go_simp
    try (with_reducible rfl)
  try simp only [Act.put, List.getElem_toArray, List.getElem_cons_zero, List.getElem_cons_succ, List.setIfInBounds_toArray, List.set_cons_zero, List.set_cons_succ]
  refine wpAnyH_take (i := 4) (v := ?_) rfl (by kernel_rfl) (by kernel_rfl) (by kernel_rfl) (fun _ _ _ h => h) (Or.inl ⟨by rfl, ?_⟩) (by assumption) ?_
  rotate_left
  · intro w hSw
    (try dsimp only at hSw)
    go_simp
    try (with_reducible rfl)
  try simp only [Act.put, List.getElem_toArray, List.getElem_cons_zero, List.getElem_cons_succ, List.setIfInBounds_toArray, List.set_cons_zero, List.set_cons_succ]
  refine wpAnyH_take (i := 5) (v := ?_) rfl (by kernel_rfl) (by kernel_rfl) (by kernel_rfl) (fun _ _ _ h => h) (Or.inl ⟨by rfl, ?_⟩) (by assumption) ?_
  rotate_left
  · intro w hSw
    (try dsimp only at hSw)
    go_simp
    try (with_reducible rfl)
  try simp only [Act.put, List.getElem_toArray, List.getElem_cons_zero, List.getElem_cons_succ, List.setIfInBounds_toArray, List.set_cons_zero, List.set_cons_succ]
  refine wpAnyH_take (i := 6) (v := ?_) rfl (by kernel_rfl) (by kernel_rfl) (by kernel_rfl) (fun _ _ _ h => h) (Or.inl ⟨by rfl, ?_⟩) (by assumption) ?_
  rotate_left
  · intro w hSw
    (try dsimp only at hSw)
    go_simp
    try (with_reducible rfl)
  try simp only [Act.put, List.getElem_toArray, List.getElem_cons_zero, List.getElem_cons_succ, List.setIfInBounds_toArray, List.set_cons_zero, List.set_cons_succ]
  refine wpAnyH_take (i := 7) (v := ?_) rfl (by kernel_rfl) (by kernel_rfl) (by kernel_rfl) (fun _ _ _ h => h) (Or.inl ⟨by rfl, ?_⟩) (by assumption) ?_
  rotate_left
  · intro w hSw
    (try dsimp only at hSw)
    go_simp
    try (with_reducible rfl)
  try simp only [Act.put, List.getElem_toArray, List.getElem_cons_zero, List.getElem_cons_succ, List.setIfInBounds_toArray, List.set_cons_zero, List.set_cons_succ]
  refine wpAnyH_take (i := 8) (v := ?_) rfl (by kernel_rfl) (by kernel_rfl) (by kernel_rfl) (fun _ _ _ h => h) (Or.inl ⟨by rfl, ?_⟩) (by assumption) ?_
  rotate_left
  · intro w hSw
    (try dsimp only at hSw)
    go_simp
    try (with_reducible rfl)
  try simp only [Act.put, List.getElem_toArray, List.getElem_cons_zero, List.getElem_cons_succ, List.setIfInBounds_toArray, List.set_cons_zero, List.set_cons_succ]
  refine wpAnyH_take (i := 9) (v := ?_) rfl (by kernel_rfl) (by kernel_rfl) (by kernel_rfl) (fun _ _ _ h => h) (Or.inl ⟨by rfl, ?_⟩) (by assumption) ?_
  rotate_left
  · intro w hSw
    (try dsimp only at hSw)
    go_simp
    try (with_reducible rfl)
  try simp only [Act.put, List.getElem_toArray, List.getElem_cons_zero, List.getElem_cons_succ, List.setIfInBounds_toArray, List.set_cons_zero, List.set_cons_succ]
  refine wpAnyH_take (i := 10) (v := ?_) rfl (by kernel_rfl) (by kernel_rfl) (by kernel_rfl) (fun _ _ _ h => h) (Or.inl ⟨by rfl, ?_⟩) (by assumption) ?_
  rotate_left
  · intro w hSw
    (try dsimp only at hSw)
    go_simp
    try (with_reducible rfl)
  try simp only [Act.put, List.getElem_toArray, List.getElem_cons_zero, List.getElem_cons_succ, List.setIfInBounds_toArray, List.set_cons_zero, List.set_cons_succ]
  refine wpAnyH_take (i := 11) (v := ?_) rfl (by kernel_rfl) (by kernel_rfl) (by kernel_rfl) (fun _ _ _ h => h) (Or.inl ⟨by rfl, ?_⟩) (by assumption) ?_
  rotate_left
  · intro w hSw
    (try dsimp only at hSw)
    go_simp
    try (with_reducible rfl)
  try simp only [Act.put, List.getElem_toArray, List.getElem_cons_zero, List.getElem_cons_succ, List.setIfInBounds_toArray, List.set_cons_zero, List.set_cons_succ]
  refine wpAnyH_take (i := 12) (v := ?_) rfl (by kernel_rfl) (by kernel_rfl) (by kernel_rfl) (fun _ _ _ h => h) (Or.inl ⟨by rfl, ?_⟩) (by assumption) ?_
  rotate_left
  · intro w hSw
    (try dsimp only at hSw)
    go_simp
    try (with_reducible rfl)
  try simp only [Act.put, List.getElem_toArray, List.getElem_cons_zero, List.getElem_cons_succ, List.setIfInBounds_toArray, List.set_cons_zero, List.set_cons_succ]
  refine wpAnyH_take (i := 13) (v := ?_) rfl (by kernel_rfl) (by kernel_rfl) (by kernel_rfl) (fun _ _ _ h => h) (Or.inl ⟨by rfl, ?_⟩) (by assumption) ?_
  rotate_left
  · intro w hSw
    (try dsimp only at hSw)
    go_simp
    try (with_reducible rfl)
  try simp only [Act.put, List.getElem_toArray, List.getElem_cons_zero, List.getElem_cons_succ, List.setIfInBounds_toArray, List.set_cons_zero, List.set_cons_succ]
  refine wpAnyH_take (i := 14) (v := ?_) rfl (by kernel_rfl) (by kernel_rfl) (by kernel_rfl) (fun _ _ _ h => h) (Or.inl ⟨by rfl, ?_⟩) (by assumption) ?_
  rotate_left
  · intro w hSw
    (try dsimp only at hSw)
    go_simp
    try (with_reducible rfl)
  try simp only [Act.put, List.getElem_toArray, List.getElem_cons_zero, List.getElem_cons_succ, List.setIfInBounds_toArray, List.set_cons_zero, List.set_cons_succ]
  refine wpAnyH_take (i := 15) (v := ?_) rfl (by kernel_rfl) (by kernel_rfl) (by kernel_rfl) (fun _ _ _ h => h) (Or.inl ⟨by rfl, ?_⟩) (by assumption) ?_
  rotate_left
  · intro w hSw
    (try dsimp only at hSw)
    go_simp
    try (with_reducible rfl)
  try simp only [Act.put, List.getElem_toArray, List.getElem_cons_zero, List.getElem_cons_succ, List.setIfInBounds_toArray, List.set_cons_zero, List.set_cons_succ]
  refine wpAnyH_ready (rs := [16]) (by kernel_rfl) (by simp) ?_
  refine AllReadyH.cons rfl (fun K hK => ?_) AllReadyH.nil
  go_simp
  try rw [HW.out]
  refine hK.out _ _ (by obtain ⟨s1, s2, s3⟩ := S0.out; refine ⟨?_, ?_, ?_⟩ <;> go_simp <;> assumption) (fun hHeld2 => ?_)
  clear hK K hHeld
  have hHeld := hHeld2
  clear hHeld2
  try simp only [Act.put, List.getElem_toArray, List.getElem_cons_zero, List.getElem_cons_succ, List.setIfInBounds_toArray, List.set_cons_zero, List.set_cons_succ]
  refine wpAnyH_done (by kernel_rfl) ?_ _
  clear hHeld
  go_wp2
  go_end0
  exact HFIN.out
end Go.Proofs.YtpjlnpnadkbakaaGreat

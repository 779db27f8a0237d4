/-
  PrEn8.
-/
import Derived.Test.YtpjlnpnadkbakaaGreatQEcPrEn7
namespace Go.Proofs.YtpjlnpnadkbakaaGreat
set_option maxRecDepth 10000
open Go.RowKit

/-- Where the probing stands: the first j of those that are chosen have been asked over. -/
def EePb (w : World) (L : Lab) (K b : Nat) (s : EeS) (E : En) (C : List Int) (v : Value) (N1 : Nat) (j : Nat) (wr : World) : Prop :=
  ∃ L2 : Lab, EE wr L2 K b s (E.probes (C.take j)) ∧ Tn w wr L L2 (Es K) ∧ Own .i64 3 wr 0 v C ∧ OfV L2 0 v ∧ (E.probes (C.take j)).ok ∧ (E.probes (C.take j)).cap (N1 + 66 * j)
set_option maxHeartbeats 4000000 in
theorem eeprobe_any {w : World} {L : Lab} {K b : Nat} {s : EeS} {E : En} (h : EE w L K b s E) (hK : K ≠ 0) (hok : E.ok) {N : Nat} (hc : E.cap N) (hN : N ≤ 274000000000) :
    Calls Tryz.prog 86 #[.pointer (some ⟨b, 0, none⟩)] w (EEnd w L K b s (E.choose.probes E.chosen)) := by
  obtain ⟨q, hq⟩ := h
  have c13 : w.cell? ⟨b, 0 + 13, none⟩ = some (.pointer (some ⟨s.ob, 0, none⟩)) := hq.cell 13 (by omega)
  have hak := acked_any hq.p.out
  have HAK := Lib.hid (show Calls Tryz.prog 78 #[.pointer (some ⟨s.ob, 0, none⟩)] w fun e w' => e = .returned (.int .i64 E.o.ak) ∧ w = w' from hak)
  have HCH := Lib.hid (eechoose_any ⟨q, hq⟩ hK hok)
  have hcl3 : E.chosen.length ≤ 3 := Nat.le_trans En.chosen_len hok.np3
  have hchi : ∀ x ∈ E.chosen, ∃ i : Nat, x = (i : Int) ∧ i < E.choose.ps.length := fun x hx => by
    obtain ⟨i, h1, h2⟩ := En.chosen_in x hx
    exact ⟨i, h1, by rw [(En.choose_keep (E := E)).1]; exact h2⟩
  have hoo : E.choose.o = E.o := (En.choose_keep (E := E)).2.2.1
  have hapl := hok.ap
  have hspl := hok.sp
  have hol := hok.o.l
  have hoa := hok.o.a1
  have HQ := Lib.hid (And.intro hok.choose (And.intro hc.choose (And.intro hchi (And.intro hcl3 (And.intro hoo (show 0 ≤ E.o.ak ∧ E.o.ak ≤ 8192 by simp only [Ou.places] at hspl; split at hspl <;> omega))))))
  obtain ⟨ak, hAK⟩ : ∃ x, E.o.ak = x := ⟨_, rfl⟩
  rw [hAK] at HAK
  have HA := Lib.hid hAK
  clear hq hak hok hc hcl3 hchi hoo hapl hspl hol hoa hAK
  go_enter Tryz.func86, Tryz.ntmps86
  go_wp2_with fail
  refine HAK.out.mono ?_
  rintro e w1 ⟨rfl, rfl⟩
  clear c13
  go_wp2_with fail
  refine HCH.out.mono ?_
  rintro e w4 ⟨A3, n3, c3, rfl, hn3, L4, hown, hlab, hd4, ht4⟩
  obtain ⟨hok2, hc2, hchi, hcl3, hoo, hakr⟩ := HQ.out
  have hn3' : n3 ≤ 3 := by rw [← hn3]; exact hcl3
  have HD0 := Lib.hid (show EePb w L K b s E.choose E.chosen (.slice A3 n3 c3) N 0 w4 from ⟨L4, hd4, ht4, hown, hlab, hok2, hc2⟩)
  have HN3 := Lib.hid (And.intro hn3 hn3')
  clear hok2 hc2 hchi hcl3 hoo hakr hn3 hn3' hown hlab hd4 ht4 HCH HAK
  go_wp2_with fail
  go_loopw [13] (fun iv wv => ∃ j : Nat, j ≤ n3 ∧ iv = .int .i64 j ∧ Hid (EePb w L K b s E.choose E.chosen (.slice A3 n3 c3) N j wv)) (fun iv _ => n3 - (intOf iv).toNat)
  case atStart => exact ⟨0, by omega, rfl, HD0⟩
  case round =>
    clear HD0
    obtain ⟨j, hj, rfl, hmid⟩ := hrel
    by_cases hjn : j < n3
    · obtain ⟨L5, hd, ht, hown, hlab, hok, hcap⟩ := hmid.out
      obtain ⟨hok2, hc2, hchi, hcl3, hoo, hakr⟩ := HQ.out
      obtain ⟨hn3, hn3'⟩ := HN3.out
      have hjc : j < E.chosen.length := by omega
      obtain ⟨i, hi1, hi2⟩ := hchi (E.chosen.getD j 0) (by simp [List.getD, hjc])
      have hkp := En.keep_probes (E.chosen.take j) E.choose
      have hnx : E.choose.probes (E.chosen.take (j + 1)) = (E.choose.probes (E.chosen.take j)).probe1 (i : Int) := by
        rw [List.take_succ_eq_append_getElem hjc, En.probes_snoc]
        congr 1
        rw [← hi1]
        simp [List.getD, hjc]
      have hil : i < (E.choose.probes (E.chosen.take j)).ps.length := by rw [hkp.len]; exact hi2
      have hdt : (E.choose.probes (E.chosen.take j)).probe1 (i : Int) = (E.choose.probes (E.chosen.take j)).sayOut i ⟨3, (i : Int), 0, 0, ak, [], false, 0, 0⟩ ak ak := by
        unfold En.probe1 En.probeP
        rw [hkp.o, hoo, HA.out]
        rfl
      rw [HA.out] at hakr
      obtain ⟨hpa, hpb⟩ := (Byt.nil wr L5).pkt (k := 3) (pa := (i : Int)) (nu := 0) (ofn := 0) (fr := ak) (se := 0) (li := 0) (fin := false) (by simp) (by simp) (by omega) (by have := hok.np3; omega) (by omega) (by omega) (by omega) (by omega) (by omega)
      have hsn := hok.pa hil
      have hsend := eesend_any hd hK hok i hil 3 0 0 ak [] false 0 0 ak none 0 hpa ((Byt.nil wr L5).aps hK) (hpb.nu (by have := hsn.ok.s1; have := hsn.ok.s2; omega)) hcap (by omega)
      simp only [List.length_nil] at hsend
      have HDA := Lib.hid hsend
      have hok' : ((E.choose.probes (E.chosen.take j)).probe1 (i : Int)).ok := hok.probe1 hil
      have hcap' := hcap.probe1 (i : Int)
      obtain ⟨g, off, rfl, hcl⟩ := hown.rd.some_ (by omega)
      have y := hcl j hjc
      rw [hi1] at y
      have HNX := Lib.hid (And.intro hnx (And.intro hdt (And.intro hok' hcap')))
      have HOW := Lib.hid (And.intro ht (And.intro hown hlab))
      have j1 : (j : Int) < (n3 : Int) := by omega
      have j2 : (0 : Int) ≤ (j : Int) := by omega
      have HJ := Lib.hid hjn
      have HJW := Lib.hid (show wrap64 ((j : Int) + 1) = ((j + 1 : Nat) : Int) from wrap_atS (by omega) (by omega) (by omega))
      clear hd ht hown hlab hok hcap hok2 hc2 hchi hcl3 hoo hakr hn3 hjc hi1 hi2 hkp hnx hdt hpa hpb hsn hsend hil hok' hcap' hcl hmid hj hjn
      go_wp2_with fail
      refine HDA.out.mono ?_
      rintro e w5 ⟨rfl, L6, hd5, ht5⟩
      obtain ⟨hnx, hdt, hok', hcap'⟩ := HNX.out
      obtain ⟨ht, hown, hlab⟩ := HOW.out
      have HMID := Lib.hid (show EePb w L K b s E.choose E.chosen (.slice (some ⟨g, off, none⟩) n3 c3) N (j + 1) w5 from ⟨L6, by rw [hnx, hdt]; exact hd5, ht.trans ht5, ht5.own hown hlab (by unfold Es; omega), hlab.keep ht5 (own_lt hown), by rw [hnx]; exact hok', by rw [hnx]; exact hcap'.mono (by omega)⟩)
      clear hnx hdt hok' hcap' ht hown hlab hd5 ht5 HDA HNX HOW y
      go_wp2
      go_roundw
      case rel => exact ⟨j + 1, by have := HJ.out; omega, by first | rfl | rw [HJW.out], HMID⟩
      case measure => (try rw [HJW.out]); have := HJ.out; simp [intOf]; omega
    · have e : j = n3 := by omega
      subst e
      obtain ⟨L5, hd, ht, hown, hlab, hok, hcap⟩ := hmid.out
      rw [List.take_of_length_le (by have := HN3.out.1; omega)] at hd
      have HFIN := Lib.hid (show EEnd w L K b s (E.choose.probes E.chosen) (.returned (.tuple #[])) wr from ⟨rfl, L5, hd, ht⟩)
      have j1 : ¬ ((j : Int) < (j : Int)) := by omega
      clear hd ht hown hlab hok hcap hmid hj hjn HQ HN3 HA
      go_wp2
      go_end0
      exact HFIN.out

set_option maxHeartbeats 1000000 in
theorem eehas_any {w : World} {L : Lab} {K b : Nat} {s : EeS} {E : En} (h : EE w L K b s E) (hok : E.ok) (i : Int) : Calls Tryz.prog 94 #[.pointer (some ⟨b, 0, none⟩), .int .i64 i] w fun e w' => e = .returned (.bool (E.there i)) ∧ w = w' := by
  obtain ⟨n, hn⟩ : ∃ n, E.ps.length = n := ⟨_, rfl⟩
  have hn1 := hok.np1
  obtain ⟨g, c, hpv, c10, hg, _, _⟩ := h.look hn (i := 0) (by omega)
  have hE : E.there i = (decide (0 ≤ i) && decide (i < (n : Int))) := by unfold En.there; rw [hn]
  rw [hE]
  clear hpv hg hok hn1 h hE hn
  by_cases h0 : 0 ≤ i
  · have h0' : decide (0 ≤ i) = true := decide_eq_true h0
    by_cases h1 : i < (n : Int)
    · have h1' : decide (i < (n : Int)) = true := decide_eq_true h1
      rw [h0', h1']
      go_enter Tryz.func94, Tryz.ntmps94
      go_wp2
      go_ret
      exact ⟨rfl, rfl⟩
    · have h1' : decide (i < (n : Int)) = false := decide_eq_false h1
      rw [h0', h1']
      go_enter Tryz.func94, Tryz.ntmps94
      go_wp2
      go_ret
      exact ⟨rfl, rfl⟩
  · have h0' : decide (0 ≤ i) = false := decide_eq_false h0
    rw [h0']
    go_enter Tryz.func94, Tryz.ntmps94
    go_wp2
    go_ret
    exact ⟨by simp, rfl⟩

/-- What a step answers and leaves. -/
def EeAns (w : World) (L : Lab) (K b : Nat) (s : EeS) (E : En) (v : Value) (e : Ending) (w' : World) : Prop := e = .returned v ∧ ∃ L', EE w' L' K b s E ∧ Tn w w' L L' (Es K)
/-- note, of an event without a packet. -/
theorem eenote_plain {w : World} {L : Lab} {K b : Nat} {s : EeS} {E : En} (h : EE w L K b s E) (hK : K ≠ 0) (k n : Int) (xs : List Int) (A : Option Addr) (m c : Nat) (hm : xs.length = m) (hr : Rd .u8 w A xs) (hmc : m ≤ c) (hnil : A = none → c = 0) (hxb : ∀ x ∈ xs, 0 ≤ x ∧ x < 256) (hxl : m ≤ 4096) (h1 : 0 ≤ k ∧ k ≤ 8 ∧ k ≠ 5) (h2 : -4611686018427387904 ≤ n ∧ n ≤ 4611686018427387904) {N : Nat} (hc : E.cap N) (hN : N ≤ 274000000000) :
    Calls Tryz.prog 65 #[.pointer (some ⟨b, 0, none⟩), .agg #[.int .i64 k, .int .i64 n, .slice A m c, .int .i64 0, .int .i64 0, .int .i64 0, .int .i64 0, .int .i64 0, .slice none 0 0, .bool false, .int .i64 0, .int .i64 0]] w (EEnd w L K b s (E.note ⟨k, n, xs, Pkt.zero⟩)) := by
  subst hm
  rw [← En.noteS_in (E := E) (x := ⟨k, n, xs, Pkt.zero⟩) h1.2.2]
  exact eenote_any h hK ⟨k, n, xs, Pkt.zero⟩ A c none 0 ⟨hr, by show xs.length ≤ _; omega, hmc, hnil, hxb, by show _ ≤ k ∧ k ≤ _; omega, by show _ ≤ n ∧ n ≤ _; omega, PktAt.zero w⟩ ⟨hxb, hxl, by show _ ≤ k ∧ k ≤ _; omega, by show _ ≤ n ∧ n ≤ _; omega, PkB.zero⟩ hc (by omega)

set_option maxHeartbeats 2000000 in
theorem eeclose_any {w : World} {L : Lab} {K b : Nat} {s : EeS} {E : En} (h : EE w L K b s E) (hK : K ≠ 0) (hok : E.ok) {N : Nat} (hc : E.cap N) (hN : N ≤ 273000000000) :
    Calls Tryz.prog 21 #[.pointer (some ⟨b, 0, none⟩)] w (EeAns w L K b s E.close (.bool (!E.o.cl))) := by
  obtain ⟨q, h⟩ := h
  have c13 : w.cell? ⟨b, 0 + 13, none⟩ = some (.pointer (some ⟨s.ob, 0, none⟩)) := h.cell 13 (by omega)
  have HCL := Lib.hid (close_any h.p.out)
  have hev : E.view.o = E.o := rfl
  rw [hev] at HCL
  obtain ⟨cl, hcl⟩ : ∃ cl, E.o.cl = cl := ⟨_, rfl⟩
  have HQ := Lib.hid (And.intro h (And.intro hok (And.intro hc hcl)))
  rw [hcl] at HCL ⊢
  clear h hok hc hcl hev
  go_enter Tryz.func21, Tryz.ntmps21
  go_wp2_with fail
  refine HCL.out.mono ?_
  rintro e w1 ⟨rfl, ho, hg⟩
  obtain ⟨h, hok, hc, hcl⟩ := HQ.out
  obtain ⟨h1, ht1⟩ := h.turnO hK ho (sc_p hg)
  have ht1 := ht1.mono (S' := Es K) (fun x hx => by subst hx; exact ⟨by omega, by omega⟩)
  obtain ⟨L1, hL1⟩ : ∃ L1, relab L w.heap.size (K + 3) = L1 := ⟨_, rfl⟩
  rw [hL1] at h1 ht1
  cases cl
  · have hok1 := hok.shutO
    have hc1 : (E.setO E.o.shut).cap N := hc.of_eq rfl rfl rfl
    have hE : E.close = ((E.setO E.o.shut).note ⟨6, 0, [], Pkt.zero⟩).pump := by unfold En.close; rw [hcl]; rfl
    have HEV := Lib.hid (eenote_plain ⟨_, h1⟩ hK 6 0 [] none 0 0 rfl (.inl rfl) (by omega) (fun _ => rfl) (by simp) (by omega) (by omega) (by omega) hc1 (by omega))
    have HQ2 := Lib.hid (And.intro ht1 (And.intro (hok1.note ⟨6, 0, [], Pkt.zero⟩) (And.intro (hc1.note ⟨6, 0, [], Pkt.zero⟩) hE)))
    clear h h1 ht1 hok hok1 hc hc1 hE hcl ho hg hL1 HQ HCL c13
    go_wp2_with fail
    refine HEV.out.mono ?_
    rintro e w2 ⟨rfl, L2, h2, ht2⟩
    obtain ⟨ht1, hok2, hc2, hE⟩ := HQ2.out
    have HPU := Lib.hid (eepump_any h2 hK hok2 hc2 (by omega))
    have HT := Lib.hid (And.intro (ht1.trans ht2) hE)
    clear ht1 hok2 hc2 hE h2 ht2 HEV HQ2
    go_wp2_with fail
    refine HPU.out.mono ?_
    rintro e w3 ⟨rfl, L3, h3, ht3⟩
    have HFIN := Lib.hid (show EeAns w L K b s E.close (.bool true) (.returned (.bool true)) w3 from ⟨rfl, L3, by rw [HT.out.2]; exact h3, HT.out.1.trans ht3⟩)
    clear h3 ht3 HPU HT
    go_wp2
    go_ret
    exact HFIN.out
  · have hE : E.close = E := by unfold En.close; rw [hcl]; rfl
    have hE2 : E.setO E.o.shut = E := by
      unfold En.setO Ou.shut
      rw [← hcl]
    have HFIN := Lib.hid (show EeAns w L K b s E.close (.bool false) (.returned (.bool false)) w1 from ⟨rfl, L1, by rw [hE]; rw [hE2] at h1; exact ⟨_, h1⟩, ht1⟩)
    clear h hok hc hE hcl h1 ht1 ho hg hL1 hE2 HQ HCL c13
    go_wp2
    go_ret
    exact HFIN.out

set_option maxHeartbeats 2000000 in
theorem eewrite_any {w : World} {L : Lab} {K b : Nat} {s : EeS} {E : En} (h : EE w L K b s E) (hK : K ≠ 0) (hok : E.ok) (A : Option Addr) (m c : Nat) (ys : List Int) (hm : ys.length = m) (hr : Rd .u8 w A ys) (hle : m ≤ c) (hm2 : m ≤ 4611686018427387904) (hnil : A = none → c = 0) (hyb : ∀ x ∈ ys, 0 ≤ x ∧ x < 256) (hap : ∀ a, A = some a → ¬ Es K (L a.block)) {N : Nat} (hc : E.cap N) (hN : N ≤ 273000000000) :
    Calls Tryz.prog 18 #[.pointer (some ⟨b, 0, none⟩), .slice A m c] w (EeAns w L K b s (E.write ys) (.int .i64 (E.takes ys : Int))) := by
  obtain ⟨q, h⟩ := h
  have c13 : w.cell? ⟨b, 0 + 13, none⟩ = some (.pointer (some ⟨s.ob, 0, none⟩)) := h.cell 13 (by omega)
  obtain ⟨k, hk⟩ : ∃ k, E.takes ys = k := ⟨_, rfl⟩
  have hkr := En.takes_eq hok ys
  have hkl := En.takes_le (E := E) ys
  rw [hk] at hkr hkl
  have hrr := Ou.room_range hok.o
  have HW := Lib.hid (show Calls Tryz.prog 64 #[.pointer (some ⟨s.ob, 0, none⟩), .slice A m c] w (WriteEnd w 0 s.ob q.ov E.o k ys) from write_any h.p.out A m c ys hm hr hle (by omega) k (by rw [← hm]; exact hkr))
  have hsl := fun W => slice_h A m c k (by omega) W
  have HQ := Lib.hid (And.intro h (And.intro hok (And.intro hc (And.intro hr (And.intro hap (And.intro hyb (And.intro hk hnil)))))))
  have HKL := Lib.hid (show k ≤ ys.length ∧ k ≤ 401 ∧ m = ys.length ∧ k ≤ c by omega)
  have hkm : (k : Int) ≤ (m : Int) := by omega
  have hk0 : (0 : Int) ≤ (k : Int) := by omega
  have hkc : k ≤ c := by omega
  rw [hk]
  clear h hok hc hr hap hyb hm hkr hrr hkl hk hnil
  go_enter Tryz.func18, Tryz.ntmps18
  go_wp2_with fail
  refine HW.out.mono ?_
  rintro e w1 ⟨v', rfl, ho, hsc⟩
  obtain ⟨h, hok, hc, hr, hap, hyb, hk, hnil⟩ := HQ.out
  obtain ⟨h1, ht1⟩ := h.turnO hK ho hsc
  have ht1 := ht1.mono (S' := Es K) (fun x hx => by subst hx; exact ⟨by omega, by omega⟩)
  have hok1 := hok.moreO hyb
  rw [hk] at hok1
  have hc1 : (E.setO (E.o.more (ys.take k))).cap N := hc.of_eq rfl rfl rfl
  obtain ⟨L1, hL1⟩ : ∃ L1, relab L w.heap.size (K + 3) = L1 := ⟨_, rfl⟩
  rw [hL1] at h1 ht1
  by_cases hk1 : 0 < k
  · have hr1 : Rd .u8 w1 A ys := rd_trn hr ht1.trn hap
    have hrt := hr1.take k
    have hlk : (ys.take k).length = k := by rw [List.length_take]; have := HKL.out; omega
    have HEV := Lib.hid (eenote_plain ⟨_, h1⟩ hK 1 0 (ys.take k) A k c hlk hrt (by have := HKL.out; omega) hnil (fun x hx => hyb x (List.mem_of_mem_take hx)) (by have := HKL.out; omega) (by omega) (by omega) hc1 (by omega))
    obtain ⟨E1, hE1⟩ : ∃ E1, (E.setO (E.o.more (ys.take k))).note ⟨1, 0, ys.take k, Pkt.zero⟩ = E1 := ⟨_, rfl⟩
    have hok2 := hok1.note ⟨1, 0, ys.take k, Pkt.zero⟩
    have hc2 := hc1.note ⟨1, 0, ys.take k, Pkt.zero⟩
    rw [hE1] at hok2 hc2 HEV
    have hE : E.write ys = (E1.count 5 (k : Int)).pump := by unfold En.write; rw [hk, if_pos hk1, hE1]
    have HT := Lib.hid (And.intro ht1 (And.intro hok2 (And.intro hc2 hE)))
    have i1 : ((k : Int) == 0) = false := by simp; omega
    have i2 : ¬ (k : Int) = 0 := by omega
    clear h hok hc hr hap hyb hk hnil h1 ht1 hok1 hc1 hr1 hrt hlk hE1 hok2 hc2 hE ho hsc HQ HW hL1 c13 hk1
    go_wp2_with fail
    refine HEV.out.mono ?_
    rintro e w3 ⟨rfl, L3, h3, ht3⟩
    obtain ⟨ht2, hok2, hc2, hE⟩ := HT.out
    have c18 := h3.c18
    have HAD := Lib.hid (eecount_any h3 hK 5 (by omega) (k : Int) (by omega) (by have := HKL.out; omega) hc2 (by omega) 5 rfl)
    have HT2 := Lib.hid (And.intro (ht2.trans ht3) (And.intro (hok2.count 5 (k : Int)) (And.intro (hc2.count 5 (n := (k : Int)) (k := 401) (by omega) (by have := HKL.out; omega)) hE)))
    clear ht2 hok2 hc2 hE h3 ht3 HEV HT
    go_wp2_with fail
    clear c18
    refine HAD.out.mono ?_
    rintro e w4 ⟨⟨z, rfl⟩, L4, h4, ht4⟩
    obtain ⟨ht2, hok2, hc2, hE⟩ := HT2.out
    have HPU := Lib.hid (eepump_any h4 hK hok2 hc2 (by omega))
    have HT4 := Lib.hid (And.intro (ht2.trans ht4) hE)
    clear ht2 hok2 hc2 hE h4 ht4 HAD HT2
    go_wp2_with fail
    refine HPU.out.mono ?_
    rintro e w5 ⟨rfl, L5, h5, ht5⟩
    have HFIN := Lib.hid (show EeAns w L K b s (E.write ys) (.int .i64 (k : Int)) (.returned (.int .i64 (k : Int))) w5 from ⟨rfl, L5, by rw [HT4.out.2]; exact h5, HT4.out.1.trans ht5⟩)
    clear h5 ht5 HPU HT4
    go_wp2
    go_ret
    exact HFIN.out
  · have hk00 : k = 0 := by omega
    subst hk00
    have hE : E.write ys = E.setO (E.o.more (ys.take 0)) := by unfold En.write; rw [hk, if_neg hk1]
    have HFIN := Lib.hid (show EeAns w L K b s (E.write ys) (.int .i64 ((0 : Nat) : Int)) (.returned (.int .i64 0)) w1 from ⟨rfl, L1, by rw [hE]; exact ⟨_, h1⟩, ht1⟩)
    clear h hok hc hr hap hyb hk hnil h1 ht1 hok1 hc1 hE ho hsc HQ HW hL1 c13 hk1
    go_wp2
    go_ret
    exact HFIN.out

/-- What a Read answers and leaves: the bytes, in a row that nobody stores into. -/
def EeRd (w : World) (L : Lab) (K b : Nat) (s : EeS) (E : En) (n : Int) (e : Ending) (w' : World) : Prop :=
  ∃ A c, e = .returned (.slice A (E.i.many n) c) ∧ ∃ L', Byt w' L' A c (E.readN n) ∧ EE w' L' K b s (E.read n) ∧ Tn w w' L L' (Es K)
theorem byt_nilR {w : World} {L : Lab} {E : En} {n : Int} (h : E.readN n = []) : Byt w L none 0 (E.readN n) := by rw [h]; exact Byt.nil w L
set_option maxHeartbeats 2000000 in
theorem eeread_any {w : World} {L : Lab} {K b : Nat} {s : EeS} {E : En} (h : EE w L K b s E) (hK : K ≠ 0) (hok : E.ok) (n : Int) {N : Nat} (hc : E.cap N) (hN : N ≤ 273000000000) :
    Calls Tryz.prog 30 #[.pointer (some ⟨b, 0, none⟩), .int .i64 n] w (EeRd w L K b s E n) := by
  obtain ⟨q, h⟩ := h
  have c15 : w.cell? ⟨b, 0 + 15, none⟩ = some (.pointer (some ⟨s.ib, 0, none⟩)) := h.cell 15 (by omega)
  obtain ⟨xs, ps, hi⟩ := h.p.inb
  have hmn := En.readN_len hok n
  have hml := In.many_le hok.i n
  have hmr := En.ready_le hok
  obtain ⟨k, hk⟩ : ∃ k, E.i.many n = k := ⟨_, rfl⟩
  rw [hk] at hml hmn
  have HRD := Lib.hid (ibread_any hi n E.i.front (In.front_is hok.i) k hml.1 (by have := En.front_4096 hok; omega))
  have HQ := Lib.hid (And.intro h (And.intro hok (And.intro hc hk)))
  have HKL := Lib.hid (show k ≤ 4096 ∧ (E.readN n).length = k by omega)
  clear h hok hc hi hk hmn hml hmr
  go_enter Tryz.func30, Tryz.ntmps30
  go_wp2_with fail
  refine HRD.out.mono ?_
  rintro e w1 ⟨A1, c1, l, rfl, ho, hrd, hdi, hsc⟩
  obtain ⟨h, hok, hc, hk⟩ := HQ.out
  obtain ⟨h1, ht1⟩ := h.turnI hK 0 hdi hsc (.inr rfl)
  have ht1 := ht1.mono (S' := Es K) (fun x hx => by subst hx; exact ⟨by omega, by omega⟩)
  have hl : l = E.readN n := by
    have := In.next_is hok.i (k := k) (by rw [← hk]; exact (In.many_le hok.i n).2)
    unfold En.readN
    rw [hk]
    exact hrd.eq this
  subst hl
  have hok1 := hok.readI n
  have hc1 : (E.setI (E.i.read (E.i.many n))).cap N := hc.of_eq rfl rfl rfl
  rw [hk] at hok1 hc1
  obtain ⟨Ei, hEi⟩ : ∃ Ei, E.setI (E.i.read k) = Ei := ⟨_, rfl⟩
  rw [show E.setI (E.view.i.read k) = Ei from hEi] at h1
  rw [hEi] at hok1 hc1
  have hbyR := En.readN_by hok n
  have hby1 : Byt w1 (relab L w.heap.size 0) A1 c1 (E.readN n) := ⟨by rw [HKL.out.2]; exact ho.less (Nat.zero_le _), OfV.new (by rw [HKL.out.2]; exact fun g hg => (ho.lt g hg).1)⟩
  obtain ⟨L1, hL1⟩ : ∃ L1, relab L w.heap.size 0 = L1 := ⟨_, rfl⟩
  rw [hL1] at h1 ht1 hby1
  have hkm := HKL.out
  by_cases hk1 : 0 < k
  · have hcap := ho.cap
    have hnl := fun e => (ho.none_len e).1
    have HEV := Lib.hid (eenote_plain ⟨_, h1⟩ hK 2 0 (E.readN n) A1 k c1 HKL.out.2 ho.rd hcap hnl hbyR (by omega) (by omega) (by omega) hc1 (by omega))
    obtain ⟨E1, hE1⟩ : ∃ E1, Ei.note ⟨2, 0, E.readN n, Pkt.zero⟩ = E1 := ⟨_, rfl⟩
    have hc2 := hc1.note ⟨2, 0, E.readN n, Pkt.zero⟩
    rw [hE1] at hc2 HEV
    have hE : E.read n = E1.count 6 (k : Int) := by unfold En.read; rw [hk, if_pos hk1, hEi, hE1]
    have HT := Lib.hid (And.intro ht1 (And.intro hc2 (And.intro hE hby1)))
    have HKK := Lib.hid hk
    have i1 : ((k : Int) == 0) = false := by simp; omega
    have i2 : ¬ (k : Int) = 0 := by omega
    clear h hok hc hk h1 ht1 hok1 hc1 ho hrd hdi hsc hE1 hc2 hE hEi hbyR hby1 hL1 hkm hcap hnl HRD HQ c15 hk1
    go_wp2_with fail
    refine HEV.out.mono ?_
    rintro e w3 ⟨rfl, L3, h3, ht3⟩
    obtain ⟨ht2, hc2, hE, hby2⟩ := HT.out
    have c18 := h3.c18
    have HAD := Lib.hid (eecount_any h3 hK 6 (by omega) (k : Int) (by omega) (by have := HKL.out; omega) hc2 (by omega) 6 rfl)
    have HT2 := Lib.hid (And.intro (ht2.trans ht3) (And.intro hE (hby2.keep ht3 (by unfold Es; omega))))
    clear ht2 hc2 hE hby2 h3 ht3 HEV HT
    go_wp2_with fail
    clear c18
    refine HAD.out.mono ?_
    rintro e w4 ⟨⟨z, rfl⟩, L4, h4, ht4⟩
    have HFIN := Lib.hid (show EeRd w L K b s E n (.returned (.slice A1 k c1)) w4 from ⟨A1, c1, by rw [HKK.out], L4, HT2.out.2.2.keep ht4 (by unfold Es; omega), by rw [HT2.out.2.1]; exact h4, HT2.out.1.trans ht4⟩)
    clear h4 ht4 HT2 HAD
    go_wp2
    go_ret
    exact HFIN.out
  · have hk00 : k = 0 := by omega
    subst hk00
    have hE : E.read n = Ei := by unfold En.read; rw [hk, if_neg hk1, hEi]
    have HFIN := Lib.hid (show EeRd w L K b s E n (.returned (.slice none 0 0)) w1 from ⟨none, 0, by rw [hk], L1, byt_nilR (List.eq_nil_of_length_eq_zero HKL.out.2), by rw [hE]; exact ⟨_, h1⟩, ht1⟩)
    clear h hok hc hk h1 ht1 hok1 hc1 ho hrd hdi hsc hE hEi hbyR hby1 hL1 hkm HRD HQ c15 hk1
    go_wp2
    go_ret
    exact HFIN.out
end Go.Proofs.YtpjlnpnadkbakaaGreat

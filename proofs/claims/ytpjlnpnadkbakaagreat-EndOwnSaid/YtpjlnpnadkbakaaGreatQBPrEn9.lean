/-
  PrEn9 · NewS · PrNew.
-/
import Derived.Test.YtpjlnpnadkbakaaGreatQBPrEn7
import Derived.Test.YtpjlnpnadkbakaaGreatQBEvMem
import Derived.Test.YtpjlnpnadkbakaaGreatQBFresh
import Derived.Test.YtpjlnpnadkbakaaGreatQBMem
import Derived.Test.YtpjlnpnadkbakaaGreatQBCountMath
import Derived.Test.YtpjlnpnadkbakaaGreatQBMetM
namespace Go.Proofs.YtpjlnpnadkbakaaGreat
set_option maxRecDepth 10000
open Go.RowKit
theorem setP_self (E : En) (i : Nat) : E.setP i (E.pa i) = E := by
  unfold En.setP En.pa
  have : E.ps.set i (E.ps.getD i pz) = E.ps := by
    apply List.ext_getElem?
    intro j
    by_cases e : i = j
    · subst e
      by_cases hi : i < E.ps.length
      · simp [List.getD, hi]
      · simp [show E.ps.length ≤ i by omega]
    · simp [e]
  rw [this]
theorem es_path {K i : Nat} (hi : i < 3) : ∀ x, x = K + 8 + i → Es K x := fun x hx => by subst hx; exact ⟨by omega, by omega⟩
theorem eeup1_any {w : World} {L : Lab} {K b : Nat} {s : EeS} {E : En} (h : EE w L K b s E) (hK : K ≠ 0) (i : Nat) (hi : i < E.ps.length) :
    Calls Tryz.prog 95 #[.pointer (some ⟨s.pb.getD i 0, 0, none⟩)] w fun e w' => e = .returned (.bool (!(E.pa i).up)) ∧ ∃ L', EE w' L' K b s (E.setP i ((E.pa i).setUp true)) ∧ Tn w w' L L' (Es K) := by
  obtain ⟨q, h⟩ := h
  refine (paup_any (h.pth i hi)).mono ?_
  rintro e w' ⟨rfl, h1, h2⟩
  obtain ⟨h3, h4⟩ := h.path hK hi h1 h2
  have h5 := h.p.n3
  have hi2 : i < E.view.ps.length := hi
  exact ⟨rfl, _, ⟨_, h3⟩, h4.mono (es_path (by omega))⟩
theorem eejoin1_any {w : World} {L : Lab} {K b : Nat} {s : EeS} {E : En} (h : EE w L K b s E) (hK : K ≠ 0) (i : Nat) (hi : i < E.ps.length) :
    Calls Tryz.prog 70 #[.pointer (some ⟨s.pb.getD i 0, 0, none⟩)] w fun e w' => e = .returned (.bool (!(E.pa i).jo)) ∧ ∃ L', EE w' L' K b s (E.setP i ((E.pa i).setJo true)) ∧ Tn w w' L L' (Es K) := by
  obtain ⟨q, h⟩ := h
  refine (pajoin_any (h.pth i hi)).mono ?_
  rintro e w' ⟨rfl, h1, h2⟩
  obtain ⟨h3, h4⟩ := h.path hK hi h1 h2
  have h5 := h.p.n3
  have hi2 : i < E.view.ps.length := hi
  exact ⟨rfl, _, ⟨_, h3⟩, h4.mono (es_path (by omega))⟩
def EeLs (w : World) (L : Lab) (K b : Nat) (s : EeS) (E : En) (l : List Qd) (e : Ending) (w' : World) : Prop :=
  ∃ A m c, e = .returned (.slice A m c) ∧ m = l.length ∧ ∃ L', EE w' L' K b s E ∧ Tn w w' L L' (Es K) ∧ OwnQ tOutP w' 0 (.slice A m c) l ∧ ∀ g, (Value.slice A m c).ownBlock = some g → ¬ L' g = K + 7
theorem eels_of {w w' : World} {L : Lab} {K b : Nat} {s : EeS} {q : EeQ} {E E' : En} (h : EeAt w L K b s q E) (hK : K ≠ 0) {i : Nat} (hi : i < E.ps.length) {v' : Value} {P : Pa} (hp : PaAt w' 0 (s.pb.getD i 0) (s.pg i) (s.pw i) (s.pf i) v' P) (hsc : SC w w' (Pat (s.pb.getD i 0) (s.pg i) (s.pw i) (s.pf i) (q.fv i)) (Pat (s.pb.getD i 0) (s.pg i) (s.pw i) (s.pf i) v')) (he : E.setP i P = E')
    {A : Option Addr} {m c : Nat} {l : List Qd} (ho : OwnQ tOutP w' w.heap.size (.slice A m c) l) : EeLs w L K b s E' l (.returned (.slice A m c)) w' := by
  obtain ⟨h3, h4⟩ := h.path hK hi hp hsc
  have h5 := h.p.n3
  have hi2 : i < E.view.ps.length := hi
  rw [he] at h3
  exact ⟨A, m, c, rfl, ho.len.symm, _, ⟨_, h3⟩, h4.mono (es_path (by omega)), ho.less (Nat.zero_le _), fun g hg e => by rw [relab_new (ho.lt g hg).1] at e; omega⟩
theorem eelate1_any {w : World} {L : Lab} {K b : Nat} {s : EeS} {E : En} (h : EE w L K b s E) (hK : K ≠ 0) (hok : E.ok) (i : Nat) (hi : i < E.ps.length) (now : Int) (h1 : -1099511627776 ≤ now ∧ now ≤ 1099511627776) :
    Calls Tryz.prog 84 #[.pointer (some ⟨s.pb.getD i 0, 0, none⟩), .int .i64 now] w (EeLs w L K b s (E.setP i ((E.pa i).lateN now)) ((E.pa i).lates now)) := by
  obtain ⟨q, h⟩ := h
  refine (palate_any (h.pth i hi) (hok.pa hi).ok now h1).mono ?_
  rintro e w' ⟨A, m, c, rfl, ho, v', hp, hsc, _⟩
  exact eels_of h hK hi hp hsc rfl ho
theorem eedown1_any {w : World} {L : Lab} {K b : Nat} {s : EeS} {E : En} (h : EE w L K b s E) (hK : K ≠ 0) (hok : E.ok) (i : Nat) (hi : i < E.ps.length) (hu : (E.pa i).up = true) :
    Calls Tryz.prog 97 #[.pointer (some ⟨s.pb.getD i 0, 0, none⟩)] w (EeLs w L K b s (E.setP i (E.pa i).down) (E.pa i).fl) := by
  obtain ⟨q, h⟩ := h
  refine (padown_any (h.pth i hi) (hok.pa hi).ok).mono ?_
  rw [hu]
  rintro e w' ⟨A, m, c, rfl, ho, v', hp, hsc⟩
  exact eels_of h hK hi hp hsc rfl ho
set_option maxHeartbeats 4000000 in
theorem eeup_any {w : World} {L : Lab} {K b : Nat} {s : EeS} {E : En} (h : EE w L K b s E) (hK : K ≠ 0) (hok : E.ok) (i : Int) {N : Nat} (hc : E.cap N) (hN : N ≤ 272000000000) :
    Calls Tryz.prog 32 #[.pointer (some ⟨b, 0, none⟩), .int .i64 i] w (EeAns w L K b s (E.up i) (.bool (E.mayU i))) := by
  have HHAS := Lib.hid (eehas_any h hok i)
  obtain ⟨n, hn⟩ : ∃ n, E.ps.length = n := ⟨_, rfl⟩
  by_cases hr : i < 0 ∨ (n : Int) ≤ i
  · have ht : E.there i = false := En.there_no (by rw [hn]; exact hr)
    have hm : E.mayU i = false := by unfold En.mayU; rw [ht]; rfl
    have hE : E.up i = E := by unfold En.up; rw [hm]; rfl
    rw [hm]
    rw [ht] at HHAS
    have HFIN := Lib.hid (show EeAns w L K b s (E.up i) (.bool false) (.returned (.bool false)) w from ⟨rfl, L, by rw [hE]; exact h, Tn.refl _ _ _⟩)
    clear h hok hc hm hE hn hr ht
    go_enter Tryz.func32, Tryz.ntmps32
    go_wp2_with fail
    refine HHAS.out.mono ?_
    rintro e w1 ⟨rfl, rfl⟩
    go_wp2
    go_ret
    exact HFIN.out
  · obtain ⟨j, rfl⟩ := Int.eq_ofNat_of_zero_le (show 0 ≤ i by omega)
    have hj : j < E.ps.length := by omega
    have ht := En.there_yes hj
    have hm : E.mayU (j : Int) = !(E.pa j).up := by unfold En.mayU; rw [ht, Int.toNat_natCast, Bool.true_and]
    rw [ht] at HHAS
    rw [hm]
    obtain ⟨g, c, hpv, c10, hg, _, _⟩ := h.look hn (i := j) (by omega)
    have y := hg j (by omega)
    have hup := eeup1_any h hK j hj
    obtain ⟨pb, hpb⟩ : ∃ pb, s.pb.getD j 0 = pb := ⟨_, rfl⟩
    rw [hpb] at y hup
    obtain ⟨u, hu⟩ : ∃ u, (E.pa j).up = u := ⟨_, rfl⟩
    rw [hu] at hup hm ⊢
    have HUP := Lib.hid hup
    have hn3 := hok.np3
    have i1 : (j : Int) < (n : Int) := by omega
    have i2 : (0 : Int) ≤ (j : Int) := by omega
    have HQ := Lib.hid (And.intro hok (And.intro hc (And.intro hj (And.intro hu (And.intro hm hn3)))))
    clear h hok hc hj hu hm hn3 hn hr ht hpv hg hup hpb
    go_enter Tryz.func32, Tryz.ntmps32
    go_wp2_with fail
    refine HHAS.out.mono ?_
    rintro e w1 ⟨rfl, rfl⟩
    go_wp2_with fail
    refine HUP.out.mono ?_
    rintro e w1 ⟨rfl, L1, h1, ht1⟩
    obtain ⟨hok, hc, hj, hu, hm, hn3⟩ := HQ.out
    cases u
    · obtain ⟨E1, hE1⟩ : ∃ E1, E.setP j ((E.pa j).setUp true) = E1 := ⟨_, rfl⟩
      have hok1 : E1.ok := by rw [← hE1]; exact hok.setP j ((hok.pa hj).setUp true)
      have hc1 : E1.cap N := by rw [← hE1]; exact hc.of_eq rfl rfl rfl
      have hj1 : j < E1.ps.length := by rw [← hE1]; simpa [En.setP] using hj
      rw [hE1] at h1
      have HEV := Lib.hid (eenote_plain h1 hK 7 (j : Int) [] none 0 0 rfl (.inl rfl) (by omega) (fun _ => rfl) (by simp) (by omega) (by omega) (by omega) hc1 (by omega))
      obtain ⟨E2, hE2⟩ : ∃ E2, E1.note ⟨7, (j : Int), [], Pkt.zero⟩ = E2 := ⟨_, rfl⟩
      have hok2 : E2.ok := by rw [← hE2]; exact hok1.note _
      have hc2 : E2.cap (N + 1) := by rw [← hE2]; exact hc1.note _
      have hj2 : j < E2.ps.length := by rw [← hE2]; exact hj1
      have hpa2 : E2.pa j = (E.pa j).setUp true := by rw [← hE2, ← hE1]; exact En.pa_setP hj _
      have hs2 : E2.side = E.side := by rw [← hE2, ← hE1]; rfl
      rw [hE2] at HEV
      have hE : E.up (j : Int) = if E.side = 0 ∧ (E.pa j).jo = false then E2.join j else E2.pump := by
        unfold En.up
        rw [if_pos (show E.mayU (j : Int) = true from hm), Int.toNat_natCast, ← hE2, ← hE1]
        rfl
      have has : E2.asksP j = (decide (E.side = 0) && !(E.pa j).jo) := by unfold En.asksP; rw [hpa2, hs2]; simp [Pa.setUp]
      obtain ⟨a, ha⟩ : ∃ a, E2.asksP j = a := ⟨_, rfl⟩
      have hE' : E.up (j : Int) = if a = true then E2.join j else E2.pump := by
        rw [hE, ← ha, has]
        by_cases h1 : E.side = 0 <;> cases h2 : (E.pa j).jo <;> simp [h1]
      have HQ2 := Lib.hid (And.intro ht1 (And.intro hok2 (And.intro hc2 (And.intro hj2 (And.intro hE' ha)))))
      clear hok hc hj hu hm hn3 h1 ht1 hE1 hok1 hc1 hj1 hE2 hok2 hc2 hj2 hpa2 hs2 hE has ha hE' HQ HUP HHAS c10 y
      go_wp2_with fail
      refine HEV.out.mono ?_
      rintro e w2 ⟨rfl, L2, h2, ht2⟩
      obtain ⟨ht1, hok2, hc2, hj2, hE', ha⟩ := HQ2.out
      have HAS := Lib.hid (eeasks_any h2 hok2 j hj2)
      rw [ha] at HAS
      have HH := Lib.hid (And.intro h2 (And.intro (ht1.trans ht2) (And.intro hok2 (And.intro hc2 (And.intro hj2 hE')))))
      clear ht1 hok2 hc2 hj2 hE' ha h2 ht2 HEV HQ2
      go_wp2_with fail
      refine HAS.out.mono ?_
      rintro e w3 ⟨rfl, k, rfl⟩
      obtain ⟨h2, ht, hok2, hc2, hj2, hE'⟩ := HH.out
      have h3 := h2.drewN k
      have ht3 := ht.trans (Tn.drewN w2 L2 k _)
      cases a
      · have HPU := Lib.hid (eepump_any h3 hK hok2 hc2 (by omega))
        have HT := Lib.hid (And.intro ht3 hE')
        clear h2 ht hok2 hc2 hj2 hE' h3 ht3 HAS HH
        go_wp2_with fail
        refine HPU.out.mono ?_
        rintro e w4 ⟨rfl, L4, h4, ht4⟩
        have HFIN := Lib.hid (show EeAns w L K b s (E.up (j : Int)) (.bool true) (.returned (.bool true)) w4 from ⟨rfl, L4, by rw [HT.out.2]; exact h4, HT.out.1.trans ht4⟩)
        clear h4 ht4 HPU HT
        go_wp2
        go_ret
        exact HFIN.out
      · have HPU := Lib.hid (eeask_any h3 hK hok2 j hj2 hc2 (by omega))
        have HT := Lib.hid (And.intro ht3 hE')
        clear h2 ht hok2 hc2 hj2 hE' h3 ht3 HAS HH
        go_wp2_with fail
        refine HPU.out.mono ?_
        rintro e w4 ⟨rfl, L4, h4, ht4⟩
        have HFIN := Lib.hid (show EeAns w L K b s (E.up (j : Int)) (.bool true) (.returned (.bool true)) w4 from ⟨rfl, L4, by rw [HT.out.2]; exact h4, HT.out.1.trans ht4⟩)
        clear h4 ht4 HPU HT
        go_wp2
        go_ret
        exact HFIN.out
    · have hE : E.up (j : Int) = E := by unfold En.up; rw [hm]; rfl
      have hE1 : E.setP j ((E.pa j).setUp true) = E := by
        have : (E.pa j).setUp true = E.pa j := by unfold Pa.setUp; rw [← hu]
        rw [this, setP_self]
      rw [hE1] at h1
      have HFIN := Lib.hid (show EeAns w L K b s (E.up (j : Int)) (.bool false) (.returned (.bool false)) w1 from ⟨rfl, L1, by rw [hE]; exact h1, ht1⟩)
      clear hok hc hj hu hm hn3 h1 ht1 hE hE1 HQ HUP HHAS c10 y
      go_wp2
      go_ret
      exact HFIN.out
set_option maxHeartbeats 4000000 in
theorem eedown_any {w : World} {L : Lab} {K b : Nat} {s : EeS} {E : En} (h : EE w L K b s E) (hK : K ≠ 0) (hok : E.ok) (i : Int) {N : Nat} (hc : E.cap N) (hN : N ≤ 271000000000) :
    Calls Tryz.prog 34 #[.pointer (some ⟨b, 0, none⟩), .int .i64 i] w (EeAns w L K b s (E.down i) (.bool (E.mayD i))) := by
  have HHAS := Lib.hid (eehas_any h hok i)
  obtain ⟨n, hn⟩ : ∃ n, E.ps.length = n := ⟨_, rfl⟩
  by_cases hr : i < 0 ∨ (n : Int) ≤ i
  · have ht : E.there i = false := En.there_no (by rw [hn]; exact hr)
    have hm : E.mayD i = false := by unfold En.mayD; rw [ht]; rfl
    have hE : E.down i = E := by unfold En.down; rw [hm]; rfl
    rw [hm]
    rw [ht] at HHAS
    have HFIN := Lib.hid (show EeAns w L K b s (E.down i) (.bool false) (.returned (.bool false)) w from ⟨rfl, L, by rw [hE]; exact h, Tn.refl _ _ _⟩)
    clear h hok hc hm hE hn hr ht
    go_enter Tryz.func34, Tryz.ntmps34
    go_wp2_with fail
    refine HHAS.out.mono ?_
    rintro e w1 ⟨rfl, rfl⟩
    go_wp2
    go_ret
    exact HFIN.out
  · obtain ⟨j, rfl⟩ := Int.eq_ofNat_of_zero_le (show 0 ≤ i by omega)
    have hj : j < E.ps.length := by omega
    have ht := En.there_yes hj
    have hm : E.mayD (j : Int) = (E.pa j).up := by unfold En.mayD; rw [ht, Int.toNat_natCast, Bool.true_and]
    rw [ht] at HHAS
    rw [hm]
    obtain ⟨g, c, hpv, c10, hg, _, _⟩ := h.look hn (i := j) (by omega)
    have y := hg j (by omega)
    obtain ⟨q, hq⟩ := h
    have hup := paisup_any (hq.pth j hj)
    obtain ⟨pb, hpb⟩ : ∃ pb, s.pb.getD j 0 = pb := ⟨_, rfl⟩
    rw [hpb] at y hup
    obtain ⟨u, hu⟩ : ∃ u, (E.pa j).up = u := ⟨_, rfl⟩
    rw [hu] at hup hm ⊢
    have HUP := Lib.hid hup
    have hn3 := hok.np3
    have i1 : (j : Int) < (n : Int) := by omega
    have i2 : (0 : Int) ≤ (j : Int) := by omega
    have HQ := Lib.hid (And.intro hok (And.intro hc (And.intro hj (And.intro hu (And.intro hm (And.intro hn3 (And.intro hq (And.intro hpb (And.intro hpv hn)))))))))
    clear hok hc hj hu hm hn3 hn hr ht hpv hg hup hpb hq
    go_enter Tryz.func34, Tryz.ntmps34
    go_wp2_with fail
    refine HHAS.out.mono ?_
    rintro e w1 ⟨rfl, rfl⟩
    go_wp2_with fail
    refine HUP.out.mono ?_
    rintro e w1 ⟨rfl, k, rfl⟩
    obtain ⟨hok, hc, hj, hu, hm, hn3, hq, hpb, hpv, hn⟩ := HQ.out
    cases u
    · have hE : E.down (j : Int) = E := by unfold En.down; rw [hm]; rfl
      have HFIN := Lib.hid (show EeAns w L K b s (E.down (j : Int)) (.bool false) (.returned (.bool false)) (w.drewN k) from ⟨rfl, L, by rw [hE]; exact ⟨_, hq.drewN k⟩, Tn.drewN w L k _⟩)
      clear hok hc hj hu hm hn3 hq hpb hpv hn hE HQ HUP HHAS c10 y
      go_wp2
      go_ret
      exact HFIN.out
    · have HEV := Lib.hid (eenote_plain ⟨_, hq.drewN k⟩ hK 8 (j : Int) [] none 0 0 rfl (.inl rfl) (by omega) (fun _ => rfl) (by simp) (by omega) (by omega) (by omega) hc (by omega))
      obtain ⟨E2, hE2⟩ : ∃ E2, E.note ⟨8, (j : Int), [], Pkt.zero⟩ = E2 := ⟨_, rfl⟩
      have hok2 : E2.ok := by rw [← hE2]; exact hok.note _
      have hc2 : E2.cap (N + 1) := by rw [← hE2]; exact hc.note _
      have hj2 : j < E2.ps.length := by rw [← hE2]; exact hj
      have hpa2 : E2.pa j = E.pa j := by rw [← hE2]; rfl
      have hn2 : E2.ps.length = n := by rw [← hE2]; exact hn
      rw [hE2] at HEV
      have hE : E.down (j : Int) = ((E2.setP j (E.pa j).down).given (E.pa j).fl).pump := by
        unfold En.down
        rw [if_pos hm, Int.toNat_natCast, ← hE2]
      have HQ2 := Lib.hid (And.intro hok2 (And.intro hc2 (And.intro hj2 (And.intro hpa2 (And.intro hE (And.intro hu (And.intro hpb (And.intro hpv hn2))))))))
      clear hok hc hj hu hm hn3 hq hpb hpv hn hE2 hok2 hc2 hj2 hpa2 hn2 hE HQ HUP HHAS c10 y
      go_wp2_with fail
      refine HEV.out.mono ?_
      rintro e w2 ⟨rfl, L2, h2, ht2⟩
      obtain ⟨hok2, hc2, hj2, hpa2, hE, hu, hpb, hpv, hn2⟩ := HQ2.out
      obtain ⟨hn2', c10, hg⟩ := h2.row hpv (by omega)
      have y := hg j (by omega)
      have hdn := eedown1_any h2 hK hok2 j hj2 (by rw [hpa2]; exact hu)
      rw [hpb] at y hdn
      rw [hpa2] at hdn
      have HDN := Lib.hid hdn
      have HH := Lib.hid (And.intro ((Tn.drewN w L k (Es K)).trans ht2) (And.intro hok2 (And.intro hc2 (And.intro hj2 (And.intro hE hpa2)))))
      clear hok2 hc2 hj2 hpa2 hE hu hpb hpv hn2 hn2' hg h2 ht2 hdn HEV HQ2
      go_wp2_with fail
      clear c10 y
      refine HDN.out.mono ?_
      rintro e w3 ⟨A3, m3, c3, rfl, hm3, L3, h3, ht3, hown, hlab⟩
      obtain ⟨ht, hok2, hc2, hj2, hE, hpa2⟩ := HH.out
      obtain ⟨E3, hE3⟩ : ∃ E3, E2.setP j (E.pa j).down = E3 := ⟨_, rfl⟩
      have hfl := (hok2.pa hj2).len
      have hfs := (hok2.pa hj2).ok.s2
      have hok3 : E3.ok := by rw [← hE3, ← hpa2]; exact hok2.setP j (hok2.pa hj2).down
      have hc3 : E3.cap (N + 1) := by rw [← hE3]; exact hc2.of_eq rfl rfl rfl
      rw [hE3] at h3 hE
      rw [hpa2] at hfl hfs
      have HGI := Lib.hid (eegive_any h3 hK (E.pa j).fl A3 m3 c3 hown hlab (by omega) hc3 (by omega))
      have HH3 := Lib.hid (And.intro (ht.trans ht3) (And.intro (hok3.given (E.pa j).fl) (And.intro ((hc3.given (E.pa j).fl).mono (show N + 1 + (E.pa j).fl.length ≤ N + 65538 by omega)) hE)))
      clear ht hok2 hc2 hj2 hE hpa2 hE3 hfl hfs hok3 hc3 h3 ht3 hown hlab hm3 HDN HH
      go_wp2_with fail
      refine HGI.out.mono ?_
      rintro e w4 ⟨rfl, L4, h4, ht4⟩
      obtain ⟨ht, hok4, hc4, hE⟩ := HH3.out
      have HPU := Lib.hid (eepump_any h4 hK hok4 hc4 (by omega))
      have HT := Lib.hid (And.intro (ht.trans ht4) hE)
      clear ht hok4 hc4 hE h4 ht4 HGI HH3
      go_wp2_with fail
      refine HPU.out.mono ?_
      rintro e w5 ⟨rfl, L5, h5, ht5⟩
      have HFIN := Lib.hid (show EeAns w L K b s (E.down (j : Int)) (.bool true) (.returned (.bool true)) w5 from ⟨rfl, L5, by rw [HT.out.2]; exact h5, HT.out.1.trans ht5⟩)
      clear h5 ht5 HPU HT
      go_wp2
      go_ret
      exact HFIN.out
end Go.Proofs.YtpjlnpnadkbakaaGreat
namespace Go.Proofs.YtpjlnpnadkbakaaGreat
set_option maxRecDepth 10000
open Go.RowKit
abbrev No : Nat → Prop := fun _ => False
def En.part (c : Cg) (side : Int) (j : Nat) : En := { En.new c side with ps := List.replicate j (Pa.new c.first c.most) }
def NeS (w : World) (CS : List Value) (wi : World) : Prop := Below w.heap.size w wi ∧ w.heap.size < wi.heap.size ∧ wi.rangeAt w.heap.size 0 CS
theorem NeS.later {w wi wj : World} {CS : List Value} (h : NeS w CS wi) (hb : Below wi.heap.size wi wj) : NeS w CS wj := ⟨h.1.trans (hb.mono h.1.size), Nat.lt_of_lt_of_le h.2.1 hb.size, rangeAt_later h.2.2 hb h.2.1⟩
theorem NeS.new (w : World) (CS : List Value) (ty : TypeId) : NeS w CS (w.alloc (.cells CS.toArray ty)).drew := ⟨((Below.refl _ _).alloc (Nat.le_refl _) _).drew, by simp, fun j v hv => by
  rw [Nat.zero_add]
  exact (World.cell?_alloc_at _ _ _ _ rfl).trans (by simpa using hv)⟩
theorem NeS.c {w wi : World} {CS : List Value} (h : NeS w CS wi) (i : Nat) {v : Value} (hv : CS[i]? = some v) : wi.cell? ⟨w.heap.size, i, none⟩ = some v := by
  have := h.2.2 i v hv
  rwa [Nat.zero_add] at this
def RgS (w : World) (CS : List Value) (wi : World) : Prop := w.heap.size < wi.heap.size ∧ wi.rangeAt w.heap.size 0 CS
theorem NeS.rg {w wi : World} {CS : List Value} (h : NeS w CS wi) : RgS w CS wi := h.2
theorem RgS.later {w wi wj : World} {CS : List Value} (h : RgS w CS wi) (hb : Below wi.heap.size wi wj) : RgS w CS wj := ⟨Nat.lt_of_lt_of_le h.1 hb.size, rangeAt_later h.2 hb h.1⟩
theorem RgS.grown {w wi wj : World} {CS : List Value} {r : Option Nat} (h : RgS w CS wi) (hg : wi.grownBy wj r) (hne : r ≠ some w.heap.size) : RgS w CS wj := ⟨Nat.lt_of_lt_of_le h.1 hg.size, fun j v hv => by
  have h1 := h.2 j v hv
  have h2 := hg.block w.heap.size h.1 (fun e => hne e.symm)
  rw [← h1]
  unfold World.cell?
  rw [h2]⟩
theorem RgS.c {w wi : World} {CS : List Value} (h : RgS w CS wi) (i : Nat) {v : Value} (hv : CS[i]? = some v) : wi.cell? ⟨w.heap.size, i, none⟩ = some v := by
  have := h.2 i v hv
  rwa [Nat.zero_add] at this
theorem part_all {c : Cg} {side : Int} {n : Nat} (hn : c.np.toNat = n) : En.part c side n = En.new c side := by subst hn; rfl
theorem part_next (c : Cg) (side : Int) (j : Nat) : ({ En.part c side j with ps := (En.part c side j).ps ++ [Pa.new c.first c.most] } : En) = En.part c side (j + 1) := by
  unfold En.part
  simp [List.replicate_succ']
theorem Tn.no {w wr w' : World} {L Lr L' : Lab} {S : Nat → Prop} (h : Tn w wr L Lr No) (ht : Tn wr w' Lr L' S) (hL : ∀ k, k < w.heap.size → ¬ S (L k)) : Tn w w' L L' No := by
  have h1 := (h.mono (S' := S) (fun x hx => hx.elim)).trans ht
  exact ⟨h1.trn.mono (fun k hk hx => hL k hk hx), h1.old⟩
theorem info_intN : (Tryz.prog.info? 3).map (fun i => (i.zero, i.size, i.bytes)) = some (some (.int .i64 0), 1, 8) := by kernel_rfl
theorem hmk_int (n : Nat) (hn : n ≤ 1024) (w : World) : (Instr.makeSlice 49 (.int .i64 (n : Int)) (.int .i64 (n : Int))).run Tryz.prog w = .ok (.slice (some ⟨w.heap.size, 0, none⟩) n n) (w.alloc (.cells (cel .i64 (List.replicate n 0)).toArray 3)) := by
  have := run_make_row' (P := Tryz.prog) 49 3 (.int .i64 0) 8 Tryz.underlying49 info_intN rfl .i64 .i64 n (by omega) (by omega) w
  rw [this, show cel .i64 (List.replicate n 0) = List.replicate n (Value.int .i64 0) by simp [cel], ← toList_madeCells_one]
end Go.Proofs.YtpjlnpnadkbakaaGreat
namespace Go.Proofs.YtpjlnpnadkbakaaGreat
set_option maxRecDepth 10000
open Go.RowKit
def NM (w : World) (L : Lab) (K n : Nat) (dv : Value) : Prop := Own .i64 3 w 0 dv (List.replicate n 0) ∧ OfV L (K + 2) dv
def NS (w : World) (L : Lab) (K sb : Nat) (k : Int) : Prop := ScS w sb k (-1) ∧ L sb = K + 5
def NO (w : World) (L : Lab) (K ob : Nat) (buf : Int) : Prop := OutAt w 0 ob (.slice none 0 0) (Ou.new buf) ∧ Of L (K + 3) (Oft ob (.slice none 0 0))
def NP (w : World) (L : Lab) (K pl plq : Nat) : Prop := PlanAt w 0 pl plq (.slice none 0 0) Pl.new ∧ Of L (K + 7) (Pft pl plq (.slice none 0 0))
def NI (w : World) (L : Lab) (K ib ibq ibg ibn : Nat) (win : Int) : Prop := (∃ xs ps, IbAt w 0 ib ibq ibg ibn (.slice none 0 0) xs ps (In.new win)) ∧ Of L (K + 4) (Ibf ib ibq ibg (.slice none 0 0))
def NT (w : World) (L : Lab) (K mb : Nat) : Prop := Met w mb [0, 0, 0, 0, 0, 0, 0, 0] ∧ L mb = K + 11
section
variable {w w' : World} {L L' : Lab} {K n sb ob pl plq ib ibq ibg ibn mb : Nat} {dv : Value} {buf win k : Int}
theorem NM.keep (h : NM w L K n dv) (ht : Tn w w' L L' No) : NM w' L' K n dv := ⟨ht.own h.1 h.2 id, h.2.keep ht (own_lt h.1)⟩
theorem NS.keep (h : NS w L K sb k) (ht : Tn w w' L L' No) : NS w' L' K sb k := ⟨h.1.kept ht.trn id, ht.lab h.2 h.1.lt⟩
theorem NO.keep (h : NO w L K ob buf) (ht : Tn w w' L L' No) : NO w' L' K ob buf := ⟨h.1.kept ht.trn (h.2.apart id), h.2.keep ht (fun k hk => (h.1.foot_lt k hk).2)⟩
theorem NP.keep (h : NP w L K pl plq) (ht : Tn w w' L L' No) : NP w' L' K pl plq := ⟨h.1.kept ht.trn (h.2.apart id), h.2.keep ht (fun k hk => (h.1.foot_lt k hk).2)⟩
theorem NI.keep (h : NI w L K ib ibq ibg ibn win) (ht : Tn w w' L L' No) : NI w' L' K ib ibq ibg ibn win := by
  obtain ⟨⟨xs, ps, h1⟩, h2⟩ := h
  exact ⟨⟨xs, ps, h1.kept ht.trn (h2.apart id)⟩, h2.keep ht (fun k hk => (h1.foot_lt k hk).2)⟩
theorem NT.keep (h : NT w L K mb) (ht : Tn w w' L L' No) : NT w' L' K mb := ⟨h.1.of_block (ht.block h.2 id h.1.lt), ht.lab h.2 h.1.lt⟩
theorem NM.new (h : Own .i64 3 w' w.heap.size dv (List.replicate n 0)) : NM w' (relab L w.heap.size (K + 2)) K n dv := ⟨h.less (Nat.zero_le _), OfV.new fun g hg => (h.lt g hg).1⟩
theorem NS.new (h : ScS w' w.heap.size k (-1)) : NS w' (relab L w.heap.size (K + 5)) K w.heap.size k := ⟨h, relab_new (Nat.le_refl _)⟩
theorem NO.new (h : OutAt w' w.heap.size w.heap.size (.slice none 0 0) (Ou.new buf)) : NO w' (relab L w.heap.size (K + 3)) K w.heap.size buf := ⟨⟨h.row, h.own.less (Nat.zero_le _), Nat.zero_le _, h.ok⟩, fun k hk => relab_new (h.foot_lt k hk).1⟩
theorem NP.new (h : PlanAt w' w.heap.size pl plq (.slice none 0 0) Pl.new) : NP w' (relab L w.heap.size (K + 7)) K pl plq := ⟨{ h with ge := Nat.zero_le _, set := { h.set with own := h.set.own.less (Nat.zero_le _), ge := Nat.zero_le _ } }, fun k hk => relab_new (h.foot_lt k hk).1⟩
theorem NI.new {xs : List Int} {ps : List (Int × Int)} (h : IbAt w' w.heap.size ib ibq ibg ibn (.slice none 0 0) xs ps (In.new win)) : NI w' (relab L w.heap.size (K + 4)) K ib ibq ibg ibn win := ⟨⟨xs, ps, { h with ge := Nat.zero_le _, own := h.own.less (Nat.zero_le _), set := { h.set with own := h.set.own.less (Nat.zero_le _), ge := Nat.zero_le _ } }⟩, fun k hk => relab_new (h.foot_lt k hk).1⟩
theorem NT.new (h : Met w' w.heap.size [0, 0, 0, 0, 0, 0, 0, 0]) : NT w' (relab L w.heap.size (K + 11)) K w.heap.size := ⟨h, relab_new (Nat.le_refl _)⟩
end
def nwL (c : Cg) (side : Int) (dv : Value) (sb ob pl ib mb : Nat) : List Value :=
  [.int .i64 c.np, .int .i64 c.buf, .int .i64 c.win, .int .i64 c.chk, .int .i64 c.most, .int .i64 c.first, .int .i64 c.sched, .int .i64 side, .int .i64 0, .int .i64 c.win, .slice none 0 0, dv,
    .pointer (some ⟨sb, 0, none⟩), .pointer (some ⟨ob, 0, none⟩), .pointer (some ⟨pl, 0, none⟩), .pointer (some ⟨ib, 0, none⟩), .slice none 0 0, .int .i64 0, .pointer (some ⟨mb, 0, none⟩)]
theorem EeAt.first {w : World} {L : Lab} {K n sb ob pl plq ib ibq ibg ibn mb : Nat} {dv : Value} (c : Cg) (side : Int) (hn : c.np.toNat = n) (hM : NM w L K n dv) (hS : NS w L K sb c.sched) (hO : NO w L K ob c.buf) (hP : NP w L K pl plq) (hI : NI w L K ib ibq ibg ibn c.win) (hT : NT w L K mb) :
    EeAt (w.alloc (.cells (nwL c side dv sb ob pl ib mb).toArray tEnd)) (relab L w.heap.size K) K w.heap.size ⟨.slice none 0 0, [], fun _ => 0, fun _ => 0, fun _ => 0, dv, ob, pl, plq, ib, ibq, ibg, ibn, sb, mb⟩ ⟨fun _ => .slice none 0 0, .slice none 0 0, .slice none 0 0, .slice none 0 0, .slice none 0 0, 0⟩ (En.part c side 0) := by
  have hb : Below w.heap.size w (w.alloc (.cells (nwL c side dv sb ob pl ib mb).toArray tEnd)) := (Below.refl _ _).alloc (Nat.le_refl _) _
  have ht := Tn.of_below hb L K No
  have hM := hM.keep ht
  have hS := hS.keep ht
  have hO := hO.keep ht
  have hP := hP.keep ht
  have hI := hI.keep ht
  have hT := hT.keep ht
  refine ⟨World.rowIs_alloc w _ _ _ (fun i hi => ?_), relab_new (Nat.le_refl _), Nat.zero_le _, rfl, ?_⟩
  · have : i < 19 := hi
    have hj : i = 0 ∨ i = 1 ∨ i = 2 ∨ i = 3 ∨ i = 4 ∨ i = 5 ∨ i = 6 ∨ i = 7 ∨ i = 8 ∨ i = 9 ∨ i = 10 ∨ i = 11 ∨ i = 12 ∨ i = 13 ∨ i = 14 ∨ i = 15 ∨ i = 16 ∨ i = 17 ∨ i = 18 := by omega
    rcases hj with rfl | rfl | rfl | rfl | rfl | rfl | rfl | rfl | rfl | rfl | rfl | rfl | rfl | rfl | rfl | rfl | rfl | rfl | rfl <;> rfl
  · exact { pvr := PtrRow.nil _ _, pvl := OfV.nil, pbn := rfl, pth := fun i hi => by simp [En.part] at hi, ptl := fun i hi => by simp [En.part] at hi, dvr := by subst hn; exact hM.1, dvl := hM.2, out := hO.1, outl := hO.2, pln := hP.1, plnl := hP.2, inb := hI.1, inl := hI.2, sch := hS.1, schl := hS.2, evs := EvLs.nil _ _ _, met := hT.1, metl := hT.2, n3 := by simp [En.part] }
theorem EeAt.addP {w w1 w2 w3 : World} {L : Lab} {K b : Nat} {s : EeS} {q : EeQ} {E : En} (h : EeAt w L K b s q E) (hK : K ≠ 0) (hj : E.ps.length < 3) (hb1 : Below w.heap.size w w1) {p pg pw pf : Nat} {P : Pa} (hp : PaAt w1 w.heap.size p pg pw pf (.slice none 0 0) P) (hb2 : Below w1.heap.size w1 w2) {v' : Value} (hr : PtrRow tPPa w3 v' (s.pb ++ [p])) (hg : w2.grownBy w3 s.pv.ownBlock) (hv : ∀ g, v'.ownBlock = some g → s.pv.ownBlock = some g ∨ w2.heap.size ≤ g) :
    ∃ (L' : Lab) (s' : EeS) (q' : EeQ), EeAt (w3.setCell ⟨b, 10, none⟩ v') L' K b s' q' { E with ps := E.ps ++ [P] } ∧ Tn w (w3.setCell ⟨b, 10, none⟩ v') L L' (Es K) := by
  obtain ⟨j, hjj⟩ : ∃ j, E.ps.length = j := ⟨_, rfl⟩
  obtain ⟨L1, hL1⟩ : ∃ L1, relab L w.heap.size (K + 8 + j) = L1 := ⟨_, rfl⟩
  obtain ⟨L2, hL2⟩ : ∃ L2, relab L1 w1.heap.size 0 = L2 := ⟨_, rfl⟩
  obtain ⟨L3, hL3⟩ : ∃ L3, relab L2 w2.heap.size (K + 1) = L3 := ⟨_, rfl⟩
  have t1 := Tn.of_below hb1 L (K + 8 + j) (fun x => x = K + 1)
  have t2 := Tn.of_below hb2 L1 0 (fun x => x = K + 1)
  rw [hL1] at t1
  rw [hL2] at t2
  have t12 := t1.trans t2
  have hpv2 : OfV L2 (K + 1) s.pv := h.p.pvl.keep t12 h.p.pvr.lt
  have t3 := Tn.of_row (L := L2) (S := fun x => x = K + 1) hg hpv2 rfl
  rw [hL3] at t3
  have t123 := t12.trans t3
  have hvl : OfV L3 (K + 1) v' := by rw [← hL3]; exact hpv2.row hv
  have hpl : Of L1 (K + 8 + j) (Pat p pg pw pf (.slice none 0 0)) := by rw [← hL1]; exact fun k hk => relab_new (hp.foot_lt k hk).1
  have hrow := t123.row h.row h.lb (by omega)
  have hlb := t123.lab h.lb h.lt
  have t4 : Tn w3 (w3.setCell ⟨b, 10, none⟩ v') L3 L3 (fun x => x = K) := Tn.store w3 L3 ⟨b, 10, none⟩ v' hlb rfl
  have t : Tn w (w3.setCell ⟨b, 10, none⟩ v') L L3 (fun x => x = K + 1 ∨ x = K) := (t123.mono (fun x hx => .inl hx)).trans (t4.mono (fun x hx => .inr hx))
  have tp : Tn w1 (w3.setCell ⟨b, 10, none⟩ v') L1 L3 (fun x => x = K + 1 ∨ x = K) := ((t2.trans t3).mono (fun x hx => .inl hx)).trans (t4.mono (fun x hx => .inr hx))
  have r := h.p.rest t
  have hpn : s.pb.length = j := by rw [← hjj]; exact h.p.pbn
  have hpj : (s.pb ++ [p]).getD j 0 = p := by simp [List.getD, ← hpn]
  have hpi : ∀ i, i < j → (s.pb ++ [p]).getD i 0 = s.pb.getD i 0 := fun i hi => by simp [List.getD, List.getElem?_append_left (show i < s.pb.length by omega)]
  have hai : ∀ i, i < j → (E.ps ++ [P]).getD i pz = E.ps.getD i pz := fun i hi => by simp [List.getD, List.getElem?_append_left (show i < E.ps.length by omega)]
  have haj : (E.ps ++ [P]).getD j pz = P := by rw [← hjj]; simp [List.getD]
  refine ⟨L3, { s with pv := v', pb := s.pb ++ [p], pg := fun i => if i = j then pg else s.pg i, pw := fun i => if i = j then pw else s.pw i, pf := fun i => if i = j then pf else s.pf i }, { q with fv := fun i => if i = j then .slice none 0 0 else q.fv i }, ⟨(hrow.set 10 v').congr (setEt_cells 10 v' rfl rfl), hlb, h.to1, h.to2, ?_⟩, t.mono (fun x hx => by rcases hx with rfl | rfl <;> exact ⟨by omega, by omega⟩)⟩
  exact { pvr := hr.keep t4 hvl (by omega), pvl := hvl
          pbn := by
            show (s.pb ++ [p]).length = (E.ps ++ [P]).length
            rw [List.length_append, List.length_append, hpn, hjj]
            rfl
          pth := fun i hi => by
            have hi : i < (E.ps ++ [P]).length := hi
            simp only [List.length_append, List.length_singleton] at hi
            show PaAt _ 0 ((s.pb ++ [p]).getD i 0) (if i = j then pg else s.pg i) (if i = j then pw else s.pw i) (if i = j then pf else s.pf i) (if i = j then .slice none 0 0 else q.fv i) ((E.ps ++ [P]).getD i pz)
            by_cases e : i = j
            · subst e
              rw [if_pos rfl, if_pos rfl, if_pos rfl, if_pos rfl, hpj, haj]
              exact (hp.less (Nat.zero_le _)).kept tp.trn (hpl.apart (S := fun x => x = K + 1 ∨ x = K) (by omega))
            · rw [if_neg e, if_neg e, if_neg e, if_neg e, hpi i (by omega), hai i (by omega)]
              exact r.pth i (by show i < E.ps.length; omega) (by omega)
          ptl := fun i hi => by
            have hi : i < (E.ps ++ [P]).length := hi
            simp only [List.length_append, List.length_singleton] at hi
            show Of _ (K + 8 + i) (Pat ((s.pb ++ [p]).getD i 0) (if i = j then pg else s.pg i) (if i = j then pw else s.pw i) (if i = j then pf else s.pf i) (if i = j then .slice none 0 0 else q.fv i))
            by_cases e : i = j
            · subst e
              rw [if_pos rfl, if_pos rfl, if_pos rfl, if_pos rfl, hpj]
              exact hpl.keep tp (fun k hk => (hp.foot_lt k hk).2)
            · rw [if_neg e, if_neg e, if_neg e, if_neg e, hpi i (by omega)]
              exact r.ptl i (by show i < E.ps.length; omega)
          dvr := r.dvr (by omega), dvl := r.dvl, out := r.out (by omega), outl := r.outl, pln := r.pln (by omega), plnl := r.plnl, inb := r.inb (by omega), inl := r.inl, sch := r.sch (by omega), schl := r.schl, evs := r.evs (by omega) (by omega), met := r.met (by omega), metl := r.metl
          n3 := by show (E.ps ++ [P]).length ≤ 3; rw [List.length_append, List.length_singleton]; omega }
end Go.Proofs.YtpjlnpnadkbakaaGreat

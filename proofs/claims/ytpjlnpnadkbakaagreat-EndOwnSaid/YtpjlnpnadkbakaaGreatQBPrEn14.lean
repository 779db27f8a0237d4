/-
  What Take, Done, Now, Written of the developers' End do: contracts over the program.
-/
import Derived.Test.YtpjlnpnadkbakaaGreatQBPrEn9
import Derived.Test.YtpjlnpnadkbakaaGreatQBPrEn15
import Derived.Test.YtpjlnpnadkbakaaGreatQBMem
namespace Go.Proofs.YtpjlnpnadkbakaaGreat
set_option maxRecDepth 10000
open Go.RowKit
theorem sizeEv : ∀ w, (sizeOf (Tryz.prog.elem 51)).run Tryz.prog w = .ok 12 w := by
  obtain ⟨i, hi, _, h2, _⟩ := info_parts info_ev
  intro w
  show (Go.sizeOf 88).run Tryz.prog w = .ok 12 w
  simp [sizeOf, typeInfo, hi, h2]
theorem slice_l12 (A : Option Addr) (n c i m : Nat) (h : i + m = n) (W : World) :
    (Instr.sliceAt 51 (.slice A n c) (some (.int .i64 (i : Nat))) none none).run Tryz.prog W = .ok (.slice (if c = i then A else A.map (·.add (i * 12))) m (c - i)) W := by
  obtain rfl : m = n - i := by omega
  rw [run_sliceAt_slice _ _ _ _ _ _ Tryz.underlying51, run_slice_l (P := Tryz.prog) W 51 A n c Tryz.underlying51 .i64 (i : Int) (by omega) (by omega)]
  simp [sizeEv, sliced, Result.andThen]
theorem EeAt.evAt {w : World} {L : Lab} {K b : Nat} {s : EeS} {q : EeQ} {E : En} (h : EeAt w L K b s q E) {n : Nat} (hn : E.ev.length = n) :
    ∃ (ms : List EvM) (A : Option Addr) (c : Nat), ms.map EvM.e = E.ev ∧ ms.length = n ∧ q.ev = .slice A n c ∧ n ≤ c ∧ (n = 0 ∨ ∃ g, A = some ⟨g, 0, none⟩ ∧ g < w.heap.size ∧ ∀ j, j < n → w.rangeAt g (j * 12) (ms.getD j default).cs) ∧ ∀ j, j < n → (ms.getD j default).at w ∧ EvB (ms.getD j default).e := by
  subst hn
  obtain ⟨ms, he, hr⟩ := h.p.evs
  have he : ms.map EvM.e = E.ev := he
  have hl : ms.length = E.ev.length := by rw [← he, List.length_map]
  rw [← hl]
  have hat : ∀ j, j < ms.length → (ms.getD j default).at w ∧ EvB (ms.getD j default).e := fun j hj => by
    have hm := hr.each (ms.getD j default) (by simp [List.getD, hj])
    exact ⟨hm.own.at, hm.bd⟩
  rcases hr.row.2 with ⟨hv, h0⟩ | ⟨g, cap, cur, hv, _, hh, hnc, _⟩
  · exact ⟨ms, none, 0, he, rfl, by rw [hv, h0], by omega, .inl h0, hat⟩
  · refine ⟨ms, _, cap, he, rfl, hv, hnc, .inr ⟨g, rfl, ?_, fun j hj i u hu => ?_⟩, hat⟩
    · exact (World.ownsRow.lt hr.row g (by rw [hv]; rfl)).2
    · have hi : i < 12 := by
        have := (List.getElem?_eq_some_iff.1 hu).1
        rwa [EvM.cs_len] at this
      have hrow := hr.row
      rw [hv] at hrow
      rw [World.ownsRow.cellAt hrow (j * 12 + i) (by have : (j + 1) * 12 ≤ ms.length * 12 := Nat.mul_le_mul_right 12 hj; omega), evs_get ms j hj i hi]
      exact hu
theorem EeAt.setTold {w : World} {L : Lab} {K b : Nat} {s : EeS} {q : EeQ} {E : En} (h : EeAt w L K b s q E) (hK : K ≠ 0) (n : Nat) (hn : E.ev.length = n) : EeAt (w.setCell ⟨b, 17, none⟩ (.int .i64 (n : Int))) L K b s { q with to := n } E.taken ∧ Tn w (w.setCell ⟨b, 17, none⟩ (.int .i64 (n : Int))) L L (Es K) := by
  subst hn
  obtain ⟨h1, h2⟩ := h.poke (q' := { q with to := E.ev.length }) (E' := E.taken) hK 17 (.int .i64 (E.ev.length : Int)) rfl (fun p => ⟨p.pvr, p.pvl, p.pbn, p.pth, p.ptl, p.dvr, p.dvl, p.out, p.outl, p.pln, p.plnl, p.inb, p.inl, p.sch, p.schl, p.evs, p.met, p.metl, p.n3⟩) (Nat.le_refl _) (by show [] = saids (E.ev.drop E.ev.length); rw [List.drop_length]; rfl)
  exact ⟨h1, h2.mono (fun x hx => by subst hx; exact ⟨by omega, by omega⟩)⟩
theorem pk_field (k n : Int) (A : Option Addr) (l c : Nat) (pk pa nu ofn fr : Int) (B : Option Addr) (m d : Nat) (fin : Bool) (se li : Int) : ∀ w : World, (Instr.field 88 (.agg #[.int .i64 k, .int .i64 n, .slice A l c, .int .i64 pk, .int .i64 pa, .int .i64 nu, .int .i64 ofn, .int .i64 fr, .slice B m d, .bool fin, .int .i64 se, .int .i64 li]) 3).run Tryz.prog w = .ok (.agg #[.int .i64 pk, .int .i64 pa, .int .i64 nu, .int .i64 ofn, .int .i64 fr, .slice B m d, .bool fin, .int .i64 se, .int .i64 li]) w := fun _ => by kernel_rfl
theorem saids_one {x : Ev} (h : x.k = 5) : saids [x] = [x.pk] := by simp [saids, h]
def EeTk (w : World) (L : Lab) (K b : Nat) (s : EeS) (E : En) (e : Ending) (w' : World) : Prop :=
  ∃ (ms : List PkM) (v : Value), e = .returned v ∧ ms.map PkM.p = E.out ∧ PkRo w' w.heap.size v ms ∧ ∀ j, EE w' (relab L w.heap.size j) K b s E.taken ∧ Tn w w' L (relab L w.heap.size j) (Es K)
set_option maxHeartbeats 4000000 in
theorem eetake_any {w : World} {L : Lab} {K b : Nat} {s : EeS} {E : En} (h : EE w L K b s E) (hK : K ≠ 0) {N : Nat} (hc : E.cap N) (hN : N ≤ 274877906944) :
    Calls Tryz.prog 54 #[.pointer (some ⟨b, 0, none⟩)] w (EeTk w L K b s E) := by
  obtain ⟨q, h⟩ := h
  obtain ⟨n, hn⟩ : ∃ n, E.ev.length = n := ⟨_, rfl⟩
  have hnN : n ≤ 274877906944 := by have := hc.ev; omega
  obtain ⟨ms, Ae, ce, hme, hml, hqe, hnc, hlie, hat⟩ := h.evAt hn
  have hto := h.to1
  rw [hn] at hto
  obtain ⟨t, ht⟩ : ∃ t, q.to = t := ⟨_, rfl⟩
  rw [ht] at hto
  obtain ⟨m, hm⟩ : ∃ m, n - t = m := ⟨_, rfl⟩
  have htm : t + m = n := by omega
  obtain ⟨A2, hA2⟩ : ∃ A2, (if ce = t then Ae else Ae.map (·.add (t * 12))) = A2 := ⟨_, rfl⟩
  have hsl := fun W => slice_l12 Ae n ce t m htm W
  rw [hA2] at hsl
  have c16 : w.drew.cell? ⟨b, 0 + 16, none⟩ = some (.slice Ae n ce) := by rw [← hqe]; exact (h.drewN 1).cell 16 (by omega)
  have c17 : w.drew.cell? ⟨b, 0 + 17, none⟩ = some (.int .i64 (t : Int)) := by rw [← ht]; exact (h.drewN 1).cell 17 (by omega)
  have S0 := Lib.hid (And.intro c16 c17)
  have hout : E.out = saids ((E.ev.drop t).take m) := by
    rw [h.to2, ht, List.take_of_length_le (by rw [List.length_drop]; omega)]
  have hA3 : m = 0 ∨ ∃ g, A2 = some ⟨g, t * 12, none⟩ ∧ g < w.heap.size ∧ ∀ j, j < m → w.rangeAt g (t * 12 + j * 12) (ms.getD (t + j) default).cs := by
    rcases hlie with h0 | ⟨g, rfl, hg, hr⟩
    · exact .inl (by omega)
    · by_cases h0 : m = 0
      · exact .inl h0
      · refine .inr ⟨g, ?_, hg, fun j hj => ?_⟩
        · rw [← hA2, if_neg (by omega)]
          simp [Addr.add]
          omega
        · have := hr (t + j) (by omega)
          rwa [show (t + j) * 12 = t * 12 + j * 12 by omega] at this
  have HA := Lib.hid hA3
  have HSL := Lib.hid hsl
  have HAT := Lib.hid hat
  have hnx : ∀ j, j < m → saids ((E.ev.drop t).take (j + 1)) = saids ((E.ev.drop t).take j) ++ saids [(ms.getD (t + j) default).e] := fun j hj => by
    have hlt : t + j < ms.length := by omega
    have hlt2 : j < (E.ev.drop t).length := by rw [List.length_drop]; omega
    rw [List.take_succ_eq_append_getElem hlt2, saids_app]
    congr 2
    have h1 : (E.ev.drop t)[j]? = (ms.map EvM.e)[t + j]? := by rw [hme, List.getElem?_drop]
    rw [List.getElem?_eq_getElem hlt2, List.getElem?_map, List.getElem?_eq_getElem hlt] at h1
    simp only [Option.map_some, Option.some.injEq] at h1
    rw [h1]
    simp [List.getD, hlt]
  have HNX := Lib.hid hnx
  have HQ := Lib.hid (And.intro h (And.intro hn hout))
  have HV16 := Lib.hid hqe
  have HM := Lib.hid (show m ≤ 274877906944 ∧ t + m = n by omega)
  have HWB := Lib.hid (show Below w.heap.size w w.drew from (Below.refl _ _).drew)
  have j1 : (0 : Int) ≤ (t : Int) := by omega
  have j2 : (t : Int) ≤ (n : Int) := by omega
  clear h hc hN hn hnN hme hml hqe hnc hlie hat hto ht hm htm hA2 hsl c16 c17 hout hA3 hnx
  go_enter Tryz.func54, Tryz.ntmps54
  go_wp2_with fail
  refine wp_region_held_drew (S := fun wi => wi.cell? ⟨b, 0 + 16, none⟩ = some (.slice Ae n ce) ∧ wi.cell? ⟨b, 0 + 17, none⟩ = some (.int .i64 (t : Int))) (by kernel_rfl) S0.out ?_
  intro hHeld
  have hsl := HSL.out
  refine tkH 0 ?_
  refine tkH 1 ?_
  refine tkH 2 ?_
  refine tkH 3 ?_
  refine tkH 4 ?_
  refine tkH 5 ?_
  refine tkH 6 ?_
  refine tkH 7 ?_
  refine tkH 8 ?_
  refine tkH 9 ?_
  refine tkH 10 ?_
  refine wpAnyH_done (by kernel_rfl) ?_ _
  clear hHeld S0 hsl HSL
  obtain ⟨W, hW⟩ : ∃ W, w.drew = W := ⟨_, rfl⟩
  rw [hW] at HWB ⊢
  clear hW
  go_wp2_with fail
  go_loopw [3, 16] (fun rv iv wr => ∃ (j : Nat) (A1 : Option Addr) (n1 c1 : Nat) (ks : List PkM), j ≤ m ∧ iv = .int .i64 j ∧ rv = .slice A1 n1 c1 ∧ Hid (ks.length = n1 ∧ n1 ≤ j ∧ ks.map PkM.p = saids ((E.ev.drop t).take j) ∧ PkRo wr w.heap.size (.slice A1 n1 c1) ks ∧ Below w.heap.size w wr)) (fun _ iv _ => m - (intOf iv).toNat)
  case atStart => exact ⟨0, none, 0, 0, [], by omega, rfl, rfl, Lib.hid ⟨rfl, by omega, by simp [saids], PkRo.nil _ _, HWB.out⟩⟩
  case round =>
    obtain ⟨j, A1, n1, c1, ks, hj, rfl, rfl, hmid⟩ := hrel
    by_cases hjm : j < m
    · obtain ⟨hkl, hnj, hkm, hro, hbl⟩ := hmid.out
      have hmm := HM.out
      obtain ⟨g, rfl, hg, hrr⟩ := HA.out.resolve_left (by omega)
      have hr := hrr j hjm
      obtain ⟨x, hx⟩ : ∃ x, ms.getD (t + j) default = x := ⟨_, rfl⟩
      obtain ⟨hxa, hxb⟩ := HAT.out (t + j) (by omega)
      have hnx := HNX.out j hjm
      rw [hx] at hr hxa hxb hnx
      obtain ⟨x, A, c, B, d⟩ := x
      have hxa : EvAt w x A c B d := hxa
      have hxb : EvB x := hxb
      have hcs := evIn_of (rangeAt_later hr hbl hg)
      obtain ⟨y0, y1, y2, y3, y4, y5, y6, y7, y8, y9, y10, y11⟩ := hcs
      simp only [] at y0 y1 y2 y3 y4 y5 y6 y7 y8 y9 y10 y11
      obtain ⟨wa, hwa⟩ : ∃ wa, wr.alloc (.cells #[.int .i64 x.k, .int .i64 x.n, .slice A x.da.length c, .int .i64 x.pk.k, .int .i64 x.pk.pa, .int .i64 x.pk.nu, .int .i64 x.pk.ofn, .int .i64 x.pk.fr, .slice B x.pk.da.length d, .bool x.pk.fin, .int .i64 x.pk.se, .int .i64 x.pk.li] 88) = wa := ⟨_, rfl⟩
      have hva : EvV wa wr.heap.size x A c B d := by rw [← hwa]; exact EvV.new wr x A c B d
      have hba : Below wr.heap.size wr wa := by rw [← hwa]; exact (Below.refl _ _).alloc (Nat.le_refl _) _
      obtain ⟨x0, x1, x2, x3, x4, x5, x6, x7, x8, x9, x10, x11⟩ := hva.cells
      simp only [Nat.zero_add] at x0 x1 x2 x3 x4 x5 x6 x7 x8 x9 x10 x11
      have hbwa := hbl.trans (hba.mono hbl.size)
      have i1 : (j : Int) < (m : Int) := by omega
      have i2 : (0 : Int) ≤ (j : Int) := by omega
      have HJ := Lib.hid (And.intro hjm (show j ≤ 274877906944 by omega))
      have HIW := Lib.hid (show wrap64 ((j : Int) + 1) = ((j + 1 : Nat) : Int) from wrap_atS (by omega) (by omega) (by omega))
      by_cases hk : x.k = 5
      · have hk1 : (x.k == 5) = true := by simp [hk]
        rw [saids_one hk] at hnx
        clear hk
        have HCP := Lib.hid (show Calls Tryz.prog 99 #[.agg #[.int .i64 x.k, .int .i64 x.n, .slice A x.da.length c, .int .i64 x.pk.k, .int .i64 x.pk.pa, .int .i64 x.pk.nu, .int .i64 x.pk.ofn, .int .i64 x.pk.fr, .slice B x.pk.da.length d, .bool x.pk.fin, .int .i64 x.pk.se, .int .i64 x.pk.li]] wa _ from copied_any x A c B d wa (hxa.later (hbwa.mono (Nat.le_refl _))) hxb.len (by have := hxb.pk.len; omega))
        have HR := Lib.hid (And.intro hkl (And.intro hnj (And.intro hkm (And.intro (hro.later hba) (And.intro hbwa (And.intro hxb hnx))))))
        clear hkl hnj hkm hro hbl hmm hg hrr hr hx hxa hxb hnx hva hba hbwa hmid hj hjm
        go_wp2_with fail
        try rw [hwa]
        refine HCP.out.mono ?_
        rintro e w2 ⟨A3, c3, B3, d3, rfl, o1, o2, hb2⟩
        obtain ⟨hkl, hnj, hkm, hro, hbwa, hxb, hnx⟩ := HR.out
        have hbw2 := hbwa.trans (hb2.mono hbwa.size)
        have hro2 := hro.later hb2
        have hpm : (⟨x.pk, B3, d3⟩ : PkM).own w2 w.heap.size := ⟨hxb.pk, o2.less hbwa.size⟩
        obtain ⟨A4, c4, w4, hrun, hro4, hb4⟩ := run_appP hro2 hpm n1 hkl (by have := HJ.out; omega) hbw2.size 61
        have hrun' : (Builtin.append_ #[61, 61] 61 #[.slice A1 n1 c1, .slice (some ⟨w2.heap.size, 0, none⟩) 1 1]).run Tryz.prog (w2.alloc (.cells #[.int .i64 x.pk.k, .int .i64 x.pk.pa, .int .i64 x.pk.nu, .int .i64 x.pk.ofn, .int .i64 x.pk.fr, .slice B3 x.pk.da.length d3, .bool x.pk.fin, .int .i64 x.pk.se, .int .i64 x.pk.li] 32)) = .ok (.slice A4 (n1 + 1) c4) w4 := hrun
        have HREL := Lib.hid (show (ks ++ [(⟨x.pk, B3, d3⟩ : PkM)]).length = n1 + 1 ∧ n1 + 1 ≤ j + 1 ∧ (ks ++ [(⟨x.pk, B3, d3⟩ : PkM)]).map PkM.p = saids ((E.ev.drop t).take (j + 1)) ∧ PkRo w4 w.heap.size (.slice A4 (n1 + 1) c4) (ks ++ [(⟨x.pk, B3, d3⟩ : PkM)]) ∧ Below w.heap.size w w4 from ⟨by simp [hkl], by omega, by rw [hnx, List.map_append, hkm]; rfl, hro4, hbw2.trans hb4⟩)
        have hfd := pk_field x.k x.n A3 x.da.length c3 x.pk.k x.pk.pa x.pk.nu x.pk.ofn x.pk.fr B3 x.pk.da.length d3 x.pk.fin x.pk.se x.pk.li
        clear hkl hnj hkm hro hbwa hxb hnx hbw2 hro2 hpm hrun hro4 hb4 o1 o2 hb2 HR HCP y0 y1 y2 y3 y4 y5 y6 y7 y8 y9 y10 y11 x0 x1 x2 x3 x4 x5 x6 x7 x8 x9 x10 x11 hk1 hwa
        go_wp2_with (at_builtin; refine Lib.wpList_append_run _ rfl _ _ _ _ rfl _ _ rfl rfl _ _ hrun' ?_)
        clear hrun'
        go_roundw
        case rel => exact ⟨j + 1, A4, n1 + 1, c4, _, by have := HJ.out; omega, by first | rfl | rw [HIW.out], rfl, HREL⟩
        case measure => (try rw [HIW.out]); have := HJ.out; simp [intOf]; omega
      · have hk1 : (x.k == 5) = false := by simp [hk]
        rw [saids_no hk, List.append_nil] at hnx
        clear hk
        have HREL := Lib.hid (show ks.length = n1 ∧ n1 ≤ j + 1 ∧ ks.map PkM.p = saids ((E.ev.drop t).take (j + 1)) ∧ PkRo wa w.heap.size (.slice A1 n1 c1) ks ∧ Below w.heap.size w wa from ⟨hkl, by omega, by rw [hnx]; exact hkm, hro.later hba, hbwa⟩)
        clear hkl hnj hkm hro hbl hmm hg hrr hr hx hxa hxb hnx hva hba hbwa hmid hj hjm
        go_wp2_with fail
        try rw [hwa]
        go_roundw
        case rel => exact ⟨j + 1, A1, n1, c1, ks, by have := HJ.out; omega, by first | rfl | rw [HIW.out], rfl, HREL⟩
        case measure => (try rw [HIW.out]); have := HJ.out; simp [intOf]; omega
    · have e : j = m := by omega
      subst e
      obtain ⟨hkl, hnj, hkm, hro, hbl⟩ := hmid.out
      obtain ⟨h, hn, hout⟩ := HQ.out
      have h0 := fun i => h.grow hbl i
      have hst := fun i => (h0 i).setTold hK n hn
      have c16 : wr.cell? ⟨b, 0 + 16, none⟩ = some (.slice Ae n ce) := by
        have := (h0 0).cell 16 (by omega)
        have hv := HV16.out
        rw [← hv]
        exact this
      have c17 : ∃ u, wr.cell? ⟨b, 0 + 17, none⟩ = some u := ⟨_, (h0 0).cell 17 (by omega)⟩
      obtain ⟨u17, c17⟩ := c17
      have f17 : wr.frozen? ⟨b, 0 + 17, none⟩ = false := (h0 0).fr 17
      have hsc := setCell_one wr b 17 (.int .i64 (n : Int))
      have hblt := h.lt
      have hro2 : PkRo (wr.setCell ⟨b, 17, none⟩ (.int .i64 (n : Int))) w.heap.size (.slice A1 n1 c1) ks := by
        refine ⟨World.ownsRow.kept hro.row hsc ?_, fun m hm => ⟨(hro.each m hm).bd, (hro.each m hm).o.kept hsc ?_⟩⟩
        · right; intro e; have := (hro.lt b e).1; omega
        · right; intro e; have := ((hro.each m hm).o.lt b e).1; omega
      have HFIN := Lib.hid (show EeTk w L K b s E (.returned (.slice A1 n1 c1)) (wr.setCell ⟨b, 0 + 17, none⟩ (.int .i64 (n : Int))) from ⟨ks, _, rfl, by rw [hkm, hout], hro2, fun i => ⟨⟨_, (hst i).1⟩, (Tn.of_below hbl L i (Es K)).trans (hst i).2⟩⟩)
      have k1 : ¬ ((j : Int) < (j : Int)) := by omega
      clear hkl hnj hkm hro hbl h hn hout h0 hst hsc hblt hro2 hmid hj hjm HQ HM HA HAT HNX
      go_wp2
      go_ret
      exact HFIN.out
end Go.Proofs.YtpjlnpnadkbakaaGreat

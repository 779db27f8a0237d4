/-
  PrEn3 · AppTwo · PrEn4.
-/
import Derived.Test.YtpjlnpnadkbakaaGreatQBPrEn1
import Derived.Test.YtpjlnpnadkbakaaGreatQBQuad
import Derived.Test.YtpjlnpnadkbakaaGreatRows
import Derived.Test.YtpjlnpnadkbakaaGreatQBFresh
import Derived.Test.YtpjlnpnadkbakaaGreatQBFlight4
import Derived.Test.YtpjlnpnadkbakaaGreatQBRowN
import Derived.Test.YtpjlnpnadkbakaaGreatQBMem
namespace Go.Proofs.YtpjlnpnadkbakaaGreat
set_option maxRecDepth 10000
open Go.RowKit
structure Sy (w wr : World) (L L1 : Lab) (K b0 : Nat) (p : Pkt) (A : Option Addr) (c : Nat) : Prop where
  e0 : w.heap.size = b0
  tb : TnB b0 w wr L L1 (Es K)
  v : PkV wr b0 p A c
  at_ : PktAt wr p A c
  lb : L1 b0 = K + 13
  ap : ∀ a, A = some a → a.block < b0 ∧ ¬ Es K (L1 a.block)
def Aps (w : World) (L : Lab) (K : Nat) (A : Option Addr) : Prop := ∀ a, A = some a → a.block < w.heap.size ∧ ¬ Es K (L a.block)
section
variable {w wr w2 : World} {L L1 L2 : Lab} {K b0 : Nat} {p : Pkt} {A : Option Addr} {c : Nat}
theorem Sy.new (h : PktAt w p A c) (ha : Aps w L K A) : Sy w (w.alloc (.cells (p.cs A c).toArray 32)) L (relab L w.heap.size (K + 13)) K w.heap.size p A c := by
  have hb := (Below.refl w.heap.size w).alloc (Nat.le_refl _) (.cells (p.cs A c).toArray 32)
  exact ⟨rfl, (TnB.refl w L (Es K) (Nat.le_refl _)).below hb (K + 13), PkV.new w p A c, h.later hb, relab_new (Nat.le_refl _), fun a e => ⟨(ha a e).1, by rw [relab_old (ha a e).1]; exact (ha a e).2⟩⟩
theorem Sy.lt (h : Sy w wr L L1 K b0 p A c) : b0 < wr.heap.size := h.v.lt
theorem Sy.turn (h : Sy w wr L L1 K b0 p A c) (ht : Tn wr w2 L1 L2 (Es K)) : Sy w w2 L L2 K b0 p A c := by
  have hb := ht.block h.lb (by unfold Es; omega) h.lt
  refine ⟨h.e0, h.tb.then ht, h.v.of_block hb, ?_, ht.lab h.lb h.lt, fun a e => ?_⟩
  · have hr := rd_trn h.at_.rd ht.trn (fun a e => (h.ap a e).2)
    exact { h.at_ with rd := hr }
  · have h1 := h.ap a e
    have := h.lt
    exact ⟨h1.1, by rw [ht.old _ (by omega)]; exact h1.2⟩
theorem Sy.drewN (h : Sy w wr L L1 K b0 p A c) (n : Nat) : Sy w (wr.drewN n) L L1 K b0 p A c := h.turn (Tn.drewN wr L1 n _)
theorem Sy.nu (h : Sy w wr L L1 K b0 p A c) (x : Int) (hx : -9223372036854775808 ≤ x ∧ x ≤ 9223372036854775807) : Sy w (wr.setCell ⟨b0, 2, none⟩ (.int .i64 x)) L L1 K b0 { p with nu := x } A c := by
  have hsz := h.tb.size
  have hr : Rd .u8 (wr.setCell ⟨b0, 2, none⟩ (.int .i64 x)) A p.da := rd_trn h.at_.rd (Trn.of_grown (setCell_one wr b0 2 (.int .i64 x))) (fun a e e2 => by have := (h.ap a e).1; have := Option.some.inj e2; omega)
  exact ⟨h.e0, h.tb.trans (TnB.store wr L1 (Es K) ⟨b0, 2, none⟩ _ (Nat.le_refl _) (Nat.le_of_lt h.lt)), h.v.nu x, { h.at_ with rd := hr, bn := hx }, h.lb, h.ap⟩
theorem EE.aside {b : Nat} {s : EeS} {E : En} (he : EE wr L1 K b s E) (h : Sy w wr L L1 K b0 p A c) (j : Nat) (u : Value) : EE (wr.setCell ⟨b0, j, none⟩ u) L1 K b s E :=
  he.keep (Tn.store wr L1 ⟨b0, j, none⟩ u h.lb (S := fun x => x = K + 13) rfl) (fun x hx => by unfold Es at hx; omega) (by omega)
theorem Sy.tn (h : Sy w wr L L1 K b0 p A c) : Tn w wr L L1 (Es K) := TnB.toTn (by rw [h.e0]; exact h.tb)
end
theorem evP_at {w : World} {p : Pkt} {A : Option Addr} {c : Nat} (k : Int) (hk : 0 ≤ k ∧ k ≤ 8) (h : PktAt w p A c) : EvAt w (evP k p) none 0 A c :=
  ⟨.inl rfl, by simp [evP], by simp [evP], fun _ => rfl, by intro x hx; simp [evP] at hx, by simp only [evP]; omega, by simp only [evP]; omega, h⟩
theorem EE.look {w : World} {L : Lab} {K b : Nat} {s : EeS} {E : En} (h : EE w L K b s E) {i n : Nat} (hn : E.ps.length = n) (hi : i < n) :
    ∃ g cp, s.pv = .slice (some ⟨g, 0, none⟩) n cp ∧ w.cell? ⟨b, 0 + 10, none⟩ = some (.slice (some ⟨g, 0, none⟩) n cp) ∧ (∀ j, j < n → w.cell? ⟨g, j, none⟩ = some (.pointer (some ⟨s.pb.getD j 0, 0, none⟩))) ∧ L g = K + 1 ∧ g < w.heap.size := by
  obtain ⟨q, h⟩ := h
  have hl : s.pb.length = n := h.p.pbn.trans hn
  obtain ⟨g, cp, hv, hc⟩ := h.p.pvr.at (by omega)
  rw [hl] at hv hc
  refine ⟨g, cp, hv, ?_, hc, h.p.pvl g (by rw [hv]; rfl), World.block_lt_of_cell? w _ (hc i hi)⟩
  have := h.cell 10 (by omega)
  rw [show (eeL s q E).getD 10 undef = s.pv from rfl, hv] at this
  exact this
theorem EE.row {w : World} {L : Lab} {K b : Nat} {s : EeS} {E : En} (h : EE w L K b s E) {g n cp : Nat} (hpv : s.pv = .slice (some ⟨g, 0, none⟩) n cp) (hn0 : 0 < n) :
    E.ps.length = n ∧ w.cell? ⟨b, 0 + 10, none⟩ = some (.slice (some ⟨g, 0, none⟩) n cp) ∧ (∀ j, j < n → w.cell? ⟨g, j, none⟩ = some (.pointer (some ⟨s.pb.getD j 0, 0, none⟩))) := by
  obtain ⟨q, h⟩ := h
  have hf := h.p.pvr.form
  obtain ⟨A, c, hv⟩ := hf
  rw [hpv] at hv
  injection hv with _ hv2 _
  have hn : E.ps.length = n := by have e : s.pb.length = E.ps.length := h.p.pbn; omega
  obtain ⟨g', cp', h1, h2, h3, _⟩ := EE.look ⟨q, h⟩ hn (i := 0) hn0
  rw [hpv] at h1
  injection h1 with h1 _ h4
  injection h1 with h1
  injection h1 with h1
  subst h1
  subst h4
  exact ⟨hn, h2, h3⟩
set_option maxHeartbeats 2000000 in
theorem eesay_yes {w : World} {L : Lab} {K' b : Nat} {s : EeS} {E : En} (h : EE w L K' b s E) (hK' : K' ≠ 0) (i : Nat) (hi : i < E.ps.length) (hs : (E.pa i).sent ≤ 65535) (h0 : 0 ≤ (E.pa i).sent) (k nu ofn fr : Int) (da : List Int) (fin : Bool) (se li : Int) (A : Option Addr) (c : Nat) (hp : PktAt w ⟨k, (i : Int), nu, ofn, fr, da, fin, se, li⟩ A c) (ha : Aps w L K' A) (hbd : PkB ⟨k, (i : Int), (E.pa i).sent, ofn, fr, da, fin, se, li⟩) {N : Nat} (hc : E.cap N) (hN : N ≤ 274877906944) :
    Calls Tryz.prog 71 #[.pointer (some ⟨b, 0, none⟩), .agg #[.int .i64 k, .int .i64 (i : Int), .int .i64 nu, .int .i64 ofn, .int .i64 fr, .slice A da.length c, .bool fin, .int .i64 se, .int .i64 li]] w fun e w' => e = .returned (.tuple #[.int .i64 (E.pa i).sent, .bool true]) ∧ ∃ L', EE w' L' K' b s (E.say1 i ⟨k, (i : Int), nu, ofn, fr, da, fin, se, li⟩) ∧ Tn w w' L L' (Es K') := by
  have hsy := Sy.new hp ha
  obtain ⟨w0, hw0⟩ : ∃ w0, w.alloc (.cells #[.int .i64 k, .int .i64 (i : Int), .int .i64 nu, .int .i64 ofn, .int .i64 fr, .slice A da.length c, .bool fin, .int .i64 se, .int .i64 li] 32) = w0 := ⟨_, rfl⟩
  rw [show w.alloc (.cells (Pkt.cs ⟨k, (i : Int), nu, ofn, fr, da, fin, se, li⟩ A c).toArray 32) = w0 from hw0] at hsy
  have hb0 : Below w.heap.size w w0 := by rw [← hw0]; exact (Below.refl _ _).alloc (Nat.le_refl _) _
  have h1 := h.grow hb0 (K' + 13)
  obtain ⟨L0, hL0⟩ : ∃ L0, relab L w.heap.size (K' + 13) = L0 := ⟨_, rfl⟩
  obtain ⟨b0, hb0'⟩ : ∃ b0, w.heap.size = b0 := ⟨_, rfl⟩
  rw [hL0] at h1 hsy
  have hsyd := hsy.drewN 1
  have h1d := h1.drewN 1
  obtain ⟨W, hW⟩ : ∃ W, w0.drew = W := ⟨_, rfl⟩
  rw [show w0.drewN 1 = W from hW] at hsyd h1d
  rw [hb0'] at hsy hsyd
  obtain ⟨n3, hn3⟩ : ∃ n, E.ps.length = n := ⟨_, rfl⟩
  obtain ⟨g, cp, hpv, c10, hg, hgl, hgs⟩ := h1d.look hn3 (i := i) (by omega)
  obtain ⟨q, hq⟩ := h1d
  have hP := hq.pth i hi
  have hPl := hq.p.ptl i hi
  have hn3' : n3 ≤ 3 := by rw [← hn3]; exact hq.p.n3
  have hbl := hq.lb
  have hblt := hq.lt
  obtain ⟨pb, hpb⟩ : ∃ pb, s.pb.getD i 0 = pb := ⟨_, rfl⟩
  have gi := hg i (by omega)
  rw [hpb] at gi
  have y1 : W.cell? ⟨b0, 0 + 1, none⟩ = some (.int .i64 (i : Int)) := hsyd.v.cells.c1
  have i1 : (i : Int) < (n3 : Int) := by omega
  have i2 : (0 : Int) ≤ (i : Int) := by omega
  have i3 : i < n3 := by omega
  obtain ⟨sn, hsn⟩ : ∃ x, (E.pa i).sent = x := ⟨_, rfl⟩
  have HNUM := Lib.hid (show Calls Tryz.prog 149 #[.pointer (some ⟨pb, 0, none⟩)] W fun e w' => e = .returned (.tuple #[.int .i64 sn, .bool true]) ∧ PaAt w' 0 (s.pb.getD i 0) (s.pg i) (s.pw i) (s.pf i) (q.fv i) (E.pa i).num ∧ SC W w' (Pat (s.pb.getD i 0) (s.pg i) (s.pw i) (s.pf i) (q.fv i)) (Pat (s.pb.getD i 0) (s.pg i) (s.pw i) (s.pf i) (q.fv i)) by
    rw [← hpb, ← hsn]
    exact panumber_yes hP h0 hs)
  have HQ := Lib.hid (And.intro hq (And.intro hsyd (And.intro hi (And.intro hbd (And.intro hc (And.intro hs (And.intro h0 hsn)))))))
  have HG := Lib.hid (And.intro hgl (And.intro hgs (And.intro hbl (And.intro hblt (And.intro hPl (And.intro (show b0 ≠ b by have := h.choose_spec.lt; omega) (And.intro hb0' (And.intro (show g ≠ b0 by intro e; have := hsyd.lb; rw [e] at hgl; omega) hpb))))))))
  have S00 := Lib.hid (show (fun wi => wi.cell? ⟨b, 0 + 10, none⟩ = some (.slice (some ⟨g, 0, none⟩) n3 cp) ∧ wi.cell? ⟨b0, 0 + 1, none⟩ = some (.int .i64 (i : Int)) ∧ wi.cell? ⟨g, i, none⟩ = some (.pointer (some ⟨pb, 0, none⟩))) w0.drew by rw [hW]; exact ⟨c10, y1, gi⟩)
  have S0 := Lib.hid (show W.cell? ⟨b, 0 + 10, none⟩ = some (.slice (some ⟨g, 0, none⟩) n3 cp) ∧ W.cell? ⟨b0, 0 + 1, none⟩ = some (.int .i64 (i : Int)) ∧ W.cell? ⟨g, i, none⟩ = some (.pointer (some ⟨pb, 0, none⟩)) from ⟨c10, y1, gi⟩)
  clear h hi hp ha hsy hsyd h1 hL0 hb0 hpv hg hgl hgs hq hP hPl hbl hblt hpb hs h0 hbd hc c10 y1 gi hn3
  go_enter Tryz.func71, Tryz.ntmps71
  go_wp2_with fail
  try rw [hb0']
  refine wp_region_held_drew (S := fun wi => wi.cell? ⟨b, 0 + 10, none⟩ = some (.slice (some ⟨g, 0, none⟩) n3 cp) ∧ wi.cell? ⟨b0, 0 + 1, none⟩ = some (.int .i64 (i : Int)) ∧ wi.cell? ⟨g, i, none⟩ = some (.pointer (some ⟨pb, 0, none⟩))) (by kernel_rfl) S00.out ?_
  intro hHeld
  rw [hW]
  clear hw0 hW S00 hb0'
  refine tkH 0 ?_
  refine tkH 1 ?_
  refine tkH 2 ?_
  refine tkH 3 ?_
  refine tkH 4 ?_
  refine tkH 5 ?_
  refine tkH 6 ?_
  refine tkH 7 ?_
  refine wpAnyH_ready (rs := [8]) (by kernel_rfl) (by simp) ?_
  refine AllReadyH.cons rfl (fun K hK => ?_) AllReadyH.nil
  go_simp
  refine HNUM.out.mono ?_
  rintro e w1 ⟨rfl, hp1, hsc⟩
  obtain ⟨hq, hsy, hi, hbd, hc, hs, h0, hsn⟩ := HQ.out
  obtain ⟨hgl, hgs, hbl, hblt, hPl, hne, hb0', hgb, hpb⟩ := HG.out
  obtain ⟨h2, ht2⟩ := hq.path hK' hi hp1 hsc
  have ht2 := ht2.mono (S' := Es K') (fun x hx => by have := hq.p.n3; have hi2 : i < E.view.ps.length := hi; subst hx; exact ⟨by omega, by omega⟩)
  obtain ⟨L1, hL1⟩ : ∃ L1, relab L0 W.heap.size (K' + 8 + i) = L1 := ⟨_, rfl⟩
  rw [hL1] at h2 ht2
  have hx : ∀ j, Pat (s.pb.getD i 0) (s.pg i) (s.pw i) (s.pf i) (q.fv i) j → L0 j = K' + 8 + i := hPl
  have hsy1 := hsy.turn ht2
  have S1 := Lib.hid (show w1.cell? ⟨b, 0 + 10, none⟩ = some (.slice (some ⟨g, 0, none⟩) n3 cp) ∧ w1.cell? ⟨b0, 0 + 1, none⟩ = some (.int .i64 (i : Int)) ∧ w1.cell? ⟨g, i, none⟩ = some (.pointer (some ⟨pb, 0, none⟩)) from
    ⟨(World.cell?_of_block (hsc.trn.block b hblt (fun e => by have := hx b e; omega))).trans S0.out.1, hsy1.v.cells.c1, (World.cell?_of_block (hsc.trn.block g hgs (fun e => by have := hx g e; omega))).trans S0.out.2.2⟩)
  have hbs := hbd
  rw [hsn] at hbs
  have hsy2 := hsy1.nu sn hbs.bn
  have h3 := EE.aside ⟨_, h2⟩ hsy1 2 (.int .i64 sn)
  obtain ⟨w2, hw2⟩ : ∃ w2, w1.setCell ⟨b0, 2, none⟩ (.int .i64 sn) = w2 := ⟨_, rfl⟩
  have hg2 := setCell_one w1 b0 2 (.int .i64 sn)
  rw [hw2] at hsy2 h3 hg2
  have S2 := Lib.hid (show w2.cell? ⟨b, 0 + 10, none⟩ = some (.slice (some ⟨g, 0, none⟩) n3 cp) ∧ w2.cell? ⟨b0, 0 + 1, none⟩ = some (.int .i64 (i : Int)) ∧ w2.cell? ⟨g, i, none⟩ = some (.pointer (some ⟨pb, 0, none⟩)) from
    ⟨cell_other hg2 (fun e => hne e.symm) S1.out.1, hsy2.v.cells.c1, cell_other hg2 hgb S1.out.2.2⟩)
  have x2 : w1.cell? ⟨b0, 0 + 2, none⟩ = some (.int .i64 nu) := hsy1.v.cells.c2
  have f2 : w1.frozen? ⟨b0, 0 + 2, none⟩ = false := hsy1.v.fr 2
  have H3 := Lib.hid (And.intro h3 (And.intro hsy2 (And.intro hi (And.intro hbs (And.intro hc (And.intro hsn hs))))))
  clear hq hsy hi hbd hc hs h0 hsn hgl hgs hbl hblt hPl hne hb0' hgb hpb h2 ht2 hL1 hx hsy1 hbs hsy2 h3 hg2 hp1 hsc HQ HG HNUM
  try go_wp2_with fail
  refine hK.out _ _ S1.out (fun hHeld2 => ?_)
  clear hK K hHeld
  have hHeld := hHeld2
  clear hHeld2
  try simp only [Act.put, List.getElem_toArray, List.getElem_cons_zero, List.getElem_cons_succ, List.setIfInBounds_toArray, List.set_cons_zero, List.set_cons_succ]
  refine tkH 9 ?_
  refine tkH 10 ?_
  refine tkH 11 ?_
  refine tkH 12 ?_
  refine wpAnyH_ready (rs := [13]) (by kernel_rfl) (by simp) ?_
  refine AllReadyH.cons rfl (fun K hK => ?_) AllReadyH.nil
  go_simp
  try rw [hw2]
  refine hK.out _ _ S2.out (fun hHeld2 => ?_)
  clear hK K hHeld
  have hHeld := hHeld2
  clear hHeld2
  try simp only [Act.put, List.getElem_toArray, List.getElem_cons_zero, List.getElem_cons_succ, List.setIfInBounds_toArray, List.set_cons_zero, List.set_cons_succ]
  refine tkH 14 ?_
  refine wpAnyH_done (by kernel_rfl) ?_ _
  clear hHeld S0 S1 S2 x2 f2 hw2
  obtain ⟨h3, hsy2, hi, hbs, hc, hsn, hs⟩ := H3.out
  have HNO := Lib.hid (show Calls Tryz.prog 65 #[.pointer (some ⟨b, 0, none⟩), .agg #[.int .i64 5, .int .i64 0, .slice none 0 0, .int .i64 k, .int .i64 (i : Int), .int .i64 sn, .int .i64 ofn, .int .i64 fr, .slice A da.length c, .bool fin, .int .i64 se, .int .i64 li]] w2 _ from eenote_any h3 hK' (evP 5 ⟨k, (i : Int), sn, ofn, fr, da, fin, se, li⟩) none 0 A c (evP_at 5 (by omega) hsy2.at_) (EvB.pkt (EvB.kin EvB.zero (by decide)) hbs) (N := N) (hc.of_eq rfl rfl rfl) (by omega))
  obtain ⟨x0, x1, x2, x3, x4, x5, x6, x7, x8⟩ := hsy2.v.cells
  have HS := Lib.hid hsy2
  have HR := Lib.hid (And.intro hc (And.intro hi (And.intro hsn (And.intro hbs.len hs))))
  simp only [] at x0 x1 x2 x3 x4 x5 x6 x7 x8
  clear h3 hsy2 hi hbs hc hsn hs H3
  go_wp2_with fail
  refine HNO.out.mono ?_
  rintro e w3 ⟨rfl, L3, h3, ht3⟩
  obtain ⟨hc, hi, hsn, hlen, hs⟩ := HR.out
  have hsy3 := HS.out.turn ht3
  obtain ⟨E3, hE3⟩ : ∃ E3, (E.setP i (E.pa i).num).noteS (evP 5 ⟨k, (i : Int), sn, ofn, fr, da, fin, se, li⟩) = E3 := ⟨_, rfl⟩
  rw [hE3] at h3
  have hc3 : E3.cap (N + 1) := by rw [← hE3]; exact En.cap.noteS (hc.of_eq rfl rfl rfl : (E.setP i (E.pa i).num).cap N) _
  have HA := Lib.hid (eecount_any h3 hK' 1 (by omega) 1 (by omega) (by omega) hc3 (by omega) 1 rfl)
  have HS3 := Lib.hid hsy3
  have HE3 := Lib.hid hE3
  have HC3 := Lib.hid hc3
  have c18 := h3.c18
  clear hc hi hsn hlen hs h3 ht3 hsy3 hc3 hE3 HS HNO x0 x1 x2 x3 x4 x5 x6 x7 x8
  go_wp2_with fail
  clear c18
  refine HA.out.mono ?_
  rintro e w4 ⟨⟨z, rfl⟩, L4, h4, ht4⟩
  have hsy4 := HS3.out.turn ht4
  have hc4 := HC3.out.count 1 (n := 1) (by omega) (k := 1) (by omega)
  obtain ⟨hc, hi, hsn, hlen, hs⟩ := HR.out
  have HB := Lib.hid (show ∀ W, W = w4.drew → Calls Tryz.prog 66 #[.pointer (some ⟨s.mb, 0, none⟩), .int .i64 2, .int .i64 (da.length : Int)] W _ from fun W hW => eecount_any (w := W) (by rw [hW]; exact h4.drewN 1) hK' 2 (by omega) (da.length : Int) (by omega) (by have hl2 : da.length ≤ 80 := hlen; omega) hc4 (by omega) 2 rfl)
  have c18 := h4.c18
  have x5 : w4.cell? ⟨b0, 0 + 5, none⟩ = some (.slice A da.length c) := hsy4.v.cells.c5
  have HS4 := Lib.hid hsy4
  clear hc hi hsn hlen hs h4 ht4 hsy4 hc4 HS3 HA HC3
  go_wp2_with fail
  refine still_tail 7 (by kernel_rfl) (by kernel_rfl) ?_
  intro W5 hW5
  have d18 : W5.cell? ⟨b, 0 + 18, none⟩ = some (.pointer (some ⟨s.mb, 0, none⟩)) := by rw [hW5]; exact c18
  have d5 : W5.cell? ⟨b0, 0 + 5, none⟩ = some (.slice A da.length c) := by rw [hW5]; exact x5
  have HB2 := Lib.hid (HB.out W5 hW5)
  have HS5 := Lib.hid (show Sy w W5 L L4 K' b0 _ A c by rw [hW5]; exact HS4.out.drewN 1)
  clear hW5 c18 x5 HB HS4
  simp only [List.take_succ_cons, List.take_zero, List.drop_succ_cons, List.drop_zero]
  repeat still_step
  refine wpStill_nil ?_
  go_wp2_with fail
  clear d18 d5
  refine HB2.out.mono ?_
  rintro e w5 ⟨⟨z2, rfl⟩, L5, h5, ht5⟩
  have hsy5 := HS5.out.turn ht5
  have y2 : w5.cell? ⟨b0, 0 + 2, none⟩ = some (.int .i64 sn) := hsy5.v.cells.c2
  have HFIN := Lib.hid (show Ending.returned (.tuple #[.int .i64 sn, .bool true]) = Ending.returned (.tuple #[.int .i64 (E.pa i).sent, .bool true]) ∧ ∃ L', EE w5 L' K' b s (E.say1 i ⟨k, (i : Int), nu, ofn, fr, da, fin, se, li⟩) ∧ Tn w w5 L L' (Es K') by
    obtain ⟨hc, hi, hsn, hlen, hs⟩ := HR.out
    refine ⟨by rw [hsn], L5, ?_, hsy5.tn⟩
    have hEE : E.say1 i ⟨k, (i : Int), nu, ofn, fr, da, fin, se, li⟩ = (E3.count 1 1).count 2 (da.length : Int) := by rw [← HE3.out, En.say1_eq, hsn]; rfl
    rw [hEE]
    exact h5)
  clear hsy5 h5 ht5 HS5 HB2 HE3 HR
  go_wp2
  go_ret2
  exact HFIN.out
set_option maxHeartbeats 2000000 in
theorem eesay_no {w : World} {L : Lab} {K' b : Nat} {s : EeS} {E : En} (h : EE w L K' b s E) (_ : K' ≠ 0) (i : Nat) (hi : i < E.ps.length) (hs : 65535 < (E.pa i).sent) (k nu ofn fr : Int) (da : List Int) (fin : Bool) (se li : Int) (A : Option Addr) (c : Nat) (hp : PktAt w ⟨k, (i : Int), nu, ofn, fr, da, fin, se, li⟩ A c) (ha : Aps w L K' A)  :
    Calls Tryz.prog 71 #[.pointer (some ⟨b, 0, none⟩), .agg #[.int .i64 k, .int .i64 (i : Int), .int .i64 nu, .int .i64 ofn, .int .i64 fr, .slice A da.length c, .bool fin, .int .i64 se, .int .i64 li]] w fun e w' => e = .returned (.tuple #[.int .i64 0, .bool false]) ∧ ∃ L', EE w' L' K' b s E ∧ Tn w w' L L' (Es K') := by
  have hsy := Sy.new hp ha
  obtain ⟨w0, hw0⟩ : ∃ w0, w.alloc (.cells #[.int .i64 k, .int .i64 (i : Int), .int .i64 nu, .int .i64 ofn, .int .i64 fr, .slice A da.length c, .bool fin, .int .i64 se, .int .i64 li] 32) = w0 := ⟨_, rfl⟩
  rw [show w.alloc (.cells (Pkt.cs ⟨k, (i : Int), nu, ofn, fr, da, fin, se, li⟩ A c).toArray 32) = w0 from hw0] at hsy
  have hb0 : Below w.heap.size w w0 := by rw [← hw0]; exact (Below.refl _ _).alloc (Nat.le_refl _) _
  have h1 := h.grow hb0 (K' + 13)
  obtain ⟨L0, hL0⟩ : ∃ L0, relab L w.heap.size (K' + 13) = L0 := ⟨_, rfl⟩
  obtain ⟨b0, hb0'⟩ : ∃ b0, w.heap.size = b0 := ⟨_, rfl⟩
  rw [hL0] at h1 hsy
  have hsyd := hsy.drewN 1
  have h1d := h1.drewN 1
  obtain ⟨W, hW⟩ : ∃ W, w0.drew = W := ⟨_, rfl⟩
  rw [show w0.drewN 1 = W from hW] at hsyd h1d
  rw [hb0'] at hsy hsyd
  obtain ⟨n3, hn3⟩ : ∃ n, E.ps.length = n := ⟨_, rfl⟩
  obtain ⟨g, cp, hpv, c10, hg, hgl, hgs⟩ := h1d.look hn3 (i := i) (by omega)
  obtain ⟨q, hq⟩ := h1d
  have hP := hq.pth i hi
  have hPl := hq.p.ptl i hi
  have hn3' : n3 ≤ 3 := by rw [← hn3]; exact hq.p.n3
  have hbl := hq.lb
  have hblt := hq.lt
  obtain ⟨pb, hpb⟩ : ∃ pb, s.pb.getD i 0 = pb := ⟨_, rfl⟩
  have gi := hg i (by omega)
  rw [hpb] at gi
  have y1 : W.cell? ⟨b0, 0 + 1, none⟩ = some (.int .i64 (i : Int)) := hsyd.v.cells.c1
  have i1 : (i : Int) < (n3 : Int) := by omega
  have i2 : (0 : Int) ≤ (i : Int) := by omega
  have i3 : i < n3 := by omega
  have HNUM := Lib.hid (show Calls Tryz.prog 149 #[.pointer (some ⟨pb, 0, none⟩)] W fun e w' => e = .returned (.tuple #[.int .i64 0, .bool false]) ∧ ∃ k, w' = W.drewN k by
    rw [← hpb]
    exact panumber_no hP hs)
  have HQ := Lib.hid (And.intro hq hsyd)
  have HG := Lib.hid (And.intro hgl (And.intro hgs (And.intro hbl (And.intro hblt (And.intro hPl (And.intro (show b0 ≠ b by have := h.choose_spec.lt; omega) (And.intro hb0' (And.intro (show g ≠ b0 by intro e; have := hsyd.lb; rw [e] at hgl; omega) hpb))))))))
  have S00 := Lib.hid (show (fun wi => wi.cell? ⟨b, 0 + 10, none⟩ = some (.slice (some ⟨g, 0, none⟩) n3 cp) ∧ wi.cell? ⟨b0, 0 + 1, none⟩ = some (.int .i64 (i : Int)) ∧ wi.cell? ⟨g, i, none⟩ = some (.pointer (some ⟨pb, 0, none⟩))) w0.drew by rw [hW]; exact ⟨c10, y1, gi⟩)
  have S0 := Lib.hid (show W.cell? ⟨b, 0 + 10, none⟩ = some (.slice (some ⟨g, 0, none⟩) n3 cp) ∧ W.cell? ⟨b0, 0 + 1, none⟩ = some (.int .i64 (i : Int)) ∧ W.cell? ⟨g, i, none⟩ = some (.pointer (some ⟨pb, 0, none⟩)) from ⟨c10, y1, gi⟩)
  clear h hi hp ha hsy hsyd h1 hL0 hb0 hpv hg hgl hgs hq hP hPl hbl hblt hpb hs c10 y1 gi hn3
  go_enter Tryz.func71, Tryz.ntmps71
  go_wp2_with fail
  try rw [hb0']
  refine wp_region_held_drew (S := fun wi => wi.cell? ⟨b, 0 + 10, none⟩ = some (.slice (some ⟨g, 0, none⟩) n3 cp) ∧ wi.cell? ⟨b0, 0 + 1, none⟩ = some (.int .i64 (i : Int)) ∧ wi.cell? ⟨g, i, none⟩ = some (.pointer (some ⟨pb, 0, none⟩))) (by kernel_rfl) S00.out ?_
  intro hHeld
  rw [hW]
  clear hw0 hW S00 hb0'
  refine tkH 0 ?_
  refine tkH 1 ?_
  refine tkH 2 ?_
  refine tkH 3 ?_
  refine tkH 4 ?_
  refine tkH 5 ?_
  refine tkH 6 ?_
  refine tkH 7 ?_
  refine wpAnyH_ready (rs := [8]) (by kernel_rfl) (by simp) ?_
  refine AllReadyH.cons rfl (fun K hK => ?_) AllReadyH.nil
  go_simp
  refine HNUM.out.mono ?_
  rintro e w1 ⟨rfl, k1, rfl⟩
  obtain ⟨hq, hsy⟩ := HQ.out
  obtain ⟨hgl, hgs, hbl, hblt, hPl, hne, hb0', hgb, hpb⟩ := HG.out
  have h2 := hq.drewN k1
  have hsy1 := hsy.drewN k1
  have S1 := Lib.hid (show (W.drewN k1).cell? ⟨b, 0 + 10, none⟩ = some (.slice (some ⟨g, 0, none⟩) n3 cp) ∧ (W.drewN k1).cell? ⟨b0, 0 + 1, none⟩ = some (.int .i64 (i : Int)) ∧ (W.drewN k1).cell? ⟨g, i, none⟩ = some (.pointer (some ⟨pb, 0, none⟩)) from S0.out)
  obtain ⟨w1, hw1⟩ : ∃ w1, W.drewN k1 = w1 := ⟨_, rfl⟩
  rw [hw1] at h2 hsy1 S1 ⊢
  have hsy2 := hsy1.nu 0 (by omega)
  have h3 := EE.aside ⟨_, h2⟩ hsy1 2 (.int .i64 0)
  obtain ⟨w2, hw2⟩ : ∃ w2, w1.setCell ⟨b0, 2, none⟩ (.int .i64 0) = w2 := ⟨_, rfl⟩
  have hg2 := setCell_one w1 b0 2 (.int .i64 0)
  rw [hw2] at hsy2 h3 hg2
  have S2 := Lib.hid (show w2.cell? ⟨b, 0 + 10, none⟩ = some (.slice (some ⟨g, 0, none⟩) n3 cp) ∧ w2.cell? ⟨b0, 0 + 1, none⟩ = some (.int .i64 (i : Int)) ∧ w2.cell? ⟨g, i, none⟩ = some (.pointer (some ⟨pb, 0, none⟩)) from
    ⟨cell_other hg2 (fun e => hne e.symm) S1.out.1, hsy2.v.cells.c1, cell_other hg2 hgb S1.out.2.2⟩)
  have x2 : w1.cell? ⟨b0, 0 + 2, none⟩ = some (.int .i64 nu) := hsy1.v.cells.c2
  have f2 : w1.frozen? ⟨b0, 0 + 2, none⟩ = false := hsy1.v.fr 2
  have HFIN := Lib.hid (show ∃ L', EE w2 L' K' b s E ∧ Tn w w2 L L' (Es K') from ⟨_, h3, hsy2.tn⟩)
  clear hq hsy hgl hgs hbl hblt hPl hne hb0' hgb hpb h2 hw1 hsy1 hsy2 h3 hg2 HQ HG HNUM
  try go_wp2_with fail
  refine hK.out _ _ S1.out (fun hHeld2 => ?_)
  clear hK K hHeld
  have hHeld := hHeld2
  clear hHeld2
  try simp only [Act.put, List.getElem_toArray, List.getElem_cons_zero, List.getElem_cons_succ, List.setIfInBounds_toArray, List.set_cons_zero, List.set_cons_succ]
  refine tkH 9 ?_
  refine tkH 10 ?_
  refine tkH 11 ?_
  refine tkH 12 ?_
  refine wpAnyH_ready (rs := [13]) (by kernel_rfl) (by simp) ?_
  refine AllReadyH.cons rfl (fun K hK => ?_) AllReadyH.nil
  go_simp
  try rw [hw2]
  refine hK.out _ _ S2.out (fun hHeld2 => ?_)
  clear hK K hHeld
  have hHeld := hHeld2
  clear hHeld2
  try simp only [Act.put, List.getElem_toArray, List.getElem_cons_zero, List.getElem_cons_succ, List.setIfInBounds_toArray, List.set_cons_zero, List.set_cons_succ]
  refine tkH 14 ?_
  refine wpAnyH_done (by kernel_rfl) ?_ _
  clear hHeld S0 S1 S2 x2 f2 hw2
  go_wp2
  go_ret2
  exact ⟨rfl, HFIN.out⟩
end Go.Proofs.YtpjlnpnadkbakaaGreat
namespace Go.Proofs.YtpjlnpnadkbakaaGreat
set_option maxRecDepth 10000
open Go.RowKit
theorem info_intT : (Tryz.prog.info? 3).map (fun i => (i.zero, i.size, i.bytes)) = some (some (.int .i64 0), 1, 8) := by kernel_rfl
theorem app_two {w : World} {B : Nat} {v v' : Value} {xs ys : List Int} (h : Own .i64 3 w B v xs) (h' : Own .i64 3 w B v' ys) (ha : ∀ g, v'.ownBlock = some g → v.ownBlock ≠ some g) (x : Int) (n : Nat) (hn : xs.length = n) (hl : n ≤ 1048576) (hB : B ≤ w.heap.size) :
    ∃ A' c' w', (Builtin.append_ #[49, 49] 49 #[v, .slice (some ⟨w.heap.size, 0, none⟩) 1 1]).run Tryz.prog (w.alloc (.cells #[.int .i64 x] 3)) = .ok (.slice A' (n + 1) c') w' ∧ Own .i64 3 w' B (.slice A' (n + 1) c') (xs ++ [x]) ∧ Own .i64 3 w' B v' ys ∧ (∀ g, v'.ownBlock = some g → (Value.slice A' (n + 1) c').ownBlock ≠ some g) ∧ Below B w w' := by
  subst hn
  obtain ⟨A', c', w', h1, h2, h3, h4⟩ := run_append_f (P := Tryz.prog) (w.alloc (.cells #[.int .i64 x] 3)) .i64 49 49 3 (.int .i64 0) 8 Tryz.underlying49 info_intT rfl B v xs (h.alloc _) (some ⟨w.heap.size, 0, none⟩) 1 1 [x] rfl (rd_lit .i64 w [x] 3 (0, 0)) (by unfold maxLen; omega) (by omega) (by simp; omega)
  refine ⟨A', c', w', h1, h2, (h'.alloc _).kept h3 ?_, fun g hg e => ?_, ?_⟩
  · by_cases e : v'.ownBlock = none
    · exact .inl e
    · right
      intro e2
      obtain ⟨g, hg⟩ := Option.ne_none_iff_exists'.1 e
      exact ha g hg (by rw [← e2]; exact hg)
  · rcases h4 g e with h5 | h5
    · exact ha g hg h5
    · have := (h'.lt g hg).2
      simp at h5
      omega
  · have hb := (Below.refl B w).alloc hB (.cells #[.int .i64 x] 3)
    exact hb.grown h3 (by simp; omega) (fun g hg => (h.lt g hg).1)
end Go.Proofs.YtpjlnpnadkbakaaGreat
namespace Go.Proofs.YtpjlnpnadkbakaaGreat
set_option maxRecDepth 10000
open Go.RowKit
theorem eesay_any {w : World} {L : Lab} {K b : Nat} {s : EeS} {E : En} (h : EE w L K b s E) (hK : K ≠ 0) (hok : E.ok) (i : Nat) (hi : i < E.ps.length) (k nu ofn fr : Int) (da : List Int) (fin : Bool) (se li : Int) (A : Option Addr) (c : Nat) (hp : PktAt w ⟨k, (i : Int), nu, ofn, fr, da, fin, se, li⟩ A c) (ha : Aps w L K A) (hbd : PkB ⟨k, (i : Int), (E.pa i).sent, ofn, fr, da, fin, se, li⟩) {N : Nat} (hc : E.cap N) (hN : N ≤ 274877906944) :
    Calls Tryz.prog 71 #[.pointer (some ⟨b, 0, none⟩), .agg #[.int .i64 k, .int .i64 (i : Int), .int .i64 nu, .int .i64 ofn, .int .i64 fr, .slice A da.length c, .bool fin, .int .i64 se, .int .i64 li]] w fun e w' => (∃ x y, e = .returned (.tuple #[.int .i64 x, .bool y])) ∧ ∃ L', EE w' L' K b s (E.say i ⟨k, (i : Int), nu, ofn, fr, da, fin, se, li⟩) ∧ Tn w w' L L' (Es K) := by
  by_cases hs : (E.pa i).sent ≤ 65535
  · refine (eesay_yes h hK i hi hs (hok.pa hi).ok.s1 k nu ofn fr da fin se li A c hp ha hbd hc hN).mono ?_
    rintro e w' ⟨rfl, L', h1, h2⟩
    exact ⟨⟨_, _, rfl⟩, L', by unfold En.say; rw [if_pos hs]; exact h1, h2⟩
  · refine (eesay_no h hK i hi (by omega) k nu ofn fr da fin se li A c hp ha).mono ?_
    rintro e w' ⟨rfl, L', h1, h2⟩
    exact ⟨⟨_, _, rfl⟩, L', by unfold En.say; rw [if_neg hs]; exact h1, h2⟩
theorem eeout_any {w : World} {L : Lab} {K b : Nat} {s : EeS} {E : En} (h : EE w L K b s E) (hK : K ≠ 0) (i : Nat) (hi : i < E.ps.length) (hok : (E.pa i).ok) (x y z u : Int) (hno : NoneQ (E.pa i).fl x) :
    Calls Tryz.prog 225 #[.pointer (some ⟨s.pb.getD i 0, 0, none⟩), .agg #[.int .i64 x, .int .i64 y, .int .i64 z, .int .i64 u]] w fun e w' => e = .returned (.bool true) ∧ ∃ L', EE w' L' K b s (E.setP i ((E.pa i).out ⟨x, y, z, u⟩)) ∧ Tn w w' L L' (Es K) := by
  obtain ⟨q, h⟩ := h
  refine (paout_yes (h.pth i hi) hok x y z u hno).mono ?_
  rintro e w' ⟨rfl, v', h1, h2⟩
  obtain ⟨h3, h4⟩ := h.path hK hi h1 h2
  have h5 := h.p.n3
  have hi2 : i < E.view.ps.length := hi
  exact ⟨rfl, _, ⟨_, h3⟩, h4.mono (fun x hx => by subst hx; exact ⟨by omega, by omega⟩)⟩
set_option maxHeartbeats 2000000 in
theorem eesend_any {w : World} {L : Lab} {K b : Nat} {s : EeS} {E : En} (h : EE w L K b s E) (hK : K ≠ 0) (hok : E.ok) (i : Nat) (hi : i < E.ps.length) (k nu ofn fr : Int) (da : List Int) (fin : Bool) (se li to : Int) (A : Option Addr) (c : Nat) (hp : PktAt w ⟨k, (i : Int), nu, ofn, fr, da, fin, se, li⟩ A c) (ha : Aps w L K A) (hbd : PkB ⟨k, (i : Int), (E.pa i).sent, ofn, fr, da, fin, se, li⟩) {N : Nat} (hc : E.cap N) (hN : N ≤ 274877906944) :
    Calls Tryz.prog 145 #[.pointer (some ⟨b, 0, none⟩), .agg #[.int .i64 k, .int .i64 (i : Int), .int .i64 nu, .int .i64 ofn, .int .i64 fr, .slice A da.length c, .bool fin, .int .i64 se, .int .i64 li], .int .i64 to] w (EEnd w L K b s (E.sayOut i ⟨k, (i : Int), nu, ofn, fr, da, fin, se, li⟩ fr to)) := by
  have hsy := Sy.new hp ha
  obtain ⟨w0, hw0⟩ : ∃ w0, w.alloc (.cells #[.int .i64 k, .int .i64 (i : Int), .int .i64 nu, .int .i64 ofn, .int .i64 fr, .slice A da.length c, .bool fin, .int .i64 se, .int .i64 li] 32) = w0 := ⟨_, rfl⟩
  rw [show w.alloc (.cells (Pkt.cs ⟨k, (i : Int), nu, ofn, fr, da, fin, se, li⟩ A c).toArray 32) = w0 from hw0] at hsy
  have hb0 : Below w.heap.size w w0 := by rw [← hw0]; exact (Below.refl _ _).alloc (Nat.le_refl _) _
  have h1 := h.grow hb0 (K + 13)
  have ha0 : Aps w0 (relab L w.heap.size (K + 13)) K A := fun a e => ⟨Nat.lt_of_lt_of_le (ha a e).1 hb0.size, by rw [relab_old (ha a e).1]; exact (ha a e).2⟩
  obtain ⟨L0, hL0⟩ : ∃ L0, relab L w.heap.size (K + 13) = L0 := ⟨_, rfl⟩
  obtain ⟨b0, hb0'⟩ : ∃ b0, w.heap.size = b0 := ⟨_, rfl⟩
  rw [hL0] at h1 hsy ha0
  obtain ⟨x0, x1, x2, x3, x4, x5, x6, x7, x8⟩ := hsy.v.cells
  simp only [] at x0 x1 x2 x3 x4 x5 x6 x7 x8
  rw [hb0'] at hsy
  by_cases hs : (E.pa i).sent ≤ 65535
  · have HSAY := Lib.hid (eesay_yes h1 hK i hi hs (hok.pa hi).ok.s1 k nu ofn fr da fin se li A c hsy.at_ ha0 hbd hc hN)
    have HQ := Lib.hid (And.intro hsy (And.intro hok (And.intro hi hs)))
    have HB := Lib.hid hb0'
    clear h hp ha hsy h1 ha0 hbd hc hL0 hb0 hok hi hs hb0'
    go_enter Tryz.func145, Tryz.ntmps145
    go_wp2_with fail
    try rw [HB.out]
    clear x0 x1 x2 x3 x4 x5 x6 x7 x8
    refine HSAY.out.mono ?_
    rintro e w1 ⟨rfl, L1, h1, ht1⟩
    obtain ⟨hsy, hok, hi, hs⟩ := HQ.out
    have hfi := hok.pa hi
    have hsy1 := hsy.turn ht1
    have hi2 : i < (E.say1 i ⟨k, (i : Int), nu, ofn, fr, da, fin, se, li⟩).ps.length := by rw [(En.keep_say1 i _).len]; exact hi
    have hpa := En.pa_say1 hi ⟨k, (i : Int), nu, ofn, fr, da, fin, se, li⟩
    have hno : NoneQ ((E.say1 i ⟨k, (i : Int), nu, ofn, fr, da, fin, se, li⟩).pa i).fl (E.pa i).sent := by rw [hpa]; exact hfi.none
    have hE : (E.say1 i ⟨k, (i : Int), nu, ofn, fr, da, fin, se, li⟩).setP i (((E.say1 i ⟨k, (i : Int), nu, ofn, fr, da, fin, se, li⟩).pa i).out ⟨(E.pa i).sent, fr, to, E.now⟩) = E.sayOut i ⟨k, (i : Int), nu, ofn, fr, da, fin, se, li⟩ fr to := by rw [En.sayOut_yes hs, hpa]
    have HOUT := Lib.hid (show ∀ W, W = w1.drew → Calls Tryz.prog 225 #[.pointer (some ⟨s.pb.getD i 0, 0, none⟩), .agg #[.int .i64 (E.pa i).sent, .int .i64 fr, .int .i64 to, .int .i64 E.now]] W fun e w' => e = .returned (.bool true) ∧ ∃ L', EE w' L' K b s (E.sayOut i ⟨k, (i : Int), nu, ofn, fr, da, fin, se, li⟩ fr to) ∧ Tn w w' L L' (Es K) from fun W hW => by
      rw [← hE]
      refine (eeout_any (w := W) (by rw [hW]; exact h1.drewN 1) hK i hi2 (by rw [hpa]; exact hfi.ok.num hs) _ fr to E.now hno).mono ?_
      rintro e w' ⟨rfl, L', h2, ht2⟩
      exact ⟨rfl, L', h2, (hsy1.drewN 1).tn.trans (by rw [show w1.drewN 1 = W from hW.symm]; exact ht2)⟩)
    obtain ⟨n3, hn3⟩ : ∃ n, (E.say1 i ⟨k, (i : Int), nu, ofn, fr, da, fin, se, li⟩).ps.length = n := ⟨_, rfl⟩
    obtain ⟨g, cp, hpv, c10, hg, _, _⟩ := h1.look hn3 (i := i) (by omega)
    have y1 := hg i (by omega)
    obtain ⟨pb, hpb⟩ : ∃ pb, s.pb.getD i 0 = pb := ⟨_, rfl⟩
    rw [hpb] at y1 HOUT
    obtain ⟨q, hq⟩ := h1
    have c8 : w1.cell? ⟨b, 0 + 8, none⟩ = some (.int .i64 E.now) := hq.cell 8 (by omega)
    have z1 : w1.cell? ⟨b0, 0 + 1, none⟩ = some (.int .i64 (i : Int)) := hsy1.v.cells.c1
    have z4 : w1.cell? ⟨b0, 0 + 4, none⟩ = some (.int .i64 fr) := hsy1.v.cells.c4
    have i1 : (i : Int) < (n3 : Int) := by omega
    have i2 : (0 : Int) ≤ (i : Int) := by omega
    have i3 : n3 ≤ 3 := by rw [← hn3]; exact hq.p.n3
    clear hsy hok hi hs ht1 hfi hsy1 hi2 hpa hno hE hn3 hpv hg hpb hq HSAY HQ HB
    go_wp2_with fail
    refine still_tail 17 (by kernel_rfl) (by kernel_rfl) ?_
    intro W hW
    have d10 : W.cell? ⟨b, 0 + 10, none⟩ = some (.slice (some ⟨g, 0, none⟩) n3 cp) := by rw [hW]; exact c10
    have d8 : W.cell? ⟨b, 0 + 8, none⟩ = some (.int .i64 E.now) := by rw [hW]; exact c8
    have d1 : W.cell? ⟨g, i, none⟩ = some (.pointer (some ⟨pb, 0, none⟩)) := by rw [hW]; exact y1
    have e1 : W.cell? ⟨b0, 0 + 1, none⟩ = some (.int .i64 (i : Int)) := by rw [hW]; exact z1
    have e4 : W.cell? ⟨b0, 0 + 4, none⟩ = some (.int .i64 fr) := by rw [hW]; exact z4
    have HA2 := Lib.hid (HOUT.out W hW)
    clear hW c10 c8 y1 z1 z4 HOUT
    simp only [List.take_succ_cons, List.take_zero, List.drop_succ_cons, List.drop_zero]
    repeat still_step
    refine wpStill_nil ?_
    go_wp2_with fail
    refine HA2.out.mono ?_
    rintro e w3 ⟨rfl, L3, h3, ht3⟩
    have HFIN := Lib.hid (show EEnd w L K b s (E.sayOut i ⟨k, (i : Int), nu, ofn, fr, da, fin, se, li⟩ fr to) (.returned (.tuple #[])) w3 from ⟨rfl, L3, h3, ht3⟩)
    clear h3 ht3 d10 d8 d1 e1 e4 HA2
    go_wp2
    go_end0
    exact HFIN.out
  · have HSAY := Lib.hid (eesay_no h1 hK i hi (by omega) k nu ofn fr da fin se li A c hsy.at_ ha0)
    have HQ := Lib.hid (And.intro hsy (En.sayOut_no (show 65535 < (E.pa i).sent by omega) ⟨k, (i : Int), nu, ofn, fr, da, fin, se, li⟩ fr to))
    have HB := Lib.hid hb0'
    clear h hp ha hsy h1 ha0 hbd hc hL0 hb0 hok hi hs hb0'
    go_enter Tryz.func145, Tryz.ntmps145
    go_wp2_with fail
    try rw [HB.out]
    clear x0 x1 x2 x3 x4 x5 x6 x7 x8
    refine HSAY.out.mono ?_
    rintro e w1 ⟨rfl, L1, h1, ht1⟩
    obtain ⟨hsy, hE⟩ := HQ.out
    have HFIN := Lib.hid (show EEnd w L K b s (E.sayOut i ⟨k, (i : Int), nu, ofn, fr, da, fin, se, li⟩ fr to) (.returned (.tuple #[])) w1 from ⟨rfl, L1, by rw [hE]; exact h1, (hsy.turn ht1).tn⟩)
    clear hsy hE h1 ht1 HSAY HQ HB
    go_wp2
    go_end0
    exact HFIN.out
set_option maxHeartbeats 2000000 in
theorem eeusable_any {w : World} {L : Lab} {K b : Nat} {s : EeS} {E : En} (h : EE w L K b s E) (hok : E.ok) : Calls Tryz.prog 141 #[.pointer (some ⟨b, 0, none⟩)] w fun e w' => e = .returned (.bool E.usable) ∧ ∃ k, w' = w.drewN k := by
  obtain ⟨n, hn⟩ : ∃ n, E.ps.length = n := ⟨_, rfl⟩
  have hn3 : n ≤ 3 := by rw [← hn]; exact hok.np3
  have hn1 : 1 ≤ n := by rw [← hn]; exact hok.np1
  obtain ⟨g, c, hpv, c10, hg, _, _⟩ := h.look hn (i := 0) (by omega)
  have HROW := Lib.hid (show ∀ k i, i < n → (w.drewN k).cell? ⟨g, i, none⟩ = some (.pointer (some ⟨s.pb.getD i 0, 0, none⟩)) from fun k i hi => hg i hi)
  obtain ⟨q, hq⟩ := h
  have HU := Lib.hid (show ∀ k i, i < n → Calls Tryz.prog 217 #[.pointer (some ⟨s.pb.getD i 0, 0, none⟩)] (w.drewN k) fun e w' => e = .returned (.bool (E.pa i).usable) ∧ ∃ k', w' = (w.drewN k).drewN k' from fun k i hi => pausable_any ((hq.drewN k).pth i (by omega)) (hok.pa (by omega)).ok)
  have HYES := Lib.hid (fun i (hi : i < n) => En.usable_yes (E := E) (i := i) (by omega))
  have HNO := Lib.hid (fun (hh : ∀ j, j < n → (E.pa j).usable = false) => En.usable_no (E := E) (by rw [hn]; exact hh))
  clear hq hpv hg hn hok hn1
  go_enter Tryz.func141, Tryz.ntmps141
  go_wp2
  go_loopw [10] (fun iv wr => ∃ (i k : Nat), i ≤ n ∧ iv = .int .i64 i ∧ wr = w.drewN k ∧ Hid (∀ j, j < i → (E.pa j).usable = false)) (fun iv _ => n - (intOf iv).toNat)
  case atStart => exact ⟨0, 0, by omega, rfl, rfl, Lib.hid (fun j hj => by omega)⟩
  case round =>
    obtain ⟨i, k, hi, rfl, rfl, hall⟩ := hrel
    by_cases hin : i < n
    · have y := HROW.out k i hin
      have hc := HU.out k i hin
      obtain ⟨pb, hpb⟩ : ∃ pb, s.pb.getD i 0 = pb := ⟨_, rfl⟩
      rw [hpb] at y hc
      have i1 : (i : Int) < (n : Int) := by omega
      have i2 : (0 : Int) ≤ (i : Int) := by omega
      have HI := Lib.hid hin
      have HIW := Lib.hid (show wrap64 ((i : Int) + 1) = ((i + 1 : Nat) : Int) from wrap_atS (by omega) (by omega) (by omega))
      obtain ⟨u, hu⟩ : ∃ u, (E.pa i).usable = u := ⟨_, rfl⟩
      have HUU := Lib.hid hu
      rw [hu] at hc
      have HC := Lib.hid hc
      clear hu hc hpb hi hin
      go_wp2_with fail
      refine HC.out.mono ?_
      rintro e w1 ⟨rfl, k', rfl⟩
      rw [World.drewN_drewN]
      cases u
      · go_wp2
        go_roundw
        case rel => exact ⟨i + 1, _, by have := HI.out; omega, by first | rfl | rw [HIW.out], rfl, Lib.hid (fun j hj => by
            by_cases e : j = i
            · rw [e]; exact HUU.out
            · exact hall.out j (by omega))⟩
        case measure => (try rw [HIW.out]); have := HI.out; simp [intOf]; omega
      · have HE := Lib.hid (HYES.out i HI.out HUU.out)
        go_wp2
        go_ret
        rw [HE.out]
        exact ⟨rfl, _, rfl⟩
    · have e : i = n := by omega
      subst e
      have HE := Lib.hid (HNO.out hall.out)
      have j1 : ¬ ((i : Int) < (i : Int)) := by omega
      clear hi hin hall
      go_wp2
      go_ret
      rw [HE.out]
      exact ⟨rfl, _, rfl⟩
end Go.Proofs.YtpjlnpnadkbakaaGreat

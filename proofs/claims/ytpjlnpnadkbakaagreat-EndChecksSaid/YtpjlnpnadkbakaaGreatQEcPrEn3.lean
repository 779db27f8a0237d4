/-
  PrEn3.
-/
import Derived.Test.YtpjlnpnadkbakaaGreatQEcPrEn2
import Derived.Test.YtpjlnpnadkbakaaGreatQEcQuad
namespace Go.Proofs.YtpjlnpnadkbakaaGreat
set_option maxRecDepth 10000
open Go.RowKit

/-- A call's own variable b0 that holds a packet, whose bytes lie ahead of it and are none of the End's. -/
structure Sy (w wr : World) (L L1 : Lab) (K b0 : Nat) (p : Pkt) (A : Option Addr) (c : Nat) : Prop where
  e0 : w.heap.size = b0
  tb : TnB b0 w wr L L1 (Es K)
  v : PkV wr b0 p A c
  at_ : PktAt wr p A c
  lb : L1 b0 = K + 13
  ap : ∀ a, A = some a → a.block < b0 ∧ ¬ Es K (L1 a.block)
/-- Bytes that lie ahead, and are none of the End's. -/
def Aps (w : World) (L : Lab) (K : Nat) (A : Option Addr) : Prop := ∀ a, A = some a → a.block < w.heap.size ∧ ¬ Es K (L a.block)
section
variable {w wr w2 : World} {L L1 L2 : Lab} {K b0 : Nat} {p : Pkt} {A : Option Addr} {c : Nat}
theorem Sy.new (h : PktAt w p A c) (ha : Aps w L K A) : Sy w (w.alloc (.cells (p.cs A c).toArray 32)) L (relab L w.heap.size (K + 13)) K w.heap.size p A c := by
  have hb := (Below.refl w.heap.size w).alloc (Nat.le_refl _) (.cells (p.cs A c).toArray 32)
  exact ⟨rfl, (TnB.refl w L (Es K) (Nat.le_refl _)).below hb (K + 13), PkV.new w p A c, h.later hb, relab_new (Nat.le_refl _), fun a e => ⟨(ha a e).1, by rw [relab_old (ha a e).1]; exact (ha a e).2⟩⟩
theorem Sy.lt (h : Sy w wr L L1 K b0 p A c) : b0 < wr.heap.size := h.v.lt
theorem Sy.turn (h : Sy w wr L L1 K b0 p A c) (ht : Tn wr w2 L1 L2 (Es K)) : Sy w w2 L L2 K b0 p A c := by
  have hb := ht.block h.lb (by unfold Es; omega) h.lt
  refine ⟨h.e0, h.tb.then ht, h.v.of_block hb, ?_, ht.lab h.lb h.lt, fun a e => ?_⟩
  · have hr := rd_trn h.at_.rd ht.trn (fun a e => (h.ap a e).2)
    exact { h.at_ with rd := hr }
  · have h1 := h.ap a e
    have := h.lt
    exact ⟨h1.1, by rw [ht.old _ (by omega)]; exact h1.2⟩
theorem Sy.drewN (h : Sy w wr L L1 K b0 p A c) (n : Nat) : Sy w (wr.drewN n) L L1 K b0 p A c := h.turn (Tn.drewN wr L1 n _)
theorem Sy.nu (h : Sy w wr L L1 K b0 p A c) (x : Int) (hx : -9223372036854775808 ≤ x ∧ x ≤ 9223372036854775807) : Sy w (wr.setCell ⟨b0, 2, none⟩ (.int .i64 x)) L L1 K b0 { p with nu := x } A c := by
  have hsz := h.tb.size
  have hr : Rd .u8 (wr.setCell ⟨b0, 2, none⟩ (.int .i64 x)) A p.da := rd_trn h.at_.rd (Trn.of_grown (setCell_one wr b0 2 (.int .i64 x))) (fun a e e2 => by have := (h.ap a e).1; have := Option.some.inj e2; omega)
  exact ⟨h.e0, h.tb.trans (TnB.store wr L1 (Es K) ⟨b0, 2, none⟩ _ (Nat.le_refl _) (Nat.le_of_lt h.lt)), h.v.nu x, { h.at_ with rd := hr, bn := hx }, h.lb, h.ap⟩
/-- An End stays, where the variable is stored into. -/
theorem EE.aside {b : Nat} {s : EeS} {E : En} (he : EE wr L1 K b s E) (h : Sy w wr L L1 K b0 p A c) (j : Nat) (u : Value) : EE (wr.setCell ⟨b0, j, none⟩ u) L1 K b s E :=
  he.keep (Tn.store wr L1 ⟨b0, j, none⟩ u h.lb (S := fun x => x = K + 13) rfl) (fun x hx => by unfold Es at hx; omega) (by omega)
theorem Sy.tn (h : Sy w wr L L1 K b0 p A c) : Tn w wr L L1 (Es K) := TnB.toTn (by rw [h.e0]; exact h.tb)
end
theorem evP_at {w : World} {p : Pkt} {A : Option Addr} {c : Nat} (k : Int) (hk : 0 ≤ k ∧ k ≤ 8) (h : PktAt w p A c) : EvAt w (evP k p) none 0 A c :=
  ⟨.inl rfl, by simp [evP], by simp [evP], fun _ => rfl, by intro x hx; simp [evP] at hx, by simp only [evP]; omega, by simp only [evP]; omega, h⟩
/-- Where the path i lies. -/
theorem EE.look {w : World} {L : Lab} {K b : Nat} {s : EeS} {E : En} (h : EE w L K b s E) {i n : Nat} (hn : E.ps.length = n) (hi : i < n) :
    ∃ g cp, s.pv = .slice (some ⟨g, 0, none⟩) n cp ∧ w.cell? ⟨b, 0 + 10, none⟩ = some (.slice (some ⟨g, 0, none⟩) n cp) ∧ (∀ j, j < n → w.cell? ⟨g, j, none⟩ = some (.pointer (some ⟨s.pb.getD j 0, 0, none⟩))) ∧ L g = K + 1 ∧ g < w.heap.size := by
  obtain ⟨q, h⟩ := h
  have hl : s.pb.length = n := h.p.pbn.trans hn
  obtain ⟨g, cp, hv, hc⟩ := h.p.pvr.at (by omega)
  rw [hl] at hv hc
  refine ⟨g, cp, hv, ?_, hc, h.p.pvl g (by rw [hv]; rfl), World.block_lt_of_cell? w _ (hc i hi)⟩
  have := h.cell 10 (by omega)
  rw [show (eeL s q E).getD 10 undef = s.pv from rfl, hv] at this
  exact this
/-- The row of the paths lies where it lay. -/
theorem EE.row {w : World} {L : Lab} {K b : Nat} {s : EeS} {E : En} (h : EE w L K b s E) {g n cp : Nat} (hpv : s.pv = .slice (some ⟨g, 0, none⟩) n cp) (hn0 : 0 < n) :
    E.ps.length = n ∧ w.cell? ⟨b, 0 + 10, none⟩ = some (.slice (some ⟨g, 0, none⟩) n cp) ∧ (∀ j, j < n → w.cell? ⟨g, j, none⟩ = some (.pointer (some ⟨s.pb.getD j 0, 0, none⟩))) := by
  obtain ⟨q, h⟩ := h
  have hf := h.p.pvr.form
  obtain ⟨A, c, hv⟩ := hf
  rw [hpv] at hv
  injection hv with _ hv2 _
  have hn : E.ps.length = n := by have e : s.pb.length = E.ps.length := h.p.pbn; omega
  obtain ⟨g', cp', h1, h2, h3, _⟩ := EE.look ⟨q, h⟩ hn (i := 0) hn0
  rw [hpv] at h1
  injection h1 with h1 _ h4
  injection h1 with h1
  injection h1 with h1
  subst h1
  subst h4
  exact ⟨hn, h2, h3⟩

set_option maxHeartbeats 2000000 in
theorem eesay_yes {w : World} {L : Lab} {K' b : Nat} {s : EeS} {E : En} (h : EE w L K' b s E) (hK' : K' ≠ 0) (i : Nat) (hi : i < E.ps.length) (hs : (E.pa i).sent ≤ 65535) (h0 : 0 ≤ (E.pa i).sent) (k nu ofn fr : Int) (da : List Int) (fin : Bool) (se li : Int) (A : Option Addr) (c : Nat) (hp : PktAt w ⟨k, (i : Int), nu, ofn, fr, da, fin, se, li⟩ A c) (ha : Aps w L K' A) (hbd : PkB ⟨k, (i : Int), (E.pa i).sent, ofn, fr, da, fin, se, li⟩) {N : Nat} (hc : E.cap N) (hN : N ≤ 274877906944) :
    Calls Tryz.prog 71 #[.pointer (some ⟨b, 0, none⟩), .agg #[.int .i64 k, .int .i64 (i : Int), .int .i64 nu, .int .i64 ofn, .int .i64 fr, .slice A da.length c, .bool fin, .int .i64 se, .int .i64 li]] w fun e w' => e = .returned (.tuple #[.int .i64 (E.pa i).sent, .bool true]) ∧ ∃ L', EE w' L' K' b s (E.say1 i ⟨k, (i : Int), nu, ofn, fr, da, fin, se, li⟩) ∧ Tn w w' L L' (Es K') := by
  have hsy := Sy.new hp ha
  obtain ⟨w0, hw0⟩ : ∃ w0, w.alloc (.cells #[.int .i64 k, .int .i64 (i : Int), .int .i64 nu, .int .i64 ofn, .int .i64 fr, .slice A da.length c, .bool fin, .int .i64 se, .int .i64 li] 32) = w0 := ⟨_, rfl⟩
  rw [show w.alloc (.cells (Pkt.cs ⟨k, (i : Int), nu, ofn, fr, da, fin, se, li⟩ A c).toArray 32) = w0 from hw0] at hsy
  have hb0 : Below w.heap.size w w0 := by rw [← hw0]; exact (Below.refl _ _).alloc (Nat.le_refl _) _
  have h1 := h.grow hb0 (K' + 13)
  obtain ⟨L0, hL0⟩ : ∃ L0, relab L w.heap.size (K' + 13) = L0 := ⟨_, rfl⟩
  obtain ⟨b0, hb0'⟩ : ∃ b0, w.heap.size = b0 := ⟨_, rfl⟩
  rw [hL0] at h1 hsy
  have hsyd := hsy.drewN 1
  have h1d := h1.drewN 1
  obtain ⟨W, hW⟩ : ∃ W, w0.drew = W := ⟨_, rfl⟩
  rw [show w0.drewN 1 = W from hW] at hsyd h1d
  rw [hb0'] at hsy hsyd
  obtain ⟨n3, hn3⟩ : ∃ n, E.ps.length = n := ⟨_, rfl⟩
  obtain ⟨g, cp, hpv, c10, hg, hgl, hgs⟩ := h1d.look hn3 (i := i) (by omega)
  obtain ⟨q, hq⟩ := h1d
  have hP := hq.pth i hi
  have hPl := hq.p.ptl i hi
  have hn3' : n3 ≤ 3 := by rw [← hn3]; exact hq.p.n3
  have hbl := hq.lb
  have hblt := hq.lt
  obtain ⟨pb, hpb⟩ : ∃ pb, s.pb.getD i 0 = pb := ⟨_, rfl⟩
  have gi := hg i (by omega)
  rw [hpb] at gi
  have y1 : W.cell? ⟨b0, 0 + 1, none⟩ = some (.int .i64 (i : Int)) := hsyd.v.cells.c1
  have i1 : (i : Int) < (n3 : Int) := by omega
  have i2 : (0 : Int) ≤ (i : Int) := by omega
  have i3 : i < n3 := by omega
  obtain ⟨sn, hsn⟩ : ∃ x, (E.pa i).sent = x := ⟨_, rfl⟩
  have HNUM := Lib.hid (show Calls Tryz.prog 149 #[.pointer (some ⟨pb, 0, none⟩)] W fun e w' => e = .returned (.tuple #[.int .i64 sn, .bool true]) ∧ PaAt w' 0 (s.pb.getD i 0) (s.pg i) (s.pw i) (s.pf i) (q.fv i) (E.pa i).num ∧ SC W w' (Pat (s.pb.getD i 0) (s.pg i) (s.pw i) (s.pf i) (q.fv i)) (Pat (s.pb.getD i 0) (s.pg i) (s.pw i) (s.pf i) (q.fv i)) by
    rw [← hpb, ← hsn]
    exact panumber_yes hP h0 hs)
  have HQ := Lib.hid (And.intro hq (And.intro hsyd (And.intro hi (And.intro hbd (And.intro hc (And.intro hs (And.intro h0 hsn)))))))
  have HG := Lib.hid (And.intro hgl (And.intro hgs (And.intro hbl (And.intro hblt (And.intro hPl (And.intro (show b0 ≠ b by have := h.choose_spec.lt; omega) (And.intro hb0' (And.intro (show g ≠ b0 by intro e; have := hsyd.lb; rw [e] at hgl; omega) hpb))))))))
  have S00 := Lib.hid (show (fun wi => wi.cell? ⟨b, 0 + 10, none⟩ = some (.slice (some ⟨g, 0, none⟩) n3 cp) ∧ wi.cell? ⟨b0, 0 + 1, none⟩ = some (.int .i64 (i : Int)) ∧ wi.cell? ⟨g, i, none⟩ = some (.pointer (some ⟨pb, 0, none⟩))) w0.drew by rw [hW]; exact ⟨c10, y1, gi⟩)
  have S0 := Lib.hid (show W.cell? ⟨b, 0 + 10, none⟩ = some (.slice (some ⟨g, 0, none⟩) n3 cp) ∧ W.cell? ⟨b0, 0 + 1, none⟩ = some (.int .i64 (i : Int)) ∧ W.cell? ⟨g, i, none⟩ = some (.pointer (some ⟨pb, 0, none⟩)) from ⟨c10, y1, gi⟩)
  clear h hi hp ha hsy hsyd h1 hL0 hb0 hpv hg hgl hgs hq hP hPl hbl hblt hpb hs h0 hbd hc c10 y1 gi hn3
  go_enter Tryz.func71, Tryz.ntmps71
  go_wp2_with fail
  try rw [hb0']
  refine wp_region_held_drew (S := fun wi => wi.cell? ⟨b, 0 + 10, none⟩ = some (.slice (some ⟨g, 0, none⟩) n3 cp) ∧ wi.cell? ⟨b0, 0 + 1, none⟩ = some (.int .i64 (i : Int)) ∧ wi.cell? ⟨g, i, none⟩ = some (.pointer (some ⟨pb, 0, none⟩))) (by kernel_rfl) S00.out ?_
  intro hHeld
  rw [hW]
  clear hw0 hW S00 hb0'
  refine wpAnyH_take (i := 0) (v := ?_) rfl (by kernel_rfl) (by kernel_rfl) (by kernel_rfl) (fun _ _ _ h => h) (Or.inl ⟨by rfl, ?_⟩) (by assumption) ?_
  rotate_left
  · intro w hSw
    (try dsimp only at hSw)
    go_simp
    try (with_reducible rfl)
  try simp only [Act.put, List.getElem_toArray, List.getElem_cons_zero, List.setIfInBounds_toArray, List.set_cons_zero, List.set_cons_succ]
  refine wpAnyH_take (i := 1) (v := ?_) rfl (by kernel_rfl) (by kernel_rfl) (by kernel_rfl) (fun _ _ _ h => h) (Or.inl ⟨by rfl, ?_⟩) (by assumption) ?_
  rotate_left
  · intro w hSw
    (try dsimp only at hSw)
    go_simp
    try (with_reducible rfl)
  try simp only [Act.put, List.getElem_toArray, List.getElem_cons_zero, List.getElem_cons_succ, List.setIfInBounds_toArray, List.set_cons_zero, List.set_cons_succ]
  refine wpAnyH_take (i := 2) (v := ?_) rfl (by kernel_rfl) (by kernel_rfl) (by kernel_rfl) (fun _ _ _ h => h) (Or.inl ⟨by rfl, ?_⟩) (by assumption) ?_
  rotate_left
  · intro w hSw
    (try dsimp only at hSw)
    go_simp
    try (with_reducible rfl)
  try simp only [Act.put, List.getElem_toArray, List.getElem_cons_zero, List.getElem_cons_succ, List.setIfInBounds_toArray, List.set_cons_zero, List.set_cons_succ]
  refine wpAnyH_take (i := 3) (v := ?_) rfl (by kernel_rfl) (by kernel_rfl) (by kernel_rfl) (fun _ _ _ h => h) (Or.inl ⟨by rfl, ?_⟩) (by assumption) ?_
  rotate_left
  · intro w hSw
    (try dsimp only at hSw)
    go_simp
    try (with_reducible rfl)
  try simp only [Act.put, List.getElem_toArray, List.getElem_cons_zero, List.getElem_cons_succ, List.setIfInBounds_toArray, List.set_cons_zero, List.set_cons_succ]
  refine wpAnyH_take (i := 4) (v := ?_) rfl (by kernel_rfl) (by kernel_rfl) (by kernel_rfl) (fun _ _ _ h => h) (Or.inl ⟨by rfl, ?_⟩) (by assumption) ?_
  rotate_left
  · intro w hSw
    (try dsimp only at hSw)
    go_simp
    try (with_reducible rfl)
  try simp only [Act.put, List.getElem_toArray, List.getElem_cons_zero, List.getElem_cons_succ, List.setIfInBounds_toArray, List.set_cons_zero, List.set_cons_succ]
  refine wpAnyH_take (i := 5) (v := ?_) rfl (by kernel_rfl) (by kernel_rfl) (by kernel_rfl) (fun _ _ _ h => h) (Or.inl ⟨by rfl, ?_⟩) (by assumption) ?_
  rotate_left
  · intro w hSw
    (try dsimp only at hSw)
    go_simp
    try (with_reducible rfl)
  try simp only [Act.put, List.getElem_toArray, List.getElem_cons_zero, List.getElem_cons_succ, List.setIfInBounds_toArray, List.set_cons_zero, List.set_cons_succ]
  refine wpAnyH_take (i := 6) (v := ?_) rfl (by kernel_rfl) (by kernel_rfl) (by kernel_rfl) (fun _ _ _ h => h) (Or.inl ⟨by rfl, ?_⟩) (by assumption) ?_
  rotate_left
  · intro w hSw
    (try dsimp only at hSw)
    go_simp
    try (with_reducible rfl)
  try simp only [Act.put, List.getElem_toArray, List.getElem_cons_zero, List.getElem_cons_succ, List.setIfInBounds_toArray, List.set_cons_zero, List.set_cons_succ]
  refine wpAnyH_take (i := 7) (v := ?_) rfl (by kernel_rfl) (by kernel_rfl) (by kernel_rfl) (fun _ _ _ h => h) (Or.inl ⟨by rfl, ?_⟩) (by assumption) ?_
  rotate_left
  · intro w hSw
    (try dsimp only at hSw)
    go_simp
    try (with_reducible rfl)
  try simp only [Act.put, List.getElem_toArray, List.getElem_cons_zero, List.getElem_cons_succ, List.setIfInBounds_toArray, List.set_cons_zero, List.set_cons_succ]
  refine wpAnyH_ready (rs := [8]) (by kernel_rfl) (by simp) ?_
  refine AllReadyH.cons rfl (fun K hK => ?_) AllReadyH.nil
  go_simp
  refine HNUM.out.mono ?_
  rintro e w1 ⟨rfl, hp1, hsc⟩
  obtain ⟨hq, hsy, hi, hbd, hc, hs, h0, hsn⟩ := HQ.out
  obtain ⟨hgl, hgs, hbl, hblt, hPl, hne, hb0', hgb, hpb⟩ := HG.out
  obtain ⟨h2, ht2⟩ := hq.path hK' hi hp1 hsc
  have ht2 := ht2.mono (S' := Es K') (fun x hx => by have := hq.p.n3; have hi2 : i < E.view.ps.length := hi; subst hx; exact ⟨by omega, by omega⟩)
  obtain ⟨L1, hL1⟩ : ∃ L1, relab L0 W.heap.size (K' + 8 + i) = L1 := ⟨_, rfl⟩
  rw [hL1] at h2 ht2
  have hx : ∀ j, Pat (s.pb.getD i 0) (s.pg i) (s.pw i) (s.pf i) (q.fv i) j → L0 j = K' + 8 + i := hPl
  have hsy1 := hsy.turn ht2
  have S1 := Lib.hid (show w1.cell? ⟨b, 0 + 10, none⟩ = some (.slice (some ⟨g, 0, none⟩) n3 cp) ∧ w1.cell? ⟨b0, 0 + 1, none⟩ = some (.int .i64 (i : Int)) ∧ w1.cell? ⟨g, i, none⟩ = some (.pointer (some ⟨pb, 0, none⟩)) from
    ⟨(World.cell?_of_block (hsc.trn.block b hblt (fun e => by have := hx b e; omega))).trans S0.out.1, hsy1.v.cells.c1, (World.cell?_of_block (hsc.trn.block g hgs (fun e => by have := hx g e; omega))).trans S0.out.2.2⟩)
  have hbs := hbd
  rw [hsn] at hbs
  have hsy2 := hsy1.nu sn hbs.bn
  have h3 := EE.aside ⟨_, h2⟩ hsy1 2 (.int .i64 sn)
  obtain ⟨w2, hw2⟩ : ∃ w2, w1.setCell ⟨b0, 2, none⟩ (.int .i64 sn) = w2 := ⟨_, rfl⟩
  have hg2 := setCell_one w1 b0 2 (.int .i64 sn)
  rw [hw2] at hsy2 h3 hg2
  have S2 := Lib.hid (show w2.cell? ⟨b, 0 + 10, none⟩ = some (.slice (some ⟨g, 0, none⟩) n3 cp) ∧ w2.cell? ⟨b0, 0 + 1, none⟩ = some (.int .i64 (i : Int)) ∧ w2.cell? ⟨g, i, none⟩ = some (.pointer (some ⟨pb, 0, none⟩)) from
    ⟨cell_other hg2 (fun e => hne e.symm) S1.out.1, hsy2.v.cells.c1, cell_other hg2 hgb S1.out.2.2⟩)
  have x2 : w1.cell? ⟨b0, 0 + 2, none⟩ = some (.int .i64 nu) := hsy1.v.cells.c2
  have f2 : w1.frozen? ⟨b0, 0 + 2, none⟩ = false := hsy1.v.fr 2
  have H3 := Lib.hid (And.intro h3 (And.intro hsy2 (And.intro hi (And.intro hbs (And.intro hc (And.intro hsn hs))))))
  clear hq hsy hi hbd hc hs h0 hsn hgl hgs hbl hblt hPl hne hb0' hgb hpb h2 ht2 hL1 hx hsy1 hbs hsy2 h3 hg2 hp1 hsc HQ HG HNUM
  try go_wp2_with fail
  refine hK.out _ _ S1.out (fun hHeld2 => ?_)
  clear hK K hHeld
  have hHeld := hHeld2
  clear hHeld2
  try simp only [Act.put, List.getElem_toArray, List.getElem_cons_zero, List.getElem_cons_succ, List.setIfInBounds_toArray, List.set_cons_zero, List.set_cons_succ]
  refine wpAnyH_take (i := 9) (v := ?_) rfl (by kernel_rfl) (by kernel_rfl) (by kernel_rfl) (fun _ _ _ h => h) (Or.inl ⟨by rfl, ?_⟩) (by assumption) ?_
  rotate_left
  · intro w hSw
    (try dsimp only at hSw)
    go_simp
    try (with_reducible rfl)
  try simp only [Act.put, List.getElem_toArray, List.getElem_cons_zero, List.getElem_cons_succ, List.setIfInBounds_toArray, List.set_cons_zero, List.set_cons_succ]
  refine wpAnyH_take (i := 10) (v := ?_) rfl (by kernel_rfl) (by kernel_rfl) (by kernel_rfl) (fun _ _ _ h => h) (Or.inl ⟨by rfl, ?_⟩) (by assumption) ?_
  rotate_left
  · intro w hSw
    (try dsimp only at hSw)
    go_simp
    try (with_reducible rfl)
  try simp only [Act.put, List.getElem_toArray, List.getElem_cons_zero, List.getElem_cons_succ, List.setIfInBounds_toArray, List.set_cons_zero, List.set_cons_succ]
  refine wpAnyH_take (i := 11) (v := ?_) rfl (by kernel_rfl) (by kernel_rfl) (by kernel_rfl) (fun _ _ _ h => h) (Or.inl ⟨by rfl, ?_⟩) (by assumption) ?_
  rotate_left
  · intro w hSw
    (try dsimp only at hSw)
    go_simp
    try (with_reducible rfl)
  try simp only [Act.put, List.getElem_toArray, List.getElem_cons_zero, List.getElem_cons_succ, List.setIfInBounds_toArray, List.set_cons_zero, List.set_cons_succ]
  refine wpAnyH_take (i := 12) (v := ?_) rfl (by kernel_rfl) (by kernel_rfl) (by kernel_rfl) (fun _ _ _ h => h) (Or.inl ⟨by rfl, ?_⟩) (by assumption) ?_
  rotate_left
  · intro w hSw
    (try dsimp only at hSw)
    go_simp
    try (with_reducible rfl)
  try simp only [Act.put, List.getElem_toArray, List.getElem_cons_zero, List.getElem_cons_succ, List.setIfInBounds_toArray, List.set_cons_zero, List.set_cons_succ]
  refine wpAnyH_ready (rs := [13]) (by kernel_rfl) (by simp) ?_
  refine AllReadyH.cons rfl (fun K hK => ?_) AllReadyH.nil
  go_simp
  try rw [hw2]
  refine hK.out _ _ S2.out (fun hHeld2 => ?_)
  clear hK K hHeld
  have hHeld := hHeld2
  clear hHeld2
  try simp only [Act.put, List.getElem_toArray, List.getElem_cons_zero, List.getElem_cons_succ, List.setIfInBounds_toArray, List.set_cons_zero, List.set_cons_succ]
  refine wpAnyH_take (i := 14) (v := ?_) rfl (by kernel_rfl) (by kernel_rfl) (by kernel_rfl) (fun _ _ _ h => h) (Or.inl ⟨by rfl, ?_⟩) (by assumption) ?_
  rotate_left
  · intro w hSw
    (try dsimp only at hSw)
    go_simp
    try (with_reducible rfl)
  try simp only [Act.put, List.getElem_toArray, List.getElem_cons_zero, List.getElem_cons_succ, List.setIfInBounds_toArray, List.set_cons_zero, List.set_cons_succ]
  refine wpAnyH_done (by kernel_rfl) ?_ _
  clear hHeld S0 S1 S2 x2 f2 hw2
  obtain ⟨h3, hsy2, hi, hbs, hc, hsn, hs⟩ := H3.out
  have HNO := Lib.hid (show Calls Tryz.prog 65 #[.pointer (some ⟨b, 0, none⟩), .agg #[.int .i64 5, .int .i64 0, .slice none 0 0, .int .i64 k, .int .i64 (i : Int), .int .i64 sn, .int .i64 ofn, .int .i64 fr, .slice A da.length c, .bool fin, .int .i64 se, .int .i64 li]] w2 _ from eenote_any h3 hK' (evP 5 ⟨k, (i : Int), sn, ofn, fr, da, fin, se, li⟩) none 0 A c (evP_at 5 (by omega) hsy2.at_) (EvB.pkt (EvB.kin EvB.zero (by decide)) hbs) (N := N) (hc.of_eq rfl rfl rfl) (by omega))
  obtain ⟨x0, x1, x2, x3, x4, x5, x6, x7, x8⟩ := hsy2.v.cells
  have HS := Lib.hid hsy2
  have HR := Lib.hid (And.intro hc (And.intro hi (And.intro hsn (And.intro hbs.len hs))))
  simp only [] at x0 x1 x2 x3 x4 x5 x6 x7 x8
  clear h3 hsy2 hi hbs hc hsn hs H3
  go_wp2_with fail
  refine HNO.out.mono ?_
  rintro e w3 ⟨rfl, L3, h3, ht3⟩
  obtain ⟨hc, hi, hsn, hlen, hs⟩ := HR.out
  have hsy3 := HS.out.turn ht3
  obtain ⟨E3, hE3⟩ : ∃ E3, (E.setP i (E.pa i).num).noteS (evP 5 ⟨k, (i : Int), sn, ofn, fr, da, fin, se, li⟩) = E3 := ⟨_, rfl⟩
  rw [hE3] at h3
  have hc3 : E3.cap (N + 1) := by rw [← hE3]; exact En.cap.noteS (hc.of_eq rfl rfl rfl : (E.setP i (E.pa i).num).cap N) _
  have HA := Lib.hid (eecount_any h3 hK' 1 (by omega) 1 (by omega) (by omega) hc3 (by omega) 1 rfl)
  have HS3 := Lib.hid hsy3
  have HE3 := Lib.hid hE3
  have HC3 := Lib.hid hc3
  have c18 := h3.c18
  clear hc hi hsn hlen hs h3 ht3 hsy3 hc3 hE3 HS HNO x0 x1 x2 x3 x4 x5 x6 x7 x8
  go_wp2_with fail
  clear c18
  refine HA.out.mono ?_
  rintro e w4 ⟨⟨z, rfl⟩, L4, h4, ht4⟩
  have hsy4 := HS3.out.turn ht4
  have hc4 := HC3.out.count 1 (n := 1) (by omega) (k := 1) (by omega)
  obtain ⟨hc, hi, hsn, hlen, hs⟩ := HR.out
  have HB := Lib.hid (show ∀ W, W = w4.drew → Calls Tryz.prog 66 #[.pointer (some ⟨s.mb, 0, none⟩), .int .i64 2, .int .i64 (da.length : Int)] W _ from fun W hW => eecount_any (w := W) (by rw [hW]; exact h4.drewN 1) hK' 2 (by omega) (da.length : Int) (by omega) (by have hl2 : da.length ≤ 80 := hlen; omega) hc4 (by omega) 2 rfl)
  have c18 := h4.c18
  have x5 : w4.cell? ⟨b0, 0 + 5, none⟩ = some (.slice A da.length c) := hsy4.v.cells.c5
  have HS4 := Lib.hid hsy4
  clear hc hi hsn hlen hs h4 ht4 hsy4 hc4 HS3 HA HC3
  go_wp2_with fail
  refine still_tail 7 (by kernel_rfl) (by kernel_rfl) ?_
  intro W5 hW5
  have d18 : W5.cell? ⟨b, 0 + 18, none⟩ = some (.pointer (some ⟨s.mb, 0, none⟩)) := by rw [hW5]; exact c18
  have d5 : W5.cell? ⟨b0, 0 + 5, none⟩ = some (.slice A da.length c) := by rw [hW5]; exact x5
  have HB2 := Lib.hid (HB.out W5 hW5)
  have HS5 := Lib.hid (show Sy w W5 L L4 K' b0 _ A c by rw [hW5]; exact HS4.out.drewN 1)
  clear hW5 c18 x5 HB HS4
  simp only [List.take_succ_cons, List.take_zero, List.drop_succ_cons, List.drop_zero]
  repeat still_step
  refine wpStill_nil ?_
  go_wp2_with fail
  clear d18 d5
  refine HB2.out.mono ?_
  rintro e w5 ⟨⟨z2, rfl⟩, L5, h5, ht5⟩
  have hsy5 := HS5.out.turn ht5
  have y2 : w5.cell? ⟨b0, 0 + 2, none⟩ = some (.int .i64 sn) := hsy5.v.cells.c2
  have HFIN := Lib.hid (show Ending.returned (.tuple #[.int .i64 sn, .bool true]) = Ending.returned (.tuple #[.int .i64 (E.pa i).sent, .bool true]) ∧ ∃ L', EE w5 L' K' b s (E.say1 i ⟨k, (i : Int), nu, ofn, fr, da, fin, se, li⟩) ∧ Tn w w5 L L' (Es K') by
    obtain ⟨hc, hi, hsn, hlen, hs⟩ := HR.out
    refine ⟨by rw [hsn], L5, ?_, hsy5.tn⟩
    have hEE : E.say1 i ⟨k, (i : Int), nu, ofn, fr, da, fin, se, li⟩ = (E3.count 1 1).count 2 (da.length : Int) := by rw [← HE3.out, En.say1_eq, hsn]; rfl
    rw [hEE]
    exact h5)
  clear hsy5 h5 ht5 HS5 HB2 HE3 HR
  go_wp2
  go_ret2
  exact HFIN.out

set_option maxHeartbeats 2000000 in
theorem eesay_no {w : World} {L : Lab} {K' b : Nat} {s : EeS} {E : En} (h : EE w L K' b s E) (_ : K' ≠ 0) (i : Nat) (hi : i < E.ps.length) (hs : 65535 < (E.pa i).sent) (k nu ofn fr : Int) (da : List Int) (fin : Bool) (se li : Int) (A : Option Addr) (c : Nat) (hp : PktAt w ⟨k, (i : Int), nu, ofn, fr, da, fin, se, li⟩ A c) (ha : Aps w L K' A)  :
    Calls Tryz.prog 71 #[.pointer (some ⟨b, 0, none⟩), .agg #[.int .i64 k, .int .i64 (i : Int), .int .i64 nu, .int .i64 ofn, .int .i64 fr, .slice A da.length c, .bool fin, .int .i64 se, .int .i64 li]] w fun e w' => e = .returned (.tuple #[.int .i64 0, .bool false]) ∧ ∃ L', EE w' L' K' b s E ∧ Tn w w' L L' (Es K') := by
  have hsy := Sy.new hp ha
  obtain ⟨w0, hw0⟩ : ∃ w0, w.alloc (.cells #[.int .i64 k, .int .i64 (i : Int), .int .i64 nu, .int .i64 ofn, .int .i64 fr, .slice A da.length c, .bool fin, .int .i64 se, .int .i64 li] 32) = w0 := ⟨_, rfl⟩
  rw [show w.alloc (.cells (Pkt.cs ⟨k, (i : Int), nu, ofn, fr, da, fin, se, li⟩ A c).toArray 32) = w0 from hw0] at hsy
  have hb0 : Below w.heap.size w w0 := by rw [← hw0]; exact (Below.refl _ _).alloc (Nat.le_refl _) _
  have h1 := h.grow hb0 (K' + 13)
  obtain ⟨L0, hL0⟩ : ∃ L0, relab L w.heap.size (K' + 13) = L0 := ⟨_, rfl⟩
  obtain ⟨b0, hb0'⟩ : ∃ b0, w.heap.size = b0 := ⟨_, rfl⟩
  rw [hL0] at h1 hsy
  have hsyd := hsy.drewN 1
  have h1d := h1.drewN 1
  obtain ⟨W, hW⟩ : ∃ W, w0.drew = W := ⟨_, rfl⟩
  rw [show w0.drewN 1 = W from hW] at hsyd h1d
  rw [hb0'] at hsy hsyd
  obtain ⟨n3, hn3⟩ : ∃ n, E.ps.length = n := ⟨_, rfl⟩
  obtain ⟨g, cp, hpv, c10, hg, hgl, hgs⟩ := h1d.look hn3 (i := i) (by omega)
  obtain ⟨q, hq⟩ := h1d
  have hP := hq.pth i hi
  have hPl := hq.p.ptl i hi
  have hn3' : n3 ≤ 3 := by rw [← hn3]; exact hq.p.n3
  have hbl := hq.lb
  have hblt := hq.lt
  obtain ⟨pb, hpb⟩ : ∃ pb, s.pb.getD i 0 = pb := ⟨_, rfl⟩
  have gi := hg i (by omega)
  rw [hpb] at gi
  have y1 : W.cell? ⟨b0, 0 + 1, none⟩ = some (.int .i64 (i : Int)) := hsyd.v.cells.c1
  have i1 : (i : Int) < (n3 : Int) := by omega
  have i2 : (0 : Int) ≤ (i : Int) := by omega
  have i3 : i < n3 := by omega
  have HNUM := Lib.hid (show Calls Tryz.prog 149 #[.pointer (some ⟨pb, 0, none⟩)] W fun e w' => e = .returned (.tuple #[.int .i64 0, .bool false]) ∧ ∃ k, w' = W.drewN k by
    rw [← hpb]
    exact panumber_no hP hs)
  have HQ := Lib.hid (And.intro hq hsyd)
  have HG := Lib.hid (And.intro hgl (And.intro hgs (And.intro hbl (And.intro hblt (And.intro hPl (And.intro (show b0 ≠ b by have := h.choose_spec.lt; omega) (And.intro hb0' (And.intro (show g ≠ b0 by intro e; have := hsyd.lb; rw [e] at hgl; omega) hpb))))))))
  have S00 := Lib.hid (show (fun wi => wi.cell? ⟨b, 0 + 10, none⟩ = some (.slice (some ⟨g, 0, none⟩) n3 cp) ∧ wi.cell? ⟨b0, 0 + 1, none⟩ = some (.int .i64 (i : Int)) ∧ wi.cell? ⟨g, i, none⟩ = some (.pointer (some ⟨pb, 0, none⟩))) w0.drew by rw [hW]; exact ⟨c10, y1, gi⟩)
  have S0 := Lib.hid (show W.cell? ⟨b, 0 + 10, none⟩ = some (.slice (some ⟨g, 0, none⟩) n3 cp) ∧ W.cell? ⟨b0, 0 + 1, none⟩ = some (.int .i64 (i : Int)) ∧ W.cell? ⟨g, i, none⟩ = some (.pointer (some ⟨pb, 0, none⟩)) from ⟨c10, y1, gi⟩)
  clear h hi hp ha hsy hsyd h1 hL0 hb0 hpv hg hgl hgs hq hP hPl hbl hblt hpb hs c10 y1 gi hn3
  go_enter Tryz.func71, Tryz.ntmps71
  go_wp2_with fail
  try rw [hb0']
  refine wp_region_held_drew (S := fun wi => wi.cell? ⟨b, 0 + 10, none⟩ = some (.slice (some ⟨g, 0, none⟩) n3 cp) ∧ wi.cell? ⟨b0, 0 + 1, none⟩ = some (.int .i64 (i : Int)) ∧ wi.cell? ⟨g, i, none⟩ = some (.pointer (some ⟨pb, 0, none⟩))) (by kernel_rfl) S00.out ?_
  intro hHeld
  rw [hW]
  clear hw0 hW S00 hb0'
  refine wpAnyH_take (i := 0) (v := ?_) rfl (by kernel_rfl) (by kernel_rfl) (by kernel_rfl) (fun _ _ _ h => h) (Or.inl ⟨by rfl, ?_⟩) (by assumption) ?_
  rotate_left
  · intro w hSw
    (try dsimp only at hSw)
    go_simp
    try (with_reducible rfl)
  try simp only [Act.put, List.getElem_toArray, List.getElem_cons_zero, List.setIfInBounds_toArray, List.set_cons_zero, List.set_cons_succ]
  refine wpAnyH_take (i := 1) (v := ?_) rfl (by kernel_rfl) (by kernel_rfl) (by kernel_rfl) (fun _ _ _ h => h) (Or.inl ⟨by rfl, ?_⟩) (by assumption) ?_
  rotate_left
  · intro w hSw
    (try dsimp only at hSw)
    go_simp
    try (with_reducible rfl)
  try simp only [Act.put, List.getElem_toArray, List.getElem_cons_zero, List.getElem_cons_succ, List.setIfInBounds_toArray, List.set_cons_zero, List.set_cons_succ]
  refine wpAnyH_take (i := 2) (v := ?_) rfl (by kernel_rfl) (by kernel_rfl) (by kernel_rfl) (fun _ _ _ h => h) (Or.inl ⟨by rfl, ?_⟩) (by assumption) ?_
  rotate_left
  · intro w hSw
    (try dsimp only at hSw)
    go_simp
    try (with_reducible rfl)
  try simp only [Act.put, List.getElem_toArray, List.getElem_cons_zero, List.getElem_cons_succ, List.setIfInBounds_toArray, List.set_cons_zero, List.set_cons_succ]
  refine wpAnyH_take (i := 3) (v := ?_) rfl (by kernel_rfl) (by kernel_rfl) (by kernel_rfl) (fun _ _ _ h => h) (Or.inl ⟨by rfl, ?_⟩) (by assumption) ?_
  rotate_left
  · intro w hSw
    (try dsimp only at hSw)
    go_simp
    try (with_reducible rfl)
  try simp only [Act.put, List.getElem_toArray, List.getElem_cons_zero, List.getElem_cons_succ, List.setIfInBounds_toArray, List.set_cons_zero, List.set_cons_succ]
  refine wpAnyH_take (i := 4) (v := ?_) rfl (by kernel_rfl) (by kernel_rfl) (by kernel_rfl) (fun _ _ _ h => h) (Or.inl ⟨by rfl, ?_⟩) (by assumption) ?_
  rotate_left
  · intro w hSw
    (try dsimp only at hSw)
    go_simp
    try (with_reducible rfl)
  try simp only [Act.put, List.getElem_toArray, List.getElem_cons_zero, List.getElem_cons_succ, List.setIfInBounds_toArray, List.set_cons_zero, List.set_cons_succ]
  refine wpAnyH_take (i := 5) (v := ?_) rfl (by kernel_rfl) (by kernel_rfl) (by kernel_rfl) (fun _ _ _ h => h) (Or.inl ⟨by rfl, ?_⟩) (by assumption) ?_
  rotate_left
  · intro w hSw
    (try dsimp only at hSw)
    go_simp
    try (with_reducible rfl)
  try simp only [Act.put, List.getElem_toArray, List.getElem_cons_zero, List.getElem_cons_succ, List.setIfInBounds_toArray, List.set_cons_zero, List.set_cons_succ]
  refine wpAnyH_take (i := 6) (v := ?_) rfl (by kernel_rfl) (by kernel_rfl) (by kernel_rfl) (fun _ _ _ h => h) (Or.inl ⟨by rfl, ?_⟩) (by assumption) ?_
  rotate_left
  · intro w hSw
    (try dsimp only at hSw)
    go_simp
    try (with_reducible rfl)
  try simp only [Act.put, List.getElem_toArray, List.getElem_cons_zero, List.getElem_cons_succ, List.setIfInBounds_toArray, List.set_cons_zero, List.set_cons_succ]
  refine wpAnyH_take (i := 7) (v := ?_) rfl (by kernel_rfl) (by kernel_rfl) (by kernel_rfl) (fun _ _ _ h => h) (Or.inl ⟨by rfl, ?_⟩) (by assumption) ?_
  rotate_left
  · intro w hSw
    (try dsimp only at hSw)
    go_simp
    try (with_reducible rfl)
  try simp only [Act.put, List.getElem_toArray, List.getElem_cons_zero, List.getElem_cons_succ, List.setIfInBounds_toArray, List.set_cons_zero, List.set_cons_succ]
  refine wpAnyH_ready (rs := [8]) (by kernel_rfl) (by simp) ?_
  refine AllReadyH.cons rfl (fun K hK => ?_) AllReadyH.nil
  go_simp
  refine HNUM.out.mono ?_
  rintro e w1 ⟨rfl, k1, rfl⟩
  obtain ⟨hq, hsy⟩ := HQ.out
  obtain ⟨hgl, hgs, hbl, hblt, hPl, hne, hb0', hgb, hpb⟩ := HG.out
  have h2 := hq.drewN k1
  have hsy1 := hsy.drewN k1
  have S1 := Lib.hid (show (W.drewN k1).cell? ⟨b, 0 + 10, none⟩ = some (.slice (some ⟨g, 0, none⟩) n3 cp) ∧ (W.drewN k1).cell? ⟨b0, 0 + 1, none⟩ = some (.int .i64 (i : Int)) ∧ (W.drewN k1).cell? ⟨g, i, none⟩ = some (.pointer (some ⟨pb, 0, none⟩)) from S0.out)
  obtain ⟨w1, hw1⟩ : ∃ w1, W.drewN k1 = w1 := ⟨_, rfl⟩
  rw [hw1] at h2 hsy1 S1 ⊢
  have hsy2 := hsy1.nu 0 (by omega)
  have h3 := EE.aside ⟨_, h2⟩ hsy1 2 (.int .i64 0)
  obtain ⟨w2, hw2⟩ : ∃ w2, w1.setCell ⟨b0, 2, none⟩ (.int .i64 0) = w2 := ⟨_, rfl⟩
  have hg2 := setCell_one w1 b0 2 (.int .i64 0)
  rw [hw2] at hsy2 h3 hg2
  have S2 := Lib.hid (show w2.cell? ⟨b, 0 + 10, none⟩ = some (.slice (some ⟨g, 0, none⟩) n3 cp) ∧ w2.cell? ⟨b0, 0 + 1, none⟩ = some (.int .i64 (i : Int)) ∧ w2.cell? ⟨g, i, none⟩ = some (.pointer (some ⟨pb, 0, none⟩)) from
    ⟨cell_other hg2 (fun e => hne e.symm) S1.out.1, hsy2.v.cells.c1, cell_other hg2 hgb S1.out.2.2⟩)
  have x2 : w1.cell? ⟨b0, 0 + 2, none⟩ = some (.int .i64 nu) := hsy1.v.cells.c2
  have f2 : w1.frozen? ⟨b0, 0 + 2, none⟩ = false := hsy1.v.fr 2
  have HFIN := Lib.hid (show ∃ L', EE w2 L' K' b s E ∧ Tn w w2 L L' (Es K') from ⟨_, h3, hsy2.tn⟩)
  clear hq hsy hgl hgs hbl hblt hPl hne hb0' hgb hpb h2 hw1 hsy1 hsy2 h3 hg2 HQ HG HNUM
  try go_wp2_with fail
  refine hK.out _ _ S1.out (fun hHeld2 => ?_)
  clear hK K hHeld
  have hHeld := hHeld2
  clear hHeld2
  try simp only [Act.put, List.getElem_toArray, List.getElem_cons_zero, List.getElem_cons_succ, List.setIfInBounds_toArray, List.set_cons_zero, List.set_cons_succ]
  refine wpAnyH_take (i := 9) (v := ?_) rfl (by kernel_rfl) (by kernel_rfl) (by kernel_rfl) (fun _ _ _ h => h) (Or.inl ⟨by rfl, ?_⟩) (by assumption) ?_
  rotate_left
  · intro w hSw
    (try dsimp only at hSw)
    go_simp
    try (with_reducible rfl)
  try simp only [Act.put, List.getElem_toArray, List.getElem_cons_zero, List.getElem_cons_succ, List.setIfInBounds_toArray, List.set_cons_zero, List.set_cons_succ]
  refine wpAnyH_take (i := 10) (v := ?_) rfl (by kernel_rfl) (by kernel_rfl) (by kernel_rfl) (fun _ _ _ h => h) (Or.inl ⟨by rfl, ?_⟩) (by assumption) ?_
  rotate_left
  · intro w hSw
    (try dsimp only at hSw)
    go_simp
    try (with_reducible rfl)
  try simp only [Act.put, List.getElem_toArray, List.getElem_cons_zero, List.getElem_cons_succ, List.setIfInBounds_toArray, List.set_cons_zero, List.set_cons_succ]
  refine wpAnyH_take (i := 11) (v := ?_) rfl (by kernel_rfl) (by kernel_rfl) (by kernel_rfl) (fun _ _ _ h => h) (Or.inl ⟨by rfl, ?_⟩) (by assumption) ?_
  rotate_left
  · intro w hSw
    (try dsimp only at hSw)
    go_simp
    try (with_reducible rfl)
  try simp only [Act.put, List.getElem_toArray, List.getElem_cons_zero, List.getElem_cons_succ, List.setIfInBounds_toArray, List.set_cons_zero, List.set_cons_succ]
  refine wpAnyH_take (i := 12) (v := ?_) rfl (by kernel_rfl) (by kernel_rfl) (by kernel_rfl) (fun _ _ _ h => h) (Or.inl ⟨by rfl, ?_⟩) (by assumption) ?_
  rotate_left
  · intro w hSw
    (try dsimp only at hSw)
    go_simp
    try (with_reducible rfl)
  try simp only [Act.put, List.getElem_toArray, List.getElem_cons_zero, List.getElem_cons_succ, List.setIfInBounds_toArray, List.set_cons_zero, List.set_cons_succ]
  refine wpAnyH_ready (rs := [13]) (by kernel_rfl) (by simp) ?_
  refine AllReadyH.cons rfl (fun K hK => ?_) AllReadyH.nil
  go_simp
  try rw [hw2]
  refine hK.out _ _ S2.out (fun hHeld2 => ?_)
  clear hK K hHeld
  have hHeld := hHeld2
  clear hHeld2
  try simp only [Act.put, List.getElem_toArray, List.getElem_cons_zero, List.getElem_cons_succ, List.setIfInBounds_toArray, List.set_cons_zero, List.set_cons_succ]
  refine wpAnyH_take (i := 14) (v := ?_) rfl (by kernel_rfl) (by kernel_rfl) (by kernel_rfl) (fun _ _ _ h => h) (Or.inl ⟨by rfl, ?_⟩) (by assumption) ?_
  rotate_left
  · intro w hSw
    (try dsimp only at hSw)
    go_simp
    try (with_reducible rfl)
  try simp only [Act.put, List.getElem_toArray, List.getElem_cons_zero, List.getElem_cons_succ, List.setIfInBounds_toArray, List.set_cons_zero, List.set_cons_succ]
  refine wpAnyH_done (by kernel_rfl) ?_ _
  clear hHeld S0 S1 S2 x2 f2 hw2
  go_wp2
  go_ret2
  exact ⟨rfl, HFIN.out⟩
end Go.Proofs.YtpjlnpnadkbakaaGreat

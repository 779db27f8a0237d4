/-
  PrEn1 · PrEn2.
-/
import Derived.Test.YtpjlnpnadkbakaaGreatQBMetM
import Derived.Deep.RegionHeld3
import Derived.Test.YtpjlnpnadkbakaaGreatQBMem
namespace Go.Proofs.YtpjlnpnadkbakaaGreat
set_option maxRecDepth 10000
open Go.RowKit
theorem alloc_rangeE (w : World) (cs : List Value) (t : TypeId) : (w.alloc (.cells cs.toArray t)).rangeAt w.heap.size 0 cs := by
  have h := World.rangeAt_of_block (C := cs.toArray) (t := t) (fr := (0, 0)) (heap_alloc_new w _) 0 cs.length
  simpa using h
theorem alloc_liesE (w : World) (cs : List Value) (t : TypeId) : ∀ j u, cs[j]? = some u → (w.alloc (.cells cs.toArray t)).cell? ((⟨w.heap.size, 0, none⟩ : Addr).add j) = some u := fun j u hu => by
  have h := alloc_rangeE w cs t j u hu
  rw [Addr.add_lit]
  exact h
set_option maxHeartbeats 1000000 in
theorem copied_any (x : Ev) (A : Option Addr) (c : Nat) (B : Option Addr) (d : Nat) (w : World) (hx : EvAt w x A c B d) (hl1 : x.da.length ≤ 4096) (hl2 : x.pk.da.length ≤ 4096) :
    Calls Tryz.prog 99 #[x.val A c B d] w fun e w' => ∃ A' c' B' d', e = .returned (.agg #[.int .i64 x.k, .int .i64 x.n, .slice A' x.da.length c', .int .i64 x.pk.k, .int .i64 x.pk.pa, .int .i64 x.pk.nu, .int .i64 x.pk.ofn, .int .i64 x.pk.fr, .slice B' x.pk.da.length d', .bool x.pk.fin, .int .i64 x.pk.se, .int .i64 x.pk.li]) ∧ Own .u8 5 w' w.heap.size (.slice A' x.da.length c') x.da ∧ Own .u8 5 w' w.heap.size (.slice B' x.pk.da.length d') x.pk.da ∧ Below w.heap.size w w' := by
  have hin := EvV.new w x A c B d
  have hr0 := EvV.new (w.alloc (.cells (x.cs A c B d).toArray 88)) Ev.zero none 0 none 0
  have hin2 := hin.later ((Below.refl _ _).alloc (Nat.le_refl _) (.cells (Ev.zero.cs none 0 none 0).toArray 88))
  have hbl : Below w.heap.size w ((w.alloc (.cells (x.cs A c B d).toArray 88)).alloc (.cells (Ev.zero.cs none 0 none 0).toArray 88)) :=
    have h1 := (Below.refl w.heap.size w).alloc (Nat.le_refl _) (.cells (x.cs A c B d).toArray 88)
    h1.alloc h1.size _
  rw [World.size_alloc] at hr0
  have HC1 := Lib.hid (fun W (h : Rd .u8 W A x.da) => sclone_any A x.da.length c x.da W rfl h (by omega) (fun e => ⟨hx.nil e, by have := hx.cap; have := hx.nil e; omega⟩))
  have HC2 := Lib.hid (fun W (h : Rd .u8 W B x.pk.da) => sclone_any B x.pk.da.length d x.pk.da W rfl h (by omega) (fun e => ⟨hx.pk.nil e, by have := hx.pk.cap; have := hx.pk.nil e; omega⟩))
  have HX := Lib.hid hx
  clear hx hin hl1 hl2
  change EvV ((w.alloc (.cells #[.int .i64 x.k, .int .i64 x.n, .slice A x.da.length c, .int .i64 x.pk.k, .int .i64 x.pk.pa, .int .i64 x.pk.nu, .int .i64 x.pk.ofn, .int .i64 x.pk.fr, .slice B x.pk.da.length d, .bool x.pk.fin, .int .i64 x.pk.se, .int .i64 x.pk.li] 88)).alloc (.cells #[.int .i64 0, .int .i64 0, .slice none 0 0, .int .i64 0, .int .i64 0, .int .i64 0, .int .i64 0, .int .i64 0, .slice none 0 0, .bool false, .int .i64 0, .int .i64 0] 88)) (w.heap.size + 1) Ev.zero none 0 none 0 at hr0
  change EvV ((w.alloc (.cells #[.int .i64 x.k, .int .i64 x.n, .slice A x.da.length c, .int .i64 x.pk.k, .int .i64 x.pk.pa, .int .i64 x.pk.nu, .int .i64 x.pk.ofn, .int .i64 x.pk.fr, .slice B x.pk.da.length d, .bool x.pk.fin, .int .i64 x.pk.se, .int .i64 x.pk.li] 88)).alloc (.cells #[.int .i64 0, .int .i64 0, .slice none 0 0, .int .i64 0, .int .i64 0, .int .i64 0, .int .i64 0, .int .i64 0, .slice none 0 0, .bool false, .int .i64 0, .int .i64 0] 88)) w.heap.size x A c B d at hin2
  change Below w.heap.size w ((w.alloc (.cells #[.int .i64 x.k, .int .i64 x.n, .slice A x.da.length c, .int .i64 x.pk.k, .int .i64 x.pk.pa, .int .i64 x.pk.nu, .int .i64 x.pk.ofn, .int .i64 x.pk.fr, .slice B x.pk.da.length d, .bool x.pk.fin, .int .i64 x.pk.se, .int .i64 x.pk.li] 88)).alloc (.cells #[.int .i64 0, .int .i64 0, .slice none 0 0, .int .i64 0, .int .i64 0, .int .i64 0, .int .i64 0, .int .i64 0, .slice none 0 0, .bool false, .int .i64 0, .int .i64 0] 88)) at hbl
  have H0 := Lib.hid hr0
  have H1 := Lib.hid hin2
  have HB := Lib.hid hbl
  clear hr0 hin2 hbl
  unfold Ev.val
  go_enter Tryz.func99, Tryz.ntmps99
  go_wp2_with fail
  refine (HC1.out _ (HX.out.rd.later (HB.out.mono (Nat.le_refl _)))).mono ?_
  rintro e w1 ⟨A1, c1, rfl, ho, hb⟩
  have Z1 := Lib.hid (H0.out.later hb)
  have V1 := H1.out.later hb
  have B1 := Lib.hid (HB.out.trans (hb.mono HB.out.size))
  obtain ⟨w2, hw2⟩ : ∃ w2, w1.setCell ⟨w.heap.size, 2, none⟩ (.slice A1 x.da.length c1) = w2 := ⟨_, rfl⟩
  have hg1 := setCell_one w1 w.heap.size 2 (.slice A1 x.da.length c1)
  rw [hw2] at hg1
  have V2 : EvV w2 w.heap.size x A1 c1 B d := by rw [← hw2]; exact V1.dat x.da A1 c1
  have OC := Lib.hid ((ho.less (B' := w.heap.size) HB.out.size).kept hg1 (own_not_ev (ho.less (B' := w.heap.size) HB.out.size) V1))
  have Z2 := Lib.hid (Z1.out.kept hg1 (by omega))
  have B2 := Lib.hid (B1.out.grown hg1 B1.out.size (by intro g e; simp at e; omega))
  have f9 := V1.fr 2
  obtain ⟨c0, c1', c2, c3, c4, c5, c6, c7, c8, c9, c10, c11⟩ := V1.cells
  obtain ⟨d0, d1, d2, d3, d4, d5, d6, d7, d8, d9, d10, d11⟩ := V2.cells
  have V2 := Lib.hid V2
  clear ho hb H0 H1 HB HC1 V1 B1 Z1 hg1
  go_wp2_with fail
  try rw [hw2]
  clear hw2 c0 c1' c2 c3 c4 c5 c6 c7 c8 c9 c10 c11 d0 d1 d2 d3 d4 d5 d6 d7 d8 d9 d10 d11 f9
  refine (HC2.out _ (HX.out.pk.rd.later (B2.out.mono (Nat.le_refl _)))).mono ?_
  rintro e w3 ⟨B3, d3, rfl, ho, hb⟩
  have V3 := V2.out.later hb
  have Z3 := Lib.hid (Z2.out.later hb)
  have B3' := Lib.hid (B2.out.trans (hb.mono B2.out.size))
  have OC3 := Lib.hid (OC.out.later hb)
  obtain ⟨w4, hw4⟩ : ∃ w4, w3.setCell ⟨w.heap.size, 8, none⟩ (.slice B3 x.pk.da.length d3) = w4 := ⟨_, rfl⟩
  have hg1 := setCell_one w3 w.heap.size 8 (.slice B3 x.pk.da.length d3)
  rw [hw4] at hg1
  have V4 : EvV w4 w.heap.size x A1 c1 B3 d3 := by rw [← hw4]; exact V3.s8 x.pk.da B3 d3
  have OB := Lib.hid ((ho.less (B' := w.heap.size) B2.out.size).kept hg1 (own_not_ev (ho.less (B' := w.heap.size) B2.out.size) V3))
  have OA := Lib.hid (OC3.out.kept hg1 (own_not_ev OC3.out V3))
  have Z4 := Lib.hid (Z3.out.kept hg1 (by omega))
  have B4 := Lib.hid (B3'.out.grown hg1 B3'.out.size (by intro g e; simp at e; omega))
  have f9 := V3.fr 8
  obtain ⟨c0, c1', c2, c3, c4, c5, c6, c7, c8, c9, c10, c11⟩ := V3.cells
  obtain ⟨d0, d1, d2, d3', d4, d5, d6, d7, d8, d9, d10, d11⟩ := V4.cells
  have f0 := Z4.out.fr
  obtain ⟨x0, x1, x2, x3, x4, x5, x6, x7, x8, x9, x10, x11⟩ := Z4.out.cells
  simp only [Nat.zero_add] at d0 d1 d2 d3' d4 d5 d6 d7 d8 d9 d10 d11 x0 x1 x2 x3 x4 x5 x6 x7 x8 x9 x10 x11
  clear ho hb HC2 V2 V3 Z2 Z3 B2 B3' OC OC3 hg1 V4
  go_wp2_with fail
  try rw [hw4]
  change bodyPost _ _ _ _ _ (w4.setCells (w.heap.size + 1) 0 (x.cs A1 c1 B3 d3))
  have hg2 := setCells_one (w.heap.size + 1) (x.cs A1 c1 B3 d3) 0 w4
  have h9 := Z4.out.res x A1 c1 B3 d3
  refine bodyPost_ret (v := x.val A1 c1 B3 d3) ?_ rfl ⟨A1, c1, B3, d3, rfl, OA.out.kept hg2 (own_not_ev OA.out Z4.out), OB.out.kept hg2 (own_not_ev OB.out Z4.out), B4.out.grown hg2 B4.out.size (by intro g e; simp at e; omega)⟩
  clear c0 c1' c2 c3 c4 c5 c6 c7 c8 c9 c10 c11 d0 d1 d2 d3' d4 d5 d6 d7 d8 d9 d10 d11 x0 x1 x2 x3 x4 x5 x6 x7 x8 x9 x10 x11 f0 f9
  simp [results, Tryz.results99, asAddr, h9]
def EEnd (w : World) (L : Lab) (K b : Nat) (s : EeS) (E : En) (e : Ending) (w' : World) : Prop := e = .returned (.tuple #[]) ∧ ∃ L', EE w' L' K b s E ∧ Tn w w' L L' (Es K)
theorem eecount_any {w : World} {L : Lab} {K b : Nat} {s : EeS} {E : En} (h : EE w L K b s E) (hK : K ≠ 0) (j : Nat) (hj : j < 8) (n : Int) (h0 : 0 ≤ n) (h1 : n ≤ 2147483647) {N : Nat} (hc : E.cap N) (hN : N ≤ 1099511627776) (k : Int) (hk : k = (j : Int)) :
    Calls Tryz.prog 66 #[.pointer (some ⟨s.mb, 0, none⟩), .int .i64 k, .int .i64 n] w fun e w' => (∃ z, e = .returned (.int .i64 z)) ∧ ∃ L', EE w' L' K b s (E.count j n) ∧ Tn w w' L L' (Es K) := by
  obtain ⟨q, h⟩ := h
  subst hk
  have hm := hc.m j
  refine (madd_yes s.mb (mets E.m) j n w h.p.met hj h0 h1 (by rw [mets_at _ hj]; omega) (by rw [mets_at _ hj]; omega)).mono ?_
  rintro e w' ⟨rfl, h2, hg⟩
  rw [mets_bump _ hj] at h2
  obtain ⟨h3, ht⟩ := h.turnM hK h2 hg
  exact ⟨⟨_, rfl⟩, _, ⟨q, h3⟩, ht.mono (fun x hx => by subst hx; exact ⟨by omega, by omega⟩)⟩
theorem EeAt.c18 {w : World} {L : Lab} {K b : Nat} {s : EeS} {q : EeQ} {E : En} (h : EeAt w L K b s q E) : w.cell? ⟨b, 0 + 18, none⟩ = some (.pointer (some ⟨s.mb, 0, none⟩)) := h.cell 18 (by omega)
theorem EE.c18 {w : World} {L : Lab} {K b : Nat} {s : EeS} {E : En} (h : EE w L K b s E) : w.cell? ⟨b, 0 + 18, none⟩ = some (.pointer (some ⟨s.mb, 0, none⟩)) := by
  obtain ⟨q, h⟩ := h
  exact h.c18
theorem note_app {w w1 : World} {L : Lab} {K b : Nat} {s : EeS} {q : EeQ} {E : En} (h : EeAt w L K b s q E) (hK : K ≠ 0) (hb : Below w.heap.size w w1) (x : Ev) (hbd : EvB x) (A : Option Addr) (c : Nat) (B : Option Addr) (d : Nat) (o1 : Own .u8 5 w1 w.heap.size (.slice A x.da.length c) x.da) (o2 : Own .u8 5 w1 w.heap.size (.slice B x.pk.da.length d) x.pk.da) (n : Nat) (hn : E.ev.length = n) (hn2 : n ≤ 549755813888) (Ae : Option Addr) (ce : Nat) (hv : q.ev = .slice Ae n ce) :
    ∃ A' c' w2 L', (w1.alloc (.cells #[.int .i64 x.k, .int .i64 x.n, .slice A x.da.length c, .int .i64 x.pk.k, .int .i64 x.pk.pa, .int .i64 x.pk.nu, .int .i64 x.pk.ofn, .int .i64 x.pk.fr, .slice B x.pk.da.length d, .bool x.pk.fin, .int .i64 x.pk.se, .int .i64 x.pk.li] 88)).cell? ⟨b, 0 + 16, none⟩ = some (.slice Ae n ce) ∧
      (Builtin.append_ #[51, 51] 51 #[.slice Ae n ce, .slice (some ⟨w1.heap.size, 0, none⟩) 1 1]).run Tryz.prog (w1.alloc (.cells #[.int .i64 x.k, .int .i64 x.n, .slice A x.da.length c, .int .i64 x.pk.k, .int .i64 x.pk.pa, .int .i64 x.pk.nu, .int .i64 x.pk.ofn, .int .i64 x.pk.fr, .slice B x.pk.da.length d, .bool x.pk.fin, .int .i64 x.pk.se, .int .i64 x.pk.li] 88)) = .ok (.slice A' (n + 1) c') w2 ∧
      w2.frozen? ⟨b, 0 + 16, none⟩ = false ∧ (∃ y, w2.cell? ⟨b, 0 + 16, none⟩ = some y) ∧
      EE (w2.setCell ⟨b, 16, none⟩ (.slice A' (n + 1) c')) L' K b s { E with ev := E.ev ++ [x], out := E.out ++ saids [x] } ∧ Tn w (w2.setCell ⟨b, 16, none⟩ (.slice A' (n + 1) c')) L L' (Es K) ∧
      ∀ b0, w.heap.size ≤ b0 → b0 < w1.heap.size → (w1.alloc (.cells #[.int .i64 x.k, .int .i64 x.n, .slice A x.da.length c, .int .i64 x.pk.k, .int .i64 x.pk.pa, .int .i64 x.pk.nu, .int .i64 x.pk.ofn, .int .i64 x.pk.fr, .slice B x.pk.da.length d, .bool x.pk.fin, .int .i64 x.pk.se, .int .i64 x.pk.li] 88)).heap[b0]? = w1.heap[b0]? ∧ w2.heap[b0]? = w1.heap[b0]? ∧ (w2.setCell ⟨b, 16, none⟩ (.slice A' (n + 1) c')).heap[b0]? = w1.heap[b0]? := by
  obtain ⟨w1a, hw1a⟩ : ∃ V, w1.alloc (.cells #[.int .i64 x.k, .int .i64 x.n, .slice A x.da.length c, .int .i64 x.pk.k, .int .i64 x.pk.pa, .int .i64 x.pk.nu, .int .i64 x.pk.ofn, .int .i64 x.pk.fr, .slice B x.pk.da.length d, .bool x.pk.fin, .int .i64 x.pk.se, .int .i64 x.pk.li] 88) = V := ⟨_, rfl⟩
  rw [hw1a]
  have hba1 : Below w1.heap.size w1 w1a := by rw [← hw1a]; exact (Below.refl _ _).alloc (Nat.le_refl _) _
  have hba : Below w.heap.size w w1a := hb.trans (hba1.mono hb.size)
  have h1 := h.grow hba 0
  have hl1 := alloc_liesE w1 (x.cs A c B d) 88
  rw [show w1.alloc (.cells (x.cs A c B d).toArray 88) = w1a from hw1a] at hl1
  have hm : (⟨x, A, c, B, d⟩ : EvM).mine w1a (relab L w.heap.size 0) := ⟨hbd, ⟨(o1.later hba1).less (Nat.zero_le _), OfV.new (fun g hg => (o1.lt g hg).1)⟩, ⟨(o2.later hba1).less (Nat.zero_le _), OfV.new (fun g hg => (o2.lt g hg).1)⟩⟩
  obtain ⟨A', c', w2, hrun, ho, hg⟩ := run_appEv h1.p.evs hm (by omega) n hn ⟨w1.heap.size, 0, none⟩ 1 hl1 hn2 51
  have hdrop : saids ((E.ev ++ [x]).drop q.to) = E.out ++ saids [x] := by rw [List.drop_append_of_le_length h1.to1, saids_app, ← h1.to2]
  obtain ⟨h2, ht2⟩ := h1.turnE (E' := { E with ev := E.ev ++ [x], out := E.out ++ saids [x] }) hK ho hg rfl rfl (by show q.to ≤ (E.ev ++ [x]).length; rw [List.length_append]; have := h1.to1; omega) hdrop.symm
  have hrow := (Tn.of_row (S := fun x => x = K + 6) hg h1.p.evs.lab rfl).row h1.row h1.lb (by omega)
  refine ⟨A', c', w2, _, ?_, by rw [hv] at hrun; exact hrun, World.rowIs.frozen hrow 16, ⟨_, World.rowIs.cell (i := 16) hrow (by omega)⟩, ⟨_, h2⟩, (Tn.of_below hba L 0 (Es K)).trans (ht2.mono (fun x hx => by unfold Es; omega)), fun b0 hb0 hb1 => ?_⟩
  · have := h1.cell 16 (by omega)
    rw [show (eeL s q E).getD 16 undef = q.ev from rfl, hv] at this
    exact this
  · have e1 : w1a.heap[b0]? = w1.heap[b0]? := hba1.block b0 hb1
    have hne : q.ev.ownBlock ≠ some b0 := fun e => by have := h.p.evs.lt _ e; omega
    have e2 : w2.heap[b0]? = w1a.heap[b0]? := hg.block b0 (by have := hba1.size; omega) (fun e => hne e.symm)
    have hlt2 : b0 < w2.heap.size := by have := hg.size; have := hba1.size; omega
    have e3 : (w2.setCell ⟨b, 16, none⟩ (.slice A' (n + 1) c')).heap[b0]? = w2.heap[b0]? := (setCell_one w2 b 16 _).block b0 hlt2 (fun e => by have := Option.some.inj e; have := h.lt; omega)
    exact ⟨e1, e2.trans e1, e3.trans (e2.trans e1)⟩
theorem rangeAt_block {w w' : World} {b0 : Nat} {cs : List Value} (h : w.rangeAt b0 0 cs) (hb : w'.heap[b0]? = w.heap[b0]?) : w'.rangeAt b0 0 cs := fun j u hj => by
  rw [World.cell?_of_block hb]
  exact h j u hj
end Go.Proofs.YtpjlnpnadkbakaaGreat
namespace Go.Proofs.YtpjlnpnadkbakaaGreat
set_option maxRecDepth 10000
open Go.RowKit
set_option maxHeartbeats 4000000 in
theorem eenote_any {w : World} {L : Lab} {K' b : Nat} {s : EeS} {E : En} (h : EE w L K' b s E) (hK' : K' ≠ 0) (x : Ev) (A : Option Addr) (c : Nat) (B : Option Addr) (d : Nat) (hx : EvAt w x A c B d) (hbd : EvB x) {N : Nat} (hc : E.cap N) (hN : N ≤ 549755813887) :
    Calls Tryz.prog 65 #[.pointer (some ⟨b, 0, none⟩), .agg #[.int .i64 x.k, .int .i64 x.n, .slice A x.da.length c, .int .i64 x.pk.k, .int .i64 x.pk.pa, .int .i64 x.pk.nu, .int .i64 x.pk.ofn, .int .i64 x.pk.fr, .slice B x.pk.da.length d, .bool x.pk.fin, .int .i64 x.pk.se, .int .i64 x.pk.li]] w (EEnd w L K' b s (E.noteS x)) := by
  obtain ⟨q, h⟩ := h
  obtain ⟨Ae, ce, hv⟩ := h.p.evs.form
  obtain ⟨n, hn⟩ : ∃ n, E.ev.length = n := ⟨_, rfl⟩
  have hn2 : n ≤ 549755813888 := by have := hc.ev; omega
  rw [show E.view.ev = E.ev from rfl, hn] at hv
  obtain ⟨w0, hw0⟩ : ∃ w0, w.alloc (.cells #[.int .i64 x.k, .int .i64 x.n, .slice A x.da.length c, .int .i64 x.pk.k, .int .i64 x.pk.pa, .int .i64 x.pk.nu, .int .i64 x.pk.ofn, .int .i64 x.pk.fr, .slice B x.pk.da.length d, .bool x.pk.fin, .int .i64 x.pk.se, .int .i64 x.pk.li] 88) = w0 := ⟨_, rfl⟩
  have hr0 : w0.rangeAt w.heap.size 0 (x.cs A c B d) := by rw [← hw0]; exact alloc_rangeE w (x.cs A c B d) 88
  have hb0 : Below w.heap.size w w0 := by rw [← hw0]; exact (Below.refl _ _).alloc (Nat.le_refl _) _
  have hz0 : w0.heap.size = w.heap.size + 1 := by rw [← hw0]; simp
  obtain ⟨W, hW⟩ : ∃ W, w0.drew = W := ⟨_, rfl⟩
  have hbW : Below w.heap.size w W := by rw [← hW]; exact hb0.drew
  have hzW : W.heap.size = w.heap.size + 1 := by rw [← hW]; exact hz0
  have hrW : W.rangeAt w.heap.size 0 (x.cs A c B d) := by rw [← hW]; exact hr0
  have c16 : W.cell? ⟨b, 0 + 16, none⟩ = some (.slice Ae n ce) := by rw [← hv]; exact (h.grow hbW 0).cell 16 (by omega)
  have HCP := Lib.hid (show Calls Tryz.prog 99 #[.agg #[.int .i64 x.k, .int .i64 x.n, .slice A x.da.length c, .int .i64 x.pk.k, .int .i64 x.pk.pa, .int .i64 x.pk.nu, .int .i64 x.pk.ofn, .int .i64 x.pk.fr, .slice B x.pk.da.length d, .bool x.pk.fin, .int .i64 x.pk.se, .int .i64 x.pk.li]] W _ from copied_any x A c B d W (hx.later hbW) hbd.len (by have := hbd.pk.len; omega))
  have S00 := Lib.hid (show w0.drew.rangeAt w.heap.size 0 (x.cs A c B d) from hr0)
  have S0 := Lib.hid hrW
  have HH := Lib.hid (And.intro h (And.intro hbd (And.intro hc (And.intro hn (And.intro hv (And.intro hbW hzW))))))
  have HV := Lib.hid (show (x.cs A c B d).toArray = #[.int .i64 x.k, .int .i64 x.n, .slice A x.da.length c, .int .i64 x.pk.k, .int .i64 x.pk.pa, .int .i64 x.pk.nu, .int .i64 x.pk.ofn, .int .i64 x.pk.fr, .slice B x.pk.da.length d, .bool x.pk.fin, .int .i64 x.pk.se, .int .i64 x.pk.li] from rfl)
  clear h hx hbd hc hn hv hr0 hb0 hz0 hbW hzW hrW
  go_enter Tryz.func65, Tryz.ntmps65
  go_wp2_with fail
  refine wp_region_held_drew (S := fun wi => wi.rangeAt w.heap.size 0 (x.cs A c B d)) (by kernel_rfl) S00.out ?_
  intro hHeld
  rw [hW]
  clear hw0 hW
  refine tkH 0 ?_
  refine tkH 1 ?_
  refine tkH 2 ?_
  refine tkH 3 ?_
  refine wpAnyH_take (i := 5) (v := .agg (x.cs A c B d).toArray) rfl (by kernel_rfl) (by kernel_rfl) (by kernel_rfl) (fun _ _ _ h => h) (yieldsIf_load_mid (by rfl) 88 (.tmp 3) rfl _ _ rfl (x.cs A c B d) _ (fun w2 h2 => h2) Tryz.underlying88 rfl (by kernel_rfl)) (by assumption) ?_
  try simp only [Act.put, List.getElem_toArray, List.getElem_cons_zero, List.getElem_cons_succ, List.setIfInBounds_toArray, List.set_cons_zero, List.set_cons_succ]
  rw [HV.out]
  refine wpAnyH_ready (rs := [4, 6]) (by kernel_rfl) (by simp) ?_
  refine AllReadyH.cons rfl (fun K hK => ?_) (AllReadyH.cons rfl (fun K hK => ?_) AllReadyH.nil)
  · go_simp
    refine hK.out _ _ S0.out (fun hHeld2 => ?_)
    clear hK K hHeld
    have hHeld := hHeld2
    clear hHeld2
    try simp only [Act.put, List.getElem_toArray, List.getElem_cons_zero, List.getElem_cons_succ, List.setIfInBounds_toArray, List.set_cons_zero, List.set_cons_succ]
    refine wpAnyH_ready (rs := [6]) (by kernel_rfl) (by simp) ?_
    refine AllReadyH.cons rfl (fun K hK => ?_) AllReadyH.nil
    go_simp
    refine HCP.out.mono ?_
    rintro e w1 ⟨A1, c1, B1, d1, rfl, o1, o2, hb1⟩
    obtain ⟨h, hbd, hc, hn, hv, hbW, hzW⟩ := HH.out
    obtain ⟨A', c', w2, L', c16a, hrun, fr2, hx2, h2, ht2, hbl⟩ := note_app h hK' (hbW.trans (hb1.mono hbW.size)) x hbd A1 c1 B1 d1 (o1.less hbW.size) (o2.less hbW.size) n hn hn2 Ae ce hv
    obtain ⟨y2, hx2⟩ := hx2
    obtain ⟨e1, e2, e3⟩ := hbl w.heap.size (Nat.le_refl _) (by have := hb1.size; omega)
    have hr1 := rangeAt_block S0.out (hb1.block w.heap.size (by omega))
    have S1 := Lib.hid hr1
    have S1a := Lib.hid (rangeAt_block hr1 e1)
    have S2 := Lib.hid (rangeAt_block hr1 e2)
    have S3 := Lib.hid (rangeAt_block hr1 e3)
    have c16b : w1.cell? ⟨b, 0 + 16, none⟩ = some (.slice Ae n ce) := cell_later hb1 c16
    have HF := Lib.hid (And.intro h2 (And.intro ht2 hc))
    clear h hbd hc hn hv hbW hzW hbl e1 e2 e3 hr1 h2 ht2 o1 o2 hb1 HCP HH
    try go_wp2_with fail
    refine hK.out _ _ S1.out (fun hHeld2 => ?_)
    clear hK K hHeld
    have hHeld := hHeld2
    clear hHeld2
    try simp only [Act.put, List.getElem_toArray, List.getElem_cons_zero, List.getElem_cons_succ, List.setIfInBounds_toArray, List.set_cons_zero, List.set_cons_succ]
    refine wpAnyH_ready (rs := [7]) (by kernel_rfl) (by simp) ?_
    refine AllReadyH.cons rfl (fun K hK => ?_) AllReadyH.nil
    go_simp
    refine hK.out _ _ S1a.out (fun hHeld2 => ?_)
    clear hK K hHeld
    have hHeld := hHeld2
    clear hHeld2
    try simp only [Act.put, List.getElem_toArray, List.getElem_cons_zero, List.getElem_cons_succ, List.setIfInBounds_toArray, List.set_cons_zero, List.set_cons_succ]
    refine wpAnyH_ready (rs := [8]) (by kernel_rfl) (by simp) ?_
    refine AllReadyH.cons rfl (fun K hK => ?_) AllReadyH.nil
    refine step_app_r4 (by rfl) (.tmp 8) (.tmp 11) 51 rfl _ _ _ rfl rfl hrun ?_
    refine hK.out _ _ S2.out (fun hHeld2 => ?_)
    clear hK K hHeld
    have hHeld := hHeld2
    clear hHeld2
    try simp only [Act.put, List.getElem_toArray, List.getElem_cons_zero, List.getElem_cons_succ, List.setIfInBounds_toArray, List.set_cons_zero, List.set_cons_succ]
    refine tkH 9 ?_
    refine tkH 10 ?_
    refine wpAnyH_ready (rs := [11]) (by kernel_rfl) (by simp) ?_
    refine AllReadyH.cons rfl (fun K hK => ?_) AllReadyH.nil
    go_simp
    refine hK.out _ _ S3.out (fun hHeld2 => ?_)
    clear hK K hHeld
    have hHeld := hHeld2
    clear hHeld2
    try simp only [Act.put, List.getElem_toArray, List.getElem_cons_zero, List.getElem_cons_succ, List.setIfInBounds_toArray, List.set_cons_zero, List.set_cons_succ]
    refine wpAnyH_done (by kernel_rfl) ?_ _
    clear hHeld S00 S0 S1 S1a S2 S3 c16 c16a c16b hrun fr2 hx2 HV
    obtain ⟨w3, hw3⟩ : ∃ w3, w2.setCell ⟨b, 0 + 16, none⟩ (.slice A' (n + 1) c') = w3 := ⟨_, rfl⟩
    rw [show (⟨b, 16, none⟩ : Addr) = ⟨b, 0 + 16, none⟩ from rfl, hw3] at HF
    have HAD := Lib.hid (eecount_any HF.out.1 hK' 0 (by omega) 1 (by omega) (by omega) (N := N + 1) ⟨by have := HF.out.2.2.ev; simp only [List.length_append, List.length_singleton]; omega, by have := HF.out.2.2.out; have := saids_len [x]; simp only [List.length_append, List.length_singleton] at this ⊢; omega, fun j => by have := HF.out.2.2.m j; simp only; omega⟩ (by omega) 0 rfl)
    have c18 := HF.out.1.c18
    go_wp2_with fail
    try rw [hw3]
    clear hw3 c18
    refine HAD.out.mono ?_
    rintro e w4 ⟨⟨z, rfl⟩, L4, h4, ht4⟩
    have HFIN := Lib.hid (show EEnd w L K' b s (E.noteS x) (.returned (.tuple #[])) w4 from ⟨rfl, L4, h4, HF.out.2.1.trans ht4⟩)
    clear h4 ht4 HAD HF
    go_wp2
    go_end0
    exact HFIN.out
  · go_simp
    refine HCP.out.mono ?_
    rintro e w1 ⟨A1, c1, B1, d1, rfl, o1, o2, hb1⟩
    obtain ⟨h, hbd, hc, hn, hv, hbW, hzW⟩ := HH.out
    obtain ⟨A', c', w2, L', c16a, hrun, fr2, hx2, h2, ht2, hbl⟩ := note_app h hK' (hbW.trans (hb1.mono hbW.size)) x hbd A1 c1 B1 d1 (o1.less hbW.size) (o2.less hbW.size) n hn hn2 Ae ce hv
    obtain ⟨y2, hx2⟩ := hx2
    obtain ⟨e1, e2, e3⟩ := hbl w.heap.size (Nat.le_refl _) (by have := hb1.size; omega)
    have hr1 := rangeAt_block S0.out (hb1.block w.heap.size (by omega))
    have S1 := Lib.hid hr1
    have S1a := Lib.hid (rangeAt_block hr1 e1)
    have S2 := Lib.hid (rangeAt_block hr1 e2)
    have S3 := Lib.hid (rangeAt_block hr1 e3)
    have c16b : w1.cell? ⟨b, 0 + 16, none⟩ = some (.slice Ae n ce) := cell_later hb1 c16
    have HF := Lib.hid (And.intro h2 (And.intro ht2 hc))
    clear h hbd hc hn hv hbW hzW hbl e1 e2 e3 hr1 h2 ht2 o1 o2 hb1 HCP HH
    try go_wp2_with fail
    refine hK.out _ _ S1.out (fun hHeld2 => ?_)
    clear hK K hHeld
    have hHeld := hHeld2
    clear hHeld2
    try simp only [Act.put, List.getElem_toArray, List.getElem_cons_zero, List.getElem_cons_succ, List.setIfInBounds_toArray, List.set_cons_zero, List.set_cons_succ]
    refine wpAnyH_ready (rs := [4, 7]) (by kernel_rfl) (by simp) ?_
    refine AllReadyH.cons rfl (fun K hK => ?_) (AllReadyH.cons rfl (fun K hK => ?_) AllReadyH.nil)
    · go_simp
      refine hK.out _ _ S1.out (fun hHeld2 => ?_)
      clear hK K hHeld
      have hHeld := hHeld2
      clear hHeld2
      try simp only [Act.put, List.getElem_toArray, List.getElem_cons_zero, List.getElem_cons_succ, List.setIfInBounds_toArray, List.set_cons_zero, List.set_cons_succ]
      refine wpAnyH_ready (rs := [7]) (by kernel_rfl) (by simp) ?_
      refine AllReadyH.cons rfl (fun K hK => ?_) AllReadyH.nil
      go_simp
      refine hK.out _ _ S1a.out (fun hHeld2 => ?_)
      clear hK K hHeld
      have hHeld := hHeld2
      clear hHeld2
      try simp only [Act.put, List.getElem_toArray, List.getElem_cons_zero, List.getElem_cons_succ, List.setIfInBounds_toArray, List.set_cons_zero, List.set_cons_succ]
      refine wpAnyH_ready (rs := [8]) (by kernel_rfl) (by simp) ?_
      refine AllReadyH.cons rfl (fun K hK => ?_) AllReadyH.nil
      refine step_app_r4 (by rfl) (.tmp 8) (.tmp 11) 51 rfl _ _ _ rfl rfl hrun ?_
      refine hK.out _ _ S2.out (fun hHeld2 => ?_)
      clear hK K hHeld
      have hHeld := hHeld2
      clear hHeld2
      try simp only [Act.put, List.getElem_toArray, List.getElem_cons_zero, List.getElem_cons_succ, List.setIfInBounds_toArray, List.set_cons_zero, List.set_cons_succ]
      refine tkH 9 ?_
      refine tkH 10 ?_
      refine wpAnyH_ready (rs := [11]) (by kernel_rfl) (by simp) ?_
      refine AllReadyH.cons rfl (fun K hK => ?_) AllReadyH.nil
      go_simp
      refine hK.out _ _ S3.out (fun hHeld2 => ?_)
      clear hK K hHeld
      have hHeld := hHeld2
      clear hHeld2
      try simp only [Act.put, List.getElem_toArray, List.getElem_cons_zero, List.getElem_cons_succ, List.setIfInBounds_toArray, List.set_cons_zero, List.set_cons_succ]
      refine wpAnyH_done (by kernel_rfl) ?_ _
      clear hHeld S00 S0 S1 S1a S2 S3 c16 c16a c16b hrun fr2 hx2 HV
      obtain ⟨w3, hw3⟩ : ∃ w3, w2.setCell ⟨b, 0 + 16, none⟩ (.slice A' (n + 1) c') = w3 := ⟨_, rfl⟩
      rw [show (⟨b, 16, none⟩ : Addr) = ⟨b, 0 + 16, none⟩ from rfl, hw3] at HF
      have HAD := Lib.hid (eecount_any HF.out.1 hK' 0 (by omega) 1 (by omega) (by omega) (N := N + 1) ⟨by have := HF.out.2.2.ev; simp only [List.length_append, List.length_singleton]; omega, by have := HF.out.2.2.out; have := saids_len [x]; simp only [List.length_append, List.length_singleton] at this ⊢; omega, fun j => by have := HF.out.2.2.m j; simp only; omega⟩ (by omega) 0 rfl)
      have c18 := HF.out.1.c18
      go_wp2_with fail
      try rw [hw3]
      clear hw3 c18
      refine HAD.out.mono ?_
      rintro e w4 ⟨⟨z, rfl⟩, L4, h4, ht4⟩
      have HFIN := Lib.hid (show EEnd w L K' b s (E.noteS x) (.returned (.tuple #[])) w4 from ⟨rfl, L4, h4, HF.out.2.1.trans ht4⟩)
      clear h4 ht4 HAD HF
      go_wp2
      go_end0
      exact HFIN.out
    · go_simp
      refine hK.out _ _ S1a.out (fun hHeld2 => ?_)
      clear hK K hHeld
      have hHeld := hHeld2
      clear hHeld2
      try simp only [Act.put, List.getElem_toArray, List.getElem_cons_zero, List.getElem_cons_succ, List.setIfInBounds_toArray, List.set_cons_zero, List.set_cons_succ]
      refine wpAnyH_ready (rs := [4]) (by kernel_rfl) (by simp) ?_
      refine AllReadyH.cons rfl (fun K hK => ?_) AllReadyH.nil
      go_simp
      refine hK.out _ _ S1a.out (fun hHeld2 => ?_)
      clear hK K hHeld
      have hHeld := hHeld2
      clear hHeld2
      try simp only [Act.put, List.getElem_toArray, List.getElem_cons_zero, List.getElem_cons_succ, List.setIfInBounds_toArray, List.set_cons_zero, List.set_cons_succ]
      refine wpAnyH_ready (rs := [8]) (by kernel_rfl) (by simp) ?_
      refine AllReadyH.cons rfl (fun K hK => ?_) AllReadyH.nil
      refine step_app_r4 (by rfl) (.tmp 8) (.tmp 11) 51 rfl _ _ _ rfl rfl hrun ?_
      refine hK.out _ _ S2.out (fun hHeld2 => ?_)
      clear hK K hHeld
      have hHeld := hHeld2
      clear hHeld2
      try simp only [Act.put, List.getElem_toArray, List.getElem_cons_zero, List.getElem_cons_succ, List.setIfInBounds_toArray, List.set_cons_zero, List.set_cons_succ]
      refine tkH 9 ?_
      refine tkH 10 ?_
      refine wpAnyH_ready (rs := [11]) (by kernel_rfl) (by simp) ?_
      refine AllReadyH.cons rfl (fun K hK => ?_) AllReadyH.nil
      go_simp
      refine hK.out _ _ S3.out (fun hHeld2 => ?_)
      clear hK K hHeld
      have hHeld := hHeld2
      clear hHeld2
      try simp only [Act.put, List.getElem_toArray, List.getElem_cons_zero, List.getElem_cons_succ, List.setIfInBounds_toArray, List.set_cons_zero, List.set_cons_succ]
      refine wpAnyH_done (by kernel_rfl) ?_ _
      clear hHeld S00 S0 S1 S1a S2 S3 c16 c16a c16b hrun fr2 hx2 HV
      obtain ⟨w3, hw3⟩ : ∃ w3, w2.setCell ⟨b, 0 + 16, none⟩ (.slice A' (n + 1) c') = w3 := ⟨_, rfl⟩
      rw [show (⟨b, 16, none⟩ : Addr) = ⟨b, 0 + 16, none⟩ from rfl, hw3] at HF
      have HAD := Lib.hid (eecount_any HF.out.1 hK' 0 (by omega) 1 (by omega) (by omega) (N := N + 1) ⟨by have := HF.out.2.2.ev; simp only [List.length_append, List.length_singleton]; omega, by have := HF.out.2.2.out; have := saids_len [x]; simp only [List.length_append, List.length_singleton] at this ⊢; omega, fun j => by have := HF.out.2.2.m j; simp only; omega⟩ (by omega) 0 rfl)
      have c18 := HF.out.1.c18
      go_wp2_with fail
      try rw [hw3]
      clear hw3 c18
      refine HAD.out.mono ?_
      rintro e w4 ⟨⟨z, rfl⟩, L4, h4, ht4⟩
      have HFIN := Lib.hid (show EEnd w L K' b s (E.noteS x) (.returned (.tuple #[])) w4 from ⟨rfl, L4, h4, HF.out.2.1.trans ht4⟩)
      clear h4 ht4 HAD HF
      go_wp2
      go_end0
      exact HFIN.out
end Go.Proofs.YtpjlnpnadkbakaaGreat

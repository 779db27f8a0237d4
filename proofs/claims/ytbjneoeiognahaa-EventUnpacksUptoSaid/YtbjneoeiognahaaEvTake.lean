/-
  What package event's take takes of a Reader: a contract over the program.
-/
import Derived.Test.YtbjneoeiognahaaEvCheck
import Derived.Test.YtbjneoeiognahaaEvRow
import Derived.Test.YtbjneoeiognahaaEvBackMath
import Derived.Test.YtbjneoeiognahaaPktTake
import Derived.Deep.DeepCutAuto
namespace Go.Proofs.Ytbjneoeiognahaa
open Go.RowKit

set_option maxRecDepth 10000 in
theorem pkB_of {p : Pkt} (h : p.ok = true) (hb : ∀ x ∈ p.da, 0 ≤ x ∧ x < 256) : PkB p := by
  unfold Pkt.ok Pkt.known Pkt.bounded inB at h
  simp only [Bool.and_eq_true, decide_eq_true_eq] at h
  obtain ⟨⟨⟨⟨h1, h3⟩, h5⟩, _⟩, ⟨⟨⟨⟨g1, g3⟩, g5⟩, g6⟩, g7⟩, g9⟩ := h
  exact ⟨hb, by omega, by omega, by omega, by omega, by omega, by omega, by omega, by omega⟩
set_option maxRecDepth 10000 in
theorem takeP_byt {xs : List Int} {s : Nat × Bool} (hb : ∀ x ∈ xs, 0 ≤ x ∧ x < 256) (hl : s.1 ≤ xs.length) : ∀ x ∈ (takeP xs s).1.da, 0 ≤ x ∧ x < 256 := by
  have hk := (rdO_bd (s := s) hl hb).2.2
  have hpa := (rdN_bd (s := (rdO xs s).2) hk).2.2
  have hnu := (rdN_bd (s := (rdN xs (rdO xs s).2).2) hpa).2.2
  have hfr := (rdN_bd (s := (rdN xs (rdN xs (rdO xs s).2).2).2) hnu).2.2
  have hda := (rdB_bd (m := 64) (s := (rdN xs (rdN xs (rdN xs (rdO xs s).2).2).2).2) hfr hb).1
  unfold takeP
  split
  · unfold readP
    simp only
    split
    · intro x hx; simp at hx
    · split
      · exact hda
      · split <;> (intro x hx; simp at hx)
  · intro x hx; simp [Pkt.zero] at hx
set_option maxRecDepth 10000 in
theorem takeP_B {xs : List Int} {s : Nat × Bool} (hb : ∀ x ∈ xs, 0 ≤ x ∧ x < 256) (hl : s.1 ≤ xs.length) : PkB (takeP xs s).1 := by
  have h9 := takeP_byt (s := s) hb hl
  have hz : (takeP xs s).1 = Pkt.zero ∨ (takeP xs s).1.ok = true := by
    unfold takeP
    split
    · rename_i h
      simp only [Bool.and_eq_true] at h
      exact .inr h.2
    · exact .inl rfl
  rcases hz with h | h
  · rw [h]; exact PkB.zero
  · exact pkB_of h h9
set_option maxRecDepth 10000 in
theorem takeP_le {xs : List Int} {s : Nat × Bool} (hb : ∀ x ∈ xs, 0 ≤ x ∧ x < 256) (hl : s.1 ≤ xs.length) : (takeP xs s).2.2.1 ≤ xs.length := by
  have hk := (rdO_bd (s := s) hl hb).2.2
  have hpa := (rdN_bd (s := (rdO xs s).2) hk).2.2
  have hnu := (rdN_bd (s := (rdN xs (rdO xs s).2).2) hpa).2.2
  have hr : (readP xs s).2.2.1 ≤ xs.length := by
    unfold readP
    simp only
    split
    · exact (rdN_bd hnu).2.2
    · split
      · exact (rdO_bd (rdB_bd (rdN_bd hnu).2.2 hb).2.1 hb).2.2
      · split
        · exact (rdN_bd (rdN_bd (rdN_bd hnu).2.2).2.2).2.2
        · exact hnu
  unfold takeP
  split <;> exact hr

/-- What is known while a Reader is read into an event: from the world w0 to the world w. -/
structure TE (w0 w : World) (p : Nat) (A : Option Addr) (c : Nat) (xs : List Int) (a : Nat) (bad : Bool) (z q : Nat) (ev : Ev) (A' : Option Addr) (c' : Nat) (B' : Option Addr) (d' : Nat) : Prop where
  rd : Rdr w p A c xs a bad
  gr : w0.grownBy w (some p)
  v : EvV w q ev A' c' B' d'
  zr : EvV w z Ev.zero none 0 none 0
  o1 : Own .u8 5 w w0.heap.size (.slice A' ev.da.length c') ev.da
  o2 : Own .u8 5 w w0.heap.size (.slice B' ev.pk.da.length d') ev.pk.da
  pl : p < w0.heap.size
  zl : w0.heap.size ≤ z
  zq : z < q
section
variable {w0 w w' : World} {p : Nat} {A : Option Addr} {c : Nat} {xs : List Int} {a a' : Nat} {bad b' : Bool} {z q : Nat} {ev ev' : Ev} {A' A2 : Option Addr} {c' c2 : Nat} {B' B2 : Option Addr} {d' d2 : Nat}
set_option maxRecDepth 10000 in
theorem TE.call (h : TE w0 w p A c xs a bad z q ev A' c' B' d') (hr : Rdr w' p A c xs a' b') (hg : w.grownBy w' (some p)) : TE w0 w' p A c xs a' b' z q ev A' c' B' d' :=
  ⟨hr, grown_trans h.gr hg, h.v.kept hg (by have := h.pl; have := h.zl; have := h.zq; omega), h.zr.kept hg (by have := h.pl; have := h.zl; omega), h.o1.rdr h.rd hg, h.o2.rdr h.rd hg, h.pl, h.zl, h.zq⟩
set_option maxRecDepth 10000 in
theorem TE.below (h : TE w0 w p A c xs a bad z q ev A' c' B' d') (hb : Below w.heap.size w w') : TE w0 w' p A c xs a bad z q ev A' c' B' d' :=
  ⟨h.rd.later hb, grown_then' h.gr (hb.mono h.gr.size), h.v.later hb, h.zr.later hb, h.o1.later hb, h.o2.later hb, h.pl, h.zl, h.zq⟩
set_option maxRecDepth 10000 in
theorem TE.store (h : TE w0 w p A c xs a bad z q ev A' c' B' d') (hg : w.grownBy w' (some q)) (hv : EvV w' q ev' A2 c2 B2 d2) (o1 : Own .u8 5 w w0.heap.size (.slice A2 ev'.da.length c2) ev'.da)
    (o2 : Own .u8 5 w w0.heap.size (.slice B2 ev'.pk.da.length d2) ev'.pk.da) : TE w0 w' p A c xs a bad z q ev' A2 c2 B2 d2 := by
  have hq := h.zq
  have hz := h.zl
  have hpl := h.pl
  exact ⟨⟨h.rd.ne, World.rowIs.of_block h.rd.row (hg.block p h.rd.lt (by simp; omega)), h.rd.own.kept hg (own_not_ev h.rd.own h.v), h.rd.le, h.rd.reach, h.rd.bytes⟩,
    grown_then' h.gr ((Below.refl _ _).grown hg h.gr.size (by intro g e; simp at e; omega)), hv, h.zr.kept hg (by omega), o1.kept hg (own_not_ev o1 h.v), o2.kept hg (own_not_ev o2 h.v), h.pl, h.zl, h.zq⟩
set_option maxRecDepth 10000 in
/-- The beginning: the zero, and the event's kind. -/
theorem TE.begin {w0 w1 : World} {p : Nat} {A : Option Addr} {c : Nat} {xs : List Int} {a : Nat} {bad : Bool} (v : Int) (hl : p < w0.heap.size) (hr : Rdr w1 p A c xs a bad)
    (hg : (w0.alloc (.cells (Ev.zero.cs none 0 none 0).toArray 60)).grownBy w1 (some p)) :
    TE w0 (w1.alloc (.cells ((⟨v, 0, [], Pkt.zero⟩ : Ev).cs none 0 none 0).toArray 60)) p A c xs a bad w0.heap.size w1.heap.size ⟨v, 0, [], Pkt.zero⟩ none 0 none 0 := by
  have hb := ((Below.refl w1.heap.size w1).alloc (Nat.le_refl _) (.cells ((⟨v, 0, [], Pkt.zero⟩ : Ev).cs none 0 none 0).toArray 60))
  have hs := hg.size
  have hz := EvV.new w0 Ev.zero none 0 none 0
  have h1 : w0.grownBy w1 (some p) := grown_trans (grown_of ((Below.refl w0.heap.size w0).alloc (Nat.le_refl _) _)) hg
  rw [World.size_alloc] at hs
  exact ⟨hr.later hb, grown_then' h1 (hb.mono h1.size), EvV.new _ _ _ _ _ _, (hz.kept hg (by omega)).later hb, Own.nil _ _ _ _, Own.nil _ _ _ _, hl, Nat.le_refl _, by omega⟩
set_option maxRecDepth 10000 in
/-- Behind a store of the result. -/
theorem TE.put (h : TE w0 w p A c xs a bad z q ev A' c' B' d') (vs : List Value) :
    Own .u8 5 (w.setCells z 0 vs) w0.heap.size (.slice A' ev.da.length c') ev.da ∧ Own .u8 5 (w.setCells z 0 vs) w0.heap.size (.slice B' ev.pk.da.length d') ev.pk.da ∧ Rdr (w.setCells z 0 vs) p A c xs a bad ∧ w0.grownBy (w.setCells z 0 vs) (some p) := by
  have hg := setCells_one z vs 0 w
  have hq := h.zq
  have hz := h.zl
  have hpl := h.pl
  refine ⟨h.o1.kept hg (own_not_ev h.o1 h.zr), h.o2.kept hg (own_not_ev h.o2 h.zr), ⟨h.rd.ne, World.rowIs.of_block h.rd.row (hg.block p h.rd.lt (by simp; omega)), h.rd.own.kept hg (own_not_ev h.rd.own h.zr), h.rd.le, h.rd.reach, h.rd.bytes⟩, ?_⟩
  exact grown_then' h.gr ((Below.refl _ _).grown hg h.gr.size (by intro g e; simp at e; omega))
set_option maxRecDepth 10000 in
theorem zero_own (w : World) (B : Nat) : EvM.own w B ⟨Ev.zero, none, 0, none, 0⟩ := ⟨EvB.zero, Own.nil _ _ _ _, Own.nil _ _ _ _⟩
end


set_option maxRecDepth 100000 in
set_option maxHeartbeats 4000000 in
theorem takeEv1 (w : World) (p : Nat) (A : Option Addr) (c : Nat) (xs : List Int) (a : Nat) (bad : Bool) (hr : Rdr w p A c xs a bad) (a1 : Nat) (b1 : Bool) (e1 : rdO xs (a, bad) = (1, a1, b1)) :
    Calls Try.prog 73 #[.pointer (some ⟨p, 0, none⟩)] w fun x w' => ∃ A' c' B' d', x = .returned (.tuple #[(takeE xs (a, bad)).1.val A' c' B' d', .bool (takeE xs (a, bad)).2.1]) ∧
      EvM.own w' w.heap.size ⟨(takeE xs (a, bad)).1, A', c', B', d'⟩ ∧ Rdr w' p A c xs (takeE xs (a, bad)).2.2.1 (takeE xs (a, bad)).2.2.2 ∧ w.grownBy w' (some p) := by
  have hk := rdO_bd (s := (a, bad)) hr.le hr.bytes
  rw [e1] at hk
  simp only at hk
  obtain ⟨R, hR⟩ : ∃ R, takeE xs (a, bad) = R := ⟨_, rfl⟩
  rw [hR]
  obtain ⟨da, a2, b2, e2⟩ : ∃ k a1' b1', rdB 4096 xs (a1, b1) = (k, a1', b1') := ⟨_, _, _, rfl⟩
  have hda := rdB_bd (m := 4096) (s := (a1, b1)) hk.2.2 hr.bytes
  rw [e2] at hda
  simp only at hda
  have hre : readE xs (a, bad) = (⟨1, 0, da, Pkt.zero⟩, true, a2, b2) := by simp [readE, e1, e2]
  obtain ⟨ev, hev⟩ : ∃ ev : Ev, ⟨1, 0, da, Pkt.zero⟩ = ev := ⟨_, rfl⟩
  rw [hev] at hre
  have HEV := Lib.hid hev
  have HT := Lib.hid (show R = if (true && !b2 && ev.ok) = true then (ev, true, a2, b2) else (Ev.zero, false, a2, b2) by rw [← hR]; unfold takeE; rw [hre])
  have HBD := Lib.hid (show EvB ev by subst hev; exact ⟨hda.1, by simp only; omega, by simp, by simp, PkB.zero⟩)
  clear hre hR hev
  have HR := Lib.hid hr
  have hpl := HR.out.lt
  have HPL := Lib.hid hpl
  have E1 := Lib.hid e1
  have E2 := Lib.hid e2
  clear hr hpl e1 e2
  go_enter Try.func73, Try.ntmps73
  go_wp2_with fail
  refine (rdO_call (HR.out.alloc _) E1.out).mono ?_
  rintro x w1 ⟨rfl, hr1, hg1⟩
  have T := Lib.hid (TE.begin 1 HPL.out hr1 hg1)
  clear hr1 hg1
  unfold Ev.cs at T
  simp only [List.length_nil] at T
  change Hid (TE w (w1.alloc (.cells #[.int .i64 1, .int .i64 0, .slice none 0 0, .int .i64 0, .int .i64 0, .int .i64 0, .int .i64 0, .int .i64 0, .slice none 0 0, .bool false, .int .i64 0, .int .i64 0] 60)) p A c xs a1 b1 w.heap.size w1.heap.size ⟨1, 0, [], Pkt.zero⟩ none 0 none 0) at T
  go_wp2_with fail
  obtain ⟨w2, hw2⟩ : ∃ W, w1.alloc (.cells #[.int .i64 1, .int .i64 0, .slice none 0 0, .int .i64 0, .int .i64 0, .int .i64 0, .int .i64 0, .int .i64 0, .slice none 0 0, .bool false, .int .i64 0, .int .i64 0] 60) = W := ⟨_, rfl⟩
  rw [hw2] at T ⊢
  obtain ⟨q, hq⟩ : ∃ q, w1.heap.size = q := ⟨_, rfl⟩
  obtain ⟨z, hz⟩ : ∃ z, w.heap.size = z := ⟨_, rfl⟩
  have HZ := Lib.hid hz
  rw [hq, hz] at T ⊢
  clear hq hw2 hz
  refine (rdB_call (m := 4096) T.out.rd E2.out).mono ?_
  rintro x w3 ⟨D, dc, rfl, ho3, hr3, hg3⟩
  have ho4 := ho3.less (B' := w.heap.size) (by rw [HZ.out]; exact Nat.le_trans (Nat.le_of_eq HZ.out.symm) T.out.gr.size)
  have T9 := Lib.hid (T.out.call hr3 hg3)
  clear hr3 hg3 T ho3
  have f9 := T9.out.v.fr 2
  have c9 := T9.out.v.cells.q2
  have T := Lib.hid (T9.out.store (setCell_one w3 q 2 (.slice D da.length dc)) (T9.out.v.dat da D dc) ho4 T9.out.o2)
  clear T9 ho4
  go_wp2_with fail
  obtain ⟨w4, hw9⟩ : ∃ V, w3.setCell ⟨q, 2, none⟩ (.slice D da.length dc) = V := ⟨_, rfl⟩
  rw [hw9] at T ⊢
  clear hw9 f9 c9
  try rw [HEV.out] at T
  refine (bad_any T.out.rd).mono ?_
  rintro x w9 ⟨rfl, rfl⟩
  cases b2
  · have hvc := T.out.v.cells
    obtain ⟨d0, d1, d2, d3, d4, d5, d6, d7, d8, d9, d10, d11⟩ := hvc
    simp only [Nat.zero_add] at d0 d1 d2 d3 d4 d5 d6 d7 d8 d9 d10 d11
    have hc := fun W (h : EvAt W ev D dc none 0) => checkE_any ev D dc none 0 W h
    cases hok : ev.ok
    · simp only [hok, Bool.false_eq_true, if_false] at hc
      have HC := Lib.hid hc
      have hR9 : R = (Ev.zero, false, a2, false) := by rw [HT.out]; simp [hok]
      clear hc hok
      go_wp2_with fail
      refine (HC.out _ (EvM.own.at (m := ⟨ev, D, dc, none, 0⟩) (B := w.heap.size) ⟨HBD.out, T.out.o1, T.out.o2⟩)).mono ?_
      rintro x v1 ⟨rfl, hb⟩
      have T9 := Lib.hid (T.out.below hb)
      clear hb T d0 d1 d2 d3 d4 d5 d6 d7 d8 d9 d10 d11
      have T := T9
      clear T9
      have f0 := T.out.zr.fr
      have hvz := T.out.zr.cells
      obtain ⟨d0, d1, d2, d3, d4, d5, d6, d7, d8, d9, d10, d11⟩ := hvz
      simp only [Nat.zero_add] at d0 d1 d2 d3 d4 d5 d6 d7 d8 d9 d10 d11
      go_wp2_with fail
      change bodyPost _ _ _ _ _ (v1.setCells z 0 (Ev.zero.cs none 0 none 0))
      obtain ⟨r1, r2, r3, r4⟩ := T.out.put (Ev.zero.cs none 0 none 0)
      refine bodyPost_ret (v := .tuple #[Ev.zero.val none 0 none 0, .bool false]) ?_ rfl ⟨none, 0, none, 0, by rw [hR9], by rw [hR9]; exact zero_own _ _, by rw [hR9]; exact r3, r4⟩
      rw [results_cell_tmp rfl]
      have h9 := T.out.zr.res Ev.zero none 0 none 0
      clear d0 d1 d2 d3 d4 d5 d6 d7 d8 d9 d10 d11 f0
      simp [asAddr, h9]
    · simp only [hok, if_true] at hc
      have HC := Lib.hid hc
      have hR9 : R = (ev, true, a2, false) := by rw [HT.out]; simp [hok]
      clear hc hok
      go_wp2_with fail
      refine (HC.out _ (EvM.own.at (m := ⟨ev, D, dc, none, 0⟩) (B := w.heap.size) ⟨HBD.out, T.out.o1, T.out.o2⟩)).mono ?_
      rintro x v1 ⟨rfl, hb⟩
      have T9 := Lib.hid (T.out.below hb)
      clear hb T d0 d1 d2 d3 d4 d5 d6 d7 d8 d9 d10 d11
      have T := T9
      clear T9
      have hvc := T.out.v.cells
      obtain ⟨d0, d1, d2, d3, d4, d5, d6, d7, d8, d9, d10, d11⟩ := hvc
      have f0 := T.out.zr.fr
      have hvz := T.out.zr.cells
      obtain ⟨x0, x1, x2, x3, x4, x5, x6, x7, x8, x9, x10, x11⟩ := hvz
      simp only [Nat.zero_add] at d0 d1 d2 d3 d4 d5 d6 d7 d8 d9 d10 d11 x0 x1 x2 x3 x4 x5 x6 x7 x8 x9 x10 x11
      go_wp2_with fail
      change bodyPost _ _ _ _ _ (v1.setCells z 0 (ev.cs D dc none 0))
      obtain ⟨r1, r2, r3, r4⟩ := T.out.put (ev.cs D dc none 0)
      refine bodyPost_ret (v := .tuple #[ev.val D dc none 0, .bool true]) ?_ rfl ⟨D, dc, none, 0, by rw [hR9], by rw [hR9]; exact ⟨HBD.out, r1, r2⟩, by rw [hR9]; exact r3, r4⟩
      rw [results_cell_tmp rfl]
      have h9 := T.out.zr.res ev D dc none 0
      clear d0 d1 d2 d3 d4 d5 d6 d7 d8 d9 d10 d11 x0 x1 x2 x3 x4 x5 x6 x7 x8 x9 x10 x11 f0
      simp [asAddr, h9]
  · have hR9 : R = (Ev.zero, false, a2, true) := by rw [HT.out]; simp
    have f0 := T.out.zr.fr
    have hvz := T.out.zr.cells
    obtain ⟨d0, d1, d2, d3, d4, d5, d6, d7, d8, d9, d10, d11⟩ := hvz
    simp only [Nat.zero_add] at d0 d1 d2 d3 d4 d5 d6 d7 d8 d9 d10 d11
    go_wp2_with fail
    change bodyPost _ _ _ _ _ (w4.setCells z 0 (Ev.zero.cs none 0 none 0))
    obtain ⟨r1, r2, r3, r4⟩ := T.out.put (Ev.zero.cs none 0 none 0)
    refine bodyPost_ret (v := .tuple #[Ev.zero.val none 0 none 0, .bool false]) ?_ rfl ⟨none, 0, none, 0, by rw [hR9], by rw [hR9]; exact zero_own _ _, by rw [hR9]; exact r3, r4⟩
    rw [results_cell_tmp rfl]
    have h9 := T.out.zr.res Ev.zero none 0 none 0
    clear d0 d1 d2 d3 d4 d5 d6 d7 d8 d9 d10 d11 f0
    simp [asAddr, h9]

set_option maxRecDepth 100000 in
set_option maxHeartbeats 4000000 in
theorem takeEv2 (w : World) (p : Nat) (A : Option Addr) (c : Nat) (xs : List Int) (a : Nat) (bad : Bool) (hr : Rdr w p A c xs a bad) (a1 : Nat) (b1 : Bool) (e1 : rdO xs (a, bad) = (2, a1, b1)) :
    Calls Try.prog 73 #[.pointer (some ⟨p, 0, none⟩)] w fun x w' => ∃ A' c' B' d', x = .returned (.tuple #[(takeE xs (a, bad)).1.val A' c' B' d', .bool (takeE xs (a, bad)).2.1]) ∧
      EvM.own w' w.heap.size ⟨(takeE xs (a, bad)).1, A', c', B', d'⟩ ∧ Rdr w' p A c xs (takeE xs (a, bad)).2.2.1 (takeE xs (a, bad)).2.2.2 ∧ w.grownBy w' (some p) := by
  have hk := rdO_bd (s := (a, bad)) hr.le hr.bytes
  rw [e1] at hk
  simp only at hk
  obtain ⟨R, hR⟩ : ∃ R, takeE xs (a, bad) = R := ⟨_, rfl⟩
  rw [hR]
  obtain ⟨da, a2, b2, e2⟩ : ∃ k a1' b1', rdB 4096 xs (a1, b1) = (k, a1', b1') := ⟨_, _, _, rfl⟩
  have hda := rdB_bd (m := 4096) (s := (a1, b1)) hk.2.2 hr.bytes
  rw [e2] at hda
  simp only at hda
  have hre : readE xs (a, bad) = (⟨2, 0, da, Pkt.zero⟩, true, a2, b2) := by simp [readE, e1, e2]
  obtain ⟨ev, hev⟩ : ∃ ev : Ev, ⟨2, 0, da, Pkt.zero⟩ = ev := ⟨_, rfl⟩
  rw [hev] at hre
  have HEV := Lib.hid hev
  have HT := Lib.hid (show R = if (true && !b2 && ev.ok) = true then (ev, true, a2, b2) else (Ev.zero, false, a2, b2) by rw [← hR]; unfold takeE; rw [hre])
  have HBD := Lib.hid (show EvB ev by subst hev; exact ⟨hda.1, by simp only; omega, by simp, by simp, PkB.zero⟩)
  clear hre hR hev
  have HR := Lib.hid hr
  have hpl := HR.out.lt
  have HPL := Lib.hid hpl
  have E1 := Lib.hid e1
  have E2 := Lib.hid e2
  clear hr hpl e1 e2
  go_enter Try.func73, Try.ntmps73
  go_wp2_with fail
  refine (rdO_call (HR.out.alloc _) E1.out).mono ?_
  rintro x w1 ⟨rfl, hr1, hg1⟩
  have T := Lib.hid (TE.begin 2 HPL.out hr1 hg1)
  clear hr1 hg1
  unfold Ev.cs at T
  simp only [List.length_nil] at T
  change Hid (TE w (w1.alloc (.cells #[.int .i64 2, .int .i64 0, .slice none 0 0, .int .i64 0, .int .i64 0, .int .i64 0, .int .i64 0, .int .i64 0, .slice none 0 0, .bool false, .int .i64 0, .int .i64 0] 60)) p A c xs a1 b1 w.heap.size w1.heap.size ⟨2, 0, [], Pkt.zero⟩ none 0 none 0) at T
  go_wp2_with fail
  obtain ⟨w2, hw2⟩ : ∃ W, w1.alloc (.cells #[.int .i64 2, .int .i64 0, .slice none 0 0, .int .i64 0, .int .i64 0, .int .i64 0, .int .i64 0, .int .i64 0, .slice none 0 0, .bool false, .int .i64 0, .int .i64 0] 60) = W := ⟨_, rfl⟩
  rw [hw2] at T ⊢
  obtain ⟨q, hq⟩ : ∃ q, w1.heap.size = q := ⟨_, rfl⟩
  obtain ⟨z, hz⟩ : ∃ z, w.heap.size = z := ⟨_, rfl⟩
  have HZ := Lib.hid hz
  rw [hq, hz] at T ⊢
  clear hq hw2 hz
  refine (rdB_call (m := 4096) T.out.rd E2.out).mono ?_
  rintro x w3 ⟨D, dc, rfl, ho3, hr3, hg3⟩
  have ho4 := ho3.less (B' := w.heap.size) (by rw [HZ.out]; exact Nat.le_trans (Nat.le_of_eq HZ.out.symm) T.out.gr.size)
  have T9 := Lib.hid (T.out.call hr3 hg3)
  clear hr3 hg3 T ho3
  have f9 := T9.out.v.fr 2
  have c9 := T9.out.v.cells.q2
  have T := Lib.hid (T9.out.store (setCell_one w3 q 2 (.slice D da.length dc)) (T9.out.v.dat da D dc) ho4 T9.out.o2)
  clear T9 ho4
  go_wp2_with fail
  obtain ⟨w4, hw9⟩ : ∃ V, w3.setCell ⟨q, 2, none⟩ (.slice D da.length dc) = V := ⟨_, rfl⟩
  rw [hw9] at T ⊢
  clear hw9 f9 c9
  try rw [HEV.out] at T
  refine (bad_any T.out.rd).mono ?_
  rintro x w9 ⟨rfl, rfl⟩
  cases b2
  · have hvc := T.out.v.cells
    obtain ⟨d0, d1, d2, d3, d4, d5, d6, d7, d8, d9, d10, d11⟩ := hvc
    simp only [Nat.zero_add] at d0 d1 d2 d3 d4 d5 d6 d7 d8 d9 d10 d11
    have hc := fun W (h : EvAt W ev D dc none 0) => checkE_any ev D dc none 0 W h
    cases hok : ev.ok
    · simp only [hok, Bool.false_eq_true, if_false] at hc
      have HC := Lib.hid hc
      have hR9 : R = (Ev.zero, false, a2, false) := by rw [HT.out]; simp [hok]
      clear hc hok
      go_wp2_with fail
      refine (HC.out _ (EvM.own.at (m := ⟨ev, D, dc, none, 0⟩) (B := w.heap.size) ⟨HBD.out, T.out.o1, T.out.o2⟩)).mono ?_
      rintro x v1 ⟨rfl, hb⟩
      have T9 := Lib.hid (T.out.below hb)
      clear hb T d0 d1 d2 d3 d4 d5 d6 d7 d8 d9 d10 d11
      have T := T9
      clear T9
      have f0 := T.out.zr.fr
      have hvz := T.out.zr.cells
      obtain ⟨d0, d1, d2, d3, d4, d5, d6, d7, d8, d9, d10, d11⟩ := hvz
      simp only [Nat.zero_add] at d0 d1 d2 d3 d4 d5 d6 d7 d8 d9 d10 d11
      go_wp2_with fail
      change bodyPost _ _ _ _ _ (v1.setCells z 0 (Ev.zero.cs none 0 none 0))
      obtain ⟨r1, r2, r3, r4⟩ := T.out.put (Ev.zero.cs none 0 none 0)
      refine bodyPost_ret (v := .tuple #[Ev.zero.val none 0 none 0, .bool false]) ?_ rfl ⟨none, 0, none, 0, by rw [hR9], by rw [hR9]; exact zero_own _ _, by rw [hR9]; exact r3, r4⟩
      rw [results_cell_tmp rfl]
      have h9 := T.out.zr.res Ev.zero none 0 none 0
      clear d0 d1 d2 d3 d4 d5 d6 d7 d8 d9 d10 d11 f0
      simp [asAddr, h9]
    · simp only [hok, if_true] at hc
      have HC := Lib.hid hc
      have hR9 : R = (ev, true, a2, false) := by rw [HT.out]; simp [hok]
      clear hc hok
      go_wp2_with fail
      refine (HC.out _ (EvM.own.at (m := ⟨ev, D, dc, none, 0⟩) (B := w.heap.size) ⟨HBD.out, T.out.o1, T.out.o2⟩)).mono ?_
      rintro x v1 ⟨rfl, hb⟩
      have T9 := Lib.hid (T.out.below hb)
      clear hb T d0 d1 d2 d3 d4 d5 d6 d7 d8 d9 d10 d11
      have T := T9
      clear T9
      have hvc := T.out.v.cells
      obtain ⟨d0, d1, d2, d3, d4, d5, d6, d7, d8, d9, d10, d11⟩ := hvc
      have f0 := T.out.zr.fr
      have hvz := T.out.zr.cells
      obtain ⟨x0, x1, x2, x3, x4, x5, x6, x7, x8, x9, x10, x11⟩ := hvz
      simp only [Nat.zero_add] at d0 d1 d2 d3 d4 d5 d6 d7 d8 d9 d10 d11 x0 x1 x2 x3 x4 x5 x6 x7 x8 x9 x10 x11
      go_wp2_with fail
      change bodyPost _ _ _ _ _ (v1.setCells z 0 (ev.cs D dc none 0))
      obtain ⟨r1, r2, r3, r4⟩ := T.out.put (ev.cs D dc none 0)
      refine bodyPost_ret (v := .tuple #[ev.val D dc none 0, .bool true]) ?_ rfl ⟨D, dc, none, 0, by rw [hR9], by rw [hR9]; exact ⟨HBD.out, r1, r2⟩, by rw [hR9]; exact r3, r4⟩
      rw [results_cell_tmp rfl]
      have h9 := T.out.zr.res ev D dc none 0
      clear d0 d1 d2 d3 d4 d5 d6 d7 d8 d9 d10 d11 x0 x1 x2 x3 x4 x5 x6 x7 x8 x9 x10 x11 f0
      simp [asAddr, h9]
  · have hR9 : R = (Ev.zero, false, a2, true) := by rw [HT.out]; simp
    have f0 := T.out.zr.fr
    have hvz := T.out.zr.cells
    obtain ⟨d0, d1, d2, d3, d4, d5, d6, d7, d8, d9, d10, d11⟩ := hvz
    simp only [Nat.zero_add] at d0 d1 d2 d3 d4 d5 d6 d7 d8 d9 d10 d11
    go_wp2_with fail
    change bodyPost _ _ _ _ _ (w4.setCells z 0 (Ev.zero.cs none 0 none 0))
    obtain ⟨r1, r2, r3, r4⟩ := T.out.put (Ev.zero.cs none 0 none 0)
    refine bodyPost_ret (v := .tuple #[Ev.zero.val none 0 none 0, .bool false]) ?_ rfl ⟨none, 0, none, 0, by rw [hR9], by rw [hR9]; exact zero_own _ _, by rw [hR9]; exact r3, r4⟩
    rw [results_cell_tmp rfl]
    have h9 := T.out.zr.res Ev.zero none 0 none 0
    clear d0 d1 d2 d3 d4 d5 d6 d7 d8 d9 d10 d11 f0
    simp [asAddr, h9]

set_option maxRecDepth 100000 in
set_option maxHeartbeats 4000000 in
theorem takeEv3 (w : World) (p : Nat) (A : Option Addr) (c : Nat) (xs : List Int) (a : Nat) (bad : Bool) (hr : Rdr w p A c xs a bad) (a1 : Nat) (b1 : Bool) (e1 : rdO xs (a, bad) = (3, a1, b1)) :
    Calls Try.prog 73 #[.pointer (some ⟨p, 0, none⟩)] w fun x w' => ∃ A' c' B' d', x = .returned (.tuple #[(takeE xs (a, bad)).1.val A' c' B' d', .bool (takeE xs (a, bad)).2.1]) ∧
      EvM.own w' w.heap.size ⟨(takeE xs (a, bad)).1, A', c', B', d'⟩ ∧ Rdr w' p A c xs (takeE xs (a, bad)).2.2.1 (takeE xs (a, bad)).2.2.2 ∧ w.grownBy w' (some p) := by
  have hk := rdO_bd (s := (a, bad)) hr.le hr.bytes
  rw [e1] at hk
  simp only at hk
  obtain ⟨R, hR⟩ : ∃ R, takeE xs (a, bad) = R := ⟨_, rfl⟩
  rw [hR]
  obtain ⟨n, a2, b2, e2⟩ : ∃ k a1' b1', rdN xs (a1, b1) = (k, a1', b1') := ⟨_, _, _, rfl⟩
  have hn := rdN_bd (xs := xs) (s := (a1, b1)) hk.2.2
  rw [e2] at hn
  simp only at hn
  have hre : readE xs (a, bad) = (⟨3, n, [], Pkt.zero⟩, true, a2, b2) := by simp [readE, e1, e2]
  obtain ⟨ev, hev⟩ : ∃ ev : Ev, ⟨3, n, [], Pkt.zero⟩ = ev := ⟨_, rfl⟩
  rw [hev] at hre
  have HEV := Lib.hid hev
  have HT := Lib.hid (show R = if (true && !b2 && ev.ok) = true then (ev, true, a2, b2) else (Ev.zero, false, a2, b2) by rw [← hR]; unfold takeE; rw [hre])
  have HBD := Lib.hid (show EvB ev by subst hev; exact ⟨by intro x hx; simp at hx, by simp, by simp, by simp; omega, PkB.zero⟩)
  clear hre hR hev
  have HR := Lib.hid hr
  have hpl := HR.out.lt
  have HPL := Lib.hid hpl
  have E1 := Lib.hid e1
  have E2 := Lib.hid e2
  clear hr hpl e1 e2
  go_enter Try.func73, Try.ntmps73
  go_wp2_with fail
  refine (rdO_call (HR.out.alloc _) E1.out).mono ?_
  rintro x w1 ⟨rfl, hr1, hg1⟩
  have T := Lib.hid (TE.begin 3 HPL.out hr1 hg1)
  clear hr1 hg1
  unfold Ev.cs at T
  simp only [List.length_nil] at T
  change Hid (TE w (w1.alloc (.cells #[.int .i64 3, .int .i64 0, .slice none 0 0, .int .i64 0, .int .i64 0, .int .i64 0, .int .i64 0, .int .i64 0, .slice none 0 0, .bool false, .int .i64 0, .int .i64 0] 60)) p A c xs a1 b1 w.heap.size w1.heap.size ⟨3, 0, [], Pkt.zero⟩ none 0 none 0) at T
  go_wp2_with fail
  obtain ⟨w2, hw2⟩ : ∃ W, w1.alloc (.cells #[.int .i64 3, .int .i64 0, .slice none 0 0, .int .i64 0, .int .i64 0, .int .i64 0, .int .i64 0, .int .i64 0, .slice none 0 0, .bool false, .int .i64 0, .int .i64 0] 60) = W := ⟨_, rfl⟩
  rw [hw2] at T ⊢
  obtain ⟨q, hq⟩ : ∃ q, w1.heap.size = q := ⟨_, rfl⟩
  obtain ⟨z, hz⟩ : ∃ z, w.heap.size = z := ⟨_, rfl⟩
  have HZ := Lib.hid hz
  rw [hq, hz] at T ⊢
  clear hq hw2 hz
  refine (rdN_call T.out.rd E2.out).mono ?_
  rintro x w3 ⟨rfl, hr3, hg3⟩
  have T9 := Lib.hid (T.out.call hr3 hg3)
  clear hr3 hg3 T
  have f9 := T9.out.v.fr 1
  have c9 := T9.out.v.cells.q1
  have T := Lib.hid (T9.out.store (setCell_one w3 q 1 (.int .i64 n)) (T9.out.v.nin n) T9.out.o1 T9.out.o2)
  clear T9
  go_wp2_with fail
  obtain ⟨w4, hw9⟩ : ∃ V, w3.setCell ⟨q, 1, none⟩ (.int .i64 n) = V := ⟨_, rfl⟩
  rw [hw9] at T ⊢
  clear hw9 f9 c9
  try rw [HEV.out] at T
  refine (bad_any T.out.rd).mono ?_
  rintro x w9 ⟨rfl, rfl⟩
  cases b2
  · have hvc := T.out.v.cells
    obtain ⟨d0, d1, d2, d3, d4, d5, d6, d7, d8, d9, d10, d11⟩ := hvc
    simp only [Nat.zero_add] at d0 d1 d2 d3 d4 d5 d6 d7 d8 d9 d10 d11
    have hc := fun W (h : EvAt W ev none 0 none 0) => checkE_any ev none 0 none 0 W h
    cases hok : ev.ok
    · simp only [hok, Bool.false_eq_true, if_false] at hc
      have HC := Lib.hid hc
      have hR9 : R = (Ev.zero, false, a2, false) := by rw [HT.out]; simp [hok]
      clear hc hok
      go_wp2_with fail
      refine (HC.out _ (EvM.own.at (m := ⟨ev, none, 0, none, 0⟩) (B := w.heap.size) ⟨HBD.out, T.out.o1, T.out.o2⟩)).mono ?_
      rintro x v1 ⟨rfl, hb⟩
      have T9 := Lib.hid (T.out.below hb)
      clear hb T d0 d1 d2 d3 d4 d5 d6 d7 d8 d9 d10 d11
      have T := T9
      clear T9
      have f0 := T.out.zr.fr
      have hvz := T.out.zr.cells
      obtain ⟨d0, d1, d2, d3, d4, d5, d6, d7, d8, d9, d10, d11⟩ := hvz
      simp only [Nat.zero_add] at d0 d1 d2 d3 d4 d5 d6 d7 d8 d9 d10 d11
      go_wp2_with fail
      change bodyPost _ _ _ _ _ (v1.setCells z 0 (Ev.zero.cs none 0 none 0))
      obtain ⟨r1, r2, r3, r4⟩ := T.out.put (Ev.zero.cs none 0 none 0)
      refine bodyPost_ret (v := .tuple #[Ev.zero.val none 0 none 0, .bool false]) ?_ rfl ⟨none, 0, none, 0, by rw [hR9], by rw [hR9]; exact zero_own _ _, by rw [hR9]; exact r3, r4⟩
      rw [results_cell_tmp rfl]
      have h9 := T.out.zr.res Ev.zero none 0 none 0
      clear d0 d1 d2 d3 d4 d5 d6 d7 d8 d9 d10 d11 f0
      simp [asAddr, h9]
    · simp only [hok, if_true] at hc
      have HC := Lib.hid hc
      have hR9 : R = (ev, true, a2, false) := by rw [HT.out]; simp [hok]
      clear hc hok
      go_wp2_with fail
      refine (HC.out _ (EvM.own.at (m := ⟨ev, none, 0, none, 0⟩) (B := w.heap.size) ⟨HBD.out, T.out.o1, T.out.o2⟩)).mono ?_
      rintro x v1 ⟨rfl, hb⟩
      have T9 := Lib.hid (T.out.below hb)
      clear hb T d0 d1 d2 d3 d4 d5 d6 d7 d8 d9 d10 d11
      have T := T9
      clear T9
      have hvc := T.out.v.cells
      obtain ⟨d0, d1, d2, d3, d4, d5, d6, d7, d8, d9, d10, d11⟩ := hvc
      have f0 := T.out.zr.fr
      have hvz := T.out.zr.cells
      obtain ⟨x0, x1, x2, x3, x4, x5, x6, x7, x8, x9, x10, x11⟩ := hvz
      simp only [Nat.zero_add] at d0 d1 d2 d3 d4 d5 d6 d7 d8 d9 d10 d11 x0 x1 x2 x3 x4 x5 x6 x7 x8 x9 x10 x11
      go_wp2_with fail
      change bodyPost _ _ _ _ _ (v1.setCells z 0 (ev.cs none 0 none 0))
      obtain ⟨r1, r2, r3, r4⟩ := T.out.put (ev.cs none 0 none 0)
      refine bodyPost_ret (v := .tuple #[ev.val none 0 none 0, .bool true]) ?_ rfl ⟨none, 0, none, 0, by rw [hR9], by rw [hR9]; exact ⟨HBD.out, r1, r2⟩, by rw [hR9]; exact r3, r4⟩
      rw [results_cell_tmp rfl]
      have h9 := T.out.zr.res ev none 0 none 0
      clear d0 d1 d2 d3 d4 d5 d6 d7 d8 d9 d10 d11 x0 x1 x2 x3 x4 x5 x6 x7 x8 x9 x10 x11 f0
      simp [asAddr, h9]
  · have hR9 : R = (Ev.zero, false, a2, true) := by rw [HT.out]; simp
    have f0 := T.out.zr.fr
    have hvz := T.out.zr.cells
    obtain ⟨d0, d1, d2, d3, d4, d5, d6, d7, d8, d9, d10, d11⟩ := hvz
    simp only [Nat.zero_add] at d0 d1 d2 d3 d4 d5 d6 d7 d8 d9 d10 d11
    go_wp2_with fail
    change bodyPost _ _ _ _ _ (w4.setCells z 0 (Ev.zero.cs none 0 none 0))
    obtain ⟨r1, r2, r3, r4⟩ := T.out.put (Ev.zero.cs none 0 none 0)
    refine bodyPost_ret (v := .tuple #[Ev.zero.val none 0 none 0, .bool false]) ?_ rfl ⟨none, 0, none, 0, by rw [hR9], by rw [hR9]; exact zero_own _ _, by rw [hR9]; exact r3, r4⟩
    rw [results_cell_tmp rfl]
    have h9 := T.out.zr.res Ev.zero none 0 none 0
    clear d0 d1 d2 d3 d4 d5 d6 d7 d8 d9 d10 d11 f0
    simp [asAddr, h9]

set_option maxRecDepth 100000 in
set_option maxHeartbeats 4000000 in
theorem takeEv4 (w : World) (p : Nat) (A : Option Addr) (c : Nat) (xs : List Int) (a : Nat) (bad : Bool) (hr : Rdr w p A c xs a bad) (a1 : Nat) (b1 : Bool) (e1 : rdO xs (a, bad) = (4, a1, b1)) :
    Calls Try.prog 73 #[.pointer (some ⟨p, 0, none⟩)] w fun x w' => ∃ A' c' B' d', x = .returned (.tuple #[(takeE xs (a, bad)).1.val A' c' B' d', .bool (takeE xs (a, bad)).2.1]) ∧
      EvM.own w' w.heap.size ⟨(takeE xs (a, bad)).1, A', c', B', d'⟩ ∧ Rdr w' p A c xs (takeE xs (a, bad)).2.2.1 (takeE xs (a, bad)).2.2.2 ∧ w.grownBy w' (some p) := by
  have hk := rdO_bd (s := (a, bad)) hr.le hr.bytes
  rw [e1] at hk
  simp only at hk
  obtain ⟨R, hR⟩ : ∃ R, takeE xs (a, bad) = R := ⟨_, rfl⟩
  rw [hR]
  obtain ⟨P, t, a2, b2, e2⟩ : ∃ k t a1' b1', takeP xs (a1, b1) = (k, t, a1', b1') := ⟨_, _, _, _, rfl⟩
  have hpb := takeP_B (s := (a1, b1)) hr.bytes hk.2.2
  rw [e2] at hpb
  simp only at hpb
  have hre : readE xs (a, bad) = (⟨4, 0, [], P⟩, t, a2, b2) := by simp [readE, e1, e2]
  obtain ⟨ev, hev⟩ : ∃ ev : Ev, ⟨4, 0, [], P⟩ = ev := ⟨_, rfl⟩
  rw [hev] at hre
  have HEV := Lib.hid hev
  have HT := Lib.hid (show R = if (t && !b2 && ev.ok) = true then (ev, true, a2, b2) else (Ev.zero, false, a2, b2) by rw [← hR]; unfold takeE; rw [hre])
  have HBD := Lib.hid (show EvB ev by subst hev; exact ⟨by intro x hx; simp at hx, by simp, by simp, by simp, hpb⟩)
  clear hre hR hev
  have HR := Lib.hid hr
  have hpl := HR.out.lt
  have HPL := Lib.hid hpl
  have E1 := Lib.hid e1
  have E2 := Lib.hid e2
  clear hr hpl e1 e2
  go_enter Try.func73, Try.ntmps73
  go_wp2_with fail
  refine (rdO_call (HR.out.alloc _) E1.out).mono ?_
  rintro x w1 ⟨rfl, hr1, hg1⟩
  have T := Lib.hid (TE.begin 4 HPL.out hr1 hg1)
  clear hr1 hg1
  unfold Ev.cs at T
  simp only [List.length_nil] at T
  change Hid (TE w (w1.alloc (.cells #[.int .i64 4, .int .i64 0, .slice none 0 0, .int .i64 0, .int .i64 0, .int .i64 0, .int .i64 0, .int .i64 0, .slice none 0 0, .bool false, .int .i64 0, .int .i64 0] 60)) p A c xs a1 b1 w.heap.size w1.heap.size ⟨4, 0, [], Pkt.zero⟩ none 0 none 0) at T
  go_wp2_with fail
  obtain ⟨w2, hw2⟩ : ∃ W, w1.alloc (.cells #[.int .i64 4, .int .i64 0, .slice none 0 0, .int .i64 0, .int .i64 0, .int .i64 0, .int .i64 0, .int .i64 0, .slice none 0 0, .bool false, .int .i64 0, .int .i64 0] 60) = W := ⟨_, rfl⟩
  rw [hw2] at T ⊢
  obtain ⟨q, hq⟩ : ∃ q, w1.heap.size = q := ⟨_, rfl⟩
  obtain ⟨z, hz⟩ : ∃ z, w.heap.size = z := ⟨_, rfl⟩
  have HZ := Lib.hid hz
  rw [hq, hz] at T ⊢
  clear hq hw2 hz
  have htp := takeP_any _ _ _ _ _ _ _ T.out.rd
  rw [E2.out] at htp
  refine htp.mono ?_
  clear htp
  rintro x w3 ⟨D, dc, rfl, ho3, hr3, hg3⟩
  simp only at ho3 hr3
  have ho4 := ho3.less (B' := w.heap.size) (by rw [HZ.out]; exact Nat.le_trans (Nat.le_of_eq HZ.out.symm) T.out.gr.size)
  have T9 := Lib.hid (T.out.call hr3 hg3)
  clear hr3 hg3 T ho3
  have f0 := T9.out.v.fr
  have hvc := T9.out.v.cells
  obtain ⟨d0, d1, d2, d3, d4, d5, d6, d7, d8, d9, d10, d11⟩ := hvc
  simp only [Nat.zero_add] at d0 d1 d2 d3 d4 d5 d6 d7 d8 d9 d10 d11
  have T := Lib.hid (T9.out.store (setCells_one q (P.cs D dc) 3 w3) (T9.out.v.pkt P D dc) T9.out.o1 ho4)
  clear T9 ho4
  unfold Pkt.val
  go_upto_region 14 with (fail)
  obtain ⟨w4, hw9⟩ : ∃ V, w3.setCells q 3 (P.cs D dc) = V := ⟨_, rfl⟩
  rw [hw9] at T
  rw [show (((((((((w3.setCell ⟨q, 3, none⟩ (.int .i64 P.k)).setCell ⟨q, 4, none⟩ (.int .i64 P.pa)).setCell ⟨q, 5, none⟩ (.int .i64 P.nu)).setCell ⟨q, 6, none⟩ (.int .i64 P.ofn)).setCell ⟨q, 7, none⟩ (.int .i64 P.fr)).setCell ⟨q, 8, none⟩ (.slice D P.da.length dc)).setCell ⟨q, 9, none⟩ (.bool P.fin)).setCell ⟨q, 10, none⟩ (.int .i64 P.se)).setCell ⟨q, 11, none⟩ (.int .i64 P.li)) = w4 from hw9]
  clear hw9 f0 d0 d1 d2 d3 d4 d5 d6 d7 d8 d9 d10 d11
  cases t
  · have hR9 : R = (Ev.zero, false, a2, b2) := by rw [HT.out]; simp
    have f0 := T.out.zr.fr
    have hvz := T.out.zr.cells
    obtain ⟨d0, d1, d2, d3, d4, d5, d6, d7, d8, d9, d10, d11⟩ := hvz
    simp only [Nat.zero_add] at d0 d1 d2 d3 d4 d5 d6 d7 d8 d9 d10 d11
    go_wp2_with fail
    change bodyPost _ _ _ _ _ (w4.setCells z 0 (Ev.zero.cs none 0 none 0))
    obtain ⟨r1, r2, r3, r4⟩ := T.out.put (Ev.zero.cs none 0 none 0)
    refine bodyPost_ret (v := .tuple #[Ev.zero.val none 0 none 0, .bool false]) ?_ rfl ⟨none, 0, none, 0, by rw [hR9], by rw [hR9]; exact zero_own _ _, by rw [hR9]; exact r3, r4⟩
    rw [results_cell_tmp rfl]
    have h9 := T.out.zr.res Ev.zero none 0 none 0
    clear d0 d1 d2 d3 d4 d5 d6 d7 d8 d9 d10 d11 f0
    simp [asAddr, h9]
  · go_wp2_with fail
    try rw [HEV.out] at T
    refine (bad_any T.out.rd).mono ?_
    rintro x w9 ⟨rfl, rfl⟩
    cases b2
    · have hvc := T.out.v.cells
      obtain ⟨d0, d1, d2, d3, d4, d5, d6, d7, d8, d9, d10, d11⟩ := hvc
      simp only [Nat.zero_add] at d0 d1 d2 d3 d4 d5 d6 d7 d8 d9 d10 d11
      have hc := fun W (h : EvAt W ev none 0 D dc) => checkE_any ev none 0 D dc W h
      cases hok : ev.ok
      · simp only [hok, Bool.false_eq_true, if_false] at hc
        have HC := Lib.hid hc
        have hR9 : R = (Ev.zero, false, a2, false) := by rw [HT.out]; simp [hok]
        clear hc hok
        go_wp2_with fail
        refine (HC.out _ (EvM.own.at (m := ⟨ev, none, 0, D, dc⟩) (B := w.heap.size) ⟨HBD.out, T.out.o1, T.out.o2⟩)).mono ?_
        rintro x v1 ⟨rfl, hb⟩
        have T9 := Lib.hid (T.out.below hb)
        clear hb T d0 d1 d2 d3 d4 d5 d6 d7 d8 d9 d10 d11
        have T := T9
        clear T9
        have f0 := T.out.zr.fr
        have hvz := T.out.zr.cells
        obtain ⟨d0, d1, d2, d3, d4, d5, d6, d7, d8, d9, d10, d11⟩ := hvz
        simp only [Nat.zero_add] at d0 d1 d2 d3 d4 d5 d6 d7 d8 d9 d10 d11
        go_wp2_with fail
        change bodyPost _ _ _ _ _ (v1.setCells z 0 (Ev.zero.cs none 0 none 0))
        obtain ⟨r1, r2, r3, r4⟩ := T.out.put (Ev.zero.cs none 0 none 0)
        refine bodyPost_ret (v := .tuple #[Ev.zero.val none 0 none 0, .bool false]) ?_ rfl ⟨none, 0, none, 0, by rw [hR9], by rw [hR9]; exact zero_own _ _, by rw [hR9]; exact r3, r4⟩
        rw [results_cell_tmp rfl]
        have h9 := T.out.zr.res Ev.zero none 0 none 0
        clear d0 d1 d2 d3 d4 d5 d6 d7 d8 d9 d10 d11 f0
        simp [asAddr, h9]
      · simp only [hok, if_true] at hc
        have HC := Lib.hid hc
        have hR9 : R = (ev, true, a2, false) := by rw [HT.out]; simp [hok]
        clear hc hok
        go_wp2_with fail
        refine (HC.out _ (EvM.own.at (m := ⟨ev, none, 0, D, dc⟩) (B := w.heap.size) ⟨HBD.out, T.out.o1, T.out.o2⟩)).mono ?_
        rintro x v1 ⟨rfl, hb⟩
        have T9 := Lib.hid (T.out.below hb)
        clear hb T d0 d1 d2 d3 d4 d5 d6 d7 d8 d9 d10 d11
        have T := T9
        clear T9
        have hvc := T.out.v.cells
        obtain ⟨d0, d1, d2, d3, d4, d5, d6, d7, d8, d9, d10, d11⟩ := hvc
        have f0 := T.out.zr.fr
        have hvz := T.out.zr.cells
        obtain ⟨x0, x1, x2, x3, x4, x5, x6, x7, x8, x9, x10, x11⟩ := hvz
        simp only [Nat.zero_add] at d0 d1 d2 d3 d4 d5 d6 d7 d8 d9 d10 d11 x0 x1 x2 x3 x4 x5 x6 x7 x8 x9 x10 x11
        go_wp2_with fail
        change bodyPost _ _ _ _ _ (v1.setCells z 0 (ev.cs none 0 D dc))
        obtain ⟨r1, r2, r3, r4⟩ := T.out.put (ev.cs none 0 D dc)
        refine bodyPost_ret (v := .tuple #[ev.val none 0 D dc, .bool true]) ?_ rfl ⟨none, 0, D, dc, by rw [hR9], by rw [hR9]; exact ⟨HBD.out, r1, r2⟩, by rw [hR9]; exact r3, r4⟩
        rw [results_cell_tmp rfl]
        have h9 := T.out.zr.res ev none 0 D dc
        clear d0 d1 d2 d3 d4 d5 d6 d7 d8 d9 d10 d11 x0 x1 x2 x3 x4 x5 x6 x7 x8 x9 x10 x11 f0
        simp [asAddr, h9]
    · have hR9 : R = (Ev.zero, false, a2, true) := by rw [HT.out]; simp
      have f0 := T.out.zr.fr
      have hvz := T.out.zr.cells
      obtain ⟨d0, d1, d2, d3, d4, d5, d6, d7, d8, d9, d10, d11⟩ := hvz
      simp only [Nat.zero_add] at d0 d1 d2 d3 d4 d5 d6 d7 d8 d9 d10 d11
      go_wp2_with fail
      change bodyPost _ _ _ _ _ (w4.setCells z 0 (Ev.zero.cs none 0 none 0))
      obtain ⟨r1, r2, r3, r4⟩ := T.out.put (Ev.zero.cs none 0 none 0)
      refine bodyPost_ret (v := .tuple #[Ev.zero.val none 0 none 0, .bool false]) ?_ rfl ⟨none, 0, none, 0, by rw [hR9], by rw [hR9]; exact zero_own _ _, by rw [hR9]; exact r3, r4⟩
      rw [results_cell_tmp rfl]
      have h9 := T.out.zr.res Ev.zero none 0 none 0
      clear d0 d1 d2 d3 d4 d5 d6 d7 d8 d9 d10 d11 f0
      simp [asAddr, h9]

set_option maxRecDepth 100000 in
set_option maxHeartbeats 4000000 in
theorem takeEv5 (w : World) (p : Nat) (A : Option Addr) (c : Nat) (xs : List Int) (a : Nat) (bad : Bool) (hr : Rdr w p A c xs a bad) (a1 : Nat) (b1 : Bool) (e1 : rdO xs (a, bad) = (5, a1, b1)) :
    Calls Try.prog 73 #[.pointer (some ⟨p, 0, none⟩)] w fun x w' => ∃ A' c' B' d', x = .returned (.tuple #[(takeE xs (a, bad)).1.val A' c' B' d', .bool (takeE xs (a, bad)).2.1]) ∧
      EvM.own w' w.heap.size ⟨(takeE xs (a, bad)).1, A', c', B', d'⟩ ∧ Rdr w' p A c xs (takeE xs (a, bad)).2.2.1 (takeE xs (a, bad)).2.2.2 ∧ w.grownBy w' (some p) := by
  have hk := rdO_bd (s := (a, bad)) hr.le hr.bytes
  rw [e1] at hk
  simp only at hk
  obtain ⟨R, hR⟩ : ∃ R, takeE xs (a, bad) = R := ⟨_, rfl⟩
  rw [hR]
  obtain ⟨P, t, a2, b2, e2⟩ : ∃ k t a1' b1', takeP xs (a1, b1) = (k, t, a1', b1') := ⟨_, _, _, _, rfl⟩
  have hpb := takeP_B (s := (a1, b1)) hr.bytes hk.2.2
  rw [e2] at hpb
  simp only at hpb
  have hre : readE xs (a, bad) = (⟨5, 0, [], P⟩, t, a2, b2) := by simp [readE, e1, e2]
  obtain ⟨ev, hev⟩ : ∃ ev : Ev, ⟨5, 0, [], P⟩ = ev := ⟨_, rfl⟩
  rw [hev] at hre
  have HEV := Lib.hid hev
  have HT := Lib.hid (show R = if (t && !b2 && ev.ok) = true then (ev, true, a2, b2) else (Ev.zero, false, a2, b2) by rw [← hR]; unfold takeE; rw [hre])
  have HBD := Lib.hid (show EvB ev by subst hev; exact ⟨by intro x hx; simp at hx, by simp, by simp, by simp, hpb⟩)
  clear hre hR hev
  have HR := Lib.hid hr
  have hpl := HR.out.lt
  have HPL := Lib.hid hpl
  have E1 := Lib.hid e1
  have E2 := Lib.hid e2
  clear hr hpl e1 e2
  go_enter Try.func73, Try.ntmps73
  go_wp2_with fail
  refine (rdO_call (HR.out.alloc _) E1.out).mono ?_
  rintro x w1 ⟨rfl, hr1, hg1⟩
  have T := Lib.hid (TE.begin 5 HPL.out hr1 hg1)
  clear hr1 hg1
  unfold Ev.cs at T
  simp only [List.length_nil] at T
  change Hid (TE w (w1.alloc (.cells #[.int .i64 5, .int .i64 0, .slice none 0 0, .int .i64 0, .int .i64 0, .int .i64 0, .int .i64 0, .int .i64 0, .slice none 0 0, .bool false, .int .i64 0, .int .i64 0] 60)) p A c xs a1 b1 w.heap.size w1.heap.size ⟨5, 0, [], Pkt.zero⟩ none 0 none 0) at T
  go_wp2_with fail
  obtain ⟨w2, hw2⟩ : ∃ W, w1.alloc (.cells #[.int .i64 5, .int .i64 0, .slice none 0 0, .int .i64 0, .int .i64 0, .int .i64 0, .int .i64 0, .int .i64 0, .slice none 0 0, .bool false, .int .i64 0, .int .i64 0] 60) = W := ⟨_, rfl⟩
  rw [hw2] at T ⊢
  obtain ⟨q, hq⟩ : ∃ q, w1.heap.size = q := ⟨_, rfl⟩
  obtain ⟨z, hz⟩ : ∃ z, w.heap.size = z := ⟨_, rfl⟩
  have HZ := Lib.hid hz
  rw [hq, hz] at T ⊢
  clear hq hw2 hz
  have htp := takeP_any _ _ _ _ _ _ _ T.out.rd
  rw [E2.out] at htp
  refine htp.mono ?_
  clear htp
  rintro x w3 ⟨D, dc, rfl, ho3, hr3, hg3⟩
  simp only at ho3 hr3
  have ho4 := ho3.less (B' := w.heap.size) (by rw [HZ.out]; exact Nat.le_trans (Nat.le_of_eq HZ.out.symm) T.out.gr.size)
  have T9 := Lib.hid (T.out.call hr3 hg3)
  clear hr3 hg3 T ho3
  have f0 := T9.out.v.fr
  have hvc := T9.out.v.cells
  obtain ⟨d0, d1, d2, d3, d4, d5, d6, d7, d8, d9, d10, d11⟩ := hvc
  simp only [Nat.zero_add] at d0 d1 d2 d3 d4 d5 d6 d7 d8 d9 d10 d11
  have T := Lib.hid (T9.out.store (setCells_one q (P.cs D dc) 3 w3) (T9.out.v.pkt P D dc) T9.out.o1 ho4)
  clear T9 ho4
  unfold Pkt.val
  go_upto_region 14 with (fail)
  obtain ⟨w4, hw9⟩ : ∃ V, w3.setCells q 3 (P.cs D dc) = V := ⟨_, rfl⟩
  rw [hw9] at T
  rw [show (((((((((w3.setCell ⟨q, 3, none⟩ (.int .i64 P.k)).setCell ⟨q, 4, none⟩ (.int .i64 P.pa)).setCell ⟨q, 5, none⟩ (.int .i64 P.nu)).setCell ⟨q, 6, none⟩ (.int .i64 P.ofn)).setCell ⟨q, 7, none⟩ (.int .i64 P.fr)).setCell ⟨q, 8, none⟩ (.slice D P.da.length dc)).setCell ⟨q, 9, none⟩ (.bool P.fin)).setCell ⟨q, 10, none⟩ (.int .i64 P.se)).setCell ⟨q, 11, none⟩ (.int .i64 P.li)) = w4 from hw9]
  clear hw9 f0 d0 d1 d2 d3 d4 d5 d6 d7 d8 d9 d10 d11
  cases t
  · have hR9 : R = (Ev.zero, false, a2, b2) := by rw [HT.out]; simp
    have f0 := T.out.zr.fr
    have hvz := T.out.zr.cells
    obtain ⟨d0, d1, d2, d3, d4, d5, d6, d7, d8, d9, d10, d11⟩ := hvz
    simp only [Nat.zero_add] at d0 d1 d2 d3 d4 d5 d6 d7 d8 d9 d10 d11
    go_wp2_with fail
    change bodyPost _ _ _ _ _ (w4.setCells z 0 (Ev.zero.cs none 0 none 0))
    obtain ⟨r1, r2, r3, r4⟩ := T.out.put (Ev.zero.cs none 0 none 0)
    refine bodyPost_ret (v := .tuple #[Ev.zero.val none 0 none 0, .bool false]) ?_ rfl ⟨none, 0, none, 0, by rw [hR9], by rw [hR9]; exact zero_own _ _, by rw [hR9]; exact r3, r4⟩
    rw [results_cell_tmp rfl]
    have h9 := T.out.zr.res Ev.zero none 0 none 0
    clear d0 d1 d2 d3 d4 d5 d6 d7 d8 d9 d10 d11 f0
    simp [asAddr, h9]
  · go_wp2_with fail
    try rw [HEV.out] at T
    refine (bad_any T.out.rd).mono ?_
    rintro x w9 ⟨rfl, rfl⟩
    cases b2
    · have hvc := T.out.v.cells
      obtain ⟨d0, d1, d2, d3, d4, d5, d6, d7, d8, d9, d10, d11⟩ := hvc
      simp only [Nat.zero_add] at d0 d1 d2 d3 d4 d5 d6 d7 d8 d9 d10 d11
      have hc := fun W (h : EvAt W ev none 0 D dc) => checkE_any ev none 0 D dc W h
      cases hok : ev.ok
      · simp only [hok, Bool.false_eq_true, if_false] at hc
        have HC := Lib.hid hc
        have hR9 : R = (Ev.zero, false, a2, false) := by rw [HT.out]; simp [hok]
        clear hc hok
        go_wp2_with fail
        refine (HC.out _ (EvM.own.at (m := ⟨ev, none, 0, D, dc⟩) (B := w.heap.size) ⟨HBD.out, T.out.o1, T.out.o2⟩)).mono ?_
        rintro x v1 ⟨rfl, hb⟩
        have T9 := Lib.hid (T.out.below hb)
        clear hb T d0 d1 d2 d3 d4 d5 d6 d7 d8 d9 d10 d11
        have T := T9
        clear T9
        have f0 := T.out.zr.fr
        have hvz := T.out.zr.cells
        obtain ⟨d0, d1, d2, d3, d4, d5, d6, d7, d8, d9, d10, d11⟩ := hvz
        simp only [Nat.zero_add] at d0 d1 d2 d3 d4 d5 d6 d7 d8 d9 d10 d11
        go_wp2_with fail
        change bodyPost _ _ _ _ _ (v1.setCells z 0 (Ev.zero.cs none 0 none 0))
        obtain ⟨r1, r2, r3, r4⟩ := T.out.put (Ev.zero.cs none 0 none 0)
        refine bodyPost_ret (v := .tuple #[Ev.zero.val none 0 none 0, .bool false]) ?_ rfl ⟨none, 0, none, 0, by rw [hR9], by rw [hR9]; exact zero_own _ _, by rw [hR9]; exact r3, r4⟩
        rw [results_cell_tmp rfl]
        have h9 := T.out.zr.res Ev.zero none 0 none 0
        clear d0 d1 d2 d3 d4 d5 d6 d7 d8 d9 d10 d11 f0
        simp [asAddr, h9]
      · simp only [hok, if_true] at hc
        have HC := Lib.hid hc
        have hR9 : R = (ev, true, a2, false) := by rw [HT.out]; simp [hok]
        clear hc hok
        go_wp2_with fail
        refine (HC.out _ (EvM.own.at (m := ⟨ev, none, 0, D, dc⟩) (B := w.heap.size) ⟨HBD.out, T.out.o1, T.out.o2⟩)).mono ?_
        rintro x v1 ⟨rfl, hb⟩
        have T9 := Lib.hid (T.out.below hb)
        clear hb T d0 d1 d2 d3 d4 d5 d6 d7 d8 d9 d10 d11
        have T := T9
        clear T9
        have hvc := T.out.v.cells
        obtain ⟨d0, d1, d2, d3, d4, d5, d6, d7, d8, d9, d10, d11⟩ := hvc
        have f0 := T.out.zr.fr
        have hvz := T.out.zr.cells
        obtain ⟨x0, x1, x2, x3, x4, x5, x6, x7, x8, x9, x10, x11⟩ := hvz
        simp only [Nat.zero_add] at d0 d1 d2 d3 d4 d5 d6 d7 d8 d9 d10 d11 x0 x1 x2 x3 x4 x5 x6 x7 x8 x9 x10 x11
        go_wp2_with fail
        change bodyPost _ _ _ _ _ (v1.setCells z 0 (ev.cs none 0 D dc))
        obtain ⟨r1, r2, r3, r4⟩ := T.out.put (ev.cs none 0 D dc)
        refine bodyPost_ret (v := .tuple #[ev.val none 0 D dc, .bool true]) ?_ rfl ⟨none, 0, D, dc, by rw [hR9], by rw [hR9]; exact ⟨HBD.out, r1, r2⟩, by rw [hR9]; exact r3, r4⟩
        rw [results_cell_tmp rfl]
        have h9 := T.out.zr.res ev none 0 D dc
        clear d0 d1 d2 d3 d4 d5 d6 d7 d8 d9 d10 d11 x0 x1 x2 x3 x4 x5 x6 x7 x8 x9 x10 x11 f0
        simp [asAddr, h9]
    · have hR9 : R = (Ev.zero, false, a2, true) := by rw [HT.out]; simp
      have f0 := T.out.zr.fr
      have hvz := T.out.zr.cells
      obtain ⟨d0, d1, d2, d3, d4, d5, d6, d7, d8, d9, d10, d11⟩ := hvz
      simp only [Nat.zero_add] at d0 d1 d2 d3 d4 d5 d6 d7 d8 d9 d10 d11
      go_wp2_with fail
      change bodyPost _ _ _ _ _ (w4.setCells z 0 (Ev.zero.cs none 0 none 0))
      obtain ⟨r1, r2, r3, r4⟩ := T.out.put (Ev.zero.cs none 0 none 0)
      refine bodyPost_ret (v := .tuple #[Ev.zero.val none 0 none 0, .bool false]) ?_ rfl ⟨none, 0, none, 0, by rw [hR9], by rw [hR9]; exact zero_own _ _, by rw [hR9]; exact r3, r4⟩
      rw [results_cell_tmp rfl]
      have h9 := T.out.zr.res Ev.zero none 0 none 0
      clear d0 d1 d2 d3 d4 d5 d6 d7 d8 d9 d10 d11 f0
      simp [asAddr, h9]

set_option maxRecDepth 100000 in
set_option maxHeartbeats 4000000 in
theorem takeEv7 (w : World) (p : Nat) (A : Option Addr) (c : Nat) (xs : List Int) (a : Nat) (bad : Bool) (hr : Rdr w p A c xs a bad) (a1 : Nat) (b1 : Bool) (e1 : rdO xs (a, bad) = (7, a1, b1)) :
    Calls Try.prog 73 #[.pointer (some ⟨p, 0, none⟩)] w fun x w' => ∃ A' c' B' d', x = .returned (.tuple #[(takeE xs (a, bad)).1.val A' c' B' d', .bool (takeE xs (a, bad)).2.1]) ∧
      EvM.own w' w.heap.size ⟨(takeE xs (a, bad)).1, A', c', B', d'⟩ ∧ Rdr w' p A c xs (takeE xs (a, bad)).2.2.1 (takeE xs (a, bad)).2.2.2 ∧ w.grownBy w' (some p) := by
  have hk := rdO_bd (s := (a, bad)) hr.le hr.bytes
  rw [e1] at hk
  simp only at hk
  obtain ⟨R, hR⟩ : ∃ R, takeE xs (a, bad) = R := ⟨_, rfl⟩
  rw [hR]
  obtain ⟨n, a2, b2, e2⟩ : ∃ k a1' b1', rdN xs (a1, b1) = (k, a1', b1') := ⟨_, _, _, rfl⟩
  have hn := rdN_bd (xs := xs) (s := (a1, b1)) hk.2.2
  rw [e2] at hn
  simp only at hn
  have hre : readE xs (a, bad) = (⟨7, n, [], Pkt.zero⟩, true, a2, b2) := by simp [readE, e1, e2]
  obtain ⟨ev, hev⟩ : ∃ ev : Ev, ⟨7, n, [], Pkt.zero⟩ = ev := ⟨_, rfl⟩
  rw [hev] at hre
  have HEV := Lib.hid hev
  have HT := Lib.hid (show R = if (true && !b2 && ev.ok) = true then (ev, true, a2, b2) else (Ev.zero, false, a2, b2) by rw [← hR]; unfold takeE; rw [hre])
  have HBD := Lib.hid (show EvB ev by subst hev; exact ⟨by intro x hx; simp at hx, by simp, by simp, by simp; omega, PkB.zero⟩)
  clear hre hR hev
  have HR := Lib.hid hr
  have hpl := HR.out.lt
  have HPL := Lib.hid hpl
  have E1 := Lib.hid e1
  have E2 := Lib.hid e2
  clear hr hpl e1 e2
  go_enter Try.func73, Try.ntmps73
  go_wp2_with fail
  refine (rdO_call (HR.out.alloc _) E1.out).mono ?_
  rintro x w1 ⟨rfl, hr1, hg1⟩
  have T := Lib.hid (TE.begin 7 HPL.out hr1 hg1)
  clear hr1 hg1
  unfold Ev.cs at T
  simp only [List.length_nil] at T
  change Hid (TE w (w1.alloc (.cells #[.int .i64 7, .int .i64 0, .slice none 0 0, .int .i64 0, .int .i64 0, .int .i64 0, .int .i64 0, .int .i64 0, .slice none 0 0, .bool false, .int .i64 0, .int .i64 0] 60)) p A c xs a1 b1 w.heap.size w1.heap.size ⟨7, 0, [], Pkt.zero⟩ none 0 none 0) at T
  go_wp2_with fail
  obtain ⟨w2, hw2⟩ : ∃ W, w1.alloc (.cells #[.int .i64 7, .int .i64 0, .slice none 0 0, .int .i64 0, .int .i64 0, .int .i64 0, .int .i64 0, .int .i64 0, .slice none 0 0, .bool false, .int .i64 0, .int .i64 0] 60) = W := ⟨_, rfl⟩
  rw [hw2] at T ⊢
  obtain ⟨q, hq⟩ : ∃ q, w1.heap.size = q := ⟨_, rfl⟩
  obtain ⟨z, hz⟩ : ∃ z, w.heap.size = z := ⟨_, rfl⟩
  have HZ := Lib.hid hz
  rw [hq, hz] at T ⊢
  clear hq hw2 hz
  refine (rdN_call T.out.rd E2.out).mono ?_
  rintro x w3 ⟨rfl, hr3, hg3⟩
  have T9 := Lib.hid (T.out.call hr3 hg3)
  clear hr3 hg3 T
  have f9 := T9.out.v.fr 1
  have c9 := T9.out.v.cells.q1
  have T := Lib.hid (T9.out.store (setCell_one w3 q 1 (.int .i64 n)) (T9.out.v.nin n) T9.out.o1 T9.out.o2)
  clear T9
  go_wp2_with fail
  obtain ⟨w4, hw9⟩ : ∃ V, w3.setCell ⟨q, 1, none⟩ (.int .i64 n) = V := ⟨_, rfl⟩
  rw [hw9] at T ⊢
  clear hw9 f9 c9
  try rw [HEV.out] at T
  refine (bad_any T.out.rd).mono ?_
  rintro x w9 ⟨rfl, rfl⟩
  cases b2
  · have hvc := T.out.v.cells
    obtain ⟨d0, d1, d2, d3, d4, d5, d6, d7, d8, d9, d10, d11⟩ := hvc
    simp only [Nat.zero_add] at d0 d1 d2 d3 d4 d5 d6 d7 d8 d9 d10 d11
    have hc := fun W (h : EvAt W ev none 0 none 0) => checkE_any ev none 0 none 0 W h
    cases hok : ev.ok
    · simp only [hok, Bool.false_eq_true, if_false] at hc
      have HC := Lib.hid hc
      have hR9 : R = (Ev.zero, false, a2, false) := by rw [HT.out]; simp [hok]
      clear hc hok
      go_wp2_with fail
      refine (HC.out _ (EvM.own.at (m := ⟨ev, none, 0, none, 0⟩) (B := w.heap.size) ⟨HBD.out, T.out.o1, T.out.o2⟩)).mono ?_
      rintro x v1 ⟨rfl, hb⟩
      have T9 := Lib.hid (T.out.below hb)
      clear hb T d0 d1 d2 d3 d4 d5 d6 d7 d8 d9 d10 d11
      have T := T9
      clear T9
      have f0 := T.out.zr.fr
      have hvz := T.out.zr.cells
      obtain ⟨d0, d1, d2, d3, d4, d5, d6, d7, d8, d9, d10, d11⟩ := hvz
      simp only [Nat.zero_add] at d0 d1 d2 d3 d4 d5 d6 d7 d8 d9 d10 d11
      go_wp2_with fail
      change bodyPost _ _ _ _ _ (v1.setCells z 0 (Ev.zero.cs none 0 none 0))
      obtain ⟨r1, r2, r3, r4⟩ := T.out.put (Ev.zero.cs none 0 none 0)
      refine bodyPost_ret (v := .tuple #[Ev.zero.val none 0 none 0, .bool false]) ?_ rfl ⟨none, 0, none, 0, by rw [hR9], by rw [hR9]; exact zero_own _ _, by rw [hR9]; exact r3, r4⟩
      rw [results_cell_tmp rfl]
      have h9 := T.out.zr.res Ev.zero none 0 none 0
      clear d0 d1 d2 d3 d4 d5 d6 d7 d8 d9 d10 d11 f0
      simp [asAddr, h9]
    · simp only [hok, if_true] at hc
      have HC := Lib.hid hc
      have hR9 : R = (ev, true, a2, false) := by rw [HT.out]; simp [hok]
      clear hc hok
      go_wp2_with fail
      refine (HC.out _ (EvM.own.at (m := ⟨ev, none, 0, none, 0⟩) (B := w.heap.size) ⟨HBD.out, T.out.o1, T.out.o2⟩)).mono ?_
      rintro x v1 ⟨rfl, hb⟩
      have T9 := Lib.hid (T.out.below hb)
      clear hb T d0 d1 d2 d3 d4 d5 d6 d7 d8 d9 d10 d11
      have T := T9
      clear T9
      have hvc := T.out.v.cells
      obtain ⟨d0, d1, d2, d3, d4, d5, d6, d7, d8, d9, d10, d11⟩ := hvc
      have f0 := T.out.zr.fr
      have hvz := T.out.zr.cells
      obtain ⟨x0, x1, x2, x3, x4, x5, x6, x7, x8, x9, x10, x11⟩ := hvz
      simp only [Nat.zero_add] at d0 d1 d2 d3 d4 d5 d6 d7 d8 d9 d10 d11 x0 x1 x2 x3 x4 x5 x6 x7 x8 x9 x10 x11
      go_wp2_with fail
      change bodyPost _ _ _ _ _ (v1.setCells z 0 (ev.cs none 0 none 0))
      obtain ⟨r1, r2, r3, r4⟩ := T.out.put (ev.cs none 0 none 0)
      refine bodyPost_ret (v := .tuple #[ev.val none 0 none 0, .bool true]) ?_ rfl ⟨none, 0, none, 0, by rw [hR9], by rw [hR9]; exact ⟨HBD.out, r1, r2⟩, by rw [hR9]; exact r3, r4⟩
      rw [results_cell_tmp rfl]
      have h9 := T.out.zr.res ev none 0 none 0
      clear d0 d1 d2 d3 d4 d5 d6 d7 d8 d9 d10 d11 x0 x1 x2 x3 x4 x5 x6 x7 x8 x9 x10 x11 f0
      simp [asAddr, h9]
  · have hR9 : R = (Ev.zero, false, a2, true) := by rw [HT.out]; simp
    have f0 := T.out.zr.fr
    have hvz := T.out.zr.cells
    obtain ⟨d0, d1, d2, d3, d4, d5, d6, d7, d8, d9, d10, d11⟩ := hvz
    simp only [Nat.zero_add] at d0 d1 d2 d3 d4 d5 d6 d7 d8 d9 d10 d11
    go_wp2_with fail
    change bodyPost _ _ _ _ _ (w4.setCells z 0 (Ev.zero.cs none 0 none 0))
    obtain ⟨r1, r2, r3, r4⟩ := T.out.put (Ev.zero.cs none 0 none 0)
    refine bodyPost_ret (v := .tuple #[Ev.zero.val none 0 none 0, .bool false]) ?_ rfl ⟨none, 0, none, 0, by rw [hR9], by rw [hR9]; exact zero_own _ _, by rw [hR9]; exact r3, r4⟩
    rw [results_cell_tmp rfl]
    have h9 := T.out.zr.res Ev.zero none 0 none 0
    clear d0 d1 d2 d3 d4 d5 d6 d7 d8 d9 d10 d11 f0
    simp [asAddr, h9]

set_option maxRecDepth 100000 in
set_option maxHeartbeats 4000000 in
theorem takeEv8 (w : World) (p : Nat) (A : Option Addr) (c : Nat) (xs : List Int) (a : Nat) (bad : Bool) (hr : Rdr w p A c xs a bad) (a1 : Nat) (b1 : Bool) (e1 : rdO xs (a, bad) = (8, a1, b1)) :
    Calls Try.prog 73 #[.pointer (some ⟨p, 0, none⟩)] w fun x w' => ∃ A' c' B' d', x = .returned (.tuple #[(takeE xs (a, bad)).1.val A' c' B' d', .bool (takeE xs (a, bad)).2.1]) ∧
      EvM.own w' w.heap.size ⟨(takeE xs (a, bad)).1, A', c', B', d'⟩ ∧ Rdr w' p A c xs (takeE xs (a, bad)).2.2.1 (takeE xs (a, bad)).2.2.2 ∧ w.grownBy w' (some p) := by
  have hk := rdO_bd (s := (a, bad)) hr.le hr.bytes
  rw [e1] at hk
  simp only at hk
  obtain ⟨R, hR⟩ : ∃ R, takeE xs (a, bad) = R := ⟨_, rfl⟩
  rw [hR]
  obtain ⟨n, a2, b2, e2⟩ : ∃ k a1' b1', rdN xs (a1, b1) = (k, a1', b1') := ⟨_, _, _, rfl⟩
  have hn := rdN_bd (xs := xs) (s := (a1, b1)) hk.2.2
  rw [e2] at hn
  simp only at hn
  have hre : readE xs (a, bad) = (⟨8, n, [], Pkt.zero⟩, true, a2, b2) := by simp [readE, e1, e2]
  obtain ⟨ev, hev⟩ : ∃ ev : Ev, ⟨8, n, [], Pkt.zero⟩ = ev := ⟨_, rfl⟩
  rw [hev] at hre
  have HEV := Lib.hid hev
  have HT := Lib.hid (show R = if (true && !b2 && ev.ok) = true then (ev, true, a2, b2) else (Ev.zero, false, a2, b2) by rw [← hR]; unfold takeE; rw [hre])
  have HBD := Lib.hid (show EvB ev by subst hev; exact ⟨by intro x hx; simp at hx, by simp, by simp, by simp; omega, PkB.zero⟩)
  clear hre hR hev
  have HR := Lib.hid hr
  have hpl := HR.out.lt
  have HPL := Lib.hid hpl
  have E1 := Lib.hid e1
  have E2 := Lib.hid e2
  clear hr hpl e1 e2
  go_enter Try.func73, Try.ntmps73
  go_wp2_with fail
  refine (rdO_call (HR.out.alloc _) E1.out).mono ?_
  rintro x w1 ⟨rfl, hr1, hg1⟩
  have T := Lib.hid (TE.begin 8 HPL.out hr1 hg1)
  clear hr1 hg1
  unfold Ev.cs at T
  simp only [List.length_nil] at T
  change Hid (TE w (w1.alloc (.cells #[.int .i64 8, .int .i64 0, .slice none 0 0, .int .i64 0, .int .i64 0, .int .i64 0, .int .i64 0, .int .i64 0, .slice none 0 0, .bool false, .int .i64 0, .int .i64 0] 60)) p A c xs a1 b1 w.heap.size w1.heap.size ⟨8, 0, [], Pkt.zero⟩ none 0 none 0) at T
  go_wp2_with fail
  obtain ⟨w2, hw2⟩ : ∃ W, w1.alloc (.cells #[.int .i64 8, .int .i64 0, .slice none 0 0, .int .i64 0, .int .i64 0, .int .i64 0, .int .i64 0, .int .i64 0, .slice none 0 0, .bool false, .int .i64 0, .int .i64 0] 60) = W := ⟨_, rfl⟩
  rw [hw2] at T ⊢
  obtain ⟨q, hq⟩ : ∃ q, w1.heap.size = q := ⟨_, rfl⟩
  obtain ⟨z, hz⟩ : ∃ z, w.heap.size = z := ⟨_, rfl⟩
  have HZ := Lib.hid hz
  rw [hq, hz] at T ⊢
  clear hq hw2 hz
  refine (rdN_call T.out.rd E2.out).mono ?_
  rintro x w3 ⟨rfl, hr3, hg3⟩
  have T9 := Lib.hid (T.out.call hr3 hg3)
  clear hr3 hg3 T
  have f9 := T9.out.v.fr 1
  have c9 := T9.out.v.cells.q1
  have T := Lib.hid (T9.out.store (setCell_one w3 q 1 (.int .i64 n)) (T9.out.v.nin n) T9.out.o1 T9.out.o2)
  clear T9
  go_wp2_with fail
  obtain ⟨w4, hw9⟩ : ∃ V, w3.setCell ⟨q, 1, none⟩ (.int .i64 n) = V := ⟨_, rfl⟩
  rw [hw9] at T ⊢
  clear hw9 f9 c9
  try rw [HEV.out] at T
  refine (bad_any T.out.rd).mono ?_
  rintro x w9 ⟨rfl, rfl⟩
  cases b2
  · have hvc := T.out.v.cells
    obtain ⟨d0, d1, d2, d3, d4, d5, d6, d7, d8, d9, d10, d11⟩ := hvc
    simp only [Nat.zero_add] at d0 d1 d2 d3 d4 d5 d6 d7 d8 d9 d10 d11
    have hc := fun W (h : EvAt W ev none 0 none 0) => checkE_any ev none 0 none 0 W h
    cases hok : ev.ok
    · simp only [hok, Bool.false_eq_true, if_false] at hc
      have HC := Lib.hid hc
      have hR9 : R = (Ev.zero, false, a2, false) := by rw [HT.out]; simp [hok]
      clear hc hok
      go_wp2_with fail
      refine (HC.out _ (EvM.own.at (m := ⟨ev, none, 0, none, 0⟩) (B := w.heap.size) ⟨HBD.out, T.out.o1, T.out.o2⟩)).mono ?_
      rintro x v1 ⟨rfl, hb⟩
      have T9 := Lib.hid (T.out.below hb)
      clear hb T d0 d1 d2 d3 d4 d5 d6 d7 d8 d9 d10 d11
      have T := T9
      clear T9
      have f0 := T.out.zr.fr
      have hvz := T.out.zr.cells
      obtain ⟨d0, d1, d2, d3, d4, d5, d6, d7, d8, d9, d10, d11⟩ := hvz
      simp only [Nat.zero_add] at d0 d1 d2 d3 d4 d5 d6 d7 d8 d9 d10 d11
      go_wp2_with fail
      change bodyPost _ _ _ _ _ (v1.setCells z 0 (Ev.zero.cs none 0 none 0))
      obtain ⟨r1, r2, r3, r4⟩ := T.out.put (Ev.zero.cs none 0 none 0)
      refine bodyPost_ret (v := .tuple #[Ev.zero.val none 0 none 0, .bool false]) ?_ rfl ⟨none, 0, none, 0, by rw [hR9], by rw [hR9]; exact zero_own _ _, by rw [hR9]; exact r3, r4⟩
      rw [results_cell_tmp rfl]
      have h9 := T.out.zr.res Ev.zero none 0 none 0
      clear d0 d1 d2 d3 d4 d5 d6 d7 d8 d9 d10 d11 f0
      simp [asAddr, h9]
    · simp only [hok, if_true] at hc
      have HC := Lib.hid hc
      have hR9 : R = (ev, true, a2, false) := by rw [HT.out]; simp [hok]
      clear hc hok
      go_wp2_with fail
      refine (HC.out _ (EvM.own.at (m := ⟨ev, none, 0, none, 0⟩) (B := w.heap.size) ⟨HBD.out, T.out.o1, T.out.o2⟩)).mono ?_
      rintro x v1 ⟨rfl, hb⟩
      have T9 := Lib.hid (T.out.below hb)
      clear hb T d0 d1 d2 d3 d4 d5 d6 d7 d8 d9 d10 d11
      have T := T9
      clear T9
      have hvc := T.out.v.cells
      obtain ⟨d0, d1, d2, d3, d4, d5, d6, d7, d8, d9, d10, d11⟩ := hvc
      have f0 := T.out.zr.fr
      have hvz := T.out.zr.cells
      obtain ⟨x0, x1, x2, x3, x4, x5, x6, x7, x8, x9, x10, x11⟩ := hvz
      simp only [Nat.zero_add] at d0 d1 d2 d3 d4 d5 d6 d7 d8 d9 d10 d11 x0 x1 x2 x3 x4 x5 x6 x7 x8 x9 x10 x11
      go_wp2_with fail
      change bodyPost _ _ _ _ _ (v1.setCells z 0 (ev.cs none 0 none 0))
      obtain ⟨r1, r2, r3, r4⟩ := T.out.put (ev.cs none 0 none 0)
      refine bodyPost_ret (v := .tuple #[ev.val none 0 none 0, .bool true]) ?_ rfl ⟨none, 0, none, 0, by rw [hR9], by rw [hR9]; exact ⟨HBD.out, r1, r2⟩, by rw [hR9]; exact r3, r4⟩
      rw [results_cell_tmp rfl]
      have h9 := T.out.zr.res ev none 0 none 0
      clear d0 d1 d2 d3 d4 d5 d6 d7 d8 d9 d10 d11 x0 x1 x2 x3 x4 x5 x6 x7 x8 x9 x10 x11 f0
      simp [asAddr, h9]
  · have hR9 : R = (Ev.zero, false, a2, true) := by rw [HT.out]; simp
    have f0 := T.out.zr.fr
    have hvz := T.out.zr.cells
    obtain ⟨d0, d1, d2, d3, d4, d5, d6, d7, d8, d9, d10, d11⟩ := hvz
    simp only [Nat.zero_add] at d0 d1 d2 d3 d4 d5 d6 d7 d8 d9 d10 d11
    go_wp2_with fail
    change bodyPost _ _ _ _ _ (w4.setCells z 0 (Ev.zero.cs none 0 none 0))
    obtain ⟨r1, r2, r3, r4⟩ := T.out.put (Ev.zero.cs none 0 none 0)
    refine bodyPost_ret (v := .tuple #[Ev.zero.val none 0 none 0, .bool false]) ?_ rfl ⟨none, 0, none, 0, by rw [hR9], by rw [hR9]; exact zero_own _ _, by rw [hR9]; exact r3, r4⟩
    rw [results_cell_tmp rfl]
    have h9 := T.out.zr.res Ev.zero none 0 none 0
    clear d0 d1 d2 d3 d4 d5 d6 d7 d8 d9 d10 d11 f0
    simp [asAddr, h9]

set_option maxRecDepth 100000 in
set_option maxHeartbeats 4000000 in
theorem takeEvx (w : World) (p : Nat) (A : Option Addr) (c : Nat) (xs : List Int) (a : Nat) (bad : Bool) (hr : Rdr w p A c xs a bad) (k : Int) (a1 : Nat) (b1 : Bool) (e1 : rdO xs (a, bad) = (k, a1, b1)) (h1 : k ≠ 1) (h2 : k ≠ 2) (h3 : k ≠ 3) (h4 : k ≠ 4) (h5 : k ≠ 5) (h7 : k ≠ 7) (h8 : k ≠ 8) :
    Calls Try.prog 73 #[.pointer (some ⟨p, 0, none⟩)] w fun x w' => ∃ A' c' B' d', x = .returned (.tuple #[(takeE xs (a, bad)).1.val A' c' B' d', .bool (takeE xs (a, bad)).2.1]) ∧
      EvM.own w' w.heap.size ⟨(takeE xs (a, bad)).1, A', c', B', d'⟩ ∧ Rdr w' p A c xs (takeE xs (a, bad)).2.2.1 (takeE xs (a, bad)).2.2.2 ∧ w.grownBy w' (some p) := by
  have hk := rdO_bd (s := (a, bad)) hr.le hr.bytes
  rw [e1] at hk
  simp only at hk
  obtain ⟨R, hR⟩ : ∃ R, takeE xs (a, bad) = R := ⟨_, rfl⟩
  rw [hR]
  have hw9 : wrap64 k = k := by unfold wrap64; omega
  have hre : readE xs (a, bad) = (⟨k, 0, [], Pkt.zero⟩, true, a1, b1) := by simp [readE, e1, h1, h2, h3, h4, h5, h7, h8]
  obtain ⟨ev, hev⟩ : ∃ ev : Ev, ⟨k, 0, [], Pkt.zero⟩ = ev := ⟨_, rfl⟩
  rw [hev] at hre
  have HEV := Lib.hid hev
  have HT := Lib.hid (show R = if (true && !b1 && ev.ok) = true then (ev, true, a1, b1) else (Ev.zero, false, a1, b1) by rw [← hR]; unfold takeE; rw [hre])
  have HBD := Lib.hid (show EvB ev by subst hev; exact ⟨by intro x hx; simp at hx, by simp, by simp; omega, by simp, PkB.zero⟩)
  clear hre hR hev
  have q1 : (k == 1) = false := by simp [h1]
  have q2 : (k == 2) = false := by simp [h2]
  have q3 : (k == 3) = false := by simp [h3]
  have q4 : (k == 4) = false := by simp [h4]
  have q5 : (k == 5) = false := by simp [h5]
  have q7 : (k == 7) = false := by simp [h7]
  have q8 : (k == 8) = false := by simp [h8]
  have HR := Lib.hid hr
  have hpl := HR.out.lt
  have HPL := Lib.hid hpl
  have E1 := Lib.hid e1
  clear hr hpl e1
  go_enter Try.func73, Try.ntmps73
  go_wp2_with fail
  refine (rdO_call (HR.out.alloc _) E1.out).mono ?_
  rintro x w1 ⟨rfl, hr1, hg1⟩
  have T := Lib.hid (TE.begin k HPL.out hr1 hg1)
  clear hr1 hg1
  unfold Ev.cs at T
  simp only [List.length_nil] at T
  change Hid (TE w (w1.alloc (.cells #[.int .i64 k, .int .i64 0, .slice none 0 0, .int .i64 0, .int .i64 0, .int .i64 0, .int .i64 0, .int .i64 0, .slice none 0 0, .bool false, .int .i64 0, .int .i64 0] 60)) p A c xs a1 b1 w.heap.size w1.heap.size ⟨k, 0, [], Pkt.zero⟩ none 0 none 0) at T
  go_wp2_with fail
  obtain ⟨w2, hw2⟩ : ∃ W, w1.alloc (.cells #[.int .i64 k, .int .i64 0, .slice none 0 0, .int .i64 0, .int .i64 0, .int .i64 0, .int .i64 0, .int .i64 0, .slice none 0 0, .bool false, .int .i64 0, .int .i64 0] 60) = W := ⟨_, rfl⟩
  rw [hw2] at T ⊢
  obtain ⟨q, hq⟩ : ∃ q, w1.heap.size = q := ⟨_, rfl⟩
  obtain ⟨z, hz⟩ : ∃ z, w.heap.size = z := ⟨_, rfl⟩
  have HZ := Lib.hid hz
  rw [hq, hz] at T ⊢
  clear hq hw2 hz
  try rw [HEV.out] at T
  refine (bad_any T.out.rd).mono ?_
  rintro x w9 ⟨rfl, rfl⟩
  cases b1
  · have hvc := T.out.v.cells
    obtain ⟨d0, d1, d2, d3, d4, d5, d6, d7, d8, d9, d10, d11⟩ := hvc
    simp only [Nat.zero_add] at d0 d1 d2 d3 d4 d5 d6 d7 d8 d9 d10 d11
    have hc := fun W (h : EvAt W ev none 0 none 0) => checkE_any ev none 0 none 0 W h
    cases hok : ev.ok
    · simp only [hok, Bool.false_eq_true, if_false] at hc
      have HC := Lib.hid hc
      have hR9 : R = (Ev.zero, false, a1, false) := by rw [HT.out]; simp [hok]
      clear hc hok
      go_wp2_with fail
      refine (HC.out _ (EvM.own.at (m := ⟨ev, none, 0, none, 0⟩) (B := w.heap.size) ⟨HBD.out, T.out.o1, T.out.o2⟩)).mono ?_
      rintro x v1 ⟨rfl, hb⟩
      have T9 := Lib.hid (T.out.below hb)
      clear hb T d0 d1 d2 d3 d4 d5 d6 d7 d8 d9 d10 d11
      have T := T9
      clear T9
      have f0 := T.out.zr.fr
      have hvz := T.out.zr.cells
      obtain ⟨d0, d1, d2, d3, d4, d5, d6, d7, d8, d9, d10, d11⟩ := hvz
      simp only [Nat.zero_add] at d0 d1 d2 d3 d4 d5 d6 d7 d8 d9 d10 d11
      go_wp2_with fail
      change bodyPost _ _ _ _ _ (v1.setCells z 0 (Ev.zero.cs none 0 none 0))
      obtain ⟨r1, r2, r3, r4⟩ := T.out.put (Ev.zero.cs none 0 none 0)
      refine bodyPost_ret (v := .tuple #[Ev.zero.val none 0 none 0, .bool false]) ?_ rfl ⟨none, 0, none, 0, by rw [hR9], by rw [hR9]; exact zero_own _ _, by rw [hR9]; exact r3, r4⟩
      rw [results_cell_tmp rfl]
      have h9 := T.out.zr.res Ev.zero none 0 none 0
      clear d0 d1 d2 d3 d4 d5 d6 d7 d8 d9 d10 d11 f0
      simp [asAddr, h9]
    · simp only [hok, if_true] at hc
      have HC := Lib.hid hc
      have hR9 : R = (ev, true, a1, false) := by rw [HT.out]; simp [hok]
      clear hc hok
      go_wp2_with fail
      refine (HC.out _ (EvM.own.at (m := ⟨ev, none, 0, none, 0⟩) (B := w.heap.size) ⟨HBD.out, T.out.o1, T.out.o2⟩)).mono ?_
      rintro x v1 ⟨rfl, hb⟩
      have T9 := Lib.hid (T.out.below hb)
      clear hb T d0 d1 d2 d3 d4 d5 d6 d7 d8 d9 d10 d11
      have T := T9
      clear T9
      have hvc := T.out.v.cells
      obtain ⟨d0, d1, d2, d3, d4, d5, d6, d7, d8, d9, d10, d11⟩ := hvc
      have f0 := T.out.zr.fr
      have hvz := T.out.zr.cells
      obtain ⟨x0, x1, x2, x3, x4, x5, x6, x7, x8, x9, x10, x11⟩ := hvz
      simp only [Nat.zero_add] at d0 d1 d2 d3 d4 d5 d6 d7 d8 d9 d10 d11 x0 x1 x2 x3 x4 x5 x6 x7 x8 x9 x10 x11
      go_wp2_with fail
      change bodyPost _ _ _ _ _ (v1.setCells z 0 (ev.cs none 0 none 0))
      obtain ⟨r1, r2, r3, r4⟩ := T.out.put (ev.cs none 0 none 0)
      refine bodyPost_ret (v := .tuple #[ev.val none 0 none 0, .bool true]) ?_ rfl ⟨none, 0, none, 0, by rw [hR9], by rw [hR9]; exact ⟨HBD.out, r1, r2⟩, by rw [hR9]; exact r3, r4⟩
      rw [results_cell_tmp rfl]
      have h9 := T.out.zr.res ev none 0 none 0
      clear d0 d1 d2 d3 d4 d5 d6 d7 d8 d9 d10 d11 x0 x1 x2 x3 x4 x5 x6 x7 x8 x9 x10 x11 f0
      simp [asAddr, h9]
  · have hR9 : R = (Ev.zero, false, a1, true) := by rw [HT.out]; simp
    have f0 := T.out.zr.fr
    have hvz := T.out.zr.cells
    obtain ⟨d0, d1, d2, d3, d4, d5, d6, d7, d8, d9, d10, d11⟩ := hvz
    simp only [Nat.zero_add] at d0 d1 d2 d3 d4 d5 d6 d7 d8 d9 d10 d11
    go_wp2_with fail
    change bodyPost _ _ _ _ _ (w2.setCells z 0 (Ev.zero.cs none 0 none 0))
    obtain ⟨r1, r2, r3, r4⟩ := T.out.put (Ev.zero.cs none 0 none 0)
    refine bodyPost_ret (v := .tuple #[Ev.zero.val none 0 none 0, .bool false]) ?_ rfl ⟨none, 0, none, 0, by rw [hR9], by rw [hR9]; exact zero_own _ _, by rw [hR9]; exact r3, r4⟩
    rw [results_cell_tmp rfl]
    have h9 := T.out.zr.res Ev.zero none 0 none 0
    clear d0 d1 d2 d3 d4 d5 d6 d7 d8 d9 d10 d11 f0
    simp [asAddr, h9]

set_option maxRecDepth 10000 in
theorem takeEv_any (w : World) (p : Nat) (A : Option Addr) (c : Nat) (xs : List Int) (a : Nat) (bad : Bool) (hr : Rdr w p A c xs a bad) :
    Calls Try.prog 73 #[.pointer (some ⟨p, 0, none⟩)] w fun x w' => ∃ A' c' B' d', x = .returned (.tuple #[(takeE xs (a, bad)).1.val A' c' B' d', .bool (takeE xs (a, bad)).2.1]) ∧
      EvM.own w' w.heap.size ⟨(takeE xs (a, bad)).1, A', c', B', d'⟩ ∧ Rdr w' p A c xs (takeE xs (a, bad)).2.2.1 (takeE xs (a, bad)).2.2.2 ∧ w.grownBy w' (some p) := by
  obtain ⟨k, a1, b1, e1⟩ : ∃ k a1 b1, rdO xs (a, bad) = (k, a1, b1) := ⟨_, _, _, rfl⟩
  by_cases h1 : k = 1
  · subst h1; exact takeEv1 w p A c xs a bad hr a1 b1 e1
  by_cases h2 : k = 2
  · subst h2; exact takeEv2 w p A c xs a bad hr a1 b1 e1
  by_cases h3 : k = 3
  · subst h3; exact takeEv3 w p A c xs a bad hr a1 b1 e1
  by_cases h4 : k = 4
  · subst h4; exact takeEv4 w p A c xs a bad hr a1 b1 e1
  by_cases h5 : k = 5
  · subst h5; exact takeEv5 w p A c xs a bad hr a1 b1 e1
  by_cases h7 : k = 7
  · subst h7; exact takeEv7 w p A c xs a bad hr a1 b1 e1
  by_cases h8 : k = 8
  · subst h8; exact takeEv8 w p A c xs a bad hr a1 b1 e1
  exact takeEvx w p A c xs a bad hr k a1 b1 e1 h1 h2 h3 h4 h5 h7 h8
end Go.Proofs.Ytbjneoeiognahaa

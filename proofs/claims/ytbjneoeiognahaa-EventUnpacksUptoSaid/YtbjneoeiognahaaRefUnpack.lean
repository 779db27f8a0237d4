/-
  What the document's UnpackEvents makes of bytes: a contract over the program.
-/
import Derived.Test.YtbjneoeiognahaaRefTakeP
import Derived.Test.YtbjneoeiognahaaRefEvent
import Derived.Test.YtbjneoeiognahaaEvUnpack
import Derived.Deep.LoopGhost
import Derived.Deep.DeepCutAuto
import Derived.Deep.CutBlock
namespace Go.Proofs.Ytbjneoeiognahaa
open Go.RowKit

section
variable {w w' : World} {p : Nat} {A : Option Addr} {c : Nat} {xs : List Int} {a : Nat} {bad : Bool} {B : Nat} {v : Value} {ms : List EvM}
set_option maxRecDepth 10000 in
theorem row_not_refS (h : EvRow w B v ms) (hr : RefS w p A c xs a bad) : v.ownBlock = none ∨ v.ownBlock ≠ some p := by
  rcases h.row.2 with ⟨hv, _⟩ | ⟨g, cap, cur, hv, _, hh, _⟩
  · left; rw [hv]; rfl
  · right
    rw [hv]
    intro he
    simp only [Value.ownBlock, Option.some.injEq] at he
    subst he
    obtain ⟨cur', hh', _⟩ := hr.row
    rw [hh] at hh'
    injection hh' with hh'
    injection hh' with _ ht
    exact absurd ht (by decide)
set_option maxRecDepth 10000 in
theorem EvRow.refS (h : EvRow w B v ms) (hr : RefS w p A c xs a bad) (hg : w.grownBy w' (some p)) : EvRow w' B v ms :=
  ⟨World.ownsRow.kept (row := some p) h.row hg (row_not_refS h hr), fun m hm => ⟨(h.each m hm).bd, (h.each m hm).o1.rdrS hr hg, (h.each m hm).o2.rdrS hr hg⟩⟩
end
/-- What is known while the document's Reader is read into an event, beside the events that were taken. -/
structure TU (W0 w : World) (base p : Nat) (A : Option Addr) (c : Nat) (xs : List Int) (a : Nat) (bad : Bool) (q : Nat) (ev : Ev) (A1 : Option Addr) (c1 : Nat) (B1 : Option Addr) (d1 : Nat) (vl : Value) (ls : List EvM) : Prop where
  rd : RefS w p A c xs a bad
  v : EvV w q ev A1 c1 B1 d1
  o1 : Own .u8 5 w base (.slice A1 ev.da.length c1) ev.da
  o2 : Own .u8 5 w base (.slice B1 ev.pk.da.length d1) ev.pk.da
  row : EvRow w base vl ls
  bel : Below base W0 w
  bp : base ≤ p
  pq : p < q
  rq : ∀ g, vl.ownBlock = some g → g < q
  rl : ∀ b off, A = some ⟨b, off, none⟩ → xs ≠ [] → b < base
section
variable {W0 w w' w1 : World} {base p : Nat} {A : Option Addr} {c : Nat} {xs : List Int} {a a' : Nat} {bad b' : Bool} {q : Nat} {ev ev' : Ev} {A1 A2 : Option Addr} {c1 c2 : Nat} {B1 B2 : Option Addr} {d1 d2 : Nat} {vl : Value} {ls : List EvM}
set_option maxRecDepth 10000 in
theorem TU.size (h : TU W0 w base p A c xs a bad q ev A1 c1 B1 d1 vl ls) : base ≤ w.heap.size := by have := h.rd.lt; have := h.bp; omega
set_option maxRecDepth 10000 in
theorem TU.call (h : TU W0 w base p A c xs a bad q ev A1 c1 B1 d1 vl ls) (hr : RefS w' p A c xs a' b') (hg : w.grownBy w' (some p)) : TU W0 w' base p A c xs a' b' q ev A1 c1 B1 d1 vl ls :=
  ⟨hr, h.v.kept hg (by have := h.pq; omega), h.o1.rdrS h.rd hg, h.o2.rdrS h.rd hg, h.row.refS h.rd hg, h.bel.grown hg h.size (by intro g e; injection e with e; have := h.bp; omega), h.bp, h.pq, h.rq, h.rl⟩
set_option maxRecDepth 10000 in
theorem TU.below (h : TU W0 w base p A c xs a bad q ev A1 c1 B1 d1 vl ls) (hb : Below w.heap.size w w') : TU W0 w' base p A c xs a bad q ev A1 c1 B1 d1 vl ls :=
  ⟨h.rd.later hb, h.v.later hb, h.o1.later hb, h.o2.later hb, h.row.later hb, h.bel.trans (hb.mono h.size), h.bp, h.pq, h.rq, h.rl⟩
set_option maxRecDepth 10000 in
theorem TU.store (h : TU W0 w base p A c xs a bad q ev A1 c1 B1 d1 vl ls) (hg : w.grownBy w' (some q)) (hv : EvV w' q ev' A2 c2 B2 d2) (o1 : Own .u8 5 w base (.slice A2 ev'.da.length c2) ev'.da)
    (o2 : Own .u8 5 w base (.slice B2 ev'.pk.da.length d2) ev'.pk.da) : TU W0 w' base p A c xs a bad q ev' A2 c2 B2 d2 vl ls := by
  have hq := h.pq
  have hp := h.bp
  refine ⟨h.rd.grown hg (by intro e; injection e with e; omega) (fun b off e h0 e2 => by have := h.rl b off e h0; injection e2 with e2; omega), hv, o1.kept hg (own_not_ev o1 h.v), o2.kept hg (own_not_ev o2 h.v), ?_,
    h.bel.grown hg h.size (by intro g e; injection e with e; omega), h.bp, h.pq, h.rq, h.rl⟩
  refine ⟨World.ownsRow.kept (row := some q) h.row.row hg ?_, fun m hm => ⟨(h.row.each m hm).bd, (h.row.each m hm).o1.kept hg (own_not_ev (h.row.each m hm).o1 h.v), (h.row.each m hm).o2.kept hg (own_not_ev (h.row.each m hm).o2 h.v)⟩⟩
  cases ho : vl.ownBlock with
  | none => exact .inl rfl
  | some g =>
    right
    intro e
    injection e with e
    have := h.rq g ho
    omega
set_option maxRecDepth 10000 in
theorem TU.begin (k : Int) (hr : RefS w1 p A c xs a bad) (hrow : EvRow w1 base vl ls) (hb : Below base W0 w1) (hbp : base ≤ p) (hrl : ∀ b off, A = some ⟨b, off, none⟩ → xs ≠ [] → b < base) :
    TU W0 (w1.alloc (.cells ((⟨k, 0, [], Pkt.zero⟩ : Ev).cs none 0 none 0).toArray 60)) base p A c xs a bad w1.heap.size ⟨k, 0, [], Pkt.zero⟩ none 0 none 0 vl ls := by
  have ha := ((Below.refl w1.heap.size w1).alloc (Nat.le_refl _) (.cells ((⟨k, 0, [], Pkt.zero⟩ : Ev).cs none 0 none 0).toArray 60))
  have hp := hr.lt
  exact ⟨hr.later ha, EvV.new _ _ _ _ _ _, Own.nil _ _ _ _, Own.nil _ _ _ _, hrow.later ha, hb.trans (ha.mono (by omega)), hbp, hp, fun g hg => (hrow.lt g hg).2, hrl⟩
end

set_option maxRecDepth 100000 in
set_option maxHeartbeats 8000000 in
set_option linter.unusedVariables false in
set_option linter.unusedSimpArgs false in
theorem refUnpackE_any (A : Option Addr) (n c : Nat) (xs : List Int) (w : World) (hn : xs.length = n) (hr : Rd .u8 w A xs) (hcap : n ≤ c) (hb : n ≤ 1099511627776) (hnil : A = none → c = 0) (hbytes : ∀ x ∈ xs, 0 ≤ x ∧ x < 256) :
    Calls Try.prog 39 #[.slice A n c] w fun x w' => ∃ v ls, x = .returned (.tuple #[v, .int .i64 (if (unE xs (n + 1) 0 []).2.2 then -1 else ((unE xs (n + 1) 0 []).2.1 : Nat))]) ∧ EvRow w' w.heap.size v ls ∧
      ls.map EvM.e = (unE xs (n + 1) 0 []).1 ∧ Below w.heap.size w w' := by
  subst hn
  obtain ⟨R, hR⟩ : ∃ R, unE xs (xs.length + 1) 0 [] = R := ⟨_, rfl⟩
  rw [hR]
  obtain ⟨r1, h1⟩ : ∃ r, R.1 = r := ⟨_, rfl⟩
  obtain ⟨r3, h3⟩ : ∃ r : Int, (if R.2.2 = true then -1 else (R.2.1 : Int)) = r := ⟨_, rfl⟩
  rw [h1, h3]
  have HR1 := Lib.hid h1
  have HR3 := Lib.hid h3
  clear h1 h3
  have HR := Lib.hid hR
  have HBY := Lib.hid hbytes
  have hnew : RefS (w.alloc (.cells #[.slice A xs.length c, .int .i64 0, .bool false] 102)) w.heap.size A c xs 0 false := by
    have ha := (Below.refl w.heap.size w).alloc (Nat.le_refl _) (.cells #[.slice A xs.length c, .int .i64 0, .bool false] 102)
    refine ⟨by decide, World.rowIs_alloc w #[.slice A xs.length c, .int .i64 0, .bool false] 102 _ (fun i hi => ?_), ⟨hr.later ha, hcap, hnil, fun b off e h0 => ?_⟩, Nat.zero_le _, by omega, hbytes⟩
    · have : i < 3 := hi
      match i, this with
      | 0, _ | 1, _ | 2, _ => rfl
    · have := Rd.lt (by rw [e] at hr; exact hr) h0
      omega
  have HRL := Lib.hid (fun b off (e : A = some ⟨b, off, none⟩) (h0 : xs ≠ []) => Rd.lt (w := w) (by rw [e] at hr; exact hr) h0)
  have hbel := (Below.refl w.heap.size w).alloc (Nat.le_refl _) (.cells #[.slice A xs.length c, .int .i64 0, .bool false] 102)
  obtain ⟨w0, hw0⟩ : ∃ w0, w.alloc (.cells #[.slice A xs.length c, .int .i64 0, .bool false] 102) = w0 := ⟨_, rfl⟩
  rw [hw0] at hnew hbel
  obtain ⟨p, hp⟩ : ∃ p, w.heap.size = p := ⟨_, rfl⟩
  have hnew2 : RefS w0 p A c xs 0 false := by rw [← hp]; exact hnew
  have HNEW := Lib.hid hnew2
  have HBEL := Lib.hid hbel
  have HW0 := Lib.hid hw0
  have HP := Lib.hid hp
  clear hnew hnew2 hbel hw0 hp hr hnil hR hbytes hcap
  go_enter Try.func39, Try.ntmps39
  go_wp2_with fail
  rw [HW0.out, HP.out]
  go_loopw [4] (fun vl wr => ∃ (fuel a : Nat) (ls : List EvM), Hid (unE xs fuel a (ls.map EvM.e) = R) ∧ Hid (xs.length - a < fuel) ∧ Hid (ls.length ≤ a) ∧ Hid (RefS wr p A c xs a false) ∧ Hid (EvRow wr w.heap.size vl ls) ∧ Hid (Below w.heap.size w wr)) (fun _ wr => xs.length - (intOf ((wr.cell? ⟨p, 0 + 1, none⟩).getD undef)).toNat)
  case atStart => exact ⟨xs.length + 1, 0, [], HR.out, (show _ < _ by omega), Nat.zero_le _, HNEW.out, EvRow.nil _ _, HBEL.out⟩
  case round =>
    obtain ⟨fuel, a, ls, hu, hf, hls, hrd, hrow, hbl⟩ := hrel
    obtain ⟨AL, hAL⟩ := hrow.out.form
    obtain ⟨cl, rfl⟩ := hAL
    have hm0 : (wr.cell? ⟨p, 0 + 1, none⟩).getD undef = .int .i64 (a : Nat) := by rw [hrd.out.c1]; rfl
    have HM0 := Lib.hid hm0
    clear hm0
    have hle := hrd.out.le
    have y1 := hrd.out.c1
    by_cases hlt : a < xs.length
    · have i1 : (a : Int) < (xs.length : Int) := by omega
      have HLT := Lib.hid hlt
      obtain ⟨k, a1, b1, e1⟩ : ∃ k a1 b1, rdO xs (a, false) = (k, a1, b1) := ⟨_, _, _, rfl⟩
      have hk := rdO_bd (s := (a, false)) hle HBY.out
      rw [e1] at hk
      simp only at hk
      have hw9 : wrap64 k = k := by unfold wrap64; omega
      have E1 := Lib.hid e1
      clear hle
      go_wp2_with fail
      refine (refO_call hrd.out e1).mono ?_
      rintro x w1 ⟨rfl, hr1, hg1⟩
      have T := Lib.hid (TU.begin k hr1 (hrow.out.refS hrd.out hg1) (hbl.out.grown hg1 hbl.out.size (by intro g e; injection e with e; rw [HP.out]; omega)) (by rw [HP.out]; exact Nat.le_refl _) HRL.out)
      clear hr1 hg1 e1 y1 hrd hrow hbl
      go_upto_block 2 with (fail)
      obtain ⟨w2, hw2⟩ : ∃ W, w1.alloc (.cells #[.int .i64 k, .int .i64 0, .slice none 0 0, .int .i64 0, .int .i64 0, .int .i64 0, .int .i64 0, .int .i64 0, .slice none 0 0, .bool false, .int .i64 0, .int .i64 0] 60) = W := ⟨_, rfl⟩
      obtain ⟨q, hq⟩ : ∃ q, w1.heap.size = q := ⟨_, rfl⟩
      have T9 : TU w w2 w.heap.size p A c xs a1 b1 q ⟨k, 0, [], Pkt.zero⟩ none 0 none 0 (.slice AL ls.length cl) ls := by
        rw [← hw2, ← hq]
        exact T.out
      rw [hw2, hq]
      have hk9 := hk
      clear T hw2 hq
      have T := Lib.hid T9
      clear T9
      go_cut [8, 24, 25, 26, 28] (fun vok _ _ _ _ wx => ∃ (ev : Ev) (A1 : Option Addr) (d1 : Nat) (B1 : Option Addr) (d2 : Nat) (t : Bool) (a' : Nat) (b' : Bool), vok = .bool t ∧ Hid (readE xs (a, false) = (ev, t, a', b')) ∧ Hid (TU w wx w.heap.size p A c xs a' b' q ev A1 d1 B1 d2 (.slice AL ls.length cl) ls) ∧ Hid (EvB ev))
      case first =>
        by_cases h1 : k = 1
        · have hk1 := h1
          clear h1
          obtain ⟨da, a2, b2, e2⟩ : ∃ k a1' b1', rdB 4096 xs (a1, b1) = (k, a1', b1') := ⟨_, _, _, rfl⟩
          have hda := rdB_bd (m := 4096) (s := (a1, b1)) hk.2.2 HBY.out
          rw [e2] at hda
          simp only at hda
          have HRE := Lib.hid (show readE xs (a, false) = (⟨k, 0, da, Pkt.zero⟩, true, a2, b2) by simp [readE, E1.out, e2, hk1])
          have HBD := Lib.hid (show EvB ⟨k, 0, da, Pkt.zero⟩ from ⟨hda.1, by simp only; omega, by simp; omega, by simp, PkB.zero⟩)
          go_wp2_with fail
          refine (refB_call (m := 4096) T.out.rd e2).mono ?_
          rintro x w3 ⟨D, dc, rfl, ho3, hr3, hg3⟩
          have ho4 := ho3.less (B' := w.heap.size) T.out.size
          have T9 := Lib.hid (T.out.call hr3 hg3)
          clear hr3 hg3 T ho3
          have f9 := T9.out.v.fr 2
          have c9 := T9.out.v.cells.q2
          have T := Lib.hid (T9.out.store (setCell_one w3 q 2 (.slice D da.length dc)) (T9.out.v.dat da D dc) ho4 T9.out.o2)
          clear T9 ho4 e2 hda
          go_wp2_with fail
          go_meet
          exact ⟨_, D, dc, none, 0, true, a2, b2, rfl, HRE, T, HBD⟩
        by_cases h2 : k = 2
        · have hk1 := h2
          clear h2
          obtain ⟨da, a2, b2, e2⟩ : ∃ k a1' b1', rdB 4096 xs (a1, b1) = (k, a1', b1') := ⟨_, _, _, rfl⟩
          have hda := rdB_bd (m := 4096) (s := (a1, b1)) hk.2.2 HBY.out
          rw [e2] at hda
          simp only at hda
          have HRE := Lib.hid (show readE xs (a, false) = (⟨k, 0, da, Pkt.zero⟩, true, a2, b2) by simp [readE, E1.out, e2, hk1])
          have HBD := Lib.hid (show EvB ⟨k, 0, da, Pkt.zero⟩ from ⟨hda.1, by simp only; omega, by simp; omega, by simp, PkB.zero⟩)
          go_wp2_with fail
          refine (refB_call (m := 4096) T.out.rd e2).mono ?_
          rintro x w3 ⟨D, dc, rfl, ho3, hr3, hg3⟩
          have ho4 := ho3.less (B' := w.heap.size) T.out.size
          have T9 := Lib.hid (T.out.call hr3 hg3)
          clear hr3 hg3 T ho3
          have f9 := T9.out.v.fr 2
          have c9 := T9.out.v.cells.q2
          have T := Lib.hid (T9.out.store (setCell_one w3 q 2 (.slice D da.length dc)) (T9.out.v.dat da D dc) ho4 T9.out.o2)
          clear T9 ho4 e2 hda
          go_wp2_with fail
          go_meet
          exact ⟨_, D, dc, none, 0, true, a2, b2, rfl, HRE, T, HBD⟩
        by_cases h3 : k = 3
        · have hk1 := h3
          clear h3
          obtain ⟨n9, a2, b2, e2⟩ : ∃ k a1' b1', rdN xs (a1, b1) = (k, a1', b1') := ⟨_, _, _, rfl⟩
          have hn := rdN_bd (xs := xs) (s := (a1, b1)) hk.2.2
          rw [e2] at hn
          simp only at hn
          have HRE := Lib.hid (show readE xs (a, false) = (⟨k, n9, [], Pkt.zero⟩, true, a2, b2) by simp [readE, E1.out, e2, hk1])
          have HBD := Lib.hid (show EvB ⟨k, n9, [], Pkt.zero⟩ from ⟨by intro x hx; simp at hx, by simp, by simp; omega, by simp; omega, PkB.zero⟩)
          go_wp2_with fail
          refine (refN_call T.out.rd e2).mono ?_
          rintro x w3 ⟨rfl, hr3, hg3⟩
          have T9 := Lib.hid (T.out.call hr3 hg3)
          clear hr3 hg3 T
          have f9 := T9.out.v.fr 1
          have c9 := T9.out.v.cells.q1
          have T := Lib.hid (T9.out.store (setCell_one w3 q 1 (.int .i64 n9)) (T9.out.v.nin n9) T9.out.o1 T9.out.o2)
          clear T9 e2 hn
          go_wp2_with fail
          go_meet
          exact ⟨_, none, 0, none, 0, true, a2, b2, rfl, HRE, T, HBD⟩
        by_cases h4 : k = 4
        · have hk1 := h4
          clear h4
          obtain ⟨P, t, a2, b2, e2⟩ : ∃ k t a1' b1', takeP xs (a1, b1) = (k, t, a1', b1') := ⟨_, _, _, _, rfl⟩
          have hpb := takeP_B (s := (a1, b1)) HBY.out hk.2.2
          rw [e2] at hpb
          simp only at hpb
          have HRE := Lib.hid (show readE xs (a, false) = (⟨k, 0, [], P⟩, t, a2, b2) by simp [readE, E1.out, e2, hk1])
          have HBD := Lib.hid (show EvB ⟨k, 0, [], P⟩ from ⟨by intro x hx; simp at hx, by simp, by simp; omega, by simp, hpb⟩)
          have htp := refTakeP_any _ _ _ _ _ _ _ T.out.rd
          rw [e2] at htp
          have HTP := Lib.hid htp
          clear htp hpb e2
          go_wp2_with fail
          refine HTP.out.mono ?_
          rintro x w3 ⟨D, dc, rfl, ho3, hr3, hg3⟩
          try simp only at ho3 hr3
          have ho4 := ho3.less (B' := w.heap.size) T.out.size
          have T9 := Lib.hid (T.out.call hr3 hg3)
          clear hr3 hg3 T ho3 HTP
          have f0 := T9.out.v.fr
          have hvc := T9.out.v.cells
          obtain ⟨d0, d1, d2, d3, d4, d5, d6, d7, d8, d9, d10, d11⟩ := hvc
          simp only [Nat.zero_add] at d0 d1 d2 d3 d4 d5 d6 d7 d8 d9 d10 d11
          have T := Lib.hid (T9.out.store (setCells_one q (P.cs D dc) 3 w3) (T9.out.v.pkt P D dc) T9.out.o1 ho4)
          clear T9 ho4
          unfold Pkt.val
          go_wp2_with fail
          go_meet
          exact ⟨_, none, 0, D, dc, t, a2, b2, rfl, HRE, T, HBD⟩
        by_cases h5 : k = 5
        · have hk1 := h5
          clear h5
          obtain ⟨P, t, a2, b2, e2⟩ : ∃ k t a1' b1', takeP xs (a1, b1) = (k, t, a1', b1') := ⟨_, _, _, _, rfl⟩
          have hpb := takeP_B (s := (a1, b1)) HBY.out hk.2.2
          rw [e2] at hpb
          simp only at hpb
          have HRE := Lib.hid (show readE xs (a, false) = (⟨k, 0, [], P⟩, t, a2, b2) by simp [readE, E1.out, e2, hk1])
          have HBD := Lib.hid (show EvB ⟨k, 0, [], P⟩ from ⟨by intro x hx; simp at hx, by simp, by simp; omega, by simp, hpb⟩)
          have htp := refTakeP_any _ _ _ _ _ _ _ T.out.rd
          rw [e2] at htp
          have HTP := Lib.hid htp
          clear htp hpb e2
          go_wp2_with fail
          refine HTP.out.mono ?_
          rintro x w3 ⟨D, dc, rfl, ho3, hr3, hg3⟩
          try simp only at ho3 hr3
          have ho4 := ho3.less (B' := w.heap.size) T.out.size
          have T9 := Lib.hid (T.out.call hr3 hg3)
          clear hr3 hg3 T ho3 HTP
          have f0 := T9.out.v.fr
          have hvc := T9.out.v.cells
          obtain ⟨d0, d1, d2, d3, d4, d5, d6, d7, d8, d9, d10, d11⟩ := hvc
          simp only [Nat.zero_add] at d0 d1 d2 d3 d4 d5 d6 d7 d8 d9 d10 d11
          have T := Lib.hid (T9.out.store (setCells_one q (P.cs D dc) 3 w3) (T9.out.v.pkt P D dc) T9.out.o1 ho4)
          clear T9 ho4
          unfold Pkt.val
          go_wp2_with fail
          go_meet
          exact ⟨_, none, 0, D, dc, t, a2, b2, rfl, HRE, T, HBD⟩
        by_cases h7 : k = 7
        · have hk1 := h7
          clear h7
          obtain ⟨n9, a2, b2, e2⟩ : ∃ k a1' b1', rdN xs (a1, b1) = (k, a1', b1') := ⟨_, _, _, rfl⟩
          have hn := rdN_bd (xs := xs) (s := (a1, b1)) hk.2.2
          rw [e2] at hn
          simp only at hn
          have HRE := Lib.hid (show readE xs (a, false) = (⟨k, n9, [], Pkt.zero⟩, true, a2, b2) by simp [readE, E1.out, e2, hk1])
          have HBD := Lib.hid (show EvB ⟨k, n9, [], Pkt.zero⟩ from ⟨by intro x hx; simp at hx, by simp, by simp; omega, by simp; omega, PkB.zero⟩)
          go_wp2_with fail
          refine (refN_call T.out.rd e2).mono ?_
          rintro x w3 ⟨rfl, hr3, hg3⟩
          have T9 := Lib.hid (T.out.call hr3 hg3)
          clear hr3 hg3 T
          have f9 := T9.out.v.fr 1
          have c9 := T9.out.v.cells.q1
          have T := Lib.hid (T9.out.store (setCell_one w3 q 1 (.int .i64 n9)) (T9.out.v.nin n9) T9.out.o1 T9.out.o2)
          clear T9 e2 hn
          go_wp2_with fail
          go_meet
          exact ⟨_, none, 0, none, 0, true, a2, b2, rfl, HRE, T, HBD⟩
        by_cases h8 : k = 8
        · have hk1 := h8
          clear h8
          obtain ⟨n9, a2, b2, e2⟩ : ∃ k a1' b1', rdN xs (a1, b1) = (k, a1', b1') := ⟨_, _, _, rfl⟩
          have hn := rdN_bd (xs := xs) (s := (a1, b1)) hk.2.2
          rw [e2] at hn
          simp only at hn
          have HRE := Lib.hid (show readE xs (a, false) = (⟨k, n9, [], Pkt.zero⟩, true, a2, b2) by simp [readE, E1.out, e2, hk1])
          have HBD := Lib.hid (show EvB ⟨k, n9, [], Pkt.zero⟩ from ⟨by intro x hx; simp at hx, by simp, by simp; omega, by simp; omega, PkB.zero⟩)
          go_wp2_with fail
          refine (refN_call T.out.rd e2).mono ?_
          rintro x w3 ⟨rfl, hr3, hg3⟩
          have T9 := Lib.hid (T.out.call hr3 hg3)
          clear hr3 hg3 T
          have f9 := T9.out.v.fr 1
          have c9 := T9.out.v.cells.q1
          have T := Lib.hid (T9.out.store (setCell_one w3 q 1 (.int .i64 n9)) (T9.out.v.nin n9) T9.out.o1 T9.out.o2)
          clear T9 e2 hn
          go_wp2_with fail
          go_meet
          exact ⟨_, none, 0, none, 0, true, a2, b2, rfl, HRE, T, HBD⟩
        have HRE := Lib.hid (show readE xs (a, false) = (⟨k, 0, [], Pkt.zero⟩, true, a1, b1) by simp [readE, E1.out, h1, h2, h3, h4, h5, h7, h8])
        have HBD := Lib.hid (show EvB ⟨k, 0, [], Pkt.zero⟩ from ⟨by intro x hx; simp at hx, by simp, by simp; omega, by simp, PkB.zero⟩)
        have q1 : (k == 1) = false := by simp [h1]
        have q2 : (k == 2) = false := by simp [h2]
        have q3 : (k == 3) = false := by simp [h3]
        have q4 : (k == 4) = false := by simp [h4]
        have q5 : (k == 5) = false := by simp [h5]
        have q7 : (k == 7) = false := by simp [h7]
        have q8 : (k == 8) = false := by simp [h8]
        go_wp2_with fail
        go_meet
        exact ⟨_, none, 0, none, 0, true, a1, b1, rfl, HRE, T, HBD⟩
      case rest =>
      obtain ⟨ev, A1, j1, B1, j2, t, a', b', rfl, HRE, T, HBD⟩ := hcut
      have HTE := Lib.hid (show takeE xs (a, false) = if (t && !b' && ev.ok) = true then (ev, true, a', b') else (Ev.zero, false, a', b') by unfold takeE; rw [HRE.out])
      have y2 := T.out.rd.c2
      cases b'
      · cases t
        · have hR9 := Lib.hid (unE_fail hu.out hf.out HLT.out (by rw [HTE.out]; simp))
          go_wp2_with fail
          go_ret2
          rw [← HR1.out, ← HR3.out, hR9.out]
          exact ⟨_, [], rfl, EvRow.nil _ _, rfl, T.out.bel⟩
        · have hvc := T.out.v.cells
          obtain ⟨d0, d1, d2, d3, d4, d5, d6, d7, d8, d9, d10, d11⟩ := hvc
          simp only [Nat.zero_add] at d0 d1 d2 d3 d4 d5 d6 d7 d8 d9 d10 d11
          have hc := fun W (h : EvAt W ev A1 j1 B1 j2) => rightEvent_any ev A1 j1 B1 j2 W h
          obtain ⟨s, hs⟩ : ∃ s, ev.ok = s := ⟨_, rfl⟩
          rw [hs] at hc
          unfold Ev.val at hc
          have HC := Lib.hid hc
          have HS := Lib.hid hs
          clear hc hs
          go_wp2_with fail
          refine (HC.out _ (EvM.own.at (m := ⟨ev, A1, j1, B1, j2⟩) (B := w.heap.size) ⟨HBD.out, T.out.o1, T.out.o2⟩)).mono ?_
          rintro x v1 ⟨rfl, hb9⟩
          have T9 := Lib.hid (T.out.below hb9)
          clear hb9 T y2 d0 d1 d2 d3 d4 d5 d6 d7 d8 d9 d10 d11
          have T := T9
          clear T9
          cases s
          · have hR9 := Lib.hid (unE_fail hu.out hf.out HLT.out (by rw [HTE.out, HS.out]; simp))
            go_wp2_with fail
            go_ret2
            rw [← HR1.out, ← HR3.out, hR9.out]
            exact ⟨_, [], rfl, EvRow.nil _ _, rfl, T.out.bel⟩
          · have hte : takeE xs (a, false) = (ev, true, a', false) := by rw [HTE.out, HS.out]; rfl
            obtain ⟨_, u1, u2, fuel', u3, u4⟩ := unE_step HBY.out hu.out hf.out HLT.out hte
            have hvc := T.out.v.cells
            obtain ⟨d0, d1, d2, d3, d4, d5, d6, d7, d8, d9, d10, d11⟩ := hvc
            simp only [Nat.zero_add] at d0 d1 d2 d3 d4 d5 d6 d7 d8 d9 d10 d11
            have hb4 := (Below.refl v1.heap.size v1).alloc (Nat.le_refl _) (.cells (EvM.cs ⟨ev, A1, j1, B1, j2⟩).toArray 60)
            have HO5 := Lib.hid (EvM.own.later (m := ⟨ev, A1, j1, B1, j2⟩) (B := w.heap.size) ⟨HBD.out, T.out.o1, T.out.o2⟩ hb4)
            have T5 := Lib.hid (T.out.below hb4)
            have HLN := Lib.hid (lies_new2 v1 ⟨ev, A1, j1, B1, j2⟩ 60)
            have hlb := hls.out
            have hlen := HLT.out
            have HL2 := Lib.hid (show ls.length + 1 ≤ a' by omega)
            have hroom : (ls.length + 1) * 128 ≤ 140737488355328 := by omega
            clear hb4 hlb hlen T hte
            go_wp2_with (at_builtin; refine wpList_appE rfl (.tmp 65) (.tmp 67) rfl w.heap.size (.slice AL ls.length cl) ls ⟨ev, A1, j1, B1, j2⟩ rfl T5.out.row _ 1 rfl HO5.out HLN.out hroom T5.out.bel.size ?_; intro D2 dd2 w6 h6 g6; have HRW6 := Lib.hid h6; have HB6 := Lib.hid (T5.out.bel.grown g6 T5.out.bel.size (fun g hg => (T5.out.row.lt g hg).1)); have HR6 := Lib.hid (T5.out.rd.grown g6 (fun e => (row_not_refS T5.out.row T5.out.rd).elim (fun h => by rw [h] at e; cases e) (fun h => h e)) (fun b off e h0 e2 => by have h8 := T5.out.rl b off e h0; have h7 := (T5.out.row.lt b e2).1; omega)); clear h6 g6)
            go_roundw
            case rel => exact ⟨fuel', a', ls ++ [⟨ev, A1, j1, B1, j2⟩], by rw [List.map_append]; exact u3, u4, (by simp; exact HL2.out), HR6, HRW6, HB6⟩
            case measure =>
              rw [HM0.out, show (w6.cell? ⟨p, 0 + 1, none⟩).getD undef = .int .i64 (a' : Nat) by rw [HR6.out.c1]; rfl]
              simp [intOf]
              omega
      · have hR9 := Lib.hid (unE_fail hu.out hf.out HLT.out (by rw [HTE.out]; simp))
        go_wp2_with fail
        go_ret2
        rw [← HR1.out, ← HR3.out, hR9.out]
        exact ⟨_, [], rfl, EvRow.nil _ _, rfl, T.out.bel⟩
    · have hR9 := Lib.hid (unE_end hu.out hf.out (show xs.length ≤ a by omega))
      have i1 : ¬ (a : Int) < (xs.length : Int) := by omega
      go_wp2_with fail
      go_ret2
      rw [← HR1.out, ← HR3.out, hR9.out]
      first
        | exact ⟨_, ls, rfl, hrow.out, rfl, hbl.out⟩
        | exact ⟨_, rfl, ls, hrow.out, rfl, hbl.out⟩
end Go.Proofs.Ytbjneoeiognahaa

/-
  PrEnd · PrEn1.
-/
import Derived.Test.YtpjlnpnadkbakaaGreatQEcDocIn4
import Derived.Test.YtpjlnpnadkbakaaGreatQEcRowN
import Derived.Test.YtpjlnpnadkbakaaGreatQEcPath
import Derived.Test.YtpjlnpnadkbakaaGreatQEcOutbox
import Derived.Test.YtpjlnpnadkbakaaGreatQEcOutWrite
import Derived.Test.YtpjlnpnadkbakaaGreatQEcInbox3
import Derived.Test.YtpjlnpnadkbakaaGreatQEcSched
import Derived.Test.YtpjlnpnadkbakaaGreatQEcLocks
import Derived.Deep.RegionHeld3
namespace Go.Proofs.YtpjlnpnadkbakaaGreat
set_option maxRecDepth 10000
open Go.RowKit

abbrev tEnd : TypeId := 99
abbrev tPPa : TypeId := 101
/-- What never turns: the rows of paths and of due ticks, where each path lies, where outbox, plan, inbox, sched, meter lie. -/
structure EeS where
  pv : Value
  pb : List Nat
  pg : Nat → Nat
  pw : Nat → Nat
  pf : Nat → Nat
  dv : Value
  ob : Nat
  pl : Nat
  plq : Nat
  ib : Nat
  ibq : Nat
  ibg : Nat
  ibn : Nat
  sb : Nat
  mb : Nat
/-- What turns. -/
structure EeQ where
  fv : Nat → Value
  ov : Value
  lv : Value
  iv : Value
  ev : Value
  to : Nat
/-- The things that lie in blocks of their own. -/
structure EnV where
  ps : List Pa
  due : List Int
  o : Ou
  pl : Pl
  i : In
  k : Int
  l : Int
  ev : List Ev
  m : Nat → Int
abbrev En.view (E : En) : EnV := ⟨E.ps, E.due, E.o, E.pl, E.i, E.k, E.l, E.ev, E.m⟩
/-- Its cells. -/
def eeL (s : EeS) (q : EeQ) (E : En) : List Value :=
  [.int .i64 E.c.np, .int .i64 E.c.buf, .int .i64 E.c.win, .int .i64 E.c.chk, .int .i64 E.c.most, .int .i64 E.c.first, .int .i64 E.c.sched, .int .i64 E.side, .int .i64 E.now, .int .i64 E.limit, s.pv, s.dv,
    .pointer (some ⟨s.sb, 0, none⟩), .pointer (some ⟨s.ob, 0, none⟩), .pointer (some ⟨s.pl, 0, none⟩), .pointer (some ⟨s.ib, 0, none⟩), q.ev, .int .i64 (q.to : Int), .pointer (some ⟨s.mb, 0, none⟩)]
def mets (m : Nat → Int) : List Int := (List.range 8).map m
structure EeP (w : World) (L : Lab) (K : Nat) (s : EeS) (q : EeQ) (V : EnV) : Prop where
  pvr : PtrRow tPPa w s.pv s.pb
  pvl : OfV L (K + 1) s.pv
  pbn : s.pb.length = V.ps.length
  pth : ∀ j, j < V.ps.length → PaAt w 0 (s.pb.getD j 0) (s.pg j) (s.pw j) (s.pf j) (q.fv j) (V.ps.getD j pz)
  ptl : ∀ j, j < V.ps.length → Of L (K + 8 + j) (Pat (s.pb.getD j 0) (s.pg j) (s.pw j) (s.pf j) (q.fv j))
  dvr : Own .i64 3 w 0 s.dv V.due
  dvl : OfV L (K + 2) s.dv
  out : OutAt w 0 s.ob q.ov V.o
  outl : Of L (K + 3) (Oft s.ob q.ov)
  pln : PlanAt w 0 s.pl s.plq q.lv V.pl
  plnl : Of L (K + 7) (Pft s.pl s.plq q.lv)
  inb : ∃ xs ps, IbAt w 0 s.ib s.ibq s.ibg s.ibn q.iv xs ps V.i
  inl : Of L (K + 4) (Ibf s.ib s.ibq s.ibg q.iv)
  sch : ScS w s.sb V.k V.l
  schl : L s.sb = K + 5
  evs : EvLs w L (K + 6) q.ev V.ev
  met : Met w s.mb (mets V.m)
  metl : L s.mb = K + 11
  n3 : V.ps.length ≤ 3
structure EeAt (w : World) (L : Lab) (K b : Nat) (s : EeS) (q : EeQ) (E : En) : Prop where
  row : w.rowIs b tEnd 19 (fun i => (eeL s q E).getD i undef)
  lb : L b = K
  to1 : q.to ≤ E.ev.length
  to2 : E.out = saids (E.ev.drop q.to)
  p : EeP w L K s q E.view
/-- The End of the labels K to K + 11. -/
def EE (w : World) (L : Lab) (K b : Nat) (s : EeS) (E : En) : Prop := ∃ q : EeQ, EeAt w L K b s q E
/-- Its labels. -/
def Es (K : Nat) (x : Nat) : Prop := K ≤ x ∧ x < K + 12

theorem mets_at (m : Nat → Int) {j : Nat} (hj : j < 8) : (mets m).getD j 0 = m j := by
  have : j = 0 ∨ j = 1 ∨ j = 2 ∨ j = 3 ∨ j = 4 ∨ j = 5 ∨ j = 6 ∨ j = 7 := by omega
  rcases this with rfl | rfl | rfl | rfl | rfl | rfl | rfl | rfl <;> rfl
theorem mets_bump (m : Nat → Int) {j : Nat} (hj : j < 8) (n : Int) : (mets m).set j ((mets m).getD j 0 + n) = mets (bump m j n) := by
  have : j = 0 ∨ j = 1 ∨ j = 2 ∨ j = 3 ∨ j = 4 ∨ j = 5 ∨ j = 6 ∨ j = 7 := by omega
  rcases this with rfl | rfl | rfl | rfl | rfl | rfl | rfl | rfl <;> rfl

section
variable {w w' : World} {L L' : Lab} {K b : Nat} {s : EeS} {q q' : EeQ} {E E' : En} {V : EnV} {S : Nat → Prop}
theorem EeAt.cell (h : EeAt w L K b s q E) (i : Nat) (hi : i < 19) : w.cell? ⟨b, i, none⟩ = some ((eeL s q E).getD i undef) := World.rowIs.cell (i := i) h.row hi
theorem EeAt.fr (h : EeAt w L K b s q E) (i : Nat) : w.frozen? ⟨b, i, none⟩ = false := World.rowIs.frozen h.row i
theorem EeAt.lt (h : EeAt w L K b s q E) : b < w.heap.size := World.rowIs.lt h.row
theorem EeAt.pth (h : EeAt w L K b s q E) (j : Nat) (hj : j < E.ps.length) : PaAt w 0 (s.pb.getD j 0) (s.pg j) (s.pw j) (s.pf j) (q.fv j) (E.pa j) := h.p.pth j hj
/-- All that lies elsewhere stays. -/
structure EeR (w' : World) (L' : Lab) (K : Nat) (s : EeS) (q : EeQ) (V : EnV) (S : Nat → Prop) : Prop where
  pvr : ¬ S (K + 1) → PtrRow tPPa w' s.pv s.pb
  pvl : OfV L' (K + 1) s.pv
  pth : ∀ j, j < V.ps.length → ¬ S (K + 8 + j) → PaAt w' 0 (s.pb.getD j 0) (s.pg j) (s.pw j) (s.pf j) (q.fv j) (V.ps.getD j pz)
  ptl : ∀ j, j < V.ps.length → Of L' (K + 8 + j) (Pat (s.pb.getD j 0) (s.pg j) (s.pw j) (s.pf j) (q.fv j))
  dvr : ¬ S (K + 2) → Own .i64 3 w' 0 s.dv V.due
  dvl : OfV L' (K + 2) s.dv
  out : ¬ S (K + 3) → OutAt w' 0 s.ob q.ov V.o
  outl : Of L' (K + 3) (Oft s.ob q.ov)
  pln : ¬ S (K + 7) → PlanAt w' 0 s.pl s.plq q.lv V.pl
  plnl : Of L' (K + 7) (Pft s.pl s.plq q.lv)
  inb : ¬ S (K + 4) → ∃ xs ps, IbAt w' 0 s.ib s.ibq s.ibg s.ibn q.iv xs ps V.i
  inl : Of L' (K + 4) (Ibf s.ib s.ibq s.ibg q.iv)
  sch : ¬ S (K + 5) → ScS w' s.sb V.k V.l
  schl : L' s.sb = K + 5
  evs : ¬ S (K + 6) → ¬ S 0 → EvLs w' L' (K + 6) q.ev V.ev
  met : ¬ S (K + 11) → Met w' s.mb (mets V.m)
  metl : L' s.mb = K + 11
theorem EeP.rest (h : EeP w L K s q V) (ht : Tn w w' L L' S) : EeR w' L' K s q V S where
  pvr := fun hS => h.pvr.keep ht h.pvl hS
  pvl := h.pvl.keep ht h.pvr.lt
  pth := fun i hi hS => (h.pth i hi).kept ht.trn ((h.ptl i hi).apart hS)
  ptl := fun i hi => (h.ptl i hi).keep ht (fun k hk => ((h.pth i hi).foot_lt k hk).2)
  dvr := fun hS => ht.own h.dvr h.dvl hS
  dvl := h.dvl.keep ht (own_lt h.dvr)
  out := fun hS => h.out.kept ht.trn (h.outl.apart hS)
  outl := h.outl.keep ht (fun k hk => (h.out.foot_lt k hk).2)
  pln := fun hS => h.pln.kept ht.trn (h.plnl.apart hS)
  plnl := h.plnl.keep ht (fun k hk => (h.pln.foot_lt k hk).2)
  inb := fun hS => by
    obtain ⟨xs, ps, h1⟩ := h.inb
    exact ⟨xs, ps, h1.kept ht.trn (h.inl.apart hS)⟩
  inl := by
    obtain ⟨xs, ps, h1⟩ := h.inb
    exact h.inl.keep ht (fun k hk => (h1.foot_lt k hk).2)
  sch := fun hS => h.sch.kept ht.trn (by show ¬ S (L s.sb); rw [h.schl]; exact hS)
  schl := ht.lab h.schl h.sch.lt
  evs := fun hS h0 => h.evs.keep ht hS h0
  met := fun hS => h.met.of_block (ht.block h.metl hS h.met.lt)
  metl := ht.lab h.metl h.met.lt
theorem EeP.keep (h : EeP w L K s q V) (ht : Tn w w' L L' S) (hS : ∀ j, 1 ≤ j → j < 12 → ¬ S (K + j)) (h0 : ¬ S 0) : EeP w' L' K s q V := by
  have r := h.rest ht
  have h3 := h.n3
  exact ⟨r.pvr (hS 1 (by omega) (by omega)), r.pvl, h.pbn, fun j hj => r.pth j hj (by have := hS (8 + j) (by omega) (by omega); rwa [← Nat.add_assoc] at this), r.ptl, r.dvr (hS 2 (by omega) (by omega)), r.dvl, r.out (hS 3 (by omega) (by omega)), r.outl, r.pln (hS 7 (by omega) (by omega)), r.plnl, r.inb (hS 4 (by omega) (by omega)), r.inl, r.sch (hS 5 (by omega) (by omega)), r.schl, r.evs (hS 6 (by omega) (by omega)) h0, r.met (hS 11 (by omega) (by omega)), r.metl, h3⟩
/-- Another one's turn. -/
theorem EeAt.keep (h : EeAt w L K b s q E) (ht : Tn w w' L L' S) (hS : ∀ x, Es K x → ¬ S x) (h0 : ¬ S 0) : EeAt w' L' K b s q E :=
  ⟨ht.row h.row h.lb (hS _ ⟨by omega, by omega⟩), ht.lab h.lb h.lt, h.to1, h.to2, h.p.keep ht (fun j _ hj => hS _ ⟨by omega, by omega⟩) h0⟩
theorem EE.keep (h : EE w L K b s E) (ht : Tn w w' L L' S) (hS : ∀ x, Es K x → ¬ S x) (h0 : ¬ S 0) : EE w' L' K b s E := by
  obtain ⟨q, h⟩ := h
  exact ⟨q, h.keep ht hS h0⟩
theorem EeAt.drewN (h : EeAt w L K b s q E) (n : Nat) : EeAt (w.drewN n) L K b s q E := h.keep (Tn.drewN w L n (fun _ => False)) (fun _ _ => id) id
theorem EE.drewN (h : EE w L K b s E) (n : Nat) : EE (w.drewN n) L K b s E := h.keep (Tn.drewN w L n (fun _ => False)) (fun _ _ => id) id
theorem EeAt.grow (h : EeAt w L K b s q E) (hb : Below w.heap.size w w') (i : Nat) : EeAt w' (relab L w.heap.size i) K b s q E := h.keep (Tn.of_below hb L i (fun _ => False)) (fun _ _ => id) id
theorem EE.grow (h : EE w L K b s E) (hb : Below w.heap.size w w') (i : Nat) : EE w' (relab L w.heap.size i) K b s E := h.keep (Tn.of_below hb L i (fun _ => False)) (fun _ _ => id) id
theorem setEt_cells {L1 L2 : List Value} (i : Nat) (u : Value) (hl : L1.length = 19) (he : L1.set i u = L2) : ∀ j, j < 19 → (if j = i then u else L1.getD j undef) = L2.getD j undef := fun j hj => by
  subst he
  by_cases e : j = i
  · subst e
    simp [List.getD, show j < L1.length by omega]
  · rw [if_neg e]
    simp [List.getD, Ne.symm e]
/-- A thing of the End has turned, and no cell of its own. -/
theorem EeAt.turn (h : EeAt w L K b s q E) (ht : Tn w w' L L' S) (hS : ¬ S K) (hp : EeP w' L' K s q' E'.view) (he : eeL s q' E' = eeL s q E) (h1 : q'.to = q.to ∧ E'.ev = E.ev ∧ E'.out = E.out) : EeAt w' L' K b s q' E' := by
  obtain ⟨e1, e2, e3⟩ := h1
  exact ⟨by rw [he]; exact ht.row h.row h.lb hS, ht.lab h.lb h.lt, by rw [e1, e2]; exact h.to1, by rw [e1, e2, e3]; exact h.to2, hp⟩
/-- A cell of its own is stored. -/
theorem EeAt.poke (h : EeAt w L K b s q E) (hK : K ≠ 0) (i : Nat) (u : Value) (he : (eeL s q E).set i u = eeL s q' E') (hv : EeP w L K s q E.view → EeP w L K s q' E'.view) (h1 : q'.to ≤ E'.ev.length) (h2 : E'.out = saids (E'.ev.drop q'.to)) :
    EeAt (w.setCell ⟨b, i, none⟩ u) L K b s q' E' ∧ Tn w (w.setCell ⟨b, i, none⟩ u) L L (fun x => x = K) := by
  have ht : Tn w (w.setCell ⟨b, i, none⟩ u) L L (fun x => x = K) := Tn.store w L ⟨b, i, none⟩ u h.lb rfl
  exact ⟨⟨(h.row.set i u).congr (setEt_cells i u rfl he), h.lb, h1, h2, (hv h.p).keep ht (fun j _ _ => by omega) (fun e => hK e.symm)⟩, ht⟩
/-- A path has turned. -/
theorem EeAt.path (h : EeAt w L K b s q E) (_ : K ≠ 0) {i : Nat} (hi : i < E.ps.length) {v' : Value} {P : Pa} (hp : PaAt w' 0 (s.pb.getD i 0) (s.pg i) (s.pw i) (s.pf i) v' P) (hsc : SC w w' (Pat (s.pb.getD i 0) (s.pg i) (s.pw i) (s.pf i) (q.fv i)) (Pat (s.pb.getD i 0) (s.pg i) (s.pw i) (s.pf i) v')) :
    EeAt w' (relab L w.heap.size (K + 8 + i)) K b s { q with fv := fun j => if j = i then v' else q.fv j } (E.setP i P) ∧ Tn w w' L (relab L w.heap.size (K + 8 + i)) (fun x => x = K + 8 + i) := by
  have ht : Tn w w' L (relab L w.heap.size (K + 8 + i)) (fun x => x = K + 8 + i) := Tn.of_sc hsc (h.p.ptl i hi) rfl
  refine ⟨h.turn ht (by omega) ?_ rfl ⟨rfl, rfl, rfl⟩, ht⟩
  have h3 := h.p.n3
  have hl : (E.setP i P).ps.length = E.ps.length := by simp [En.setP]
  have hi3 : i < 3 := Nat.lt_of_lt_of_le hi h3
  have r := h.p.rest ht
  have hh := h.p
  refine ⟨r.pvr (by omega), r.pvl, by show s.pb.length = (E.setP i P).ps.length; rw [hl]; exact hh.pbn, ?_, ?_, r.dvr (by omega), r.dvl, r.out (by omega), r.outl, r.pln (by omega), r.plnl, r.inb (by omega), r.inl, r.sch (by omega), r.schl, r.evs (by omega) (by omega), r.met (by omega), r.metl, by show (E.setP i P).ps.length ≤ 3; rw [hl]; exact h3⟩
  · intro j hj
    have hj2 : j < E.ps.length := hl ▸ hj
    clear hj
    by_cases e : j = i
    · subst e
      have : (E.setP j P).ps.getD j pz = P := by simp [En.setP, List.getD, hj2]
      show PaAt w' 0 _ _ _ _ _ ((E.setP j P).ps.getD j pz)
      rw [this]
      simpa using hp
    · have : (E.setP i P).ps.getD j pz = E.ps.getD j pz := by simp [En.setP, List.getD, Ne.symm e]
      show PaAt w' 0 _ _ _ _ _ ((E.setP i P).ps.getD j pz)
      rw [this]
      simpa [e] using r.pth j hj2 (by omega)
  · intro j hj
    have hj2 : j < E.ps.length := hl ▸ hj
    clear hj
    by_cases e : j = i
    · subst e
      simpa using Of.sc hsc (h.p.ptl j hj2)
    · simpa [e] using r.ptl j hj2
/-- Its outbox has turned. -/
theorem EeAt.turnO (h : EeAt w L K b s q E) (_ : K ≠ 0) {v' : Value} {o' : Ou} (ho : OutAt w' 0 s.ob v' o') (hsc : SC w w' (Oft s.ob q.ov) (Oft s.ob v')) :
    EeAt w' (relab L w.heap.size (K + 3)) K b s { q with ov := v' } (E.setO o') ∧ Tn w w' L (relab L w.heap.size (K + 3)) (fun x => x = K + 3) := by
  have ht : Tn w w' L (relab L w.heap.size (K + 3)) (fun x => x = K + 3) := Tn.of_sc hsc h.p.outl rfl
  refine ⟨h.turn ht (by omega) ?_ rfl ⟨rfl, rfl, rfl⟩, ht⟩
  have h3 := h.p.n3
  have r := h.p.rest ht
  have h := h.p
  exact ⟨r.pvr (by omega), r.pvl, h.pbn, fun j hj => r.pth j hj (by have : j < E.ps.length := hj; have : E.ps.length ≤ 3 := h3; omega), r.ptl, r.dvr (by omega), r.dvl, ho, Of.sc hsc h.outl, r.pln (by omega), r.plnl, r.inb (by omega), r.inl, r.sch (by omega), r.schl, r.evs (by omega) (by omega), r.met (by omega), r.metl, h3⟩
/-- Its plan has turned. -/
theorem EeAt.turnP (h : EeAt w L K b s q E) (_ : K ≠ 0) {v' : Value} {p' : Pl} (ho : PlanAt w' 0 s.pl s.plq v' p') (hsc : SC w w' (Pft s.pl s.plq q.lv) (Pft s.pl s.plq v')) :
    EeAt w' (relab L w.heap.size (K + 7)) K b s { q with lv := v' } (E.setPl p') ∧ Tn w w' L (relab L w.heap.size (K + 7)) (fun x => x = K + 7) := by
  have ht : Tn w w' L (relab L w.heap.size (K + 7)) (fun x => x = K + 7) := Tn.of_sc hsc h.p.plnl rfl
  refine ⟨h.turn ht (by omega) ?_ rfl ⟨rfl, rfl, rfl⟩, ht⟩
  have h3 := h.p.n3
  have r := h.p.rest ht
  have h := h.p
  exact ⟨r.pvr (by omega), r.pvl, h.pbn, fun j hj => r.pth j hj (by have : j < E.ps.length := hj; have : E.ps.length ≤ 3 := h3; omega), r.ptl, r.dvr (by omega), r.dvl, r.out (by omega), r.outl, ho, Of.sc hsc h.plnl, r.inb (by omega), r.inl, r.sch (by omega), r.schl, r.evs (by omega) (by omega), r.met (by omega), r.metl, h3⟩
/-- Its inbox has turned; what is new is of label j. -/
theorem EeAt.turnI (h : EeAt w L K b s q E) (_ : K ≠ 0) (j : Nat) {v' : Value} {xs : List Int} {ps : List (Int × Int)} {i' : In} (ho : IbAt w' 0 s.ib s.ibq s.ibg s.ibn v' xs ps i') (hsc : SC w w' (Ibf s.ib s.ibq s.ibg q.iv) (Ibf s.ib s.ibq s.ibg v')) (hj : j = K + 4 ∨ v' = q.iv) :
    EeAt w' (relab L w.heap.size j) K b s { q with iv := v' } (E.setI i') ∧ Tn w w' L (relab L w.heap.size j) (fun x => x = K + 4) := by
  have ht : Tn w w' L (relab L w.heap.size j) (fun x => x = K + 4) := ⟨hsc.trn.mono (fun k _ hk => h.p.inl k hk), fun k hk => relab_old hk⟩
  refine ⟨h.turn ht (by omega) ?_ rfl ⟨rfl, rfl, rfl⟩, ht⟩
  have h3 := h.p.n3
  have r := h.p.rest ht
  have h := h.p
  exact ⟨r.pvr (by omega), r.pvl, h.pbn, fun j hj => r.pth j hj (by have : j < E.ps.length := hj; have : E.ps.length ≤ 3 := h3; omega), r.ptl, r.dvr (by omega), r.dvl, r.out (by omega), r.outl, r.pln (by omega), r.plnl, ⟨xs, ps, ho⟩, hj.elim (fun e => by subst e; exact Of.sc hsc h.inl) (fun e => by subst e; exact r.inl), r.sch (by omega), r.schl, r.evs (by omega) (by omega), r.met (by omega), r.metl, h3⟩
/-- Its sched has picked; what is new is of label j. -/
theorem EeAt.turnS (h : EeAt w L K b s q E) (_ : K ≠ 0) (j : Nat) {l' : Int} (ho : ScS w' s.sb E.k l') (hsc : SC w w' (fun k => k = s.sb) (fun k => k = s.sb)) :
    EeAt w' (relab L w.heap.size j) K b s q { E with l := l' } ∧ Tn w w' L (relab L w.heap.size j) (fun x => x = K + 5) := by
  have ht : Tn w w' L (relab L w.heap.size j) (fun x => x = K + 5) := ⟨hsc.trn.mono (fun k _ hk => by rw [hk]; exact h.p.schl), fun k hk => relab_old hk⟩
  refine ⟨h.turn ht (by omega) ?_ rfl ⟨rfl, rfl, rfl⟩, ht⟩
  have h3 := h.p.n3
  have r := h.p.rest ht
  have h := h.p
  exact ⟨r.pvr (by omega), r.pvl, h.pbn, fun j hj => r.pth j hj (by have : j < E.ps.length := hj; have : E.ps.length ≤ 3 := h3; omega), r.ptl, r.dvr (by omega), r.dvl, r.out (by omega), r.outl, r.pln (by omega), r.plnl, r.inb (by omega), r.inl, ho, r.schl, r.evs (by omega) (by omega), r.met (by omega), r.metl, h3⟩
/-- A counter has turned. -/
theorem EeAt.turnM (h : EeAt w L K b s q E) (_ : K ≠ 0) {m' : Nat → Int} (ho : Met w' s.mb (mets m')) (hg : w.grownBy w' (some s.mb)) :
    EeAt w' (relab L w.heap.size (K + 11)) K b s q { E with m := m' } ∧ Tn w w' L (relab L w.heap.size (K + 11)) (fun x => x = K + 11) := by
  have ht : Tn w w' L (relab L w.heap.size (K + 11)) (fun x => x = K + 11) := Tn.of_grown hg h.p.metl rfl
  refine ⟨h.turn ht (by omega) ?_ rfl ⟨rfl, rfl, rfl⟩, ht⟩
  have h3 := h.p.n3
  have r := h.p.rest ht
  have h := h.p
  exact ⟨r.pvr (by omega), r.pvl, h.pbn, fun j hj => r.pth j hj (by have : j < E.ps.length := hj; have : E.ps.length ≤ 3 := h3; omega), r.ptl, r.dvr (by omega), r.dvl, r.out (by omega), r.outl, r.pln (by omega), r.plnl, r.inb (by omega), r.inl, r.sch (by omega), r.schl, r.evs (by omega) (by omega), ho, r.metl, h3⟩
/-- A due tick was stored. -/
theorem EeAt.turnD (h : EeAt w L K b s q E) (_ : K ≠ 0) {ds : List Int} (ho : Own .i64 3 w' 0 s.dv ds) (hg : w.grownBy w' s.dv.ownBlock) :
    EeAt w' (relab L w.heap.size (K + 2)) K b s q { E with due := ds } ∧ Tn w w' L (relab L w.heap.size (K + 2)) (fun x => x = K + 2) := by
  have ht : Tn w w' L (relab L w.heap.size (K + 2)) (fun x => x = K + 2) := Tn.of_row hg h.p.dvl rfl
  refine ⟨h.turn ht (by omega) ?_ rfl ⟨rfl, rfl, rfl⟩, ht⟩
  have h3 := h.p.n3
  have r := h.p.rest ht
  have h := h.p
  exact ⟨r.pvr (by omega), r.pvl, h.pbn, fun j hj => r.pth j hj (by have : j < E.ps.length := hj; have : E.ps.length ≤ 3 := h3; omega), r.ptl, ho, r.dvl, r.out (by omega), r.outl, r.pln (by omega), r.plnl, r.inb (by omega), r.inl, r.sch (by omega), r.schl, r.evs (by omega) (by omega), r.met (by omega), r.metl, h3⟩
/-- Its events have grown, and are stored. -/
theorem EeAt.turnE (h : EeAt w L K b s q E) (hK : K ≠ 0) {v' : Value} {es : List Ev} {E' : En} (hv : EvLs w' (relab L w.heap.size (K + 6)) (K + 6) v' es) (hg : w.grownBy w' q.ev.ownBlock) (hE : E'.view = { E.view with ev := es }) (hc : eeL s q E' = eeL s q E) (h1 : q.to ≤ E'.ev.length) (h2 : E'.out = saids (E'.ev.drop q.to)) :
    EeAt (w'.setCell ⟨b, 16, none⟩ v') (relab L w.heap.size (K + 6)) K b s { q with ev := v' } E' ∧ Tn w (w'.setCell ⟨b, 16, none⟩ v') L (relab L w.heap.size (K + 6)) (fun x => x = K + 6 ∨ x = K) := by
  have ht1 : Tn w w' L (relab L w.heap.size (K + 6)) (fun x => x = K + 6) := Tn.of_row hg h.p.evs.lab rfl
  have hrow := ht1.row h.row h.lb (by omega)
  have hlb := ht1.lab h.lb h.lt
  have ht2 : Tn w' (w'.setCell ⟨b, 16, none⟩ v') (relab L w.heap.size (K + 6)) (relab L w.heap.size (K + 6)) (fun x => x = K) := Tn.store w' _ ⟨b, 16, none⟩ v' hlb rfl
  have ht := (ht1.mono (S' := fun x => x = K + 6 ∨ x = K) (fun x hx => .inl hx)).trans (ht2.mono (fun x hx => .inr hx))
  have h3 := h.p.n3
  refine ⟨⟨(hrow.set 16 v').congr (setEt_cells 16 v' rfl (by have e : eeL s { q with ev := v' } E' = (eeL s q E').set 16 v' := rfl; rw [e, hc])), hlb, h1, h2, ?_⟩, ht⟩
  rw [hE]
  have r := h.p.rest ht
  have h := h.p
  exact ⟨r.pvr (by omega), r.pvl, h.pbn, fun j hj => r.pth j hj (by have : j < E.ps.length := hj; have : E.ps.length ≤ 3 := h3; omega), r.ptl, r.dvr (by omega), r.dvl, r.out (by omega), r.outl, r.pln (by omega), r.plnl, r.inb (by omega), r.inl, r.sch (by omega), r.schl, hv.keep ht2 (by omega) (fun e => hK e.symm), r.met (by omega), r.metl, h3⟩
end
end Go.Proofs.YtpjlnpnadkbakaaGreat
namespace Go.Proofs.YtpjlnpnadkbakaaGreat
set_option maxRecDepth 10000
open Go.RowKit

theorem alloc_rangeE (w : World) (cs : List Value) (t : TypeId) : (w.alloc (.cells cs.toArray t)).rangeAt w.heap.size 0 cs := by
  have h := World.rangeAt_of_block (C := cs.toArray) (t := t) (fr := (0, 0)) (heap_alloc_new w _) 0 cs.length
  simpa using h
theorem alloc_liesE (w : World) (cs : List Value) (t : TypeId) : ∀ j u, cs[j]? = some u → (w.alloc (.cells cs.toArray t)).cell? ((⟨w.heap.size, 0, none⟩ : Addr).add j) = some u := fun j u hu => by
  have h := alloc_rangeE w cs t j u hu
  rw [Addr.add_lit]
  exact h
set_option maxHeartbeats 1000000 in
/-- An event in memory of its own. -/
theorem copied_any (x : Ev) (A : Option Addr) (c : Nat) (B : Option Addr) (d : Nat) (w : World) (hx : EvAt w x A c B d) (hl1 : x.da.length ≤ 4096) (hl2 : x.pk.da.length ≤ 4096) :
    Calls Tryz.prog 99 #[x.val A c B d] w fun e w' => ∃ A' c' B' d', e = .returned (.agg #[.int .i64 x.k, .int .i64 x.n, .slice A' x.da.length c', .int .i64 x.pk.k, .int .i64 x.pk.pa, .int .i64 x.pk.nu, .int .i64 x.pk.ofn, .int .i64 x.pk.fr, .slice B' x.pk.da.length d', .bool x.pk.fin, .int .i64 x.pk.se, .int .i64 x.pk.li]) ∧ Own .u8 5 w' w.heap.size (.slice A' x.da.length c') x.da ∧ Own .u8 5 w' w.heap.size (.slice B' x.pk.da.length d') x.pk.da ∧ Below w.heap.size w w' := by
  have hin := EvV.new w x A c B d
  have hr0 := EvV.new (w.alloc (.cells (x.cs A c B d).toArray 88)) Ev.zero none 0 none 0
  have hin2 := hin.later ((Below.refl _ _).alloc (Nat.le_refl _) (.cells (Ev.zero.cs none 0 none 0).toArray 88))
  have hbl : Below w.heap.size w ((w.alloc (.cells (x.cs A c B d).toArray 88)).alloc (.cells (Ev.zero.cs none 0 none 0).toArray 88)) :=
    have h1 := (Below.refl w.heap.size w).alloc (Nat.le_refl _) (.cells (x.cs A c B d).toArray 88)
    h1.alloc h1.size _
  rw [World.size_alloc] at hr0
  have HC1 := Lib.hid (fun W (h : Rd .u8 W A x.da) => sclone_any A x.da.length c x.da W rfl h (by omega) (fun e => ⟨hx.nil e, by have := hx.cap; have := hx.nil e; omega⟩))
  have HC2 := Lib.hid (fun W (h : Rd .u8 W B x.pk.da) => sclone_any B x.pk.da.length d x.pk.da W rfl h (by omega) (fun e => ⟨hx.pk.nil e, by have := hx.pk.cap; have := hx.pk.nil e; omega⟩))
  have HX := Lib.hid hx
  clear hx hin hl1 hl2
  change EvV ((w.alloc (.cells #[.int .i64 x.k, .int .i64 x.n, .slice A x.da.length c, .int .i64 x.pk.k, .int .i64 x.pk.pa, .int .i64 x.pk.nu, .int .i64 x.pk.ofn, .int .i64 x.pk.fr, .slice B x.pk.da.length d, .bool x.pk.fin, .int .i64 x.pk.se, .int .i64 x.pk.li] 88)).alloc (.cells #[.int .i64 0, .int .i64 0, .slice none 0 0, .int .i64 0, .int .i64 0, .int .i64 0, .int .i64 0, .int .i64 0, .slice none 0 0, .bool false, .int .i64 0, .int .i64 0] 88)) (w.heap.size + 1) Ev.zero none 0 none 0 at hr0
  change EvV ((w.alloc (.cells #[.int .i64 x.k, .int .i64 x.n, .slice A x.da.length c, .int .i64 x.pk.k, .int .i64 x.pk.pa, .int .i64 x.pk.nu, .int .i64 x.pk.ofn, .int .i64 x.pk.fr, .slice B x.pk.da.length d, .bool x.pk.fin, .int .i64 x.pk.se, .int .i64 x.pk.li] 88)).alloc (.cells #[.int .i64 0, .int .i64 0, .slice none 0 0, .int .i64 0, .int .i64 0, .int .i64 0, .int .i64 0, .int .i64 0, .slice none 0 0, .bool false, .int .i64 0, .int .i64 0] 88)) w.heap.size x A c B d at hin2
  change Below w.heap.size w ((w.alloc (.cells #[.int .i64 x.k, .int .i64 x.n, .slice A x.da.length c, .int .i64 x.pk.k, .int .i64 x.pk.pa, .int .i64 x.pk.nu, .int .i64 x.pk.ofn, .int .i64 x.pk.fr, .slice B x.pk.da.length d, .bool x.pk.fin, .int .i64 x.pk.se, .int .i64 x.pk.li] 88)).alloc (.cells #[.int .i64 0, .int .i64 0, .slice none 0 0, .int .i64 0, .int .i64 0, .int .i64 0, .int .i64 0, .int .i64 0, .slice none 0 0, .bool false, .int .i64 0, .int .i64 0] 88)) at hbl
  have H0 := Lib.hid hr0
  have H1 := Lib.hid hin2
  have HB := Lib.hid hbl
  clear hr0 hin2 hbl
  unfold Ev.val
  go_enter Tryz.func99, Tryz.ntmps99
  go_wp2_with fail
  refine (HC1.out _ (HX.out.rd.later (HB.out.mono (Nat.le_refl _)))).mono ?_
  rintro e w1 ⟨A1, c1, rfl, ho, hb⟩
  have Z1 := Lib.hid (H0.out.later hb)
  have V1 := H1.out.later hb
  have B1 := Lib.hid (HB.out.trans (hb.mono HB.out.size))
  obtain ⟨w2, hw2⟩ : ∃ w2, w1.setCell ⟨w.heap.size, 2, none⟩ (.slice A1 x.da.length c1) = w2 := ⟨_, rfl⟩
  have hg1 := setCell_one w1 w.heap.size 2 (.slice A1 x.da.length c1)
  rw [hw2] at hg1
  have V2 : EvV w2 w.heap.size x A1 c1 B d := by rw [← hw2]; exact V1.dat x.da A1 c1
  have OC := Lib.hid ((ho.less (B' := w.heap.size) HB.out.size).kept hg1 (own_not_ev (ho.less (B' := w.heap.size) HB.out.size) V1))
  have Z2 := Lib.hid (Z1.out.kept hg1 (by omega))
  have B2 := Lib.hid (B1.out.grown hg1 B1.out.size (by intro g e; simp at e; omega))
  have f9 := V1.fr 2
  obtain ⟨c0, c1', c2, c3, c4, c5, c6, c7, c8, c9, c10, c11⟩ := V1.cells
  obtain ⟨d0, d1, d2, d3, d4, d5, d6, d7, d8, d9, d10, d11⟩ := V2.cells
  have V2 := Lib.hid V2
  clear ho hb H0 H1 HB HC1 V1 B1 Z1 hg1
  go_wp2_with fail
  try rw [hw2]
  clear hw2 c0 c1' c2 c3 c4 c5 c6 c7 c8 c9 c10 c11 d0 d1 d2 d3 d4 d5 d6 d7 d8 d9 d10 d11 f9
  refine (HC2.out _ (HX.out.pk.rd.later (B2.out.mono (Nat.le_refl _)))).mono ?_
  rintro e w3 ⟨B3, d3, rfl, ho, hb⟩
  have V3 := V2.out.later hb
  have Z3 := Lib.hid (Z2.out.later hb)
  have B3' := Lib.hid (B2.out.trans (hb.mono B2.out.size))
  have OC3 := Lib.hid (OC.out.later hb)
  obtain ⟨w4, hw4⟩ : ∃ w4, w3.setCell ⟨w.heap.size, 8, none⟩ (.slice B3 x.pk.da.length d3) = w4 := ⟨_, rfl⟩
  have hg1 := setCell_one w3 w.heap.size 8 (.slice B3 x.pk.da.length d3)
  rw [hw4] at hg1
  have V4 : EvV w4 w.heap.size x A1 c1 B3 d3 := by rw [← hw4]; exact V3.s8 x.pk.da B3 d3
  have OB := Lib.hid ((ho.less (B' := w.heap.size) B2.out.size).kept hg1 (own_not_ev (ho.less (B' := w.heap.size) B2.out.size) V3))
  have OA := Lib.hid (OC3.out.kept hg1 (own_not_ev OC3.out V3))
  have Z4 := Lib.hid (Z3.out.kept hg1 (by omega))
  have B4 := Lib.hid (B3'.out.grown hg1 B3'.out.size (by intro g e; simp at e; omega))
  have f9 := V3.fr 8
  obtain ⟨c0, c1', c2, c3, c4, c5, c6, c7, c8, c9, c10, c11⟩ := V3.cells
  obtain ⟨d0, d1, d2, d3', d4, d5, d6, d7, d8, d9, d10, d11⟩ := V4.cells
  have f0 := Z4.out.fr
  obtain ⟨x0, x1, x2, x3, x4, x5, x6, x7, x8, x9, x10, x11⟩ := Z4.out.cells
  simp only [Nat.zero_add] at d0 d1 d2 d3' d4 d5 d6 d7 d8 d9 d10 d11 x0 x1 x2 x3 x4 x5 x6 x7 x8 x9 x10 x11
  clear ho hb HC2 V2 V3 Z2 Z3 B2 B3' OC OC3 hg1 V4
  go_wp2_with fail
  try rw [hw4]
  change bodyPost _ _ _ _ _ (w4.setCells (w.heap.size + 1) 0 (x.cs A1 c1 B3 d3))
  have hg2 := setCells_one (w.heap.size + 1) (x.cs A1 c1 B3 d3) 0 w4
  have h9 := Z4.out.res x A1 c1 B3 d3
  refine bodyPost_ret (v := x.val A1 c1 B3 d3) ?_ rfl ⟨A1, c1, B3, d3, rfl, OA.out.kept hg2 (own_not_ev OA.out Z4.out), OB.out.kept hg2 (own_not_ev OB.out Z4.out), B4.out.grown hg2 B4.out.size (by intro g e; simp at e; omega)⟩
  clear c0 c1' c2 c3 c4 c5 c6 c7 c8 c9 c10 c11 d0 d1 d2 d3' d4 d5 d6 d7 d8 d9 d10 d11 x0 x1 x2 x3 x4 x5 x6 x7 x8 x9 x10 x11 f0 f9
  simp [results, Tryz.results99, asAddr, h9]

/-- What a call leaves that answers nothing. -/
def EEnd (w : World) (L : Lab) (K b : Nat) (s : EeS) (E : En) (e : Ending) (w' : World) : Prop := e = .returned (.tuple #[]) ∧ ∃ L', EE w' L' K b s E ∧ Tn w w' L L' (Es K)
/-- A counter is added to. -/
theorem eecount_any {w : World} {L : Lab} {K b : Nat} {s : EeS} {E : En} (h : EE w L K b s E) (hK : K ≠ 0) (j : Nat) (hj : j < 8) (n : Int) (h0 : 0 ≤ n) (h1 : n ≤ 2147483647) {N : Nat} (hc : E.cap N) (hN : N ≤ 1099511627776) (k : Int) (hk : k = (j : Int)) :
    Calls Tryz.prog 66 #[.pointer (some ⟨s.mb, 0, none⟩), .int .i64 k, .int .i64 n] w fun e w' => (∃ z, e = .returned (.int .i64 z)) ∧ ∃ L', EE w' L' K b s (E.count j n) ∧ Tn w w' L L' (Es K) := by
  obtain ⟨q, h⟩ := h
  subst hk
  have hm := hc.m j
  refine (madd_yes s.mb (mets E.m) j n w h.p.met hj h0 h1 (by rw [mets_at _ hj]; omega) (by rw [mets_at _ hj]; omega)).mono ?_
  rintro e w' ⟨rfl, h2, hg⟩
  rw [mets_bump _ hj] at h2
  obtain ⟨h3, ht⟩ := h.turnM hK h2 hg
  exact ⟨⟨_, rfl⟩, _, ⟨q, h3⟩, ht.mono (fun x hx => by subst hx; exact ⟨by omega, by omega⟩)⟩
theorem EeAt.c18 {w : World} {L : Lab} {K b : Nat} {s : EeS} {q : EeQ} {E : En} (h : EeAt w L K b s q E) : w.cell? ⟨b, 0 + 18, none⟩ = some (.pointer (some ⟨s.mb, 0, none⟩)) := h.cell 18 (by omega)
theorem EE.c18 {w : World} {L : Lab} {K b : Nat} {s : EeS} {E : En} (h : EE w L K b s E) : w.cell? ⟨b, 0 + 18, none⟩ = some (.pointer (some ⟨s.mb, 0, none⟩)) := by
  obtain ⟨q, h⟩ := h
  exact h.c18
/-- The append of an event that was copied, and its store. -/
theorem note_app {w w1 : World} {L : Lab} {K b : Nat} {s : EeS} {q : EeQ} {E : En} (h : EeAt w L K b s q E) (hK : K ≠ 0) (hb : Below w.heap.size w w1) (x : Ev) (hbd : EvB x) (A : Option Addr) (c : Nat) (B : Option Addr) (d : Nat) (o1 : Own .u8 5 w1 w.heap.size (.slice A x.da.length c) x.da) (o2 : Own .u8 5 w1 w.heap.size (.slice B x.pk.da.length d) x.pk.da) (n : Nat) (hn : E.ev.length = n) (hn2 : n ≤ 549755813888) (Ae : Option Addr) (ce : Nat) (hv : q.ev = .slice Ae n ce) :
    ∃ A' c' w2 L', (w1.alloc (.cells #[.int .i64 x.k, .int .i64 x.n, .slice A x.da.length c, .int .i64 x.pk.k, .int .i64 x.pk.pa, .int .i64 x.pk.nu, .int .i64 x.pk.ofn, .int .i64 x.pk.fr, .slice B x.pk.da.length d, .bool x.pk.fin, .int .i64 x.pk.se, .int .i64 x.pk.li] 88)).cell? ⟨b, 0 + 16, none⟩ = some (.slice Ae n ce) ∧
      (Builtin.append_ #[51, 51] 51 #[.slice Ae n ce, .slice (some ⟨w1.heap.size, 0, none⟩) 1 1]).run Tryz.prog (w1.alloc (.cells #[.int .i64 x.k, .int .i64 x.n, .slice A x.da.length c, .int .i64 x.pk.k, .int .i64 x.pk.pa, .int .i64 x.pk.nu, .int .i64 x.pk.ofn, .int .i64 x.pk.fr, .slice B x.pk.da.length d, .bool x.pk.fin, .int .i64 x.pk.se, .int .i64 x.pk.li] 88)) = .ok (.slice A' (n + 1) c') w2 ∧
      w2.frozen? ⟨b, 0 + 16, none⟩ = false ∧ (∃ y, w2.cell? ⟨b, 0 + 16, none⟩ = some y) ∧
      EE (w2.setCell ⟨b, 16, none⟩ (.slice A' (n + 1) c')) L' K b s { E with ev := E.ev ++ [x], out := E.out ++ saids [x] } ∧ Tn w (w2.setCell ⟨b, 16, none⟩ (.slice A' (n + 1) c')) L L' (Es K) ∧
      ∀ b0, w.heap.size ≤ b0 → b0 < w1.heap.size → (w1.alloc (.cells #[.int .i64 x.k, .int .i64 x.n, .slice A x.da.length c, .int .i64 x.pk.k, .int .i64 x.pk.pa, .int .i64 x.pk.nu, .int .i64 x.pk.ofn, .int .i64 x.pk.fr, .slice B x.pk.da.length d, .bool x.pk.fin, .int .i64 x.pk.se, .int .i64 x.pk.li] 88)).heap[b0]? = w1.heap[b0]? ∧ w2.heap[b0]? = w1.heap[b0]? ∧ (w2.setCell ⟨b, 16, none⟩ (.slice A' (n + 1) c')).heap[b0]? = w1.heap[b0]? := by
  obtain ⟨w1a, hw1a⟩ : ∃ V, w1.alloc (.cells #[.int .i64 x.k, .int .i64 x.n, .slice A x.da.length c, .int .i64 x.pk.k, .int .i64 x.pk.pa, .int .i64 x.pk.nu, .int .i64 x.pk.ofn, .int .i64 x.pk.fr, .slice B x.pk.da.length d, .bool x.pk.fin, .int .i64 x.pk.se, .int .i64 x.pk.li] 88) = V := ⟨_, rfl⟩
  rw [hw1a]
  have hba1 : Below w1.heap.size w1 w1a := by rw [← hw1a]; exact (Below.refl _ _).alloc (Nat.le_refl _) _
  have hba : Below w.heap.size w w1a := hb.trans (hba1.mono hb.size)
  have h1 := h.grow hba 0
  have hl1 := alloc_liesE w1 (x.cs A c B d) 88
  rw [show w1.alloc (.cells (x.cs A c B d).toArray 88) = w1a from hw1a] at hl1
  have hm : (⟨x, A, c, B, d⟩ : EvM).mine w1a (relab L w.heap.size 0) := ⟨hbd, ⟨(o1.later hba1).less (Nat.zero_le _), OfV.new (fun g hg => (o1.lt g hg).1)⟩, ⟨(o2.later hba1).less (Nat.zero_le _), OfV.new (fun g hg => (o2.lt g hg).1)⟩⟩
  obtain ⟨A', c', w2, hrun, ho, hg⟩ := run_appEv h1.p.evs hm (by omega) n hn ⟨w1.heap.size, 0, none⟩ 1 hl1 hn2 51
  have hdrop : saids ((E.ev ++ [x]).drop q.to) = E.out ++ saids [x] := by rw [List.drop_append_of_le_length h1.to1, saids_app, ← h1.to2]
  obtain ⟨h2, ht2⟩ := h1.turnE (E' := { E with ev := E.ev ++ [x], out := E.out ++ saids [x] }) hK ho hg rfl rfl (by show q.to ≤ (E.ev ++ [x]).length; rw [List.length_append]; have := h1.to1; omega) hdrop.symm
  have hrow := (Tn.of_row (S := fun x => x = K + 6) hg h1.p.evs.lab rfl).row h1.row h1.lb (by omega)
  refine ⟨A', c', w2, _, ?_, by rw [hv] at hrun; exact hrun, World.rowIs.frozen hrow 16, ⟨_, World.rowIs.cell (i := 16) hrow (by omega)⟩, ⟨_, h2⟩, (Tn.of_below hba L 0 (Es K)).trans (ht2.mono (fun x hx => by unfold Es; omega)), fun b0 hb0 hb1 => ?_⟩
  · have := h1.cell 16 (by omega)
    rw [show (eeL s q E).getD 16 undef = q.ev from rfl, hv] at this
    exact this
  · have e1 : w1a.heap[b0]? = w1.heap[b0]? := hba1.block b0 hb1
    have hne : q.ev.ownBlock ≠ some b0 := fun e => by have := h.p.evs.lt _ e; omega
    have e2 : w2.heap[b0]? = w1a.heap[b0]? := hg.block b0 (by have := hba1.size; omega) (fun e => hne e.symm)
    have hlt2 : b0 < w2.heap.size := by have := hg.size; have := hba1.size; omega
    have e3 : (w2.setCell ⟨b, 16, none⟩ (.slice A' (n + 1) c')).heap[b0]? = w2.heap[b0]? := (setCell_one w2 b 16 _).block b0 hlt2 (fun e => by have := Option.some.inj e; have := h.lt; omega)
    exact ⟨e1, e2.trans e1, e3.trans (e2.trans e1)⟩
theorem rangeAt_block {w w' : World} {b0 : Nat} {cs : List Value} (h : w.rangeAt b0 0 cs) (hb : w'.heap[b0]? = w.heap[b0]?) : w'.rangeAt b0 0 cs := fun j u hj => by
  rw [World.cell?_of_block hb]
  exact h j u hj

end Go.Proofs.YtpjlnpnadkbakaaGreat

/-
  An event in a variable ('EvV'), and what is known while the statements' helps make an event out of another one ('EE'). No function of the program.
-/
import Derived.Test.YtbjneoeiognahaaPlayMath
import Derived.Test.YtbjneoeiognahaaEvList
namespace Go.Proofs.Ytbjneoeiognahaa
open Go.RowKit

/-- Block q is a variable that holds the event e. -/
def EvV (w : World) (q : Nat) (e : Ev) (A : Option Addr) (c : Nat) (B : Option Addr) (d : Nat) : Prop := w.rowIs q 60 12 (fun i => (e.cs A c B d).getD i undef)
/-- An event whose numbers are ints, and whose bytes are few. -/
structure EvB (e : Ev) : Prop where
  byt : ∀ x ∈ e.da, 0 ≤ x ∧ x < 256
  len : e.da.length ≤ 4096
  bk : -9223372036854775808 ≤ e.k ∧ e.k ≤ 9223372036854775807
  bn : -9223372036854775808 ≤ e.n ∧ e.n ≤ 9223372036854775807
  pk : PkB e.pk
section
variable {w w' : World} {q : Nat} {e : Ev} {A : Option Addr} {c : Nat} {B : Option Addr} {d : Nat}
set_option maxRecDepth 10000 in
theorem EvV.lt (h : EvV w q e A c B d) : q < w.heap.size := World.rowIs.lt h
set_option maxRecDepth 10000 in
theorem EvV.cells (h : EvV w q e A c B d) : EvIn w q 0 e A c B d :=
  ⟨World.rowIs.cell (i := 0) h (by omega), World.rowIs.cell (i := 1) h (by omega), World.rowIs.cell (i := 2) h (by omega), World.rowIs.cell (i := 3) h (by omega), World.rowIs.cell (i := 4) h (by omega), World.rowIs.cell (i := 5) h (by omega),
    World.rowIs.cell (i := 6) h (by omega), World.rowIs.cell (i := 7) h (by omega), World.rowIs.cell (i := 8) h (by omega), World.rowIs.cell (i := 9) h (by omega), World.rowIs.cell (i := 10) h (by omega), World.rowIs.cell (i := 11) h (by omega)⟩
set_option maxRecDepth 10000 in
theorem EvV.fr (h : EvV w q e A c B d) (i : Nat) : w.frozen? ⟨q, i, none⟩ = false := World.rowIs.frozen h i
set_option maxRecDepth 10000 in
theorem EvV.later (h : EvV w q e A c B d) (hb : Below w.heap.size w w') : EvV w' q e A c B d := World.rowIs.of_block h (hb.block q h.lt)
set_option maxRecDepth 10000 in
theorem EvV.kept {r : Nat} (h : EvV w q e A c B d) (hg : w.grownBy w' (some r)) (hne : q ≠ r) : EvV w' q e A c B d := World.rowIs.of_block h (hg.block q h.lt (by simp; exact hne))
set_option maxRecDepth 10000 in
theorem EvV.new (w : World) (e : Ev) (A : Option Addr) (c : Nat) (B : Option Addr) (d : Nat) : EvV (w.alloc (.cells (e.cs A c B d).toArray 60)) w.heap.size e A c B d :=
  World.rowIs_alloc w (e.cs A c B d).toArray 60 _ (fun i hi => by
    have : i < 12 := hi
    match i, this with
    | 0, _ | 1, _ | 2, _ | 3, _ | 4, _ | 5, _ | 6, _ | 7, _ | 8, _ | 9, _ | 10, _ | 11, _ => rfl)
set_option maxRecDepth 10000 in
theorem EvV.setI {i : Nat} {v : Value} {e' : Ev} {A' : Option Addr} {c' : Nat} {B' : Option Addr} {d' : Nat} (h : EvV w q e A c B d) (he : ∀ j, j < 12 → (if j = i then v else (e.cs A c B d).getD j undef) = (e'.cs A' c' B' d').getD j undef) :
    EvV (w.setCell ⟨q, i, none⟩ v) q e' A' c' B' d' := (World.rowIs.set h i v).congr he
set_option maxRecDepth 10000 in
theorem EvV.kin (h : EvV w q e A c B d) (x : Int) : EvV (w.setCell ⟨q, 0, none⟩ (.int .i64 x)) q { e with k := x } A c B d := h.setI fun j hj => by
  match j, hj with
  | 0, _ | 1, _ | 2, _ | 3, _ | 4, _ | 5, _ | 6, _ | 7, _ | 8, _ | 9, _ | 10, _ | 11, _ => rfl
set_option maxRecDepth 10000 in
theorem EvV.nin (h : EvV w q e A c B d) (x : Int) : EvV (w.setCell ⟨q, 1, none⟩ (.int .i64 x)) q { e with n := x } A c B d := h.setI fun j hj => by
  match j, hj with
  | 0, _ | 1, _ | 2, _ | 3, _ | 4, _ | 5, _ | 6, _ | 7, _ | 8, _ | 9, _ | 10, _ | 11, _ => rfl
set_option maxRecDepth 10000 in
theorem EvV.dat (h : EvV w q e A c B d) (l : List Int) (A' : Option Addr) (c' : Nat) : EvV (w.setCell ⟨q, 2, none⟩ (.slice A' l.length c')) q { e with da := l } A' c' B d := h.setI fun j hj => by
  match j, hj with
  | 0, _ | 1, _ | 2, _ | 3, _ | 4, _ | 5, _ | 6, _ | 7, _ | 8, _ | 9, _ | 10, _ | 11, _ => rfl
set_option maxRecDepth 10000 in
theorem EvV.s3 (h : EvV w q e A c B d) (x : Int) : EvV (w.setCell ⟨q, 3, none⟩ (.int .i64 x)) q { e with pk := { e.pk with k := x } } A c B d := h.setI fun j hj => by
  match j, hj with
  | 0, _ | 1, _ | 2, _ | 3, _ | 4, _ | 5, _ | 6, _ | 7, _ | 8, _ | 9, _ | 10, _ | 11, _ => rfl
set_option maxRecDepth 10000 in
theorem EvV.s4 (h : EvV w q e A c B d) (x : Int) : EvV (w.setCell ⟨q, 4, none⟩ (.int .i64 x)) q { e with pk := { e.pk with pa := x } } A c B d := h.setI fun j hj => by
  match j, hj with
  | 0, _ | 1, _ | 2, _ | 3, _ | 4, _ | 5, _ | 6, _ | 7, _ | 8, _ | 9, _ | 10, _ | 11, _ => rfl
set_option maxRecDepth 10000 in
theorem EvV.s5 (h : EvV w q e A c B d) (x : Int) : EvV (w.setCell ⟨q, 5, none⟩ (.int .i64 x)) q { e with pk := { e.pk with nu := x } } A c B d := h.setI fun j hj => by
  match j, hj with
  | 0, _ | 1, _ | 2, _ | 3, _ | 4, _ | 5, _ | 6, _ | 7, _ | 8, _ | 9, _ | 10, _ | 11, _ => rfl
set_option maxRecDepth 10000 in
theorem EvV.s6 (h : EvV w q e A c B d) (x : Int) : EvV (w.setCell ⟨q, 6, none⟩ (.int .i64 x)) q { e with pk := { e.pk with ofn := x } } A c B d := h.setI fun j hj => by
  match j, hj with
  | 0, _ | 1, _ | 2, _ | 3, _ | 4, _ | 5, _ | 6, _ | 7, _ | 8, _ | 9, _ | 10, _ | 11, _ => rfl
set_option maxRecDepth 10000 in
theorem EvV.s7 (h : EvV w q e A c B d) (x : Int) : EvV (w.setCell ⟨q, 7, none⟩ (.int .i64 x)) q { e with pk := { e.pk with fr := x } } A c B d := h.setI fun j hj => by
  match j, hj with
  | 0, _ | 1, _ | 2, _ | 3, _ | 4, _ | 5, _ | 6, _ | 7, _ | 8, _ | 9, _ | 10, _ | 11, _ => rfl
set_option maxRecDepth 10000 in
theorem EvV.s8 (h : EvV w q e A c B d) (l : List Int) (B' : Option Addr) (d' : Nat) : EvV (w.setCell ⟨q, 8, none⟩ (.slice B' l.length d')) q { e with pk := { e.pk with da := l } } A c B' d' := h.setI fun j hj => by
  match j, hj with
  | 0, _ | 1, _ | 2, _ | 3, _ | 4, _ | 5, _ | 6, _ | 7, _ | 8, _ | 9, _ | 10, _ | 11, _ => rfl
set_option maxRecDepth 10000 in
theorem EvV.s9 (h : EvV w q e A c B d) (x : Bool) : EvV (w.setCell ⟨q, 9, none⟩ (.bool x)) q { e with pk := { e.pk with fin := x } } A c B d := h.setI fun j hj => by
  match j, hj with
  | 0, _ | 1, _ | 2, _ | 3, _ | 4, _ | 5, _ | 6, _ | 7, _ | 8, _ | 9, _ | 10, _ | 11, _ => rfl
set_option maxRecDepth 10000 in
theorem EvV.s10 (h : EvV w q e A c B d) (x : Int) : EvV (w.setCell ⟨q, 10, none⟩ (.int .i64 x)) q { e with pk := { e.pk with se := x } } A c B d := h.setI fun j hj => by
  match j, hj with
  | 0, _ | 1, _ | 2, _ | 3, _ | 4, _ | 5, _ | 6, _ | 7, _ | 8, _ | 9, _ | 10, _ | 11, _ => rfl
set_option maxRecDepth 10000 in
theorem EvV.s11 (h : EvV w q e A c B d) (x : Int) : EvV (w.setCell ⟨q, 11, none⟩ (.int .i64 x)) q { e with pk := { e.pk with li := x } } A c B d := h.setI fun j hj => by
  match j, hj with
  | 0, _ | 1, _ | 2, _ | 3, _ | 4, _ | 5, _ | 6, _ | 7, _ | 8, _ | 9, _ | 10, _ | 11, _ => rfl
set_option maxRecDepth 10000 in
/-- A packet is stored into it. -/
theorem EvV.pkt (h : EvV w q e A c B d) (pk : Pkt) (B' : Option Addr) (d' : Nat) : EvV (w.setCells q 3 (pk.cs B' d')) q { e with pk := pk } A c B' d' :=
  (((((((((h.s3 pk.k).s4 pk.pa).s5 pk.nu).s6 pk.ofn).s7 pk.fr).s8 pk.da B' d').s9 pk.fin).s10 pk.se).s11 pk.li)
set_option maxRecDepth 10000 in
/-- All of it is stored. -/
theorem EvV.all (h : EvV w q e A c B d) (e' : Ev) (A' : Option Addr) (c' : Nat) (B' : Option Addr) (d' : Nat) : EvV (w.setCells q 0 (e'.cs A' c' B' d')) q e' A' c' B' d' :=
  ((((((((((((h.kin e'.k).nin e'.n).dat e'.da A' c').s3 e'.pk.k).s4 e'.pk.pa).s5 e'.pk.nu).s6 e'.pk.ofn).s7 e'.pk.fr).s8 e'.pk.da B' d').s9 e'.pk.fin).s10 e'.pk.se).s11 e'.pk.li)
set_option maxRecDepth 10000 in
theorem EvV.there (h : EvV w q e A c B d) : w.there q 0 12 := fun j hj =>
  ⟨by rw [World.rowIs.cell (i := 0 + j) h (by omega)]; rfl, h.fr _⟩
set_option maxRecDepth 10000 in
theorem EvV.res (h : EvV w q e A c B d) (e' : Ev) (A' : Option Addr) (c' : Nat) (B' : Option Addr) (d' : Nat) :
    (loadVar 60 ⟨q, 0, none⟩).run Try.prog (w.setCells q 0 (e'.cs A' c' B' d')) = .ok (e'.val A' c' B' d') (w.setCells q 0 (e'.cs A' c' B' d')) :=
  run_loadVar_mid _ q 0 60 (e'.cs A' c' B' d') _ (World.rangeAt_setCells_same w q 0 (e'.cs A' c' B' d') h.there) Try.underlying60 rfl (by kernel_rfl)
set_option maxRecDepth 10000 in
theorem own_not_ev {v : Value} {B0 q : Nat} {ys : List Int} (h : Own .u8 5 w B0 v ys) (hr : EvV w q e A c B d) : v.ownBlock = none ∨ v.ownBlock ≠ some q := own_not_row h (by decide) hr
end
set_option maxRecDepth 10000 in
theorem EvIn.pkRange {w : World} {b : Nat} {e : Ev} {A : Option Addr} {c : Nat} {B : Option Addr} {d : Nat} (h : EvIn w b 0 e A c B d) : w.rangeAt b 3 (e.pk.cs B d) := fun j v hv => by
  have h9 := h.range (3 + j) v (by simpa [Ev.cs, Pkt.cs, Nat.add_comm 3 j] using hv)
  simpa using h9

set_option maxRecDepth 10000 in
theorem EvIn.q1 {w : World} {b : Nat} {e : Ev} {A : Option Addr} {c : Nat} {B : Option Addr} {d : Nat} (h : EvIn w b 0 e A c B d) : w.cell? ⟨b, 1, none⟩ = some (.int .i64 e.n) := h.c1
set_option maxRecDepth 10000 in
theorem EvIn.q2 {w : World} {b : Nat} {e : Ev} {A : Option Addr} {c : Nat} {B : Option Addr} {d : Nat} (h : EvIn w b 0 e A c B d) : w.cell? ⟨b, 2, none⟩ = some (.slice A e.da.length c) := h.c2
/-- The event that came in lies in block b; the one that is made in block q; the result in block z. -/
structure EE (w wx : World) (b z q : Nat) (e0 : Ev) (A : Option Addr) (c : Nat) (B : Option Addr) (d : Nat) (ev : Ev) (A' : Option Addr) (c' : Nat) (B' : Option Addr) (d' : Nat) : Prop where
  par : EvIn wx b 0 e0 A c B d
  p0 : EvAt w e0 A c B d
  zr : EvV wx z Ev.zero none 0 none 0
  v : EvV wx q ev A' c' B' d'
  o1 : Own .u8 5 wx w.heap.size (.slice A' ev.da.length c') ev.da
  o2 : Own .u8 5 wx w.heap.size (.slice B' ev.pk.da.length d') ev.pk.da
  bd : EvB ev
  bel : Below w.heap.size w wx
  b0 : w.heap.size = b
  zq : z < q
  bq : b < q
  bz : b < z
section
variable {w wx w' : World} {b z q : Nat} {e0 : Ev} {A : Option Addr} {c : Nat} {B : Option Addr} {d : Nat} {ev ev' : Ev} {A' A2 : Option Addr} {c' c2 : Nat} {B' B2 : Option Addr} {d' d2 : Nat}
set_option maxRecDepth 10000 in
theorem EE.later (h : EE w wx b z q e0 A c B d ev A' c' B' d') (hb : Below wx.heap.size wx w') : EE w w' b z q e0 A c B d ev A' c' B' d' :=
  ⟨h.par.later hb, h.p0, h.zr.later hb, h.v.later hb, h.o1.later hb, h.o2.later hb, h.bd, h.bel.trans (hb.mono h.bel.size), h.b0, h.zq, h.bq, h.bz⟩
set_option maxRecDepth 10000 in
theorem EE.pat (h : EE w wx b z q e0 A c B d ev A' c' B' d') : EvAt wx e0 A c B d := h.p0.later h.bel
set_option maxRecDepth 10000 in
/-- A store into what is made. -/
theorem EE.store (h : EE w wx b z q e0 A c B d ev A' c' B' d') (hg : wx.grownBy w' (some q)) (hv : EvV w' q ev' A2 c2 B2 d2) (o1 : Own .u8 5 wx w.heap.size (.slice A2 ev'.da.length c2) ev'.da)
    (o2 : Own .u8 5 wx w.heap.size (.slice B2 ev'.pk.da.length d2) ev'.pk.da) (bd : EvB ev') : EE w w' b z q e0 A c B d ev' A2 c2 B2 d2 := by
  have hbq := h.bq
  have hzq := h.zq
  have hb0 := h.b0
  have hne : b ≠ q := by omega
  exact ⟨⟨cell_other hg hne h.par.c0, cell_other hg hne h.par.c1, cell_other hg hne h.par.c2, cell_other hg hne h.par.c3, cell_other hg hne h.par.c4, cell_other hg hne h.par.c5, cell_other hg hne h.par.c6, cell_other hg hne h.par.c7, cell_other hg hne h.par.c8, cell_other hg hne h.par.c9, cell_other hg hne h.par.c10, cell_other hg hne h.par.c11⟩,
    h.p0, h.zr.kept hg (by omega), hv, o1.kept hg (own_not_ev o1 h.v), o2.kept hg (own_not_ev o2 h.v), bd, h.bel.grown hg h.bel.size (by intro g e; simp at e; omega), h.b0, h.zq, h.bq, h.bz⟩
set_option maxRecDepth 10000 in
/-- Behind a store of the result. -/
theorem EE.put (h : EE w wx b z q e0 A c B d ev A' c' B' d') (vs : List Value) : Own .u8 5 (wx.setCells z 0 vs) w.heap.size (.slice A' ev.da.length c') ev.da ∧ Own .u8 5 (wx.setCells z 0 vs) w.heap.size (.slice B' ev.pk.da.length d') ev.pk.da ∧ Below w.heap.size w (wx.setCells z 0 vs) := by
  have hg := setCells_one z vs 0 wx
  have hbz := h.bz
  have hb0 := h.b0
  exact ⟨h.o1.kept hg (own_not_ev h.o1 h.zr), h.o2.kept hg (own_not_ev h.o2 h.zr), h.bel.grown hg h.bel.size (by intro g e; simp at e; omega)⟩
set_option maxRecDepth 10000 in
/-- A row elsewhere grows. -/
theorem EE.grow (h : EE w wx b z q e0 A c B d ev A' c' B' d') {r : Option Nat} (hg : wx.grownBy w' r) (hr : ∀ g, r = some g → w.heap.size ≤ g ∧ b ≠ g ∧ z ≠ g ∧ q ≠ g) (o1 : Own .u8 5 w' w.heap.size (.slice A' ev.da.length c') ev.da)
    (o2 : Own .u8 5 w' w.heap.size (.slice B' ev.pk.da.length d') ev.pk.da) : EE w w' b z q e0 A c B d ev A' c' B' d' := by
  have nb : some b ≠ r := fun e => (hr b e.symm).2.1 rfl
  have nz : some z ≠ r := fun e => (hr z e.symm).2.2.1 rfl
  have nq : some q ≠ r := fun e => (hr q e.symm).2.2.2 rfl
  have kb : ∀ i v, wx.cell? ⟨b, i, none⟩ = some v → w'.cell? ⟨b, i, none⟩ = some v := fun i v hv => by
    rw [World.cell?_of_block (a := ⟨b, i, none⟩) (hg.block b (World.block_lt_of_cell? wx _ hv) nb)]
    exact hv
  exact ⟨⟨kb _ _ h.par.c0, kb _ _ h.par.c1, kb _ _ h.par.c2, kb _ _ h.par.c3, kb _ _ h.par.c4, kb _ _ h.par.c5, kb _ _ h.par.c6, kb _ _ h.par.c7, kb _ _ h.par.c8, kb _ _ h.par.c9, kb _ _ h.par.c10, kb _ _ h.par.c11⟩,
    h.p0, World.rowIs.of_block h.zr (hg.block z h.zr.lt nz), World.rowIs.of_block h.v (hg.block q h.v.lt nq), o1, o2, h.bd, h.bel.grown hg h.bel.size (fun g e => (hr g e).1), h.b0, h.zq, h.bq, h.bz⟩
set_option maxRecDepth 10000 in
theorem EvB.kin (h : EvB ev) {x : Int} (hx : -9223372036854775808 ≤ x ∧ x ≤ 9223372036854775807) : EvB { ev with k := x } := { h with bk := hx }
set_option maxRecDepth 10000 in
theorem EvB.nin (h : EvB ev) {x : Int} (hx : -9223372036854775808 ≤ x ∧ x ≤ 9223372036854775807) : EvB { ev with n := x } := { h with bn := hx }
set_option maxRecDepth 10000 in
theorem EvB.dat (h : EvB ev) {l : List Int} (hb : ∀ x ∈ l, 0 ≤ x ∧ x < 256) (hl : l.length ≤ 4096) : EvB { ev with da := l } := { h with byt := hb, len := hl }
set_option maxRecDepth 10000 in
theorem EvB.pkt (h : EvB ev) {pk : Pkt} (hp : PkB pk) : EvB { ev with pk := pk } := { h with pk := hp }
set_option maxRecDepth 10000 in
theorem EvB.zero : EvB Ev.zero := ⟨by intro x hx; simp [Ev.zero] at hx, by decide, by decide, by decide, PkB.zero⟩
end
end Go.Proofs.Ytbjneoeiognahaa

/-
  EvMem · EnMath.
-/
import Derived.Test.YtpjlnpnadkbakaaGreatQBCountMath
import Derived.Test.YtpjlnpnadkbakaaGreatQBFlight2
import Derived.Test.YtpjlnpnadkbakaaGreatQBRangesMath
namespace Go.Proofs.YtpjlnpnadkbakaaGreat
set_option maxRecDepth 10000
open Go.RowKit
structure Ev where
  k : Int
  n : Int
  da : List Int
  pk : Pkt
def Ev.same (a b : Ev) : Bool := decide (a.k = b.k) && decide (a.n = b.n) && decide (a.da = b.da) && a.pk.same b.pk
def Ev.ok (e : Ev) : Bool :=
  if e.k = 1 ∨ e.k = 2 then decide (1 ≤ e.da.length) && decide (e.da.length ≤ 4096) && decide (e.n = 0) && e.pk.same Pkt.zero
  else if e.k = 3 then decide (1 ≤ e.n) && decide (e.n ≤ 1048576) && decide (e.da.length = 0) && e.pk.same Pkt.zero
  else if e.k = 4 ∨ e.k = 5 then e.pk.ok && decide (e.n = 0) && decide (e.da.length = 0)
  else if e.k = 6 then decide (e.n = 0) && decide (e.da.length = 0) && e.pk.same Pkt.zero
  else if e.k = 7 ∨ e.k = 8 then inB e.n 2 && decide (e.da.length = 0) && e.pk.same Pkt.zero
  else false
def Ev.cs (e : Ev) (A : Option Addr) (c : Nat) (B : Option Addr) (d : Nat) : List Value :=
  [.int .i64 e.k, .int .i64 e.n, .slice A e.da.length c, .int .i64 e.pk.k, .int .i64 e.pk.pa, .int .i64 e.pk.nu, .int .i64 e.pk.ofn, .int .i64 e.pk.fr, .slice B e.pk.da.length d, .bool e.pk.fin, .int .i64 e.pk.se, .int .i64 e.pk.li]
def Ev.val (e : Ev) (A : Option Addr) (c : Nat) (B : Option Addr) (d : Nat) : Value :=
  .agg #[.int .i64 e.k, .int .i64 e.n, .slice A e.da.length c, .int .i64 e.pk.k, .int .i64 e.pk.pa, .int .i64 e.pk.nu, .int .i64 e.pk.ofn, .int .i64 e.pk.fr, .slice B e.pk.da.length d, .bool e.pk.fin, .int .i64 e.pk.se, .int .i64 e.pk.li]
def Ev.zero : Ev := ⟨0, 0, [], Pkt.zero⟩
structure EvAt (w : World) (e : Ev) (A : Option Addr) (c : Nat) (B : Option Addr) (d : Nat) : Prop where
  rd : Rd .u8 w A e.da
  reach : e.da.length ≤ 9223372036854775807
  cap : e.da.length ≤ c
  nil : A = none → c = 0
  byt : ∀ x ∈ e.da, 0 ≤ x ∧ x < 256
  bk : -9223372036854775808 ≤ e.k ∧ e.k ≤ 9223372036854775807
  bn : -9223372036854775808 ≤ e.n ∧ e.n ≤ 9223372036854775807
  pk : PktAt w e.pk B d
structure EvIn (w : World) (b o : Nat) (e : Ev) (A : Option Addr) (c : Nat) (B : Option Addr) (d : Nat) : Prop where
  c0 : w.cell? ⟨b, o, none⟩ = some (.int .i64 e.k)
  c1 : w.cell? ⟨b, o + 1, none⟩ = some (.int .i64 e.n)
  c2 : w.cell? ⟨b, o + 2, none⟩ = some (.slice A e.da.length c)
  c3 : w.cell? ⟨b, o + 3, none⟩ = some (.int .i64 e.pk.k)
  c4 : w.cell? ⟨b, o + 4, none⟩ = some (.int .i64 e.pk.pa)
  c5 : w.cell? ⟨b, o + 5, none⟩ = some (.int .i64 e.pk.nu)
  c6 : w.cell? ⟨b, o + 6, none⟩ = some (.int .i64 e.pk.ofn)
  c7 : w.cell? ⟨b, o + 7, none⟩ = some (.int .i64 e.pk.fr)
  c8 : w.cell? ⟨b, o + 8, none⟩ = some (.slice B e.pk.da.length d)
  c9 : w.cell? ⟨b, o + 9, none⟩ = some (.bool e.pk.fin)
  c10 : w.cell? ⟨b, o + 10, none⟩ = some (.int .i64 e.pk.se)
  c11 : w.cell? ⟨b, o + 11, none⟩ = some (.int .i64 e.pk.li)
section
variable {w w' : World} {e : Ev} {A B : Option Addr} {c d : Nat}
theorem EvAt.later (h : EvAt w e A c B d) (hb : Below w.heap.size w w') : EvAt w' e A c B d := { h with rd := h.rd.later hb, pk := h.pk.later hb }
theorem EvAt.drewN (h : EvAt w e A c B d) (n : Nat) : EvAt (w.drewN n) e A c B d := { h with rd := h.rd, pk := h.pk.drewN n }
theorem EvAt.drew (h : EvAt w e A c B d) : EvAt w.drew e A c B d := { h with rd := h.rd, pk := h.pk.drew }
theorem EvAt.alloc (h : EvAt w e A c B d) (o : Obj) : EvAt (w.alloc o) e A c B d := { h with rd := h.rd.alloc o, pk := h.pk.alloc o }
theorem EvAt.zero (w : World) : EvAt w Ev.zero none 0 none 0 :=
  ⟨.inl rfl, by decide, by decide, fun _ => rfl, by intro x hx; simp [Ev.zero] at hx, by decide, by decide, ⟨.inl rfl, by decide, by decide, fun _ => rfl, by intro x hx; simp [Ev.zero, Pkt.zero] at hx, by decide, by decide, by decide, by decide, by decide, by decide, by decide⟩⟩
theorem evIn_of {b o : Nat} (h : w.rangeAt b o (e.cs A c B d)) : EvIn w b o e A c B d :=
  ⟨by simpa using h 0 _ rfl, h 1 _ rfl, h 2 _ rfl, h 3 _ rfl, h 4 _ rfl, h 5 _ rfl, h 6 _ rfl, h 7 _ rfl, h 8 _ rfl, h 9 _ rfl, h 10 _ rfl, h 11 _ rfl⟩
theorem Ev.range (w : World) (e : Ev) (A : Option Addr) (c : Nat) (B : Option Addr) (d : Nat) (t : TypeId) : (w.alloc (.cells (e.cs A c B d).toArray t)).rangeAt w.heap.size 0 (e.cs A c B d) := by
  have h := World.rangeAt_of_block (C := (e.cs A c B d).toArray) (t := t) (fr := (0, 0)) (heap_alloc_new w _) 0 (e.cs A c B d).length
  simpa using h
theorem EvIn.below {b o K : Nat} (h : EvIn w b o e A c B d) (hb : Below K w w') (hB : b < K) : EvIn w' b o e A c B d :=
  ⟨(hb.cell hB).trans h.c0, (hb.cell hB).trans h.c1, (hb.cell hB).trans h.c2, (hb.cell hB).trans h.c3, (hb.cell hB).trans h.c4, (hb.cell hB).trans h.c5, (hb.cell hB).trans h.c6, (hb.cell hB).trans h.c7, (hb.cell hB).trans h.c8,
    (hb.cell hB).trans h.c9, (hb.cell hB).trans h.c10, (hb.cell hB).trans h.c11⟩
theorem Ev.same_iff {a b : Ev} : a.same b = true ↔ a = b := by
  obtain ⟨k, n, da, pk⟩ := a
  obtain ⟨k', n', da', pk'⟩ := b
  simp only [Ev.same, Bool.and_eq_true, decide_eq_true_eq, Pkt.same_iff, Ev.mk.injEq]
  constructor
  · rintro ⟨⟨⟨h1, h2⟩, h3⟩, h4⟩
    exact ⟨h1, h2, h3, h4⟩
  · rintro ⟨h1, h2, h3, h4⟩
    exact ⟨⟨⟨h1, h2⟩, h3⟩, h4⟩
end
instance : DecidableEq Ev := fun a b => decidable_of_iff (a.same b = true) Ev.same_iff
structure EvM where
  e : Ev
  A : Option Addr
  c : Nat
  B : Option Addr
  d : Nat
instance : Inhabited EvM := ⟨⟨Ev.zero, none, 0, none, 0⟩⟩
def EvM.cs (m : EvM) : List Value := m.e.cs m.A m.c m.B m.d
def EvM.val (m : EvM) : Value := m.e.val m.A m.c m.B m.d
def EvM.at (w : World) (m : EvM) : Prop := EvAt w m.e m.A m.c m.B m.d
def EvM.lies (w : World) (b o : Nat) (m : EvM) : Prop := EvIn w b o m.e m.A m.c m.B m.d
structure Evs (w : World) (A : Option Addr) (ms : List EvM) : Prop where
  each : ∀ m ∈ ms, m.at w
  lie : ms = [] ∨ ∃ b off, A = some ⟨b, off, none⟩ ∧ ∀ i, i < ms.length → (ms.getD i default).lies w b (off + i * 12)
theorem EvIn.later {w w' : World} {b o : Nat} {e : Ev} {A B : Option Addr} {c d : Nat} (h : EvIn w b o e A c B d) (hb : Below w.heap.size w w') : EvIn w' b o e A c B d :=
  h.below hb (World.block_lt_of_cell? w _ h.c0)
theorem EvM.at.later {w w' : World} {m : EvM} (h : m.at w) (hb : Below w.heap.size w w') : m.at w' := EvAt.later h hb
theorem EvM.lies.later {w w' : World} {b o : Nat} {m : EvM} (h : m.lies w b o) (hb : Below w.heap.size w w') : m.lies w' b o := EvIn.later h hb
theorem Evs.later {w w' : World} {A : Option Addr} {ms : List EvM} (h : Evs w A ms) (hb : Below w.heap.size w w') : Evs w' A ms := by
  refine ⟨fun m hm => (h.each m hm).later hb, ?_⟩
  rcases h.lie with e | ⟨b, off, e, hl⟩
  · exact .inl e
  · exact .inr ⟨b, off, e, fun i hi => (hl i hi).later hb⟩
theorem Evs.nil (w : World) (A : Option Addr) : Evs w A [] := ⟨by simp, .inl rfl⟩
theorem Evs.drewN {w : World} {A : Option Addr} {ms : List EvM} (h : Evs w A ms) (n : Nat) : Evs (w.drewN n) A ms := h.later (below_drewN' (Below.refl _ _) n)
theorem EvIn.range {w : World} {b o : Nat} {e : Ev} {A B : Option Addr} {c d : Nat} (h : EvIn w b o e A c B d) : w.rangeAt b o (e.cs A c B d) := fun j v hv => by
  have hj : j < 12 := (List.getElem?_eq_some_iff.1 hv).1
  obtain ⟨c0, c1, c2, c3, c4, c5, c6, c7, c8, c9, c10, c11⟩ := h
  match j, hj, hv with
  | 0, _, rfl => exact c0
  | 1, _, rfl => exact c1
  | 2, _, rfl => exact c2
  | 3, _, rfl => exact c3
  | 4, _, rfl => exact c4
  | 5, _, rfl => exact c5
  | 6, _, rfl => exact c6
  | 7, _, rfl => exact c7
  | 8, _, rfl => exact c8
  | 9, _, rfl => exact c9
  | 10, _, rfl => exact c10
  | 11, _, rfl => exact c11
theorem Ev.same_dec (a b : Ev) : a.same b = decide (a = b) := by
  rw [Bool.eq_iff_iff, Ev.same_iff, decide_eq_true_eq]
def EvV (w : World) (q : Nat) (e : Ev) (A : Option Addr) (c : Nat) (B : Option Addr) (d : Nat) : Prop := w.rowIs q 88 12 (fun i => (e.cs A c B d).getD i undef)
structure EvB (e : Ev) : Prop where
  byt : ∀ x ∈ e.da, 0 ≤ x ∧ x < 256
  len : e.da.length ≤ 4096
  bk : -9223372036854775808 ≤ e.k ∧ e.k ≤ 9223372036854775807
  bn : -9223372036854775808 ≤ e.n ∧ e.n ≤ 9223372036854775807
  pk : PkB e.pk
section
variable {w w' : World} {q : Nat} {e : Ev} {A : Option Addr} {c : Nat} {B : Option Addr} {d : Nat} {ev : Ev}
theorem EvV.lt (h : EvV w q e A c B d) : q < w.heap.size := World.rowIs.lt h
theorem EvV.cells (h : EvV w q e A c B d) : EvIn w q 0 e A c B d :=
  ⟨World.rowIs.cell (i := 0) h (by omega), World.rowIs.cell (i := 1) h (by omega), World.rowIs.cell (i := 2) h (by omega), World.rowIs.cell (i := 3) h (by omega), World.rowIs.cell (i := 4) h (by omega), World.rowIs.cell (i := 5) h (by omega),
    World.rowIs.cell (i := 6) h (by omega), World.rowIs.cell (i := 7) h (by omega), World.rowIs.cell (i := 8) h (by omega), World.rowIs.cell (i := 9) h (by omega), World.rowIs.cell (i := 10) h (by omega), World.rowIs.cell (i := 11) h (by omega)⟩
theorem EvV.fr (h : EvV w q e A c B d) (i : Nat) : w.frozen? ⟨q, i, none⟩ = false := World.rowIs.frozen h i
theorem EvV.later (h : EvV w q e A c B d) (hb : Below w.heap.size w w') : EvV w' q e A c B d := World.rowIs.of_block h (hb.block q h.lt)
theorem EvV.kept {r : Nat} (h : EvV w q e A c B d) (hg : w.grownBy w' (some r)) (hne : q ≠ r) : EvV w' q e A c B d := World.rowIs.of_block h (hg.block q h.lt (by simp; exact hne))
theorem EvV.new (w : World) (e : Ev) (A : Option Addr) (c : Nat) (B : Option Addr) (d : Nat) : EvV (w.alloc (.cells (e.cs A c B d).toArray 88)) w.heap.size e A c B d :=
  World.rowIs_alloc w (e.cs A c B d).toArray 88 _ (fun i hi => by
    have : i < 12 := hi
    match i, this with
    | 0, _ | 1, _ | 2, _ | 3, _ | 4, _ | 5, _ | 6, _ | 7, _ | 8, _ | 9, _ | 10, _ | 11, _ => rfl)
theorem EvV.setI {i : Nat} {v : Value} {e' : Ev} {A' : Option Addr} {c' : Nat} {B' : Option Addr} {d' : Nat} (h : EvV w q e A c B d) (he : ∀ j, j < 12 → (if j = i then v else (e.cs A c B d).getD j undef) = (e'.cs A' c' B' d').getD j undef) :
    EvV (w.setCell ⟨q, i, none⟩ v) q e' A' c' B' d' := (World.rowIs.set h i v).congr he
theorem EvV.kin (h : EvV w q e A c B d) (x : Int) : EvV (w.setCell ⟨q, 0, none⟩ (.int .i64 x)) q { e with k := x } A c B d := h.setI fun j hj => by
  match j, hj with
  | 0, _ | 1, _ | 2, _ | 3, _ | 4, _ | 5, _ | 6, _ | 7, _ | 8, _ | 9, _ | 10, _ | 11, _ => rfl
theorem EvV.nin (h : EvV w q e A c B d) (x : Int) : EvV (w.setCell ⟨q, 1, none⟩ (.int .i64 x)) q { e with n := x } A c B d := h.setI fun j hj => by
  match j, hj with
  | 0, _ | 1, _ | 2, _ | 3, _ | 4, _ | 5, _ | 6, _ | 7, _ | 8, _ | 9, _ | 10, _ | 11, _ => rfl
theorem EvV.dat (h : EvV w q e A c B d) (l : List Int) (A' : Option Addr) (c' : Nat) : EvV (w.setCell ⟨q, 2, none⟩ (.slice A' l.length c')) q { e with da := l } A' c' B d := h.setI fun j hj => by
  match j, hj with
  | 0, _ | 1, _ | 2, _ | 3, _ | 4, _ | 5, _ | 6, _ | 7, _ | 8, _ | 9, _ | 10, _ | 11, _ => rfl
theorem EvV.s3 (h : EvV w q e A c B d) (x : Int) : EvV (w.setCell ⟨q, 3, none⟩ (.int .i64 x)) q { e with pk := { e.pk with k := x } } A c B d := h.setI fun j hj => by
  match j, hj with
  | 0, _ | 1, _ | 2, _ | 3, _ | 4, _ | 5, _ | 6, _ | 7, _ | 8, _ | 9, _ | 10, _ | 11, _ => rfl
theorem EvV.s4 (h : EvV w q e A c B d) (x : Int) : EvV (w.setCell ⟨q, 4, none⟩ (.int .i64 x)) q { e with pk := { e.pk with pa := x } } A c B d := h.setI fun j hj => by
  match j, hj with
  | 0, _ | 1, _ | 2, _ | 3, _ | 4, _ | 5, _ | 6, _ | 7, _ | 8, _ | 9, _ | 10, _ | 11, _ => rfl
theorem EvV.s5 (h : EvV w q e A c B d) (x : Int) : EvV (w.setCell ⟨q, 5, none⟩ (.int .i64 x)) q { e with pk := { e.pk with nu := x } } A c B d := h.setI fun j hj => by
  match j, hj with
  | 0, _ | 1, _ | 2, _ | 3, _ | 4, _ | 5, _ | 6, _ | 7, _ | 8, _ | 9, _ | 10, _ | 11, _ => rfl
theorem EvV.s6 (h : EvV w q e A c B d) (x : Int) : EvV (w.setCell ⟨q, 6, none⟩ (.int .i64 x)) q { e with pk := { e.pk with ofn := x } } A c B d := h.setI fun j hj => by
  match j, hj with
  | 0, _ | 1, _ | 2, _ | 3, _ | 4, _ | 5, _ | 6, _ | 7, _ | 8, _ | 9, _ | 10, _ | 11, _ => rfl
theorem EvV.s7 (h : EvV w q e A c B d) (x : Int) : EvV (w.setCell ⟨q, 7, none⟩ (.int .i64 x)) q { e with pk := { e.pk with fr := x } } A c B d := h.setI fun j hj => by
  match j, hj with
  | 0, _ | 1, _ | 2, _ | 3, _ | 4, _ | 5, _ | 6, _ | 7, _ | 8, _ | 9, _ | 10, _ | 11, _ => rfl
theorem EvV.s8 (h : EvV w q e A c B d) (l : List Int) (B' : Option Addr) (d' : Nat) : EvV (w.setCell ⟨q, 8, none⟩ (.slice B' l.length d')) q { e with pk := { e.pk with da := l } } A c B' d' := h.setI fun j hj => by
  match j, hj with
  | 0, _ | 1, _ | 2, _ | 3, _ | 4, _ | 5, _ | 6, _ | 7, _ | 8, _ | 9, _ | 10, _ | 11, _ => rfl
theorem EvV.s9 (h : EvV w q e A c B d) (x : Bool) : EvV (w.setCell ⟨q, 9, none⟩ (.bool x)) q { e with pk := { e.pk with fin := x } } A c B d := h.setI fun j hj => by
  match j, hj with
  | 0, _ | 1, _ | 2, _ | 3, _ | 4, _ | 5, _ | 6, _ | 7, _ | 8, _ | 9, _ | 10, _ | 11, _ => rfl
theorem EvV.s10 (h : EvV w q e A c B d) (x : Int) : EvV (w.setCell ⟨q, 10, none⟩ (.int .i64 x)) q { e with pk := { e.pk with se := x } } A c B d := h.setI fun j hj => by
  match j, hj with
  | 0, _ | 1, _ | 2, _ | 3, _ | 4, _ | 5, _ | 6, _ | 7, _ | 8, _ | 9, _ | 10, _ | 11, _ => rfl
theorem EvV.s11 (h : EvV w q e A c B d) (x : Int) : EvV (w.setCell ⟨q, 11, none⟩ (.int .i64 x)) q { e with pk := { e.pk with li := x } } A c B d := h.setI fun j hj => by
  match j, hj with
  | 0, _ | 1, _ | 2, _ | 3, _ | 4, _ | 5, _ | 6, _ | 7, _ | 8, _ | 9, _ | 10, _ | 11, _ => rfl
theorem EvV.all (h : EvV w q e A c B d) (e' : Ev) (A' : Option Addr) (c' : Nat) (B' : Option Addr) (d' : Nat) : EvV (w.setCells q 0 (e'.cs A' c' B' d')) q e' A' c' B' d' :=
  ((((((((((((h.kin e'.k).nin e'.n).dat e'.da A' c').s3 e'.pk.k).s4 e'.pk.pa).s5 e'.pk.nu).s6 e'.pk.ofn).s7 e'.pk.fr).s8 e'.pk.da B' d').s9 e'.pk.fin).s10 e'.pk.se).s11 e'.pk.li)
theorem EvV.there (h : EvV w q e A c B d) : w.there q 0 12 := fun j hj =>
  ⟨by rw [World.rowIs.cell (i := 0 + j) h (by omega)]; rfl, h.fr _⟩
theorem EvV.res (h : EvV w q e A c B d) (e' : Ev) (A' : Option Addr) (c' : Nat) (B' : Option Addr) (d' : Nat) :
    (loadVar 88 ⟨q, 0, none⟩).run Tryz.prog (w.setCells q 0 (e'.cs A' c' B' d')) = .ok (e'.val A' c' B' d') (w.setCells q 0 (e'.cs A' c' B' d')) :=
  run_loadVar_mid _ q 0 88 (e'.cs A' c' B' d') _ (World.rangeAt_setCells_same w q 0 (e'.cs A' c' B' d') h.there) Tryz.underlying88 rfl (by kernel_rfl)
theorem own_not_ev {v : Value} {B0 q : Nat} {ys : List Int} (h : Own .u8 5 w B0 v ys) (hr : EvV w q e A c B d) : v.ownBlock = none ∨ v.ownBlock ≠ some q := own_not_row8 h (by decide) hr
theorem EvB.kin (h : EvB ev) {x : Int} (hx : -9223372036854775808 ≤ x ∧ x ≤ 9223372036854775807) : EvB { ev with k := x } := { h with bk := hx }
theorem EvB.dat (h : EvB ev) {l : List Int} (hb : ∀ x ∈ l, 0 ≤ x ∧ x < 256) (hl : l.length ≤ 4096) : EvB { ev with da := l } := { h with byt := hb, len := hl }
theorem EvB.pkt (h : EvB ev) {pk : Pkt} (hp : PkB pk) : EvB { ev with pk := pk } := { h with pk := hp }
theorem EvB.zero : EvB Ev.zero := ⟨by intro x hx; simp [Ev.zero] at hx, by decide, by decide, by decide, PkB.zero⟩
end
def evs (ms : List EvM) : List Value := ms.flatMap EvM.cs
theorem EvM.cs_len (m : EvM) : m.cs.length = 12 := rfl
theorem evs_cons (m : EvM) (ms : List EvM) : evs (m :: ms) = m.cs ++ evs ms := by simp [evs]
theorem evs_len (ms : List EvM) : (evs ms).length = ms.length * 12 := by
  induction ms with
  | nil => rfl
  | cons m ms ih => rw [evs_cons, List.length_append, ih, EvM.cs_len, List.length_cons]; omega
theorem evs_app (a b : List EvM) : evs (a ++ b) = evs a ++ evs b := by simp [evs]
theorem evs_get (ms : List EvM) (i : Nat) (hi : i < ms.length) (j : Nat) (hj : j < 12) : (evs ms)[i * 12 + j]? = (ms.getD i default).cs[j]? := by
  induction ms generalizing i with
  | nil => simp at hi
  | cons m ms ih =>
    rw [evs_cons]
    cases i with
    | zero =>
      rw [Nat.zero_mul, Nat.zero_add, List.getElem?_append_left (by rw [EvM.cs_len]; exact hj)]
      rfl
    | succ i =>
      rw [List.getElem?_append_right (by rw [EvM.cs_len]; omega), EvM.cs_len, show (i + 1) * 12 + j - 12 = i * 12 + j by omega, ih i (by simpa using hi)]
      simp [List.getD]
theorem EvM.cs_one (m : EvM) : ∀ u ∈ m.cs, u.oneCell' = true := by
  intro u hu
  simp only [EvM.cs, Ev.cs, List.mem_cons, List.not_mem_nil, or_false] at hu
  rcases hu with rfl | rfl | rfl | rfl | rfl | rfl | rfl | rfl | rfl | rfl | rfl | rfl <;> rfl
structure EvM.own (w : World) (B : Nat) (m : EvM) : Prop where
  bd : EvB m.e
  o1 : Own .u8 5 w B (.slice m.A m.e.da.length m.c) m.e.da
  o2 : Own .u8 5 w B (.slice m.B m.e.pk.da.length m.d) m.e.pk.da
structure EvRow (w : World) (B : Nat) (v : Value) (ms : List EvM) : Prop where
  row : w.ownsRow B 88 12 v ms.length (evs ms)
  each : ∀ m ∈ ms, m.own w B
section
variable {w w' : World} {B : Nat} {v : Value} {ms : List EvM} {m : EvM}
theorem EvM.own.later (h : m.own w B) (hb : Below w.heap.size w w') : m.own w' B := ⟨h.bd, h.o1.later hb, h.o2.later hb⟩
theorem EvM.own.at (h : m.own w B) : m.at w := by
  have hb := h.bd
  have hp := hb.pk
  exact ⟨h.o1.rd, by have := hb.len; omega, h.o1.cap, fun e => (h.o1.none_len e).1, hb.byt, hb.bk, hb.bn, pktAt_of h.o2 hp.byt (by have := hp.len; omega) hp.bk hp.bp hp.bn hp.bo hp.bf hp.bs hp.bl⟩
theorem EvM.own.less {B' : Nat} (h : m.own w B) (hB : B' ≤ B) : m.own w B' := ⟨h.bd, h.o1.less hB, h.o2.less hB⟩
theorem EvRow.nil (w : World) (B : Nat) : EvRow w B (.slice none 0 0) [] := ⟨World.ownsRow_nil w B _ 12, by simp⟩
theorem EvRow.later (h : EvRow w B v ms) (hb : Below w.heap.size w w') : EvRow w' B v ms :=
  ⟨World.ownsRow.kept (row := none) h.row ⟨hb.os, hb.tape, hb.output, hb.size, fun i hi _ => hb.block i hi⟩ (by cases v.ownBlock <;> simp), fun m hm => (h.each m hm).later hb⟩
theorem EvRow.form (h : EvRow w B v ms) : ∃ A c, v = .slice A ms.length c := by
  rcases h.row.2 with ⟨rfl, h0⟩ | ⟨g, cap, cur, rfl, _⟩
  · exact ⟨none, 0, by rw [h0]⟩
  · exact ⟨_, _, rfl⟩
theorem EvRow.lt (h : EvRow w B v ms) : ∀ g, v.ownBlock = some g → B ≤ g ∧ g < w.heap.size := World.ownsRow.lt h.row
theorem EvRow.less {B' : Nat} (h : EvRow w B v ms) (hB : B' ≤ B) : EvRow w B' v ms := by
  refine ⟨⟨h.row.1, ?_⟩, fun m hm => (h.each m hm).less hB⟩
  rcases h.row.2 with h2 | ⟨g, cap, cur, hv, hg, r⟩
  · exact .inl h2
  · exact .inr ⟨g, cap, cur, hv, Nat.le_trans hB hg, r⟩
theorem EvRow.evs {A : Option Addr} {n c : Nat} (h : EvRow w B (.slice A n c) ms) : Evs w A ms := by
  have hn : ms.length = n := by
    obtain ⟨A', c', hv⟩ := h.form
    injection hv with _ h2 _
    exact h2.symm
  refine ⟨fun m hm => (h.each m hm).at, ?_⟩
  rcases h.row.2 with ⟨hv, h0⟩ | ⟨g, cap, cur, hv, _⟩
  · exact .inl (List.eq_nil_of_length_eq_zero h0)
  · right
    have hr := h.row
    rw [hv] at hr
    injection hv with hA _ _
    refine ⟨g, 0, hA, fun i hi => evIn_of fun j u hu => ?_⟩
    have hj : j < 12 := (List.getElem?_eq_some_iff.1 hu).1
    rw [Nat.zero_add, hr.cellAt (i * 12 + j) (by omega), evs_get ms i hi j hj]
    exact hu
theorem own_not_evs {u : Value} {B0 : Nat} {ys : List Int} (h : Own .u8 5 w B0 u ys) (hr : EvRow w B v ms) : u.ownBlock = none ∨ u.ownBlock ≠ v.ownBlock := by
  rcases h.2 with ⟨hv, _⟩ | ⟨g, cap, cur, hv, _, hh, _⟩
  · left; rw [hv]; rfl
  · rcases hr.row.2 with ⟨hv2, _⟩ | ⟨g2, cap2, cur2, hv2, _, hh2, _⟩
    · right
      rw [hv, hv2]
      simp [Value.ownBlock]
    · right
      rw [hv, hv2]
      intro he
      simp only [Value.ownBlock, Option.some.injEq] at he
      subst he
      rw [hh] at hh2
      injection hh2 with hh2
      injection hh2 with _ ht
      exact absurd ht (by decide)
theorem EvM.own.kept (h : m.own w B) (hr : EvRow w B v ms) (hg : w.grownBy w' v.ownBlock) : m.own w' B := ⟨h.bd, h.o1.kept hg (own_not_evs h.o1 hr), h.o2.kept hg (own_not_evs h.o2 hr)⟩
theorem info_ev : (Tryz.prog.info? 88).map (fun i => (i.zero, i.size, i.bytes)) = some (some (Ev.zero.val none 0 none 0), 12, 128) := by kernel_rfl
end
end Go.Proofs.YtpjlnpnadkbakaaGreat
namespace Go.Proofs.YtpjlnpnadkbakaaGreat
set_option maxRecDepth 10000
structure Cg where
  np : Int
  buf : Int
  win : Int
  chk : Int
  most : Int
  first : Int
  sched : Int
def bump (m : Nat → Int) (i : Nat) (n : Int) : Nat → Int := fun j => if j = i then m j + n else m j
def pz : Pa := Pa.new 0 0
def firstAb (l : Int) : List Int → Option Int
  | [] => none
  | x :: xs => if l < x then some x else firstAb l xs
def bestI (ms C : List Int) : Nat → Nat
  | 0 => 0
  | n + 1 => if ms.getD (C.getD (n + 1) 0).toNat 0 < ms.getD (C.getD (bestI ms C n) 0).toNat 0 then n + 1 else bestI ms C n
def pickF (k l : Int) (ms : List Int) : List Int × Int :=
  if (can ms).length = 0 then ([], l)
  else if k = 3 then (can ms, l)
  else if k = 2 then ([(firstAb l (can ms)).getD ((can ms).getD 0 0)], (firstAb l (can ms)).getD ((can ms).getD 0 0))
  else ([(can ms).getD (bestI ms (can ms) ((can ms).length - 1)) 0], l)
theorem firstAb_some {l x : Int} : ∀ {L : List Int}, firstAb l L = some x → ∃ j, j < L.length ∧ L.getD j 0 = x ∧ l < x ∧ ∀ i, i < j → L.getD i 0 ≤ l := by
  intro L
  induction L with
  | nil => intro h; cases h
  | cons y ys ih =>
    intro h
    unfold firstAb at h
    split at h
    · next hy =>
      injection h with h
      subst h
      exact ⟨0, by simp, rfl, hy, fun i hi => by omega⟩
    · next hy =>
      obtain ⟨j, h1, h2, h3, h4⟩ := ih h
      refine ⟨j + 1, by simpa using h1, by simpa using h2, h3, fun i hi => ?_⟩
      cases i with
      | zero => simp; omega
      | succ i => simpa using h4 i (by omega)
theorem firstAb_none {l : Int} : ∀ {L : List Int}, firstAb l L = none → ∀ i, i < L.length → L.getD i 0 ≤ l := by
  intro L
  induction L with
  | nil => intro _ i hi; simp at hi
  | cons y ys ih =>
    intro h i hi
    unfold firstAb at h
    split at h
    · cases h
    · next hy =>
      cases i with
      | zero => simp; omega
      | succ i => simpa using ih h i (by simpa using hi)
theorem bestI_le (ms C : List Int) (n : Nat) : bestI ms C n ≤ n := by
  induction n with
  | zero => exact Nat.le_refl _
  | succ n ih =>
    unfold bestI
    split
    · exact Nat.le_refl _
    · omega
theorem bestI_all (ms C : List Int) (n : Nat) : ∀ j, j ≤ n → ms.getD (C.getD (bestI ms C n) 0).toNat 0 ≤ ms.getD (C.getD j 0).toNat 0 ∧ (j < bestI ms C n → ms.getD (C.getD (bestI ms C n) 0).toNat 0 < ms.getD (C.getD j 0).toNat 0) := by
  induction n with
  | zero =>
    intro j hj
    obtain rfl : j = 0 := by omega
    exact ⟨Int.le_refl _, fun h => by simp [bestI] at h⟩
  | succ n ih =>
    intro j hj
    unfold bestI
    split
    · next hlt =>
      by_cases e : j = n + 1
      · subst e
        exact ⟨Int.le_refl _, fun h => by omega⟩
      · have := (ih j (by omega)).1
        exact ⟨by omega, fun _ => by omega⟩
    · next hlt =>
      by_cases e : j = n + 1
      · subst e
        have := bestI_le ms C n
        exact ⟨by omega, fun h => by omega⟩
      · exact ih j (by omega)
theorem pickF_is (k l : Int) (ms : List Int) : IsPick k l ms (pickF k l ms).1 (pickF k l ms).2 := by
  unfold pickF
  by_cases h0 : (can ms).length = 0
  · rw [if_pos h0]
    exact .inl ⟨can_none.2 (List.eq_nil_of_length_eq_zero h0), rfl, rfl⟩
  · rw [if_neg h0]
    have hn : ¬ NoneU ms := fun h => h0 (by rw [can_none.1 h]; rfl)
    by_cases h3 : k = 3
    · rw [if_pos h3]
      exact .inr ⟨hn, .inl ⟨h3, rfl, rfl⟩⟩
    · rw [if_neg h3]
      by_cases h2 : k = 2
      · rw [if_pos h2]
        refine .inr ⟨hn, .inr (.inl ⟨h2, ?_⟩)⟩
        cases hf : firstAb l (can ms) with
        | none =>
          obtain ⟨b, h4, h5⟩ := round_wrap (by omega) (firstAb_none hf)
          exact ⟨b, h5, by rw [Option.getD_none, h4], by rw [Option.getD_none, h4]⟩
        | some x =>
          obtain ⟨j, h4, h5, h6, h7⟩ := firstAb_some hf
          obtain ⟨b, h8, h9⟩ := round_found h4 h7 (by rw [h5]; exact h6)
          exact ⟨b, h9, by rw [h5] at h8; simp [h8], by rw [h5] at h8; simp [h8]⟩
      · rw [if_neg h2]
        have hle := bestI_le ms (can ms) ((can ms).length - 1)
        obtain ⟨b, h4, h5⟩ := quick_best (ms := ms) (B := bestI ms (can ms) ((can ms).length - 1)) (by omega) (fun j hj => bestI_all ms (can ms) _ j (by omega))
        exact .inr ⟨hn, .inr (.inr ⟨h2, h3, b, h5, by rw [h4], rfl⟩)⟩
namespace In
def frontF (g : Int → Option Int) : Nat → Int → Int
  | 0, n => n
  | k + 1, n => if g n = none then n else frontF g k (n + 1)
def front (s : In) : Int := frontF s.g (s.tk + s.win).toNat 0
def seen (s : In) : Int := if 0 ≤ s.en ∧ s.en ≤ s.front then s.en + 1 else s.front
def limit (s : In) : Int := s.tk + s.win
def ready (s : In) : Int := s.front - s.tk
def done (s : In) : Bool := decide (0 ≤ s.en ∧ s.tk = s.en)
def many (s : In) (n : Int) : Nat := (min (max n 0) s.ready).toNat
def next (s : In) (k : Nat) : List Int := (List.range k).map fun (j : Nat) => (s.g (s.tk + (j : Int))).getD 0
theorem frontF_is {g : Int → Option Int} : ∀ (k : Nat) (n : Int), 0 ≤ n → (∀ j, 0 ≤ j → j < n → g j ≠ none) → g (n + (k : Int)) = none → Front g (frontF g k n) := by
  intro k
  induction k with
  | zero => intro n h0 h1 h2; exact ⟨h0, h1, by rw [show n + ((0 : Nat) : Int) = n by omega] at h2; exact h2⟩
  | succ k ih =>
    intro n h0 h1 h2
    unfold frontF
    split
    · next h => exact ⟨h0, h1, h⟩
    · next h =>
      refine ih (n + 1) (by omega) (fun j h3 h4 => ?_) (by rw [show n + 1 + (k : Int) = n + ((k + 1 : Nat) : Int) by omega]; exact h2)
      by_cases e : j = n
      · rw [e]; exact h
      · exact h1 j h3 (by omega)
variable {s : In}
theorem front_is (h : s.ok) : Front s.g s.front := frontF_is _ 0 (Int.le_refl _) (fun j h1 h2 => by omega) (by
  by_cases e : s.g (0 + ((s.tk + s.win).toNat : Int)) = none
  · exact e
  · have := (h.rng _ e).2
    have := h.t0
    have := h.w0
    omega)
theorem tk_le (h : s.ok) : s.tk ≤ s.front := by
  by_cases e : s.tk ≤ s.front
  · exact e
  · exact absurd (front_is h).no (h.had _ (front_is h).ge (by omega))
end In
structure En where
  c : Cg
  side : Int
  now : Int
  ps : List Pa
  due : List Int
  limit : Int
  o : Ou
  pl : Pl
  i : In
  k : Int
  l : Int
  ev : List Ev
  out : List Pkt
  m : Nat → Int
def evP (k : Int) (p : Pkt) : Ev := ⟨k, 0, [], p⟩
def Pkt.num (p : Pkt) (n : Int) : Pkt := ⟨p.k, p.pa, n, p.ofn, p.fr, p.da, p.fin, p.se, p.li⟩
def ackP (P : Pa) (x now : Int) : Pa := match P.fl.findIdx? (fun q => q.n == x) with | some i => P.acked i now | none => P
namespace En
def pa (E : En) (i : Nat) : Pa := E.ps.getD i pz
def setP (E : En) (i : Nat) (P : Pa) : En := { E with ps := E.ps.set i P }
def note (E : En) (x : Ev) : En := { E with ev := E.ev ++ [x], m := bump E.m 0 1 }
def say1 (E : En) (i : Nat) (p : Pkt) : En :=
  { E with ps := E.ps.set i (E.pa i).num, out := E.out ++ [p.num (E.pa i).sent], ev := E.ev ++ [evP 5 (p.num (E.pa i).sent)], m := bump (bump (bump E.m 0 1) 1 1) 2 (p.da.length : Int) }
def say (E : En) (i : Nat) (p : Pkt) : En := if (E.pa i).sent ≤ 65535 then E.say1 i p else E
def sayOut (E : En) (i : Nat) (p : Pkt) (f t : Int) : En :=
  if (E.pa i).sent ≤ 65535 then (E.say1 i p).setP i ((E.pa i).num.out ⟨(E.pa i).sent, f, t, E.now⟩) else E
def dataP (E : En) (i f t : Int) : Pkt := ⟨3, i, 0, 0, f, E.o.cut f t, E.o.fin f t, 0, 0⟩
def data (E : En) (i f t : Int) : En := E.sayOut i.toNat (E.dataP i f t) f t
def datas (E : En) (f t : Int) (L : List Int) : En := L.foldl (fun E i => E.data i f t) E
def means (E : En) : List Int := E.ps.map fun P => if P.usable && !P.be then P.g.mean else -1
def alls (E : En) : List Int := can (E.ps.map fun P => if P.usable then 0 else -1)
def fresh (E : En) : Bool := E.ps.any fun P => P.usable && !P.be
def usable (E : En) : Bool := E.ps.any Pa.usable
def chosen (E : En) : List Int := if E.fresh then (pickF E.k E.l E.means).1 else E.alls
def choose (E : En) : En := if E.fresh then { E with l := (pickF E.k E.l E.means).2 } else E
def nx (E : En) : Nx := E.pl.next E.o E.limit E.c.chk
def setPl (E : En) (p : Pl) : En := { E with pl := p }
def piece (E : En) : En := ((E.setPl E.nx.p).choose).datas E.nx.f E.nx.t (E.setPl E.nx.p).chosen
def pumpF : Nat → En → En
  | 0, E => E
  | n + 1, E => if E.usable then (if E.nx.ok then pumpF n E.piece else E.setPl E.nx.p) else E
def left (E : En) : Nat := (cntL E.pl.ls + (4097 - E.pl.sent)).toNat
def pump (E : En) : En := pumpF (E.left + 1) E
def setO (E : En) (o : Ou) : En := { E with o := o }
def setI (E : En) (i : In) : En := { E with i := i }
def count (E : En) (j : Nat) (n : Int) : En := { E with m := bump E.m j n }
def takes (E : En) (ys : List Int) : Nat := (min (ys.length : Int) E.o.room).toNat
def write (E : En) (ys : List Int) : En :=
  if 0 < E.takes ys then ((((E.setO (E.o.more (ys.take (E.takes ys)))).note ⟨1, 0, ys.take (E.takes ys), Pkt.zero⟩)).count 5 (E.takes ys)).pump else E.setO (E.o.more (ys.take (E.takes ys)))
def readN (E : En) (n : Int) : List Int := E.i.next (E.i.many n)
def read (E : En) (n : Int) : En :=
  if 0 < E.i.many n then ((E.setI (E.i.read (E.i.many n))).note ⟨2, 0, E.readN n, Pkt.zero⟩).count 6 (E.i.many n) else E.setI (E.i.read (E.i.many n))
def close (E : En) : En := if E.o.cl then E else ((E.setO E.o.shut).note ⟨6, 0, [], Pkt.zero⟩).pump
def give1 (E : En) (q : Qd) : En := { E with pl := E.pl.lost q.f q.t, m := bump E.m 7 1 }
def given (E : En) (L : List Qd) : En := L.foldl give1 E
def setDue (E : En) (i : Nat) (d : Int) : En := { E with due := E.due.set i d }
def join (E : En) (i : Nat) : En := (E.say i ⟨1, i, 0, 0, 0, [], false, 0, 0⟩).setDue i (E.now + E.c.first)
def dueJ (E : En) (i : Nat) : Bool := decide (E.side = 0) && (E.pa i).up && !(E.pa i).jo && decide (E.due.getD i 0 ≤ E.now)
def tick1 (E : En) (i : Nat) : En := if E.dueJ i then E.join i else (E.setP i ((E.pa i).lateN E.now)).given ((E.pa i).lates E.now)
def tickN (E : En) : Nat → En
  | 0 => E
  | n + 1 => (E.tickN n).tick1 n
def flying (E : En) : Int := (E.ps.map fun P => (P.fl.length : Int)).sum
def probeP (E : En) (i : Int) : Pkt := ⟨3, i, 0, 0, E.o.ak, [], false, 0, 0⟩
def probes (E : En) (L : List Int) : En := L.foldl (fun E i => E.sayOut i.toNat (E.probeP i) E.o.ak E.o.ak) E
def probe (E : En) : En := if E.flying = 0 ∧ E.o.ak < E.o.places then E.choose.probes E.chosen else E
def mayT (E : En) (now : Int) : Bool := decide (E.now < now) && decide (now ≤ 1048576)
def setNow (E : En) (now : Int) : En := { E with now := now }
def tick (E : En) (now : Int) : En := if E.mayT now then ((((E.setNow now).note ⟨3, now, [], Pkt.zero⟩).tickN E.ps.length).pump).probe else E
def there (E : En) (i : Int) : Bool := decide (0 ≤ i) && decide (i < (E.ps.length : Int))
def mayU (E : En) (i : Int) : Bool := E.there i && !(E.pa i.toNat).up
def up (E : En) (i : Int) : En :=
  if E.mayU i then
    let F := (E.note ⟨7, i, [], Pkt.zero⟩).setP i.toNat ((E.pa i.toNat).setUp true)
    if E.side = 0 ∧ (E.pa i.toNat).jo = false then F.join i.toNat else F.pump
  else E
def mayD (E : En) (i : Int) : Bool := E.there i && (E.pa i.toNat).up
def down (E : En) (i : Int) : En :=
  if E.mayD i then (((E.note ⟨8, i, [], Pkt.zero⟩).setP i.toNat (E.pa i.toNat).down).given (E.pa i.toNat).fl).pump else E
def mayC (E : En) (p : Pkt) : Bool :=
  p.ok && decide (p.pa < (E.ps.length : Int)) && (E.pa p.pa.toNat).up &&
    (if p.k = 1 then decide (E.side = 1) else if p.k = 2 then decide (E.side = 0) && decide (p.ofn < (E.pa p.pa.toNat).sent) else if p.k = 3 then (E.pa p.pa.toNat).jo
    else decide (p.ofn < (E.pa p.pa.toNat).sent) && decide (p.se ≤ E.pl.sent))
def setLim (E : En) (n : Int) : En := { E with limit := n }
noncomputable def came (E : En) (p : Pkt) : En :=
  let F := (E.note (evP 4 p)).count 3 1
  if p.k = 1 then (F.setP p.pa.toNat ((E.pa p.pa.toNat).setJo true)).say p.pa.toNat ⟨2, p.pa, 0, p.nu, 0, [], false, 0, 0⟩
  else if p.k = 2 then (F.setP p.pa.toNat ((E.pa p.pa.toNat).setJo true)).pump
  else if p.k = 3 then
    let G := F.setI (E.i.put p.fr p.da p.fin)
    G.say p.pa.toNat ⟨4, p.pa, 0, p.nu, 0, [], false, G.i.seen, G.i.limit⟩
  else (((F.setP p.pa.toNat (ackP (E.pa p.pa.toNat) p.ofn E.now)).setO (E.o.ack p.se)).setLim (max E.limit p.li)).pump
noncomputable def come (E : En) (p : Pkt) : En := if E.mayC p then E.came p else E.count 4 1
def taken (E : En) : En := { E with out := [] }
def done (E : En) : Bool := E.o.cl && decide (E.o.ak = E.o.places) && E.i.done
def meter (E : En) : List Int := (List.range 8).map E.m
def new (c : Cg) (side : Int) : En :=
  ⟨c, side, 0, List.replicate c.np.toNat (Pa.new c.first c.most), List.replicate c.np.toNat 0, c.win, Ou.new c.buf, Pl.new, In.new c.win, c.sched, -1, [], [], fun _ => 0⟩
end En
end Go.Proofs.YtpjlnpnadkbakaaGreat

/-
  EvMem.
-/
import Derived.Test.YtpjlnpnadkbakaaGreatQEcSchedMath
namespace Go.Proofs.YtpjlnpnadkbakaaGreat
set_option maxRecDepth 10000
open Go.RowKit

/-- An event. -/
structure Ev where
  k : Int
  n : Int
  da : List Int
  pk : Pkt
/-- All fields are alike. -/
def Ev.same (a b : Ev) : Bool := decide (a.k = b.k) && decide (a.n = b.n) && decide (a.da = b.da) && a.pk.same b.pk
/-- An event that may be. -/
def Ev.ok (e : Ev) : Bool :=
  if e.k = 1 ∨ e.k = 2 then decide (1 ≤ e.da.length) && decide (e.da.length ≤ 4096) && decide (e.n = 0) && e.pk.same Pkt.zero
  else if e.k = 3 then decide (1 ≤ e.n) && decide (e.n ≤ 1048576) && decide (e.da.length = 0) && e.pk.same Pkt.zero
  else if e.k = 4 ∨ e.k = 5 then e.pk.ok && decide (e.n = 0) && decide (e.da.length = 0)
  else if e.k = 6 then decide (e.n = 0) && decide (e.da.length = 0) && e.pk.same Pkt.zero
  else if e.k = 7 ∨ e.k = 8 then inB e.n 2 && decide (e.da.length = 0) && e.pk.same Pkt.zero
  else false
/-- An event as cells. -/
def Ev.cs (e : Ev) (A : Option Addr) (c : Nat) (B : Option Addr) (d : Nat) : List Value :=
  [.int .i64 e.k, .int .i64 e.n, .slice A e.da.length c, .int .i64 e.pk.k, .int .i64 e.pk.pa, .int .i64 e.pk.nu, .int .i64 e.pk.ofn, .int .i64 e.pk.fr, .slice B e.pk.da.length d, .bool e.pk.fin, .int .i64 e.pk.se, .int .i64 e.pk.li]
/-- The same, whole. -/
def Ev.val (e : Ev) (A : Option Addr) (c : Nat) (B : Option Addr) (d : Nat) : Value :=
  .agg #[.int .i64 e.k, .int .i64 e.n, .slice A e.da.length c, .int .i64 e.pk.k, .int .i64 e.pk.pa, .int .i64 e.pk.nu, .int .i64 e.pk.ofn, .int .i64 e.pk.fr, .slice B e.pk.da.length d, .bool e.pk.fin, .int .i64 e.pk.se, .int .i64 e.pk.li]
/-- No event. -/
def Ev.zero : Ev := ⟨0, 0, [], Pkt.zero⟩
/-- Its numbers are ints, its bytes bytes, and these are read where the value says. -/
structure EvAt (w : World) (e : Ev) (A : Option Addr) (c : Nat) (B : Option Addr) (d : Nat) : Prop where
  rd : Rd .u8 w A e.da
  reach : e.da.length ≤ 9223372036854775807
  cap : e.da.length ≤ c
  nil : A = none → c = 0
  byt : ∀ x ∈ e.da, 0 ≤ x ∧ x < 256
  bk : -9223372036854775808 ≤ e.k ∧ e.k ≤ 9223372036854775807
  bn : -9223372036854775808 ≤ e.n ∧ e.n ≤ 9223372036854775807
  pk : PktAt w e.pk B d
/-- The cells of an event in a block, from a place on. -/
structure EvIn (w : World) (b o : Nat) (e : Ev) (A : Option Addr) (c : Nat) (B : Option Addr) (d : Nat) : Prop where
  c0 : w.cell? ⟨b, o, none⟩ = some (.int .i64 e.k)
  c1 : w.cell? ⟨b, o + 1, none⟩ = some (.int .i64 e.n)
  c2 : w.cell? ⟨b, o + 2, none⟩ = some (.slice A e.da.length c)
  c3 : w.cell? ⟨b, o + 3, none⟩ = some (.int .i64 e.pk.k)
  c4 : w.cell? ⟨b, o + 4, none⟩ = some (.int .i64 e.pk.pa)
  c5 : w.cell? ⟨b, o + 5, none⟩ = some (.int .i64 e.pk.nu)
  c6 : w.cell? ⟨b, o + 6, none⟩ = some (.int .i64 e.pk.ofn)
  c7 : w.cell? ⟨b, o + 7, none⟩ = some (.int .i64 e.pk.fr)
  c8 : w.cell? ⟨b, o + 8, none⟩ = some (.slice B e.pk.da.length d)
  c9 : w.cell? ⟨b, o + 9, none⟩ = some (.bool e.pk.fin)
  c10 : w.cell? ⟨b, o + 10, none⟩ = some (.int .i64 e.pk.se)
  c11 : w.cell? ⟨b, o + 11, none⟩ = some (.int .i64 e.pk.li)

section
variable {w w' : World} {e : Ev} {A B : Option Addr} {c d : Nat}
theorem EvAt.later (h : EvAt w e A c B d) (hb : Below w.heap.size w w') : EvAt w' e A c B d := { h with rd := h.rd.later hb, pk := h.pk.later hb }
theorem EvAt.drewN (h : EvAt w e A c B d) (n : Nat) : EvAt (w.drewN n) e A c B d := { h with rd := h.rd, pk := h.pk.drewN n }
theorem EvAt.drew (h : EvAt w e A c B d) : EvAt w.drew e A c B d := { h with rd := h.rd, pk := h.pk.drew }
theorem EvAt.alloc (h : EvAt w e A c B d) (o : Obj) : EvAt (w.alloc o) e A c B d := { h with rd := h.rd.alloc o, pk := h.pk.alloc o }
theorem EvAt.zero (w : World) : EvAt w Ev.zero none 0 none 0 :=
  ⟨.inl rfl, by decide, by decide, fun _ => rfl, by intro x hx; simp [Ev.zero] at hx, by decide, by decide, ⟨.inl rfl, by decide, by decide, fun _ => rfl, by intro x hx; simp [Ev.zero, Pkt.zero] at hx, by decide, by decide, by decide, by decide, by decide, by decide, by decide⟩⟩
theorem evIn_of {b o : Nat} (h : w.rangeAt b o (e.cs A c B d)) : EvIn w b o e A c B d :=
  ⟨by simpa using h 0 _ rfl, h 1 _ rfl, h 2 _ rfl, h 3 _ rfl, h 4 _ rfl, h 5 _ rfl, h 6 _ rfl, h 7 _ rfl, h 8 _ rfl, h 9 _ rfl, h 10 _ rfl, h 11 _ rfl⟩
theorem Ev.range (w : World) (e : Ev) (A : Option Addr) (c : Nat) (B : Option Addr) (d : Nat) (t : TypeId) : (w.alloc (.cells (e.cs A c B d).toArray t)).rangeAt w.heap.size 0 (e.cs A c B d) := by
  have h := World.rangeAt_of_block (C := (e.cs A c B d).toArray) (t := t) (fr := (0, 0)) (heap_alloc_new w _) 0 (e.cs A c B d).length
  simpa using h
theorem EvIn.below {b o K : Nat} (h : EvIn w b o e A c B d) (hb : Below K w w') (hB : b < K) : EvIn w' b o e A c B d :=
  ⟨(hb.cell hB).trans h.c0, (hb.cell hB).trans h.c1, (hb.cell hB).trans h.c2, (hb.cell hB).trans h.c3, (hb.cell hB).trans h.c4, (hb.cell hB).trans h.c5, (hb.cell hB).trans h.c6, (hb.cell hB).trans h.c7, (hb.cell hB).trans h.c8,
    (hb.cell hB).trans h.c9, (hb.cell hB).trans h.c10, (hb.cell hB).trans h.c11⟩
theorem Ev.same_iff {a b : Ev} : a.same b = true ↔ a = b := by
  obtain ⟨k, n, da, pk⟩ := a
  obtain ⟨k', n', da', pk'⟩ := b
  simp only [Ev.same, Bool.and_eq_true, decide_eq_true_eq, Pkt.same_iff, Ev.mk.injEq]
  constructor
  · rintro ⟨⟨⟨h1, h2⟩, h3⟩, h4⟩
    exact ⟨h1, h2, h3, h4⟩
  · rintro ⟨h1, h2, h3, h4⟩
    exact ⟨⟨⟨h1, h2⟩, h3⟩, h4⟩
end
instance : DecidableEq Ev := fun a b => decidable_of_iff (a.same b = true) Ev.same_iff
/-- An event, and where its bytes and its packet's bytes lie. -/
structure EvM where
  e : Ev
  A : Option Addr
  c : Nat
  B : Option Addr
  d : Nat
instance : Inhabited EvM := ⟨⟨Ev.zero, none, 0, none, 0⟩⟩
/-- Its cells. -/
def EvM.cs (m : EvM) : List Value := m.e.cs m.A m.c m.B m.d
def EvM.val (m : EvM) : Value := m.e.val m.A m.c m.B m.d
/-- What it says is there. -/
def EvM.at (w : World) (m : EvM) : Prop := EvAt w m.e m.A m.c m.B m.d
/-- It lies in a block from a place on. -/
def EvM.lies (w : World) (b o : Nat) (m : EvM) : Prop := EvIn w b o m.e m.A m.c m.B m.d
/-- From the address A on memory holds these events. -/
structure Evs (w : World) (A : Option Addr) (ms : List EvM) : Prop where
  each : ∀ m ∈ ms, m.at w
  lie : ms = [] ∨ ∃ b off, A = some ⟨b, off, none⟩ ∧ ∀ i, i < ms.length → (ms.getD i default).lies w b (off + i * 12)

theorem EvIn.later {w w' : World} {b o : Nat} {e : Ev} {A B : Option Addr} {c d : Nat} (h : EvIn w b o e A c B d) (hb : Below w.heap.size w w') : EvIn w' b o e A c B d :=
  h.below hb (World.block_lt_of_cell? w _ h.c0)
theorem EvM.at.later {w w' : World} {m : EvM} (h : m.at w) (hb : Below w.heap.size w w') : m.at w' := EvAt.later h hb
theorem EvM.lies.later {w w' : World} {b o : Nat} {m : EvM} (h : m.lies w b o) (hb : Below w.heap.size w w') : m.lies w' b o := EvIn.later h hb
theorem Evs.later {w w' : World} {A : Option Addr} {ms : List EvM} (h : Evs w A ms) (hb : Below w.heap.size w w') : Evs w' A ms := by
  refine ⟨fun m hm => (h.each m hm).later hb, ?_⟩
  rcases h.lie with e | ⟨b, off, e, hl⟩
  · exact .inl e
  · exact .inr ⟨b, off, e, fun i hi => (hl i hi).later hb⟩
theorem Evs.nil (w : World) (A : Option Addr) : Evs w A [] := ⟨by simp, .inl rfl⟩
theorem Evs.drewN {w : World} {A : Option Addr} {ms : List EvM} (h : Evs w A ms) (n : Nat) : Evs (w.drewN n) A ms := h.later (below_drewN' (Below.refl _ _) n)
theorem Evs.get {w : World} {A : Option Addr} {ms : List EvM} (h : Evs w A ms) {i : Nat} (hi : i < ms.length) : (ms.getD i default).at w := h.each _ (by simp [List.getD, hi])
theorem evs_ext {ms ns : List EvM} (hl : ms.length = ns.length) (h : ∀ i, i < ms.length → (ms.getD i default).e = (ns.getD i default).e) : ms.map EvM.e = ns.map EvM.e := by
  apply List.ext_getElem (by simpa using hl)
  intro i h1 h2
  have hi : i < ms.length := by simpa using h1
  have hj : i < ns.length := by simpa using h2
  have := h i hi
  simpa [List.getD, hi, hj] using this
theorem evs_ne {ms ns : List EvM} {i : Nat} (hi : i < ms.length) (h : (ms.getD i default).e ≠ (ns.getD i default).e) (hl : ms.length = ns.length) : ms.map EvM.e ≠ ns.map EvM.e := fun e => h (by
  have hj : i < ns.length := by omega
  have h9 : (ms.map EvM.e)[i]? = (ns.map EvM.e)[i]? := by rw [e]
  simpa [List.getD, hi, hj] using h9)
theorem EvIn.range {w : World} {b o : Nat} {e : Ev} {A B : Option Addr} {c d : Nat} (h : EvIn w b o e A c B d) : w.rangeAt b o (e.cs A c B d) := fun j v hv => by
  have hj : j < 12 := (List.getElem?_eq_some_iff.1 hv).1
  obtain ⟨c0, c1, c2, c3, c4, c5, c6, c7, c8, c9, c10, c11⟩ := h
  match j, hj, hv with
  | 0, _, rfl => exact c0
  | 1, _, rfl => exact c1
  | 2, _, rfl => exact c2
  | 3, _, rfl => exact c3
  | 4, _, rfl => exact c4
  | 5, _, rfl => exact c5
  | 6, _, rfl => exact c6
  | 7, _, rfl => exact c7
  | 8, _, rfl => exact c8
  | 9, _, rfl => exact c9
  | 10, _, rfl => exact c10
  | 11, _, rfl => exact c11
theorem Ev.same_dec (a b : Ev) : a.same b = decide (a = b) := by
  rw [Bool.eq_iff_iff, Ev.same_iff, decide_eq_true_eq]
/-- Block q is a variable that holds the event e. -/
def EvV (w : World) (q : Nat) (e : Ev) (A : Option Addr) (c : Nat) (B : Option Addr) (d : Nat) : Prop := w.rowIs q 88 12 (fun i => (e.cs A c B d).getD i undef)
/-- An event whose numbers are ints, and whose bytes are few. -/
structure EvB (e : Ev) : Prop where
  byt : ∀ x ∈ e.da, 0 ≤ x ∧ x < 256
  len : e.da.length ≤ 4096
  bk : -9223372036854775808 ≤ e.k ∧ e.k ≤ 9223372036854775807
  bn : -9223372036854775808 ≤ e.n ∧ e.n ≤ 9223372036854775807
  pk : PkB e.pk
section
variable {w w' : World} {q : Nat} {e : Ev} {A : Option Addr} {c : Nat} {B : Option Addr} {d : Nat} {ev : Ev}
theorem EvV.lt (h : EvV w q e A c B d) : q < w.heap.size := World.rowIs.lt h
theorem EvV.cells (h : EvV w q e A c B d) : EvIn w q 0 e A c B d :=
  ⟨World.rowIs.cell (i := 0) h (by omega), World.rowIs.cell (i := 1) h (by omega), World.rowIs.cell (i := 2) h (by omega), World.rowIs.cell (i := 3) h (by omega), World.rowIs.cell (i := 4) h (by omega), World.rowIs.cell (i := 5) h (by omega),
    World.rowIs.cell (i := 6) h (by omega), World.rowIs.cell (i := 7) h (by omega), World.rowIs.cell (i := 8) h (by omega), World.rowIs.cell (i := 9) h (by omega), World.rowIs.cell (i := 10) h (by omega), World.rowIs.cell (i := 11) h (by omega)⟩
theorem EvV.fr (h : EvV w q e A c B d) (i : Nat) : w.frozen? ⟨q, i, none⟩ = false := World.rowIs.frozen h i
theorem EvV.later (h : EvV w q e A c B d) (hb : Below w.heap.size w w') : EvV w' q e A c B d := World.rowIs.of_block h (hb.block q h.lt)
theorem EvV.kept {r : Nat} (h : EvV w q e A c B d) (hg : w.grownBy w' (some r)) (hne : q ≠ r) : EvV w' q e A c B d := World.rowIs.of_block h (hg.block q h.lt (by simp; exact hne))
theorem EvV.new (w : World) (e : Ev) (A : Option Addr) (c : Nat) (B : Option Addr) (d : Nat) : EvV (w.alloc (.cells (e.cs A c B d).toArray 88)) w.heap.size e A c B d :=
  World.rowIs_alloc w (e.cs A c B d).toArray 88 _ (fun i hi => by
    have : i < 12 := hi
    match i, this with
    | 0, _ | 1, _ | 2, _ | 3, _ | 4, _ | 5, _ | 6, _ | 7, _ | 8, _ | 9, _ | 10, _ | 11, _ => rfl)
theorem EvV.setI {i : Nat} {v : Value} {e' : Ev} {A' : Option Addr} {c' : Nat} {B' : Option Addr} {d' : Nat} (h : EvV w q e A c B d) (he : ∀ j, j < 12 → (if j = i then v else (e.cs A c B d).getD j undef) = (e'.cs A' c' B' d').getD j undef) :
    EvV (w.setCell ⟨q, i, none⟩ v) q e' A' c' B' d' := (World.rowIs.set h i v).congr he
theorem EvV.kin (h : EvV w q e A c B d) (x : Int) : EvV (w.setCell ⟨q, 0, none⟩ (.int .i64 x)) q { e with k := x } A c B d := h.setI fun j hj => by
  match j, hj with
  | 0, _ | 1, _ | 2, _ | 3, _ | 4, _ | 5, _ | 6, _ | 7, _ | 8, _ | 9, _ | 10, _ | 11, _ => rfl
theorem EvV.nin (h : EvV w q e A c B d) (x : Int) : EvV (w.setCell ⟨q, 1, none⟩ (.int .i64 x)) q { e with n := x } A c B d := h.setI fun j hj => by
  match j, hj with
  | 0, _ | 1, _ | 2, _ | 3, _ | 4, _ | 5, _ | 6, _ | 7, _ | 8, _ | 9, _ | 10, _ | 11, _ => rfl
theorem EvV.dat (h : EvV w q e A c B d) (l : List Int) (A' : Option Addr) (c' : Nat) : EvV (w.setCell ⟨q, 2, none⟩ (.slice A' l.length c')) q { e with da := l } A' c' B d := h.setI fun j hj => by
  match j, hj with
  | 0, _ | 1, _ | 2, _ | 3, _ | 4, _ | 5, _ | 6, _ | 7, _ | 8, _ | 9, _ | 10, _ | 11, _ => rfl
theorem EvV.s3 (h : EvV w q e A c B d) (x : Int) : EvV (w.setCell ⟨q, 3, none⟩ (.int .i64 x)) q { e with pk := { e.pk with k := x } } A c B d := h.setI fun j hj => by
  match j, hj with
  | 0, _ | 1, _ | 2, _ | 3, _ | 4, _ | 5, _ | 6, _ | 7, _ | 8, _ | 9, _ | 10, _ | 11, _ => rfl
theorem EvV.s4 (h : EvV w q e A c B d) (x : Int) : EvV (w.setCell ⟨q, 4, none⟩ (.int .i64 x)) q { e with pk := { e.pk with pa := x } } A c B d := h.setI fun j hj => by
  match j, hj with
  | 0, _ | 1, _ | 2, _ | 3, _ | 4, _ | 5, _ | 6, _ | 7, _ | 8, _ | 9, _ | 10, _ | 11, _ => rfl
theorem EvV.s5 (h : EvV w q e A c B d) (x : Int) : EvV (w.setCell ⟨q, 5, none⟩ (.int .i64 x)) q { e with pk := { e.pk with nu := x } } A c B d := h.setI fun j hj => by
  match j, hj with
  | 0, _ | 1, _ | 2, _ | 3, _ | 4, _ | 5, _ | 6, _ | 7, _ | 8, _ | 9, _ | 10, _ | 11, _ => rfl
theorem EvV.s6 (h : EvV w q e A c B d) (x : Int) : EvV (w.setCell ⟨q, 6, none⟩ (.int .i64 x)) q { e with pk := { e.pk with ofn := x } } A c B d := h.setI fun j hj => by
  match j, hj with
  | 0, _ | 1, _ | 2, _ | 3, _ | 4, _ | 5, _ | 6, _ | 7, _ | 8, _ | 9, _ | 10, _ | 11, _ => rfl
theorem EvV.s7 (h : EvV w q e A c B d) (x : Int) : EvV (w.setCell ⟨q, 7, none⟩ (.int .i64 x)) q { e with pk := { e.pk with fr := x } } A c B d := h.setI fun j hj => by
  match j, hj with
  | 0, _ | 1, _ | 2, _ | 3, _ | 4, _ | 5, _ | 6, _ | 7, _ | 8, _ | 9, _ | 10, _ | 11, _ => rfl
theorem EvV.s8 (h : EvV w q e A c B d) (l : List Int) (B' : Option Addr) (d' : Nat) : EvV (w.setCell ⟨q, 8, none⟩ (.slice B' l.length d')) q { e with pk := { e.pk with da := l } } A c B' d' := h.setI fun j hj => by
  match j, hj with
  | 0, _ | 1, _ | 2, _ | 3, _ | 4, _ | 5, _ | 6, _ | 7, _ | 8, _ | 9, _ | 10, _ | 11, _ => rfl
theorem EvV.s9 (h : EvV w q e A c B d) (x : Bool) : EvV (w.setCell ⟨q, 9, none⟩ (.bool x)) q { e with pk := { e.pk with fin := x } } A c B d := h.setI fun j hj => by
  match j, hj with
  | 0, _ | 1, _ | 2, _ | 3, _ | 4, _ | 5, _ | 6, _ | 7, _ | 8, _ | 9, _ | 10, _ | 11, _ => rfl
theorem EvV.s10 (h : EvV w q e A c B d) (x : Int) : EvV (w.setCell ⟨q, 10, none⟩ (.int .i64 x)) q { e with pk := { e.pk with se := x } } A c B d := h.setI fun j hj => by
  match j, hj with
  | 0, _ | 1, _ | 2, _ | 3, _ | 4, _ | 5, _ | 6, _ | 7, _ | 8, _ | 9, _ | 10, _ | 11, _ => rfl
theorem EvV.s11 (h : EvV w q e A c B d) (x : Int) : EvV (w.setCell ⟨q, 11, none⟩ (.int .i64 x)) q { e with pk := { e.pk with li := x } } A c B d := h.setI fun j hj => by
  match j, hj with
  | 0, _ | 1, _ | 2, _ | 3, _ | 4, _ | 5, _ | 6, _ | 7, _ | 8, _ | 9, _ | 10, _ | 11, _ => rfl
/-- A packet is stored into it. -/
theorem EvV.pkt (h : EvV w q e A c B d) (pk : Pkt) (B' : Option Addr) (d' : Nat) : EvV (w.setCells q 3 (pk.cs B' d')) q { e with pk := pk } A c B' d' :=
  (((((((((h.s3 pk.k).s4 pk.pa).s5 pk.nu).s6 pk.ofn).s7 pk.fr).s8 pk.da B' d').s9 pk.fin).s10 pk.se).s11 pk.li)
/-- All of it is stored. -/
theorem EvV.all (h : EvV w q e A c B d) (e' : Ev) (A' : Option Addr) (c' : Nat) (B' : Option Addr) (d' : Nat) : EvV (w.setCells q 0 (e'.cs A' c' B' d')) q e' A' c' B' d' :=
  ((((((((((((h.kin e'.k).nin e'.n).dat e'.da A' c').s3 e'.pk.k).s4 e'.pk.pa).s5 e'.pk.nu).s6 e'.pk.ofn).s7 e'.pk.fr).s8 e'.pk.da B' d').s9 e'.pk.fin).s10 e'.pk.se).s11 e'.pk.li)
theorem EvV.there (h : EvV w q e A c B d) : w.there q 0 12 := fun j hj =>
  ⟨by rw [World.rowIs.cell (i := 0 + j) h (by omega)]; rfl, h.fr _⟩
theorem EvV.res (h : EvV w q e A c B d) (e' : Ev) (A' : Option Addr) (c' : Nat) (B' : Option Addr) (d' : Nat) :
    (loadVar 88 ⟨q, 0, none⟩).run Tryz.prog (w.setCells q 0 (e'.cs A' c' B' d')) = .ok (e'.val A' c' B' d') (w.setCells q 0 (e'.cs A' c' B' d')) :=
  run_loadVar_mid _ q 0 88 (e'.cs A' c' B' d') _ (World.rangeAt_setCells_same w q 0 (e'.cs A' c' B' d') h.there) Tryz.underlying88 rfl (by kernel_rfl)
theorem own_not_ev {v : Value} {B0 q : Nat} {ys : List Int} (h : Own .u8 5 w B0 v ys) (hr : EvV w q e A c B d) : v.ownBlock = none ∨ v.ownBlock ≠ some q := own_not_row8 h (by decide) hr
theorem EvB.kin (h : EvB ev) {x : Int} (hx : -9223372036854775808 ≤ x ∧ x ≤ 9223372036854775807) : EvB { ev with k := x } := { h with bk := hx }
theorem EvB.nin (h : EvB ev) {x : Int} (hx : -9223372036854775808 ≤ x ∧ x ≤ 9223372036854775807) : EvB { ev with n := x } := { h with bn := hx }
theorem EvB.dat (h : EvB ev) {l : List Int} (hb : ∀ x ∈ l, 0 ≤ x ∧ x < 256) (hl : l.length ≤ 4096) : EvB { ev with da := l } := { h with byt := hb, len := hl }
theorem EvB.pkt (h : EvB ev) {pk : Pkt} (hp : PkB pk) : EvB { ev with pk := pk } := { h with pk := hp }
theorem EvB.zero : EvB Ev.zero := ⟨by intro x hx; simp [Ev.zero] at hx, by decide, by decide, by decide, PkB.zero⟩
end
theorem EvIn.pkRange {w : World} {b : Nat} {e : Ev} {A : Option Addr} {c : Nat} {B : Option Addr} {d : Nat} (h : EvIn w b 0 e A c B d) : w.rangeAt b 3 (e.pk.cs B d) := fun j v hv => by
  have h9 := h.range (3 + j) v (by simpa [Ev.cs, Pkt.cs, Nat.add_comm 3 j] using hv)
  simpa using h9

theorem EvIn.q1 {w : World} {b : Nat} {e : Ev} {A : Option Addr} {c : Nat} {B : Option Addr} {d : Nat} (h : EvIn w b 0 e A c B d) : w.cell? ⟨b, 1, none⟩ = some (.int .i64 e.n) := h.c1
theorem EvIn.q2 {w : World} {b : Nat} {e : Ev} {A : Option Addr} {c : Nat} {B : Option Addr} {d : Nat} (h : EvIn w b 0 e A c B d) : w.cell? ⟨b, 2, none⟩ = some (.slice A e.da.length c) := h.c2
/-- Events as cells. -/
def evs (ms : List EvM) : List Value := ms.flatMap EvM.cs
theorem EvM.cs_len (m : EvM) : m.cs.length = 12 := rfl
theorem evs_cons (m : EvM) (ms : List EvM) : evs (m :: ms) = m.cs ++ evs ms := by simp [evs]
theorem evs_len (ms : List EvM) : (evs ms).length = ms.length * 12 := by
  induction ms with
  | nil => rfl
  | cons m ms ih => rw [evs_cons, List.length_append, ih, EvM.cs_len, List.length_cons]; omega
theorem evs_app (a b : List EvM) : evs (a ++ b) = evs a ++ evs b := by simp [evs]
theorem evs_get (ms : List EvM) (i : Nat) (hi : i < ms.length) (j : Nat) (hj : j < 12) : (evs ms)[i * 12 + j]? = (ms.getD i default).cs[j]? := by
  induction ms generalizing i with
  | nil => simp at hi
  | cons m ms ih =>
    rw [evs_cons]
    cases i with
    | zero =>
      rw [Nat.zero_mul, Nat.zero_add, List.getElem?_append_left (by rw [EvM.cs_len]; exact hj)]
      rfl
    | succ i =>
      rw [List.getElem?_append_right (by rw [EvM.cs_len]; omega), EvM.cs_len, show (i + 1) * 12 + j - 12 = i * 12 + j by omega, ih i (by simpa using hi)]
      simp [List.getD]
theorem EvM.cs_one (m : EvM) : ∀ u ∈ m.cs, u.oneCell' = true := by
  intro u hu
  simp only [EvM.cs, Ev.cs, List.mem_cons, List.not_mem_nil, or_false] at hu
  rcases hu with rfl | rfl | rfl | rfl | rfl | rfl | rfl | rfl | rfl | rfl | rfl | rfl <;> rfl

/-- An event of the call's own: its numbers are ints, its bytes few, and in blocks from B on. -/
structure EvM.own (w : World) (B : Nat) (m : EvM) : Prop where
  bd : EvB m.e
  o1 : Own .u8 5 w B (.slice m.A m.e.da.length m.c) m.e.da
  o2 : Own .u8 5 w B (.slice m.B m.e.pk.da.length m.d) m.e.pk.da
/-- v is a slice of these events in a block from B on that the call has made (or nil). -/
structure EvRow (w : World) (B : Nat) (v : Value) (ms : List EvM) : Prop where
  row : w.ownsRow B 88 12 v ms.length (evs ms)
  each : ∀ m ∈ ms, m.own w B

section
variable {w w' : World} {B : Nat} {v : Value} {ms : List EvM} {m : EvM}
theorem EvM.own.later (h : m.own w B) (hb : Below w.heap.size w w') : m.own w' B := ⟨h.bd, h.o1.later hb, h.o2.later hb⟩
theorem EvM.own.at (h : m.own w B) : m.at w := by
  have hb := h.bd
  have hp := hb.pk
  exact ⟨h.o1.rd, by have := hb.len; omega, h.o1.cap, fun e => (h.o1.none_len e).1, hb.byt, hb.bk, hb.bn, pktAt_of h.o2 hp.byt (by have := hp.len; omega) hp.bk hp.bp hp.bn hp.bo hp.bf hp.bs hp.bl⟩
theorem EvM.own.less {B' : Nat} (h : m.own w B) (hB : B' ≤ B) : m.own w B' := ⟨h.bd, h.o1.less hB, h.o2.less hB⟩
theorem EvRow.nil (w : World) (B : Nat) : EvRow w B (.slice none 0 0) [] := ⟨World.ownsRow_nil w B _ 12, by simp⟩
theorem EvRow.later (h : EvRow w B v ms) (hb : Below w.heap.size w w') : EvRow w' B v ms :=
  ⟨World.ownsRow.kept (row := none) h.row ⟨hb.os, hb.tape, hb.output, hb.size, fun i hi _ => hb.block i hi⟩ (by cases v.ownBlock <;> simp), fun m hm => (h.each m hm).later hb⟩
theorem EvRow.form (h : EvRow w B v ms) : ∃ A c, v = .slice A ms.length c := by
  rcases h.row.2 with ⟨rfl, h0⟩ | ⟨g, cap, cur, rfl, _⟩
  · exact ⟨none, 0, by rw [h0]⟩
  · exact ⟨_, _, rfl⟩
theorem EvRow.lt (h : EvRow w B v ms) : ∀ g, v.ownBlock = some g → B ≤ g ∧ g < w.heap.size := World.ownsRow.lt h.row
theorem EvRow.less {B' : Nat} (h : EvRow w B v ms) (hB : B' ≤ B) : EvRow w B' v ms := by
  refine ⟨⟨h.row.1, ?_⟩, fun m hm => (h.each m hm).less hB⟩
  rcases h.row.2 with h2 | ⟨g, cap, cur, hv, hg, r⟩
  · exact .inl h2
  · exact .inr ⟨g, cap, cur, hv, Nat.le_trans hB hg, r⟩
/-- What is read of it. -/
theorem EvRow.evs {A : Option Addr} {n c : Nat} (h : EvRow w B (.slice A n c) ms) : Evs w A ms := by
  have hn : ms.length = n := by
    obtain ⟨A', c', hv⟩ := h.form
    injection hv with _ h2 _
    exact h2.symm
  refine ⟨fun m hm => (h.each m hm).at, ?_⟩
  rcases h.row.2 with ⟨hv, h0⟩ | ⟨g, cap, cur, hv, _⟩
  · exact .inl (List.eq_nil_of_length_eq_zero h0)
  · right
    have hr := h.row
    rw [hv] at hr
    injection hv with hA _ _
    refine ⟨g, 0, hA, fun i hi => evIn_of fun j u hu => ?_⟩
    have hj : j < 12 := (List.getElem?_eq_some_iff.1 hu).1
    rw [Nat.zero_add, hr.cellAt (i * 12 + j) (by omega), evs_get ms i hi j hj]
    exact hu
/-- Bytes of the call's own never lie in a row of events. -/
theorem own_not_evs {u : Value} {B0 : Nat} {ys : List Int} (h : Own .u8 5 w B0 u ys) (hr : EvRow w B v ms) : u.ownBlock = none ∨ u.ownBlock ≠ v.ownBlock := by
  rcases h.2 with ⟨hv, _⟩ | ⟨g, cap, cur, hv, _, hh, _⟩
  · left; rw [hv]; rfl
  · rcases hr.row.2 with ⟨hv2, _⟩ | ⟨g2, cap2, cur2, hv2, _, hh2, _⟩
    · right
      rw [hv, hv2]
      simp [Value.ownBlock]
    · right
      rw [hv, hv2]
      intro he
      simp only [Value.ownBlock, Option.some.injEq] at he
      subst he
      rw [hh] at hh2
      injection hh2 with hh2
      injection hh2 with _ ht
      exact absurd ht (by decide)
theorem EvM.own.kept (h : m.own w B) (hr : EvRow w B v ms) (hg : w.grownBy w' v.ownBlock) : m.own w' B := ⟨h.bd, h.o1.kept hg (own_not_evs h.o1 hr), h.o2.kept hg (own_not_evs h.o2 hr)⟩

theorem info_ev : (Tryz.prog.info? 88).map (fun i => (i.zero, i.size, i.bytes)) = some (some (Ev.zero.val none 0 none 0), 12, 128) := by kernel_rfl

/-- append of one event that lies at an address. -/
theorem run_appE (hown : EvRow w B v ms) (ad : Addr) (c : Nat) (hm : m.own w B) (hl : ∀ j u, m.cs[j]? = some u → w.cell? (ad.add j) = some u) (hb : (ms.length + 1) * 128 ≤ 140737488355328) (hB : B ≤ w.heap.size) (ty : TypeId) :
    ∃ A' c' w', (Builtin.append_ #[51, 51] ty #[v, .slice (some ad) 1 c]).run Tryz.prog w = .ok (.slice A' (ms.length + 1) c') w' ∧ EvRow w' B (.slice A' (ms.length + 1) c') (ms ++ [m]) ∧ w.grownBy w' v.ownBlock := by
  obtain ⟨i, hi, hz0, hz2, hz3⟩ := info_parts info_ev
  obtain ⟨v', w', hrun, h2, h3, _⟩ := run_append_own (P := Tryz.prog) w B 51 ty 88 i _ 12 128 Tryz.underlying51 hi hz0 hz2 hz3 rfl (by omega) v ms.length (evs ms) hown.row ad 1 c m.cs rfl hl m.cs_one (by unfold maxLen; omega) hb hB
  have hlen : (ms ++ [m]).length = ms.length + 1 := by simp
  have hr : EvRow w' B v' (ms ++ [m]) := by
    refine ⟨?_, fun x hx => ?_⟩
    · rw [hlen, evs_app]
      simpa [evs] using h2
    · rcases List.mem_append.1 hx with h | h
      · exact (hown.each x h).kept hown h3
      · simp at h
        subst h
        exact hm.kept hown h3
  obtain ⟨A', c', rfl⟩ := hr.form
  rw [hlen] at hrun hr
  exact ⟨A', c', w', hrun, hr, h3⟩

theorem wpList_appE {ops : Array Oper} {rest : List Oper} {o : Oper} {a : Act} {Q : Exit → Act → World → Prop} (hgd : o.guard = none) (s x : Operand)
    (ho : o.op = .call { callee := .builtin .append, args := #[s, x], argTypes := #[51, 51] })
    (B : Nat) (v : Value) (ms : List EvM) (m : EvM) (hs : a.eval s = v) (hown : EvRow w B v ms) (ad : Addr) (c : Nat) (hx : a.eval x = .slice (some ad) 1 c) (hm : m.own w B)
    (hl : ∀ j u, m.cs[j]? = some u → w.cell? (ad.add j) = some u) (hb : (ms.length + 1) * 128 ≤ 140737488355328) (hB : B ≤ w.heap.size)
    (h : ∀ A' c' w', EvRow w' B (.slice A' (ms.length + 1) c') (ms ++ [m]) → w.grownBy w' v.ownBlock → wpList Tryz.prog ops Q rest (a.put o.dst (.slice A' (ms.length + 1) c')) w') : wpList Tryz.prog ops Q (o :: rest) a w := by
  refine wpList_plain hgd fun _ hK => ?_
  obtain ⟨A', c', w', hrun, h2, h3⟩ := run_appE hown ad c hm hl hb hB o.type
  unfold Oper.wp execOp
  simp only [ho, resolve, invoke, builtin, Sem.run_bind, Sem.run_pure, Result.andThen_ok, List.map_toArray, List.map_cons, List.map_nil, hs, hx, hrun]
  exact hK _ _ (h A' c' w' h2 h3)
end
/-- An event in a block of its own. -/
theorem lies_new (w : World) (m : EvM) (t : TypeId) : ∀ j u, m.cs[j]? = some u → (w.alloc (.cells m.cs.toArray t)).cell? ((⟨w.heap.size, 0, none⟩ : Addr).add j) = some u := fun j u hu => by
  have h := Ev.range w m.e m.A m.c m.B m.d t j u hu
  rw [Addr.add_lit]
  exact h

end Go.Proofs.YtpjlnpnadkbakaaGreat

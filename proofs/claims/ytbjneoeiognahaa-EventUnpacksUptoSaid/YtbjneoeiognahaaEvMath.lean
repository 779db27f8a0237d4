/-
  Events as mathematics, and as cells: which may be, which are alike, what they are as bytes. No function of the program.
-/
import Derived.Test.YtbjneoeiognahaaPktVar
namespace Go.Proofs.Ytbjneoeiognahaa
open Go.RowKit

/-- An event. -/
structure Ev where
  k : Int
  n : Int
  da : List Int
  pk : Pkt
/-- All fields are alike. -/
def Ev.same (a b : Ev) : Bool := decide (a.k = b.k) && decide (a.n = b.n) && decide (a.da = b.da) && a.pk.same b.pk
/-- An event that may be. -/
def Ev.ok (e : Ev) : Bool :=
  if e.k = 1 ∨ e.k = 2 then decide (1 ≤ e.da.length) && decide (e.da.length ≤ 4096) && decide (e.n = 0) && e.pk.same Pkt.zero
  else if e.k = 3 then decide (1 ≤ e.n) && decide (e.n ≤ 1048576) && decide (e.da.length = 0) && e.pk.same Pkt.zero
  else if e.k = 4 ∨ e.k = 5 then e.pk.ok && decide (e.n = 0) && decide (e.da.length = 0)
  else if e.k = 6 then decide (e.n = 0) && decide (e.da.length = 0) && e.pk.same Pkt.zero
  else if e.k = 7 ∨ e.k = 8 then inB e.n 2 && decide (e.da.length = 0) && e.pk.same Pkt.zero
  else false
/-- What only its kind has, as bytes. -/
def Ev.restL (e : Ev) : List Int :=
  if e.k = 1 ∨ e.k = 2 then putL e.da.length ++ e.da
  else if e.k = 3 ∨ e.k = 7 ∨ e.k = 8 then putL e.n
  else if e.k = 4 ∨ e.k = 5 then e.pk.plainL
  else []
/-- An event as bytes. -/
def Ev.plainL (e : Ev) : List Int := e.k :: e.restL
/-- An event as cells. -/
def Ev.cs (e : Ev) (A : Option Addr) (c : Nat) (B : Option Addr) (d : Nat) : List Value :=
  [.int .i64 e.k, .int .i64 e.n, .slice A e.da.length c, .int .i64 e.pk.k, .int .i64 e.pk.pa, .int .i64 e.pk.nu, .int .i64 e.pk.ofn, .int .i64 e.pk.fr, .slice B e.pk.da.length d, .bool e.pk.fin, .int .i64 e.pk.se, .int .i64 e.pk.li]
/-- The same, whole. -/
def Ev.val (e : Ev) (A : Option Addr) (c : Nat) (B : Option Addr) (d : Nat) : Value :=
  .agg #[.int .i64 e.k, .int .i64 e.n, .slice A e.da.length c, .int .i64 e.pk.k, .int .i64 e.pk.pa, .int .i64 e.pk.nu, .int .i64 e.pk.ofn, .int .i64 e.pk.fr, .slice B e.pk.da.length d, .bool e.pk.fin, .int .i64 e.pk.se, .int .i64 e.pk.li]
/-- No event. -/
def Ev.zero : Ev := ⟨0, 0, [], Pkt.zero⟩
/-- Its numbers are ints, its bytes bytes, and these are read where the value says. -/
structure EvAt (w : World) (e : Ev) (A : Option Addr) (c : Nat) (B : Option Addr) (d : Nat) : Prop where
  rd : Rd .u8 w A e.da
  reach : e.da.length ≤ 9223372036854775807
  cap : e.da.length ≤ c
  nil : A = none → c = 0
  byt : ∀ x ∈ e.da, 0 ≤ x ∧ x < 256
  bk : -9223372036854775808 ≤ e.k ∧ e.k ≤ 9223372036854775807
  bn : -9223372036854775808 ≤ e.n ∧ e.n ≤ 9223372036854775807
  pk : PktAt w e.pk B d
/-- The cells of an event in a block, from a place on. -/
structure EvIn (w : World) (b o : Nat) (e : Ev) (A : Option Addr) (c : Nat) (B : Option Addr) (d : Nat) : Prop where
  c0 : w.cell? ⟨b, o, none⟩ = some (.int .i64 e.k)
  c1 : w.cell? ⟨b, o + 1, none⟩ = some (.int .i64 e.n)
  c2 : w.cell? ⟨b, o + 2, none⟩ = some (.slice A e.da.length c)
  c3 : w.cell? ⟨b, o + 3, none⟩ = some (.int .i64 e.pk.k)
  c4 : w.cell? ⟨b, o + 4, none⟩ = some (.int .i64 e.pk.pa)
  c5 : w.cell? ⟨b, o + 5, none⟩ = some (.int .i64 e.pk.nu)
  c6 : w.cell? ⟨b, o + 6, none⟩ = some (.int .i64 e.pk.ofn)
  c7 : w.cell? ⟨b, o + 7, none⟩ = some (.int .i64 e.pk.fr)
  c8 : w.cell? ⟨b, o + 8, none⟩ = some (.slice B e.pk.da.length d)
  c9 : w.cell? ⟨b, o + 9, none⟩ = some (.bool e.pk.fin)
  c10 : w.cell? ⟨b, o + 10, none⟩ = some (.int .i64 e.pk.se)
  c11 : w.cell? ⟨b, o + 11, none⟩ = some (.int .i64 e.pk.li)

section
variable {w w' : World} {e : Ev} {A B : Option Addr} {c d : Nat}
set_option maxRecDepth 10000 in
theorem EvAt.later (h : EvAt w e A c B d) (hb : Below w.heap.size w w') : EvAt w' e A c B d := { h with rd := h.rd.later hb, pk := h.pk.later hb }
set_option maxRecDepth 10000 in
theorem EvAt.drewN (h : EvAt w e A c B d) (n : Nat) : EvAt (w.drewN n) e A c B d := { h with rd := h.rd, pk := h.pk.drewN n }
set_option maxRecDepth 10000 in
theorem EvAt.drew (h : EvAt w e A c B d) : EvAt w.drew e A c B d := { h with rd := h.rd, pk := h.pk.drew }
set_option maxRecDepth 10000 in
theorem EvAt.alloc (h : EvAt w e A c B d) (o : Obj) : EvAt (w.alloc o) e A c B d := { h with rd := h.rd.alloc o, pk := h.pk.alloc o }
set_option maxRecDepth 10000 in
theorem EvAt.zero (w : World) : EvAt w Ev.zero none 0 none 0 :=
  ⟨.inl rfl, by decide, by decide, fun _ => rfl, by intro x hx; simp [Ev.zero] at hx, by decide, by decide, ⟨.inl rfl, by decide, by decide, fun _ => rfl, by intro x hx; simp [Ev.zero, Pkt.zero] at hx, by decide, by decide, by decide, by decide, by decide, by decide, by decide⟩⟩
set_option maxRecDepth 10000 in
theorem evIn_of {b o : Nat} (h : w.rangeAt b o (e.cs A c B d)) : EvIn w b o e A c B d :=
  ⟨by simpa using h 0 _ rfl, h 1 _ rfl, h 2 _ rfl, h 3 _ rfl, h 4 _ rfl, h 5 _ rfl, h 6 _ rfl, h 7 _ rfl, h 8 _ rfl, h 9 _ rfl, h 10 _ rfl, h 11 _ rfl⟩
set_option maxRecDepth 10000 in
theorem Ev.range (w : World) (e : Ev) (A : Option Addr) (c : Nat) (B : Option Addr) (d : Nat) (t : TypeId) : (w.alloc (.cells (e.cs A c B d).toArray t)).rangeAt w.heap.size 0 (e.cs A c B d) := by
  have h := World.rangeAt_of_block (C := (e.cs A c B d).toArray) (t := t) (fr := (0, 0)) (heap_alloc_new w _) 0 (e.cs A c B d).length
  simpa using h
set_option maxRecDepth 10000 in
theorem EvIn.below {b o K : Nat} (h : EvIn w b o e A c B d) (hb : Below K w w') (hB : b < K) : EvIn w' b o e A c B d :=
  ⟨(hb.cell hB).trans h.c0, (hb.cell hB).trans h.c1, (hb.cell hB).trans h.c2, (hb.cell hB).trans h.c3, (hb.cell hB).trans h.c4, (hb.cell hB).trans h.c5, (hb.cell hB).trans h.c6, (hb.cell hB).trans h.c7, (hb.cell hB).trans h.c8,
    (hb.cell hB).trans h.c9, (hb.cell hB).trans h.c10, (hb.cell hB).trans h.c11⟩
set_option maxRecDepth 10000 in
theorem Ev.same_iff {a b : Ev} : a.same b = true ↔ a = b := by
  obtain ⟨k, n, da, pk⟩ := a
  obtain ⟨k', n', da', pk'⟩ := b
  simp only [Ev.same, Bool.and_eq_true, decide_eq_true_eq, Pkt.same_iff, Ev.mk.injEq]
  constructor
  · rintro ⟨⟨⟨h1, h2⟩, h3⟩, h4⟩
    exact ⟨h1, h2, h3, h4⟩
  · rintro ⟨h1, h2, h3, h4⟩
    exact ⟨⟨⟨h1, h2⟩, h3⟩, h4⟩
end
end Go.Proofs.Ytbjneoeiognahaa

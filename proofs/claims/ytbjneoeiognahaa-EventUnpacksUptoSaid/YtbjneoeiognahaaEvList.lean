/-
  Lists of events that are read in memory ('Evs'). No function of the program.
-/
import Derived.Test.YtbjneoeiognahaaEvMath
namespace Go.Proofs.Ytbjneoeiognahaa
open Go.RowKit

instance : DecidableEq Ev := fun a b => decidable_of_iff (a.same b = true) Ev.same_iff
/-- An event, and where its bytes and its packet's bytes lie. -/
structure EvM where
  e : Ev
  A : Option Addr
  c : Nat
  B : Option Addr
  d : Nat
instance : Inhabited EvM := ⟨⟨Ev.zero, none, 0, none, 0⟩⟩
/-- Its cells. -/
def EvM.cs (m : EvM) : List Value := m.e.cs m.A m.c m.B m.d
def EvM.val (m : EvM) : Value := m.e.val m.A m.c m.B m.d
/-- What it says is there. -/
def EvM.at (w : World) (m : EvM) : Prop := EvAt w m.e m.A m.c m.B m.d
/-- It lies in a block from a place on. -/
def EvM.lies (w : World) (b o : Nat) (m : EvM) : Prop := EvIn w b o m.e m.A m.c m.B m.d
/-- From the address A on memory holds these events. -/
structure Evs (w : World) (A : Option Addr) (ms : List EvM) : Prop where
  each : ∀ m ∈ ms, m.at w
  lie : ms = [] ∨ ∃ b off, A = some ⟨b, off, none⟩ ∧ ∀ i, i < ms.length → (ms.getD i default).lies w b (off + i * 12)

set_option maxRecDepth 10000 in
theorem EvIn.later {w w' : World} {b o : Nat} {e : Ev} {A B : Option Addr} {c d : Nat} (h : EvIn w b o e A c B d) (hb : Below w.heap.size w w') : EvIn w' b o e A c B d :=
  h.below hb (World.block_lt_of_cell? w _ h.c0)
set_option maxRecDepth 10000 in
theorem EvM.at.later {w w' : World} {m : EvM} (h : m.at w) (hb : Below w.heap.size w w') : m.at w' := EvAt.later h hb
set_option maxRecDepth 10000 in
theorem EvM.lies.later {w w' : World} {b o : Nat} {m : EvM} (h : m.lies w b o) (hb : Below w.heap.size w w') : m.lies w' b o := EvIn.later h hb
set_option maxRecDepth 10000 in
theorem Evs.later {w w' : World} {A : Option Addr} {ms : List EvM} (h : Evs w A ms) (hb : Below w.heap.size w w') : Evs w' A ms := by
  refine ⟨fun m hm => (h.each m hm).later hb, ?_⟩
  rcases h.lie with e | ⟨b, off, e, hl⟩
  · exact .inl e
  · exact .inr ⟨b, off, e, fun i hi => (hl i hi).later hb⟩
set_option maxRecDepth 10000 in
theorem Evs.nil (w : World) (A : Option Addr) : Evs w A [] := ⟨by simp, .inl rfl⟩
set_option maxRecDepth 10000 in
theorem Evs.drewN {w : World} {A : Option Addr} {ms : List EvM} (h : Evs w A ms) (n : Nat) : Evs (w.drewN n) A ms := h.later (below_drewN' (Below.refl _ _) n)
set_option maxRecDepth 10000 in
theorem Evs.get {w : World} {A : Option Addr} {ms : List EvM} (h : Evs w A ms) {i : Nat} (hi : i < ms.length) : (ms.getD i default).at w := h.each _ (by simp [List.getD, hi])
set_option maxRecDepth 10000 in
theorem evs_ext {ms ns : List EvM} (hl : ms.length = ns.length) (h : ∀ i, i < ms.length → (ms.getD i default).e = (ns.getD i default).e) : ms.map EvM.e = ns.map EvM.e := by
  apply List.ext_getElem (by simpa using hl)
  intro i h1 h2
  have hi : i < ms.length := by simpa using h1
  have hj : i < ns.length := by simpa using h2
  have := h i hi
  simpa [List.getD, hi, hj] using this
set_option maxRecDepth 10000 in
theorem evs_ne {ms ns : List EvM} {i : Nat} (hi : i < ms.length) (h : (ms.getD i default).e ≠ (ns.getD i default).e) (hl : ms.length = ns.length) : ms.map EvM.e ≠ ns.map EvM.e := fun e => h (by
  have hj : i < ns.length := by omega
  have h9 : (ms.map EvM.e)[i]? = (ns.map EvM.e)[i]? := by rw [e]
  simpa [List.getD, hi, hj] using h9)
set_option maxRecDepth 10000 in
theorem EvIn.range {w : World} {b o : Nat} {e : Ev} {A B : Option Addr} {c d : Nat} (h : EvIn w b o e A c B d) : w.rangeAt b o (e.cs A c B d) := fun j v hv => by
  have hj : j < 12 := (List.getElem?_eq_some_iff.1 hv).1
  obtain ⟨c0, c1, c2, c3, c4, c5, c6, c7, c8, c9, c10, c11⟩ := h
  match j, hj, hv with
  | 0, _, rfl => exact c0
  | 1, _, rfl => exact c1
  | 2, _, rfl => exact c2
  | 3, _, rfl => exact c3
  | 4, _, rfl => exact c4
  | 5, _, rfl => exact c5
  | 6, _, rfl => exact c6
  | 7, _, rfl => exact c7
  | 8, _, rfl => exact c8
  | 9, _, rfl => exact c9
  | 10, _, rfl => exact c10
  | 11, _, rfl => exact c11
set_option maxRecDepth 10000 in
theorem Ev.same_dec (a b : Ev) : a.same b = decide (a = b) := by
  rw [Bool.eq_iff_iff, Ev.same_iff, decide_eq_true_eq]
end Go.Proofs.Ytbjneoeiognahaa

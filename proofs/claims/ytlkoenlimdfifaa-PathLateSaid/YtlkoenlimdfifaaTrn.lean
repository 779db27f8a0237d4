/-
  How a call on something of many blocks turns the world ('Trn', 'SC'); rows of the call's own that lie elsewhere ('Apart'). No program.
-/
import Derived.Test.YtlkoenlimdfifaaOwn
import Derived.Deep.OwnRows
namespace Go.Proofs.Ytlkoenlimdfifaa
open Go.RowKit

/-- How a step turns the world: blocks of F, and new ones. -/
structure Trn (w w' : World) (F : Nat → Prop) : Prop where
  os : w'.os = w.os
  tape : w'.tape = w.tape
  output : w'.output = w.output
  size : w.heap.size ≤ w'.heap.size
  block : ∀ k, k < w.heap.size → ¬ F k → w'.heap[k]? = w.heap[k]?

section
variable {w w1 w' w2 w0 : World} {F G F' F'' : Nat → Prop}
theorem Trn.refl (w : World) (F : Nat → Prop) : Trn w w F := ⟨rfl, rfl, rfl, Nat.le_refl _, fun _ _ _ => rfl⟩
theorem Trn.of_grown {row : Option Nat} (h : w.grownBy w' row) : Trn w w' (fun k => row = some k) := ⟨h.os, h.tape, h.output, h.size, fun k hk hn => h.block k hk (fun e => hn e.symm)⟩
theorem Trn.of_below (h : Below w.heap.size w w') : Trn w w' F := ⟨h.os, h.tape, h.output, h.size, fun k hk _ => h.block k hk⟩
theorem Trn.trans (h : Trn w w1 F) (h' : Trn w1 w2 F') (hF : ∀ k, F k → G k) (hG : ∀ k, k < w.heap.size → F' k → G k) : Trn w w2 G :=
  ⟨h'.os.trans h.os, h'.tape.trans h.tape, h'.output.trans h.output, Nat.le_trans h.size h'.size, fun k hk hn =>
    (h'.block k (Nat.lt_of_lt_of_le hk h.size) (fun e => hn (hG k hk e))).trans (h.block k hk (fun e => hn (hF k e)))⟩
theorem Trn.mono (h : Trn w w' F) (hF : ∀ k, k < w.heap.size → F k → G k) : Trn w w' G := ⟨h.os, h.tape, h.output, h.size, fun k hk hn => h.block k hk (fun e => hn (hF k hk e))⟩
theorem Trn.below {B : Nat} (h : Trn w w' F) (hB : B ≤ w.heap.size) (hF : ∀ k, F k → B ≤ k) : Below B w w' :=
  ⟨h.os, h.tape, h.output, h.size, fun k hk => h.block k (by omega) (fun e => by have := hF k e; omega)⟩
theorem Trn.rowIs {b : Nat} {t : TypeId} {n : Nat} {f : Nat → Value} (h : Trn w w' F) (hr : w.rowIs b t n f) (hb : ¬ F b) : w'.rowIs b t n f := hr.of_block (h.block b hr.lt hb)
theorem Trn.own {q : IntKind} {e : TypeId} {B : Nat} {v : Value} {xs : List Int} (h : Trn w w' F) (ho : Own q e w B v xs) (hb : ∀ g, v.ownBlock = some g → ¬ F g) : Own q e w' B v xs := by
  refine ⟨ho.1, ?_⟩
  rcases ho.2 with h2 | ⟨g, cap, cur, rfl, hB, hg, r⟩
  · exact .inl h2
  · exact .inr ⟨g, cap, cur, rfl, hB, by rw [h.block g (Array.getElem?_eq_some_iff.1 hg).1 (hb g rfl)]; exact hg, r⟩

/-- How a call on something whose blocks are F (behind it: F') turns the world. -/
structure SC (w w' : World) (F F' : Nat → Prop) : Prop where
  trn : Trn w w' F
  sub : ∀ k, F' k → F k ∨ w.heap.size ≤ k
theorem SC.trans (h : SC w w1 F F') (h' : SC w1 w2 F' F'') : SC w w2 F F'' :=
  ⟨h.trn.trans h'.trn (fun _ hk => hk) (fun k hk hF => (h.sub k hF).resolve_right (by omega)), fun k hk => by
    rcases h'.sub k hk with h1 | h1
    · exact h.sub k h1
    · exact .inr (Nat.le_trans h.trn.size h1)⟩
theorem SC.refl (w : World) (F : Nat → Prop) : SC w w F F := ⟨Trn.refl _ _, fun _ h => .inl h⟩
theorem SC.of_below (h : Below w.heap.size w w') : SC w w' F F := ⟨Trn.of_below h, fun _ h => .inl h⟩
theorem SC.below {B : Nat} (h : SC w w' F F') (hB : B ≤ w.heap.size) (hF : ∀ k, F k → B ≤ k) : Below B w w' := h.trn.below hB hF
/-- What lies elsewhere stays elsewhere. -/
theorem SC.out {g : Nat} (h : SC w w' F F') (hg : g < w.heap.size) (hn : ¬ F g) : ¬ F' g := fun e => (h.sub g e).elim hn (fun h1 => by omega)
end

section
variable {w w' : World} {F F' : Nat → Prop}
/-- A row that lies elsewhere. -/
def Apart (v : Value) (F : Nat → Prop) : Prop := ∀ g, v.ownBlock = some g → ¬ F g
theorem keep_own {k : IntKind} {e : TypeId} {B : Nat} {v : Value} {xs : List Int} (hsc : SC w w' F F') (ho : Own k e w B v xs) (hn : Apart v F) : Own k e w' B v xs ∧ Apart v F' :=
  ⟨hsc.trn.own ho hn, fun g hg => hsc.out (ho.lt g hg).2 (hn g hg)⟩
theorem apart_nil (F : Nat → Prop) : Apart (.slice none 0 0) F := fun g hg => by simp [Value.ownBlock] at hg
theorem apart_len {A : Option Addr} {n c n' c' : Nat} (h : Apart (.slice A n c) F) : Apart (.slice A n' c') F := fun g hg => h g (by cases A with | none => simp [Value.ownBlock] at hg | some a => exact hg)
theorem apart_addr {A : Option Addr} {n c : Nat} (h : Apart (.slice A n c) F) : ∀ a, A = some a → ¬ F a.block := fun a ha => h a.block (by rw [ha]; rfl)
theorem rd_trn {k : IntKind} {A : Option Addr} {xs : List Int} (h : Rd k w A xs) (ht : Trn w w' F) (hn : ∀ a, A = some a → ¬ F a.block) : Rd k w' A xs := by
  rcases h with h | ⟨b, off, rfl, h⟩
  · exact .inl h
  · refine .inr ⟨b, off, rfl, fun i hi => ?_⟩
    have hc := h i hi
    have hlt : b < w.heap.size := World.block_lt_of_cell? w _ hc
    rw [← hc]
    exact World.cell?_of_block (ht.block b hlt (hn _ rfl))
end
end Go.Proofs.Ytlkoenlimdfifaa

/-
  A Set beside a list of its Ranges, and beside boxes ('One'): what calls on the Set leave. Contracts over the program.
-/
import Derived.Test.YtcmnambanefjeaaTwo
namespace Go.Proofs.Ytcmnambanefjeaa
open Go.RowKit

/-- A Set, and a list of Ranges that lies elsewhere. -/
structure One (w0 w : World) (a : Nat) (va : Value) (xs : List (Int × Int)) (lv : Value) (ls : List (Int × Int)) : Prop where
  sa : SetAt w w0.heap.size a va xs
  ow : OwnP 31 w w0.heap.size lv ls
  nb : lv.ownBlock = none ∨ lv.ownBlock ≠ va.ownBlock
  bel : Below w0.heap.size w0 w
/-- A box that holds a Range, and lies elsewhere too. -/
structure Box (w : World) (va : Value) (b : Nat) (x y : Int) : Prop where
  heap : w.heap[b]? = some (.cells #[.int .i64 x, .int .i64 y] 31 (0, 0))
  ne : va.ownBlock ≠ some b

section
variable {w0 w w' : World} {a b : Nat} {va lv : Value} {xs ls : List (Int × Int)} {x y : Int}
theorem One.later (h : One w0 w a va xs lv ls) (hb : Below w.heap.size w w') : One w0 w' a va xs lv ls := ⟨h.sa.later hb, h.ow.later hb, h.nb, h.bel.trans (hb.mono h.bel.size)⟩
theorem One.chg (h : One w0 w a va xs lv ls) {va' : Value} {xs' : List (Int × Int)} (hs : SetAt w' w0.heap.size a va' xs') (hc : Chg w w' a va va') : One w0 w' a va' xs' lv ls := by
  refine ⟨hs, ?_, ?_, hc.below h.bel h.bel.size h.sa.ge (fun g hg => (h.sa.own.lt g hg).1)⟩
  · refine ⟨h.ow.1, ?_⟩
    rcases h.ow.2 with h2 | ⟨g, cap, cur, rfl, hB, hg, r⟩
    · exact .inl h2
    · refine .inr ⟨g, cap, cur, rfl, hB, ?_, r⟩
      have hlt := (Array.getElem?_eq_some_iff.1 hg).1
      rw [hc.block g hlt (fun e => own_not_set h.ow h.sa.row (by simp [Value.ownBlock, e])) (by have := h.nb; simpa [Value.ownBlock] using this)]
      exact hg
  · cases hv : lv.ownBlock with
    | none => exact .inl rfl
    | some g =>
      right
      intro he
      rcases hc.fresh g he.symm with h1 | h1
      · rcases h.nb with h2 | h2
        · rw [h2] at hv; cases hv
        · exact h2 (hv.trans h1.symm)
      · have := (h.ow.lt g hv).2
        omega
theorem Box.later (h : Box w va b x y) (hb : Below w.heap.size w w') : Box w' va b x y := ⟨by rw [hb.block b (Array.getElem?_eq_some_iff.1 h.heap).1]; exact h.heap, h.ne⟩
theorem Box.chg (h : Box w va b x y) (hs : SetAt w w0.heap.size a va xs) {va' : Value} (hc : Chg w w' a va va') : Box w' va' b x y := by
  have hlt := (Array.getElem?_eq_some_iff.1 h.heap).1
  refine ⟨?_, fun e => ?_⟩
  · rw [hc.block b hlt ?_ (Ne.symm h.ne)]
    · exact h.heap
    · rintro rfl
      obtain ⟨cur, hh, _⟩ := hs.row
      rw [h.heap] at hh
      injection hh with hh
      injection hh with _ ht
      exact absurd ht (by decide)
  · rcases hc.fresh b e with h1 | h1
    · exact h.ne h1
    · omega
theorem Box.cell (h : Box w va b x y) : w.cell? ⟨b, 0, none⟩ = some (.int .i64 x) ∧ w.cell? ⟨b, 1, none⟩ = some (.int .i64 y) := by
  constructor
  · rw [cell_of_row w b 0 _ _ (0, 0) h.heap]; rfl
  · rw [cell_of_row w b 1 _ _ (0, 0) h.heap]; rfl
/-- A box that was just laid. -/
theorem Box.new (h : SetAt w w0.heap.size a va xs) (x y : Int) : Box (w.alloc (.cells #[.int .i64 x, .int .i64 y] 31)) va w.heap.size x y :=
  ⟨heap_alloc_new w _, fun e => by have := (h.own.lt _ e).2; omega⟩
theorem One.cut (h : One w0 w a va xs lv ls) (f t : Int) (hl : xs.length ≤ 1099511627776) :
    Calls Try.prog 12 #[.pointer (some ⟨a, 0, none⟩), .int .i64 f, .int .i64 t] w fun e w' => e = .returned (.tuple #[]) ∧ ∃ va' xs', One w0 w' a va' xs' lv ls ∧ (∀ k, ins xs' k ↔ ins xs k ∧ ¬ (f ≤ k ∧ k < t)) ∧ xs'.length ≤ xs.length + 1 ∧ ∀ b x y, Box w va b x y → Box w' va' b x y :=
  (cut_any a va xs _ f t w h.sa hl h.bel.size).mono fun _ _ ⟨he, v', qs, h1, h2, h3, h4⟩ => ⟨he, v', qs, h.chg h1 h2, h3, h4, fun _ _ _ hb => hb.chg h.sa h2⟩
end
end Go.Proofs.Ytcmnambanefjeaa

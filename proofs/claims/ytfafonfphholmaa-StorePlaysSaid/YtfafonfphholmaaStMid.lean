/-
  Both stores, and what else a round of StorePlays keeps by them ('Mid'): the act's box, the bytes, what was lent. No function of the program.
-/
import Derived.Test.YtfafonfphholmaaRfBoth
import Derived.Test.YtfafonfphholmaaRfBound
namespace Go.Proofs.Ytfafonfphholmaa
open Go.RowKit

/-- The developers' store is t, the document's is s; the act's number is kept in block z; A reads ys, A' reads ys and the three bytes behind them. -/
structure Mid (W w : World) (p r z : Nat) (nn : Int) (t s : St) (F G : Nat → Prop) (A A' : Option Addr) (ys : List Int) : Prop where
  dev : StoreIs w W.heap.size p t F
  doc : RefIs w W.heap.size r s G
  ap : ∀ k, F k → ¬ G k
  box : w.cell? ⟨z, 0 + 2, none⟩ = some (.int .i64 nn)
  zo : ¬ F z ∧ ¬ G z
  rd : Rd .u8 w A ys
  rd' : Rd .u8 w A' (ys ++ [85, 85, 85])
  o : ∀ a, A = some a → a.block < w.heap.size ∧ ¬ F a.block ∧ ¬ G a.block
  o' : ∀ a, A' = some a → a.block < w.heap.size ∧ ¬ F a.block ∧ ¬ G a.block
  bel : Below W.heap.size W w

section
variable {W w w' : World} {p r z : Nat} {nn : Int} {t t' s s' : St} {F F' G G' : Nat → Prop} {A A' : Option Addr} {ys : List Int}
theorem Mid.zlt (h : Mid W w p r z nn t s F G A A' ys) : z < w.heap.size := by
  have := World.block_lt_of_cell? w _ h.box
  exact this
theorem Mid.turn (h : Mid W w p r z nn t s F G A A' ys) (h1 : StoreIs w' W.heap.size p t' F') (hs : SC w w' F F') : Mid W w' p r z nn t' s F' G A A' ys := by
  have hz := h.zlt
  refine ⟨h1, h.doc.kept hs.trn (fun k hG hF => h.ap k hF hG), fun k hF' hG => (hs.sub k hF').elim (fun e => h.ap k e hG) (fun e => by have := (h.doc.foot_lt k hG).2; omega), ?_, ⟨hs.out hz h.zo.1, h.zo.2⟩, rd_trn h.rd hs.trn (fun a ha => (h.o a ha).2.1), rd_trn h.rd' hs.trn (fun a ha => (h.o' a ha).2.1), ?_, ?_, h.bel.trans (hs.below h.bel.size (fun k hk => (h.dev.foot_lt k hk).1))⟩
  · exact (World.cell?_of_block (hs.trn.block _ hz h.zo.1)).trans h.box
  · intro a ha
    obtain ⟨h1, h2, h3⟩ := h.o a ha
    exact ⟨Nat.lt_of_lt_of_le h1 hs.trn.size, hs.out h1 h2, h3⟩
  · intro a ha
    obtain ⟨h1, h2, h3⟩ := h.o' a ha
    exact ⟨Nat.lt_of_lt_of_le h1 hs.trn.size, hs.out h1 h2, h3⟩
theorem Mid.turn' (h : Mid W w p r z nn t s F G A A' ys) (h1 : RefIs w' W.heap.size r s' G') (hs : SC w w' G G') : Mid W w' p r z nn t s' F G' A A' ys := by
  have hz := h.zlt
  refine ⟨h.dev.kept hs.trn (fun k hF hG => h.ap k hF hG), h1, fun k hF hG' => (hs.sub k hG').elim (fun e => h.ap k hF e) (fun e => by have := (h.dev.foot_lt k hF).2; omega), ?_, ⟨h.zo.1, hs.out hz h.zo.2⟩, rd_trn h.rd hs.trn (fun a ha => (h.o a ha).2.2), rd_trn h.rd' hs.trn (fun a ha => (h.o' a ha).2.2), ?_, ?_, h.bel.trans (hs.below h.bel.size (fun k hk => (h.doc.foot_lt k hk).1))⟩
  · exact (World.cell?_of_block (hs.trn.block _ hz h.zo.2)).trans h.box
  · intro a ha
    obtain ⟨h1, h2, h3⟩ := h.o a ha
    exact ⟨Nat.lt_of_lt_of_le h1 hs.trn.size, h2, hs.out h1 h3⟩
  · intro a ha
    obtain ⟨h1, h2, h3⟩ := h.o' a ha
    exact ⟨Nat.lt_of_lt_of_le h1 hs.trn.size, h2, hs.out h1 h3⟩
theorem Mid.later (h : Mid W w p r z nn t s F G A A' ys) (hb : Below w.heap.size w w') : Mid W w' p r z nn t s F G A A' ys := by
  have h1 := h.turn (h.dev.later hb) (SC.of_below hb)
  exact h1
theorem Mid.both (h : Mid W w p r z nn s s F G A A' ys) : Both w W.heap.size p r s F G := ⟨h.dev, h.doc, h.ap⟩
theorem Mid.of (h : Both w W.heap.size p r s F G) (hb : Below W.heap.size W w) {w1 : World} (h1 : Below w.heap.size w w1) (hz : w1.cell? ⟨z, 0 + 2, none⟩ = some (.int .i64 nn)) (hzl : w.heap.size ≤ z)
    (hr : Rd .u8 w1 A ys) (hr' : Rd .u8 w1 A' (ys ++ [85, 85, 85])) (ho : ∀ a, A = some a → w.heap.size ≤ a.block) (ho' : ∀ a, A' = some a → w.heap.size ≤ a.block) (hl : ∀ a, A = some a → a.block < w1.heap.size) (hl' : ∀ a, A' = some a → a.block < w1.heap.size) : Mid W w1 p r z nn s s F G A A' ys := by
  have h2 := h.later h1
  have f1 := h.1.foot_lt
  have f2 := h.2.1.foot_lt
  refine ⟨h2.1, h2.2.1, h2.2.2, hz, ⟨fun e => ?_, fun e => ?_⟩, hr, hr', fun a ha => ⟨hl a ha, fun e => ?_, fun e => ?_⟩, fun a ha => ⟨hl' a ha, fun e => ?_, fun e => ?_⟩, hb.trans (h1.mono hb.size)⟩
  · have := (f1 _ e).2; omega
  · have := (f2 _ e).2; omega
  · have := (f1 _ e).2; have := ho a ha; omega
  · have := (f2 _ e).2; have := ho a ha; omega
  · have := (f1 _ e).2; have := ho' a ha; omega
  · have := (f2 _ e).2; have := ho' a ha; omega
end
end Go.Proofs.Ytfafonfphholmaa

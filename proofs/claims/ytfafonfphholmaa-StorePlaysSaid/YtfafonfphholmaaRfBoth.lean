/-
  Both stores side by side ('Both'): the developers' and the document's, as the same mathematics, sharing no block. No function of the program.
-/
import Derived.Test.YtfafonfphholmaaRfSame
import Derived.Test.YtfafonfphholmaaRfApp
import Derived.Test.YtfafonfphholmaaRfCrash
import Derived.Test.YtfafonfphholmaaStClone
namespace Go.Proofs.Ytfafonfphholmaa
open Go.RowKit

/-- Blocks p and r are both stores, in blocks from B on, and share nothing. -/
def Both (w : World) (B p r : Nat) (s : St) (F G : Nat → Prop) : Prop := StoreIs w B p s F ∧ RefIs w B r s G ∧ ∀ k, F k → ¬ G k

section
variable {w w1 w' : World} {B p r : Nat} {s t : St} {F G F' G' : Nat → Prop}
theorem RefIs.kept {H : Nat → Prop} (h : RefIs w B r s G) (ht : Trn w w' H) (hf : ∀ k, G k → ¬ H k) : RefIs w' B r s G := by
  obtain ⟨lv, L, nn, h, hk, rfl, hf'⟩ := h
  exact ⟨lv, L, nn, h.kept ht hf, hk, rfl, hf'⟩
theorem RefIs.foot_lt (h : RefIs w B r s G) : ∀ k, G k → B ≤ k ∧ k < w.heap.size := by
  obtain ⟨lv, L, nn, h, hk, rfl, hf'⟩ := h
  exact h.foot_lt
/-- The developers' store has turned. -/
theorem Both.dev (h : Both w B p r s F G) (h1 : StoreIs w' B p t F') (hs : SC w w' F F') : StoreIs w' B p t F' ∧ RefIs w' B r s G ∧ ∀ k, F' k → ¬ G k :=
  ⟨h1, h.2.1.kept hs.trn (fun k hG hF => h.2.2 k hF hG), fun k hF' hG => (hs.sub k hF').elim (fun e => h.2.2 k e hG) (fun e => by have := (h.2.1.foot_lt k hG).2; omega)⟩
/-- Then the document's store has turned. -/
theorem Both.doc (h : StoreIs w B p t F ∧ RefIs w B r s G ∧ ∀ k, F k → ¬ G k) (h1 : RefIs w' B r t G') (hs : SC w w' G G') : Both w' B p r t F G' :=
  ⟨h.1.kept hs.trn h.2.2, h1, fun k hF hG' => (hs.sub k hG').elim (fun e => h.2.2 k hF e) (fun e => by have := (h.1.foot_lt k hF).2; omega)⟩
theorem Both.later (h : Both w B p r s F G) (hb : Below w.heap.size w w') : Both w' B p r s F G := ⟨h.1.later hb, h.2.1.later hb, h.2.2⟩
theorem Both.below (hB : B ≤ w.heap.size) (h : Both w B p r s F G) (h1 : SC w w1 F F') (h2 : SC w1 w' G G') : Below B w w' :=
  (h1.below hB (fun k hk => (h.1.foot_lt k hk).1)).trans (h2.below (Nat.le_trans hB h1.trn.size) (fun k hk => (h.2.1.foot_lt k hk).1))
/-- A block of neither is kept. -/
theorem Both.outside (h1 : SC w w1 F F') (h2 : SC w1 w' G G') {A : Option Addr} {xs : List Int} (hr : Rd .u8 w A xs) (hA : ∀ a, A = some a → a.block < w.heap.size ∧ ¬ F a.block ∧ ¬ G a.block) : Rd .u8 w' A xs :=
  rd_trn (rd_trn hr h1.trn (fun a ha => (hA a ha).2.1)) h2.trn (fun a ha => (hA a ha).2.2)
/-- The document's store, just laid. -/
theorem ref_new (w : World) (hB : B ≤ w.heap.size) : RefIs (w.alloc (.cells #[.slice none 0 0, .bool false, .bool false, .int .i64 0] 28)) B w.heap.size ⟨[], false, 0, false⟩ (RFoot w.heap.size (.slice none 0 0) []) := by
  have hrow : (w.alloc (.cells #[.slice none 0 0, .bool false, .bool false, .int .i64 0] 28)).rowIs w.heap.size 28 4 (refF (.slice none 0 0) false false 0) :=
    World.rowIs_alloc w #[.slice none 0 0, .bool false, .bool false, .int .i64 0] 28 (refF (.slice none 0 0) false false 0) (fun i hi => by
      have : i < 4 := hi
      match i, this with
      | 0, _ | 1, _ | 2, _ | 3, _ => rfl)
  exact ⟨_, [], 0, ⟨hrow, World.ownsRow_nil _ _ _ _, by simp, by simp, List.Pairwise.nil, hB, by simp, by simp, by omega, by omega, fun _ => by omega⟩, rfl, rfl, fun _ => rfl⟩
/-- Both stores, just laid. -/
theorem both_new {w : World} {p : Nat} {F : Nat → Prop} (h : StoreIs w B p ⟨[], false, 0, false⟩ F) : Both (w.alloc (.cells #[.slice none 0 0, .bool false, .bool false, .int .i64 0] 28)) B p w.heap.size ⟨[], false, 0, false⟩ F (RFoot w.heap.size (.slice none 0 0) []) := by
  refine ⟨h.later ((Below.refl _ _).alloc (Nat.le_refl _) _), ref_new w h.size, fun k hF hG => ?_⟩
  have h1 := (h.foot_lt k hF).2
  rcases hG with h2 | h2 | ⟨e, he, _⟩
  · omega
  · simp [Value.ownBlock] at h2
  · cases he
end
end Go.Proofs.Ytfafonfphholmaa

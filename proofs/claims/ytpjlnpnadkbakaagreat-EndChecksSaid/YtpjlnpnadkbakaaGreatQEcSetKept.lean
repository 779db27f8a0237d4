/-
  SetKept.
-/
import Derived.Test.YtpjlnpnadkbakaaGreatQEcSets
import Derived.Test.YtpjlnpnadkbakaaGreatQEcClamp
namespace Go.Proofs.YtpjlnpnadkbakaaGreat
set_option maxRecDepth 10000
open Go.RowKit

section
variable {w w' : World} {B p q : Nat} {v v' : Value} {F : Nat → Prop}
theorem own_not_row {t : TypeId} {b : Nat} {B' : Nat} {u : Value} {qs : List (Int × Int)} (h : OwnP 143 w B' u qs) {f : Nat → Value} {n : Nat} (hr : w.rowIs b t n f) (ht : 143 ≠ t) : u.ownBlock ≠ some b := by
  rcases h.parts with ⟨rfl, _⟩ | ⟨g, cap, cur, rfl, _, hh, _⟩
  · simp [Value.ownBlock]
  · intro he
    simp only [Value.ownBlock, Option.some.injEq] at he
    subst he
    obtain ⟨cur', hh', _⟩ := hr
    rw [hh] at hh'
    injection hh' with hh'
    injection hh' with _ ht'
    exact ht ht'
theorem row_ne {t t' : TypeId} {b b' n n' : Nat} {f f' : Nat → Value} (h : w.rowIs b t n f) (h' : w.rowIs b' t' n' f') (ht : t ≠ t') : b ≠ b' := by
  rintro rfl
  obtain ⟨cur, hh, _⟩ := h
  obtain ⟨cur', hh', _⟩ := h'
  rw [hh] at hh'
  injection hh' with hh'
  injection hh' with _ ht'
  exact ht ht'
theorem SetAt.trn {ps : List (Int × Int)} (hs : SetAt w B q v ps) (ht : Trn w w' F) (h1 : ¬ F q) (h2 : ∀ g, v.ownBlock = some g → ¬ F g) : SetAt w' B q v ps := by
  refine ⟨ht.rowIs hs.row h1, ?_, hs.ge, hs.norm⟩
  refine ⟨hs.own.1, ?_⟩
  rcases hs.own.2 with h | ⟨g, cap, cur, rfl, hB, hg, r⟩
  · exact .inl h
  · exact .inr ⟨g, cap, cur, rfl, hB, by rw [ht.block g (Array.getElem?_eq_some_iff.1 hg).1 (h2 g rfl)]; exact hg, r⟩
end
end Go.Proofs.YtpjlnpnadkbakaaGreat

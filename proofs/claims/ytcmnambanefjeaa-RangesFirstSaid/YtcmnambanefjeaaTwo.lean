/-
  Two Sets that share nothing ('Two'), and what calls on one of them leave of the other one. Contracts over the program.
-/
import Derived.Test.YtcmnambanefjeaaRangesWakes
import Derived.Test.YtcmnambanefjeaaArgA
import Derived.Test.YtcmnambanefjeaaWithin
namespace Go.Proofs.Ytcmnambanefjeaa
open Go.RowKit

theorem within_same (v n : Int) (w : World) (h1 : 1 ≤ n) (h2 : n ≤ 4611686018427387904) :
    Calls Try.prog 6 #[.int .i64 v, .int .i64 n] w fun e w' => e = .returned (.int .i64 (v % n)) ∧ w' = w := (within_any v n w h1 h2).mono fun _ _ ⟨h1, h2⟩ => ⟨h1, h2.symm⟩

/-- Two Sets that share nothing. -/
structure Two (w0 w : World) (a b : Nat) (va vb : Value) (xs ys : List (Int × Int)) : Prop where
  sa : SetAt w w0.heap.size a va xs
  sb : SetAt w w0.heap.size b vb ys
  ne : a ≠ b
  nb : va.ownBlock = none ∨ va.ownBlock ≠ vb.ownBlock
  bel : Below w0.heap.size w0 w

section
variable {w0 w w' : World} {a b : Nat} {va vb : Value} {xs ys : List (Int × Int)}
theorem Two.later (h : Two w0 w a b va vb xs ys) (hb : Below w.heap.size w w') : Two w0 w' a b va vb xs ys := ⟨h.sa.later hb, h.sb.later hb, h.ne, h.nb, h.bel.trans (hb.mono h.bel.size)⟩
theorem Two.symm (h : Two w0 w a b va vb xs ys) : Two w0 w b a vb va ys xs := ⟨h.sb, h.sa, Ne.symm h.ne, by
  rcases h.nb with h1 | h1
  · cases hv : vb.ownBlock with
    | none => exact .inl rfl
    | some g => exact .inr (by rw [h1]; simp)
  · exact .inr (Ne.symm h1), h.bel⟩
theorem Two.chg (h : Two w0 w a b va vb xs ys) {va' : Value} {xs' : List (Int × Int)} (hs : SetAt w' w0.heap.size a va' xs') (hc : Chg w w' a va va') : Two w0 w' a b va' vb xs' ys := by
  have hnb' : vb.ownBlock = none ∨ vb.ownBlock ≠ va.ownBlock := h.symm.nb
  refine ⟨hs, h.sb.other hc (Ne.symm h.ne) (own_not_set h.sa.own h.sb.row) (own_not_set h.sb.own h.sa.row) hnb', h.ne, ?_, hc.below h.bel h.bel.size h.sa.ge (fun g hg => (h.sa.own.lt g hg).1)⟩
  cases hv : va'.ownBlock with
  | none => exact .inl rfl
  | some g =>
    right
    intro he
    rcases hc.fresh g hv with h1 | h1
    · rcases h.nb with h2 | h2
      · rw [h2] at h1; cases h1
      · exact h2 (h1.trans he)
    · have := (h.sb.own.lt g he.symm).2
      omega
theorem Two.drewN (h : Two w0 w a b va vb xs ys) (n : Nat) : Two w0 (w.drewN n) a b va vb xs ys := ⟨h.sa.drewN n, h.sb.drewN n, h.ne, h.nb, below_drewN' h.bel n⟩
/-- Whatever is neither a Set nor a list of Ranges stays. -/
def Rest (w w' : World) : Prop := ∀ (k : Nat) (c : Array Value) (t : TypeId), w.heap[k]? = some (Obj.cells c t (0, 0)) → t ≠ 31 → t ≠ 42 → w'.heap[k]? = some (Obj.cells c t (0, 0))
theorem SetAt.rest {B : Nat} (hs : SetAt w B a va xs) {va' : Value} (hc : Chg w w' a va va') : Rest w w' := by
  intro k c t hk h1 h2
  rw [hc.block k (Array.getElem?_eq_some_iff.1 hk).1 ?_ ?_]
  · exact hk
  · rintro rfl
    obtain ⟨cur, hh, _⟩ := hs.row
    rw [hk] at hh
    injection hh with hh
    injection hh with _ ht
    exact h2 ht
  · intro he
    rcases hs.own.parts with ⟨rfl, _⟩ | ⟨g, cap, cur, rfl, _, hg, _⟩
    · simp [Value.ownBlock] at he
    · simp only [Value.ownBlock, Option.some.injEq] at he
      subst he
      rw [hk] at hg
      injection hg with hg
      injection hg with _ ht
      exact h1 ht
theorem Two.add (h : Two w0 w a b va vb xs ys) (f t : Int) (hl : xs.length ≤ 1099511627776) :
    Calls Try.prog 7 #[.pointer (some ⟨a, 0, none⟩), .int .i64 f, .int .i64 t] w fun e w' => e = .returned (.tuple #[]) ∧ ∃ va' xs', Two w0 w' a b va' vb xs' ys ∧ (∀ k, ins xs' k ↔ ins xs k ∨ (max f 0 ≤ k ∧ k < min t 1099511627776)) ∧ xs'.length ≤ xs.length + 1 ∧ Rest w w' :=
  (add_any a va xs _ f t w h.sa hl h.bel.size).mono fun _ _ ⟨he, v', qs, h1, h2, h3, h4⟩ => ⟨he, v', qs, h.chg h1 h2, h3, h4, h.sa.rest h2⟩
theorem Two.addB (h : Two w0 w a b va vb xs ys) (f t : Int) (hl : ys.length ≤ 1099511627776) :
    Calls Try.prog 7 #[.pointer (some ⟨b, 0, none⟩), .int .i64 f, .int .i64 t] w fun e w' => e = .returned (.tuple #[]) ∧ ∃ vb' ys', Two w0 w' a b va vb' xs ys' ∧ (∀ k, ins ys' k ↔ ins ys k ∨ (max f 0 ≤ k ∧ k < min t 1099511627776)) ∧ ys'.length ≤ ys.length + 1 ∧ Rest w w' :=
  (h.symm.add f t hl).mono fun _ _ ⟨he, v', qs, h1, h2⟩ => ⟨he, v', qs, h1.symm, h2⟩
theorem Two.cut (h : Two w0 w a b va vb xs ys) (f t : Int) (hl : xs.length ≤ 1099511627776) :
    Calls Try.prog 12 #[.pointer (some ⟨a, 0, none⟩), .int .i64 f, .int .i64 t] w fun e w' => e = .returned (.tuple #[]) ∧ ∃ va' xs', Two w0 w' a b va' vb xs' ys ∧ (∀ k, ins xs' k ↔ ins xs k ∧ ¬ (f ≤ k ∧ k < t)) ∧ xs'.length ≤ xs.length + 1 ∧ Rest w w' :=
  (cut_any a va xs _ f t w h.sa hl h.bel.size).mono fun _ _ ⟨he, v', qs, h1, h2, h3, h4⟩ => ⟨he, v', qs, h.chg h1 h2, h3, h4, h.sa.rest h2⟩
end

/-- The places that an element puts in. -/
def wnd (x : ActT) (z : Int) : Prop := x.f % 90 ≤ z ∧ z < x.f % 90 + x.t % 12
theorem box_cell {w : World} {b : Nat} {x1 x2 : Int} {x3 x4 : Bool} {t : TypeId} (h : w.heap[b]? = some (.cells #[.int .i64 x1, .int .i64 x2, .bool x3, .bool x4] t (0, 0))) : w.cell? ⟨b, 0, none⟩ = some (.int .i64 x1) ∧ w.cell? ⟨b, 1, none⟩ = some (.int .i64 x2) := by
  constructor
  · rw [cell_of_row w b 0 _ t (0, 0) h]; rfl
  · rw [cell_of_row w b 1 _ t (0, 0) h]; rfl
def Since (w w' : World) : Prop := Below w.heap.size w w'
theorem Since.keep {wr wi : World} {a : Addr} {v : Value} (hb : Since wr wi) (h : wr.cell? a = some v) : wi.cell? a = some v := cell_later hb h

theorem wnd_succ (X : Nat → ActT) (k : Nat) (z F P : Int) (hF : (X k).f % 90 = F) (hP : (X k).t % 12 = P) : ((∃ i, i < k ∧ wnd (X i) z) ∨ (max F 0 ≤ z ∧ z < min (F + P) 1099511627776)) ↔ ∃ i, i < k + 1 ∧ wnd (X i) z := by
  constructor
  · rintro (⟨i, hi, h⟩ | h)
    · exact ⟨i, by omega, h⟩
    · exact ⟨k, by omega, by unfold wnd; rw [hF, hP]; omega⟩
  · rintro ⟨i, hi, h⟩
    by_cases hk : i = k
    · subst hk
      right
      unfold wnd at h
      rw [hF, hP] at h
      omega
    · exact .inl ⟨i, by omega, h⟩
theorem keepL {wr wi : World} {a1 a2 a3 a4 a5 a6 a7 a8 : Addr} {v1 v2 v3 v4 v5 v6 v7 v8 : Value} (h1 : wr.cell? a1 = some v1) (h2 : wr.cell? a2 = some v2) (h3 : wr.cell? a3 = some v3) (h4 : wr.cell? a4 = some v4)
    (h5 : wr.cell? a5 = some v5) (h6 : wr.cell? a6 = some v6) (h7 : wr.cell? a7 = some v7) (h8 : wr.cell? a8 = some v8) (hb : Below wr.heap.size wr wi) :
    Since wr wi ∧ wi.cell? a1 = some v1 ∧ wi.cell? a2 = some v2 ∧ wi.cell? a3 = some v3 ∧ wi.cell? a4 = some v4 ∧ wi.cell? a5 = some v5 ∧ wi.cell? a6 = some v6 ∧ wi.cell? a7 = some v7 ∧ wi.cell? a8 = some v8 :=
  ⟨hb, cell_later hb h1, cell_later hb h2, cell_later hb h3, cell_later hb h4, cell_later hb h5, cell_later hb h6, cell_later hb h7, cell_later hb h8⟩
end Go.Proofs.Ytcmnambanefjeaa

/-
  What a statement's argument, a slice of slices of ints, is told to be ('ArgR'). No function of the program.
-/
import Derived.Test.YtffofgockddpiaaMem
import Derived.Deep.Matrix
namespace Go.Proofs.Ytffofgockddpiaa
open Go.RowKit

/-- A slice of slices of ints that came in: row i is the slice 'Ra i, Rn i, Rc i', which reads as 'Rz i'. -/
structure ArgR (w : World) (A : Option Addr) (n c : Nat) (Ra : Nat → Option Addr) (Rn Rc : Nat → Nat) (Rz : Nat → List Int) : Prop where
  le : n ≤ c
  reach : c * 24 ≤ 140737488351232
  cell : 0 < n → ∃ b off, A = some ⟨b, off, none⟩ ∧ ∀ i, i < n → w.cell? ⟨b, off + i, none⟩ = some (.slice (Ra i) (Rn i) (Rc i))
  row : ∀ i, i < n → (Rz i).length = Rn i ∧ Rn i ≤ Rc i ∧ Rc i ≤ maxLen ∧ Rd .i64 w (Ra i) (Rz i) ∧ ∀ x ∈ Rz i, -9223372036854775808 ≤ x ∧ x ≤ 9223372036854775807

theorem argR_nil (w : World) : ArgR w none 0 0 (fun _ => none) (fun _ => 0) (fun _ => 0) (fun _ => []) :=
  ⟨Nat.le_refl _, by omega, fun h => absurd h (by omega), fun i hi => absurd hi (by omega)⟩

theorem argR_of {w : World} {a : Addr} {len cap : Nat} {A : Nat → Option Addr} {L C : Nat → Nat} {Z : Nat → List Int} (hl : len ≤ cap) (hr : cap * 24 ≤ 140737488351232)
    (hrow : ∀ r, r < cap → w.cell? (a.add r) = some (.slice (A r) (L r) (C r)) ∧ L r ≤ C r ∧ C r ≤ maxLen ∧ (Z r).length = C r ∧ (∀ n ∈ Z r, (Lit.int .i64 n).wf = true) ∧ (A r = none → C r = 0) ∧
        ∀ a', A r = some a' → 0 ≤ a'.block ∧ ∀ c, c < C r → w.cell? (a'.add c) = some (.int .i64 ((Z r).getD c 0))) :
    ArgR w (some a) len cap A L C (fun r => (Z r).take (L r)) := by
  refine ⟨hl, hr, fun h0 => ?_, fun i hi => ?_⟩
  · obtain ⟨b, off, spot⟩ := a
    have h1 := (hrow 0 (by omega)).1
    have hs : spot = none := by simpa [Addr.add] using World.cell?_spot h1
    subst hs
    refine ⟨b, off, rfl, fun i hi => ?_⟩
    have := (hrow i (by omega)).1
    rwa [Addr.add_lit] at this
  · obtain ⟨h1, h2, h3, h4, h5, h6, h7⟩ := hrow i (by omega)
    refine ⟨by simp; omega, h2, h3, ?_, fun x hx => wf_i64 (h5 x (List.mem_of_mem_take hx))⟩
    cases hA : A i with
    | none =>
      have : Z i = [] := List.eq_nil_of_length_eq_zero (by rw [h4, h6 hA])
      exact .inl (by simp [this])
    | some a' =>
      exact rd_of (L i) (fun c hc => (h7 a' hA).2 c (by omega))

section
variable {w w' : World} {A : Option Addr} {n c : Nat} {Ra : Nat → Option Addr} {Rn Rc : Nat → Nat} {Rz : Nat → List Int}
theorem ArgR.later (h : ArgR w A n c Ra Rn Rc Rz) (hb : Below w.heap.size w w') : ArgR w' A n c Ra Rn Rc Rz :=
  ⟨h.le, h.reach, fun h0 => by
    obtain ⟨b, off, hA, hc⟩ := h.cell h0
    exact ⟨b, off, hA, fun i hi => cell_later hb (hc i hi)⟩, fun i hi => ⟨(h.row i hi).1, (h.row i hi).2.1, (h.row i hi).2.2.1, (h.row i hi).2.2.2.1.later hb, (h.row i hi).2.2.2.2⟩⟩
end
end Go.Proofs.Ytffofgockddpiaa

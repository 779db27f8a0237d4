/-
  An argument that is a list of structs of two numbers and two bools ('ArgA'). No function of the program.
-/
import Derived.Test.YtcmnambanefjeaaOwn
import Derived.Deep.Slices
import Derived.ChangeSame
import Derived.ChangeArms
namespace Go.Proofs.Ytcmnambanefjeaa
open Go.RowKit

/-- An element: its numbers and bools. -/
structure ActT where
  f : Int
  t : Int
  c : Bool
  r : Bool
/-- A slice of such that came in. -/
structure ArgA (w : World) (A : Option Addr) (n c : Nat) (X : Nat → ActT) : Prop where
  le : n ≤ c
  reach : c ≤ 140737488351232
  nil : A = none → c = 0
  rd : n = 0 ∨ ∃ b off, A = some ⟨b, off, none⟩ ∧ ∀ i, i < n → w.cell? ⟨b, off + i * 4, none⟩ = some (.int .i64 (X i).f) ∧ w.cell? ⟨b, off + i * 4 + 1, none⟩ = some (.int .i64 (X i).t) ∧ w.cell? ⟨b, off + i * 4 + 2, none⟩ = some (.bool (X i).c) ∧ w.cell? ⟨b, off + i * 4 + 3, none⟩ = some (.bool (X i).r)

theorem argA_nil (w : World) (X : Nat → ActT) : ArgA w none 0 0 X := ⟨Nat.le_refl _, by omega, fun _ => rfl, .inl rfl⟩
theorem ArgA.later {w w' : World} {A : Option Addr} {n c : Nat} {X : Nat → ActT} (h : ArgA w A n c X) (hb : Below w.heap.size w w') : ArgA w' A n c X := by
  refine ⟨h.le, h.reach, h.nil, ?_⟩
  rcases h.rd with h | ⟨b, off, rfl, hc⟩
  · exact .inl h
  · exact .inr ⟨b, off, rfl, fun i hi => by
      obtain ⟨h1, h2, h3, h4⟩ := hc i hi
      exact ⟨cell_later hb h1, cell_later hb h2, cell_later hb h3, cell_later hb h4⟩⟩

instance : Inhabited ActT := ⟨⟨0, 0, false, false⟩⟩

section
variable {H : Type} {enc : TypeId × Value → H} {P : Program} {w : World} {base : Nat} {spare : Nat → Bool} {held : Bool}
theorem open_acts {t e : TypeId} {f0 f1 f2 f3 : Field} {fuel : Nat} {cs : List Value} {x : DataW H × List MemPlace} (ht : P.underlying t = some (.slice e)) (he : P.underlying e = some (.struct #[f0, f1, f2, f3]))
    (ce : P.cellsOf e = 4) (o0 : f0.offset = 0) (o1 : f1.offset = 1) (o2 : f2.offset = 2) (o3 : f3.offset = 3) (c0 : P.cellsOf f0.type = 1) (c1 : P.cellsOf f1.type = 1) (c2 : P.cellsOf f2.type = 1) (c3 : P.cellsOf f3.type = 1)
    (u0 : P.underlying f0.type = some (.int .i64)) (u1 : P.underlying f1.type = some (.int .i64)) (u2 : P.underlying f2.type = some .bool) (u3 : P.underlying f3.type = some .bool)
    (h : DataW.trod enc P w base (fun _ => true) held fuel t cs = some x) :
    (cs = [.slice none 0 0] ∧ x = (.nil, [])) ∨
    ∃ (a : Addr) (len cap : Nat) (D : Nat → DataW H) (Pl : List MemPlace) (X : Nat → ActT), cs = [.slice (some a) len cap] ∧ len ≤ cap ∧ cap ≤ maxLen ∧
      x = (.slice ((List.range len).map D) ((List.range (cap - len)).map fun j => D (len + j)), Pl) ∧
      ∀ i, i < cap → w.cell? (a.add (i * 4)) = some (.int .i64 (X i).f) ∧ w.cell? (a.add (i * 4 + 1)) = some (.int .i64 (X i).t) ∧ w.cell? (a.add (i * 4 + 2)) = some (.bool (X i).c) ∧ w.cell? (a.add (i * 4 + 3)) = some (.bool (X i).r) := by
  rcases Go.Deep.open_slice ht h with h0 | ⟨a, len, cap, m, n, D, Pl, rfl, hb, hl, hm, hmm, rfl, hx⟩
  · exact Or.inl h0
  right
  simp only [if_true] at hmm
  subst hmm
  have each : ∀ i, i < m → ∃ q : ActT, w.cell? (a.add (i * 4)) = some (.int .i64 q.f) ∧ w.cell? (a.add (i * 4 + 1)) = some (.int .i64 q.t) ∧ w.cell? (a.add (i * 4 + 2)) = some (.bool q.c) ∧ w.cell? (a.add (i * 4 + 3)) = some (.bool q.r) := by
    intro i hi
    obtain ⟨cs', h1, h2⟩ := hx i hi
    rw [ce] at h1
    obtain ⟨_, hlen, hcell⟩ := World.cells?_some h1
    obtain ⟨xs, k, hk, hxy, _, hxl, hf⟩ := DataW.trod_struct he h2
    match cs', hlen with
    | [v0, v1, v2, v3], _ =>
      have g0 := hf 0 f0 rfl
      have g1 := hf 1 f1 rfl
      have g2 := hf 2 f2 rfl
      have g3 := hf 3 f3 rfl
      simp [o0, o1, o2, o3, c0, c1, c2, c3] at g0 g1 g2 g3
      have e0 := hcell 0 (by omega)
      have e1 := hcell 1 (by omega)
      have e2 := hcell 2 (by omega)
      have e3 := hcell 3 (by omega)
      rw [Go.Deep.add_add] at e0 e1 e2 e3
      have l4 : xs.length = 4 := hxl
      obtain ⟨z0, hz0⟩ : ∃ z, xs[0]? = some z := ⟨_, List.getElem?_eq_getElem (by omega)⟩
      obtain ⟨z1, hz1⟩ : ∃ z, xs[1]? = some z := ⟨_, List.getElem?_eq_getElem (by omega)⟩
      obtain ⟨z2, hz2⟩ : ∃ z, xs[2]? = some z := ⟨_, List.getElem?_eq_getElem (by omega)⟩
      obtain ⟨z3, hz3⟩ : ∃ z, xs[3]? = some z := ⟨_, List.getElem?_eq_getElem (by omega)⟩
      rw [hz0] at g0
      rw [hz1] at g1
      rw [hz2] at g2
      rw [hz3] at g3
      obtain ⟨n0, h0, _⟩ := DataW.trod_int u0 g0
      obtain ⟨n1, h1', _⟩ := DataW.trod_int u1 g1
      obtain ⟨n2, h2', _⟩ := DataW.trod_bool u2 g2
      obtain ⟨n3, h3, _⟩ := DataW.trod_bool u3 g3
      simp only [List.cons.injEq, and_true] at h0 h1' h2' h3
      subst h0
      subst h1'
      subst h2'
      subst h3
      exact ⟨⟨n0, n1, n2, n3⟩, by simpa using e0, by simpa using e1, by simpa using e2, by simpa using e3⟩
  obtain ⟨X, hX⟩ := Go.Deep.choose_lt each
  exact ⟨a, len, m, D, _, X, rfl, hl, hm, rfl, hX⟩
theorem argA_of {a : Addr} {len cap : Nat} {X : Nat → ActT} (hl : len ≤ cap) (hr : cap * 24 ≤ 140737488351232)
    (hX : ∀ i, i < cap → w.cell? (a.add (i * 4)) = some (.int .i64 (X i).f) ∧ w.cell? (a.add (i * 4 + 1)) = some (.int .i64 (X i).t) ∧ w.cell? (a.add (i * 4 + 2)) = some (.bool (X i).c) ∧ w.cell? (a.add (i * 4 + 3)) = some (.bool (X i).r)) :
    ArgA w (some a) len cap X := by
  refine ⟨hl, by omega, fun h => (by cases h), ?_⟩
  by_cases h0 : len = 0
  · exact .inl h0
  · right
    obtain ⟨b, off, spot⟩ := a
    have h1 := (hX 0 (by omega)).1
    have hs : spot = none := by simpa [Addr.add] using World.cell?_spot h1
    subst hs
    refine ⟨b, off, rfl, fun i hi => ?_⟩
    have := hX i (by omega)
    simp only [Addr.add_lit] at this
    exact this
end
end Go.Proofs.Ytcmnambanefjeaa

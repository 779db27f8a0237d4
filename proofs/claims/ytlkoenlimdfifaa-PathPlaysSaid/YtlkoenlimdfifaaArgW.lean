/-
  An argument that is a list of acts on a path (haulierlaw18.Act: three numbers). No function of the program.
-/
import Derived.Test.YtlkoenlimdfifaaArgSetup
namespace Go.Proofs.Ytlkoenlimdfifaa
open Go.ChangeShapes Go.WideShapes Go.ChangeAt Go.RowKit

/-- An act that came in. -/
structure ActW where
  d : Int
  n : Int
  m : Int
instance : Inhabited ActW := ⟨⟨0, 0, 0⟩⟩
def ActW.cs (x : ActW) : List Value := [.int .i64 x.d, .int .i64 x.n, .int .i64 x.m]
/-- A slice of acts that came in. -/
structure ArgW (w : World) (A : Option Addr) (n c : Nat) (ms : List ActW) : Prop where
  len : ms.length = n
  le : n ≤ c
  reach : c * 24 ≤ 140737488351232
  cell : 0 < n → ∃ b off, A = some ⟨b, off, none⟩ ∧ ∀ i, i < n → w.cell? ⟨b, off + i * 3, none⟩ = some (.int .i64 (ms.getD i default).d) ∧ w.cell? ⟨b, off + i * 3 + 1, none⟩ = some (.int .i64 (ms.getD i default).n) ∧ w.cell? ⟨b, off + i * 3 + 2, none⟩ = some (.int .i64 (ms.getD i default).m)
theorem argW_nil (w : World) : ArgW w none 0 0 [] := ⟨rfl, Nat.le_refl _, by omega, fun h => absurd h (by omega)⟩
theorem ArgW.later {w w' : World} {A : Option Addr} {n c : Nat} {ms : List ActW} (h : ArgW w A n c ms) (hb : Below w.heap.size w w') : ArgW w' A n c ms :=
  ⟨h.len, h.le, h.reach, fun h0 => by
    obtain ⟨b, off, rfl, hc⟩ := h.cell h0
    exact ⟨b, off, rfl, fun i hi => by
      obtain ⟨h1, h2, h3⟩ := hc i hi
      exact ⟨cell_later hb h1, cell_later hb h2, cell_later hb h3⟩⟩⟩

section
variable {H : Type} {enc : TypeId × Value → H} {w : World} {held : Bool}
set_option maxRecDepth 10000 in
theorem openW_act {fuel : Nat} {cs : List Value} {x : DataW H × List MemPlace} (hl : cs.length = 3) (h : DataW.trod enc Try.prog w 0 (fun _ => true) held fuel 48 cs = some x) :
    ∃ m : ActW, cs = m.cs := by
  obtain ⟨xs, k, hk, hxy, _, hxl, hf⟩ := DataW.trod_struct Try.underlying48 h
  have hxl9 : xs.length = 3 := hxl
  have some_ : ∀ i, i < 3 → ∃ z, xs[i]? = some z := fun i hi => ⟨_, List.getElem?_eq_getElem (by omega)⟩
  have ci : Try.prog.cellsOf 3 = 1 := by kernel_rfl
  match cs, hl with
  | [v0, v1, v2], _ =>
    have g0 := hf 0 _ rfl
    have g1 := hf 1 _ rfl
    have g2 := hf 2 _ rfl
    simp [ci] at g0 g1 g2
    obtain ⟨z0, e0⟩ := some_ 0 (by omega)
    obtain ⟨z1, e1⟩ := some_ 1 (by omega)
    obtain ⟨z2, e2⟩ := some_ 2 (by omega)
    obtain ⟨n0, rfl⟩ := openSu_i (g0.trans e0)
    obtain ⟨n1, rfl⟩ := openSu_i (g1.trans e1)
    obtain ⟨n2, rfl⟩ := openSu_i (g2.trans e2)
    exact ⟨⟨n0, n1, n2⟩, rfl⟩
set_option maxRecDepth 10000 in
theorem open_acts18 {fuel : Nat} {cs : List Value} {x : DataW H × List MemPlace} (h : DataW.trod enc Try.prog w 0 (fun _ => true) held fuel 43 cs = some x) :
    (cs = [.slice none 0 0] ∧ x = (.nil, [])) ∨
    ∃ (a : Addr) (len cap : Nat) (D : Nat → DataW H) (Pl : List MemPlace) (X : Nat → ActW), cs = [.slice (some a) len cap] ∧ len ≤ cap ∧ cap ≤ maxLen ∧
      x = (.slice ((List.range len).map D) ((List.range (cap - len)).map fun j => D (len + j)), Pl) ∧
      ∀ i, i < cap → ∀ j v, (X i).cs[j]? = some v → w.cell? (a.add (i * 3 + j)) = some v := by
  rcases Go.Deep.open_slice Try.underlying43 h with h0 | ⟨a, len, cap, m, n, D, Pl, rfl, hb, hl, hm, hmm, rfl, hx⟩
  · exact Or.inl h0
  right
  simp only [if_true] at hmm
  subst hmm
  have ce : Try.prog.cellsOf 48 = 3 := by kernel_rfl
  have each : ∀ i, i < m → ∃ q : ActW, ∀ j v, q.cs[j]? = some v → w.cell? (a.add (i * 3 + j)) = some v := by
    intro i hi
    obtain ⟨cs', h1, h2⟩ := hx i hi
    rw [ce] at h1
    obtain ⟨_, hlen, hcell⟩ := World.cells?_some h1
    obtain ⟨q, rfl⟩ := openW_act hlen h2
    refine ⟨q, fun j v hv => ?_⟩
    have hj : j < 3 := by
      have := (List.getElem?_eq_some_iff.1 hv).1
      omega
    have := hcell j (by omega)
    rw [Go.Deep.add_add] at this
    rw [this, hv]
  obtain ⟨X, hX⟩ := Go.Deep.choose_lt each
  exact ⟨a, len, m, D, _, X, rfl, hl, hm, rfl, hX⟩
end
set_option maxRecDepth 10000 in
theorem argW_of {w : World} {a : Addr} {len cap : Nat} {X : Nat → ActW} (hl : len ≤ cap) (hr : cap * 24 ≤ 140737488351232)
    (hX : ∀ i, i < cap → ∀ j v, (X i).cs[j]? = some v → w.cell? (a.add (i * 3 + j)) = some v) : ArgW w (some a) len cap ((List.range len).map X) := by
  refine ⟨by simp, hl, hr, fun h0 => ?_⟩
  obtain ⟨b, off, spot⟩ := a
  have h1 := hX 0 (by omega) 0 _ rfl
  have hs : spot = none := by simpa [Addr.add] using World.cell?_spot h1
  subst hs
  refine ⟨b, off, rfl, fun i hi => ?_⟩
  have hg : ((List.range len).map X).getD i default = X i := by
    rw [List.getD_eq_getElem?_getD, List.getElem?_map, List.getElem?_range hi]
    rfl
  rw [hg]
  have h2 := hX i (by omega)
  have h3 := h2 0 _ rfl
  have h4 := h2 1 _ rfl
  have h5 := h2 2 _ rfl
  rw [Addr.add_lit] at h3 h4 h5
  exact ⟨h3, h4, h5⟩
end Go.Proofs.Ytlkoenlimdfifaa

/-
  An argument that is a list of acts on an inbox (haulierlaw16.Act): what its reading says of memory. No function of the program.
-/
import Derived.Test.YtlljfinagjdihaaMem
import Derived.Test.YtlljfinagjdihaaRows
import Derived.Deep.Slices
import Derived.ChangeSame
import Derived.ChangeArms
import Derived.OpenShut
import Derived.ChangeOld
namespace Go.Proofs.Ytlljfinagjdihaa
open Go.ChangeShapes Go.WideShapes Go.ChangeAt Go.RowKit

/-- An act that came in. -/
structure ActI where
  d : Int
  f : Int
  n : Int
  A : Option Addr
  c : Nat
  xs : List Int
  fin : Bool
instance : Inhabited ActI := ⟨⟨0, 0, 0, none, 0, [], false⟩⟩
def ActI.cs (m : ActI) : List Value := [.int .i64 m.d, .int .i64 m.f, .int .i64 m.n, .slice m.A m.xs.length m.c, .bool m.fin]
structure ActI.at (w : World) (m : ActI) : Prop where
  rd : Rd .u8 w m.A m.xs
  len : m.xs.length ≤ 9223372036854775807
  le : m.xs.length ≤ m.c
  nil : m.A = none → m.c = 0
  bytes : ∀ y ∈ m.xs, (0 : Int) ≤ y ∧ y < 256
  bd : -9223372036854775808 ≤ m.d ∧ m.d ≤ 9223372036854775807
  bf : -9223372036854775808 ≤ m.f ∧ m.f ≤ 9223372036854775807
  bn : -9223372036854775808 ≤ m.n ∧ m.n ≤ 9223372036854775807

section
variable {H : Type} {enc : TypeId × Value → H} {w : World} {held : Bool}
set_option maxRecDepth 10000 in
theorem openQ_data {fuel : Nat} {v : Value} {x : DataW H × List MemPlace} (h : DataW.trod enc Try.prog w 0 (fun _ => true) held fuel 22 [v] = some x) :
    ∃ A c l, v = .slice A (List.length l) c ∧ Rd .u8 w A l ∧ l.length ≤ 9223372036854775807 ∧ l.length ≤ c ∧ (A = none → c = 0) ∧ ∀ y ∈ l, (0 : Int) ≤ y ∧ y < 256 := by
  rcases open_ints Try.underlying22 Try.underlying5 (by kernel_rfl) h with ⟨hcs, _⟩ | ⟨a, l, c, zs, hcs, _, hl, hm, hz, _, hcell, hwz⟩
  · simp at hcs
    subst hcs
    exact ⟨none, 0, [], rfl, .inl rfl, by simp, by simp, fun _ => rfl, by simp⟩
  · simp at hcs
    subst hcs
    simp only [if_true] at hz
    refine ⟨some a, c, zs.take l, ?_, rd_of l hcell, ?_, ?_, fun e => (by cases e), fun y hy => wf_u8 (hwz y (List.mem_of_mem_take hy))⟩
    · simp; omega
    · unfold maxLen at hm; simp; omega
    · simp; omega
set_option maxRecDepth 10000 in
theorem openQ_i {fuel : Nat} {v : Value} {x : DataW H × List MemPlace} (h : DataW.trod enc Try.prog w 0 (fun _ => true) held fuel 3 [v] = some x) : ∃ n, v = .int .i64 n ∧ -9223372036854775808 ≤ n ∧ n ≤ 9223372036854775807 := by
  obtain ⟨n, h0, _, wf⟩ := DataW.trod_int Try.underlying3 h
  simp only [List.cons.injEq, and_true] at h0
  exact ⟨n, h0, wf_i64 wf⟩
set_option maxRecDepth 10000 in
theorem openQ_b {fuel : Nat} {v : Value} {x : DataW H × List MemPlace} (h : DataW.trod enc Try.prog w 0 (fun _ => true) held fuel 4 [v] = some x) : ∃ b, v = .bool b := by
  obtain ⟨b, h0, _⟩ := DataW.trod_bool Try.underlying4 h
  simp only [List.cons.injEq, and_true] at h0
  exact ⟨b, h0⟩
set_option maxRecDepth 10000 in
theorem openQ_act {fuel : Nat} {cs : List Value} {x : DataW H × List MemPlace} (hl : cs.length = 5) (h : DataW.trod enc Try.prog w 0 (fun _ => true) held fuel 38 cs = some x) :
    ∃ m : ActI, cs = m.cs ∧ m.at w := by
  obtain ⟨xs, k, hk, hxy, _, hxl, hf⟩ := DataW.trod_struct Try.underlying38 h
  have hxl9 : xs.length = 5 := hxl
  have some_ : ∀ i, i < 5 → ∃ z, xs[i]? = some z := fun i hi => ⟨_, List.getElem?_eq_getElem (by omega)⟩
  have ci : Try.prog.cellsOf 3 = 1 := by kernel_rfl
  have cl : Try.prog.cellsOf 22 = 1 := by kernel_rfl
  have cb : Try.prog.cellsOf 4 = 1 := by kernel_rfl
  match cs, hl with
  | [v0, v1, v2, v3, v4], _ =>
    have g0 := hf 0 _ rfl
    have g1 := hf 1 _ rfl
    have g2 := hf 2 _ rfl
    have g3 := hf 3 _ rfl
    have g4 := hf 4 _ rfl
    simp [ci, cl, cb] at g0 g1 g2 g3 g4
    obtain ⟨z0, e0⟩ := some_ 0 (by omega)
    obtain ⟨z1, e1⟩ := some_ 1 (by omega)
    obtain ⟨z2, e2⟩ := some_ 2 (by omega)
    obtain ⟨z3, e3⟩ := some_ 3 (by omega)
    obtain ⟨z4, e4⟩ := some_ 4 (by omega)
    obtain ⟨n0, rfl, b0⟩ := openQ_i (g0.trans e0)
    obtain ⟨n1, rfl, b1⟩ := openQ_i (g1.trans e1)
    obtain ⟨n2, rfl, b2⟩ := openQ_i (g2.trans e2)
    obtain ⟨A, c, l, rfl, rd, r1, r2, r3, r4⟩ := openQ_data (g3.trans e3)
    obtain ⟨bb, rfl⟩ := openQ_b (g4.trans e4)
    exact ⟨⟨n0, n1, n2, A, c, l, bb⟩, rfl, ⟨rd, r1, r2, r3, r4, b0, b1, b2⟩⟩

/-- A slice of acts that came in. -/
structure ArgQ (w : World) (A : Option Addr) (n c : Nat) (ms : List ActI) : Prop where
  len : ms.length = n
  le : n ≤ c
  reach : c * 56 ≤ 140737488351232
  nil : A = none → c = 0
  each : ∀ m ∈ ms, m.at w
  cell : 0 < n → ∃ b off, A = some ⟨b, off, none⟩ ∧ ∀ i m, ms[i]? = some m → w.cell? ⟨b, off + i * 5, none⟩ = some (.int .i64 m.d) ∧ w.cell? ⟨b, off + i * 5 + 1, none⟩ = some (.int .i64 m.f) ∧ w.cell? ⟨b, off + i * 5 + 2, none⟩ = some (.int .i64 m.n) ∧ w.cell? ⟨b, off + i * 5 + 3, none⟩ = some (.slice m.A m.xs.length m.c) ∧ w.cell? ⟨b, off + i * 5 + 4, none⟩ = some (.bool m.fin)
theorem argQ_nil (w : World) : ArgQ w none 0 0 [] := ⟨rfl, Nat.le_refl _, by omega, fun _ => rfl, by simp, fun h => absurd h (by omega)⟩
set_option maxRecDepth 10000 in
theorem open_acts16 {fuel : Nat} {cs : List Value} {x : DataW H × List MemPlace} (h : DataW.trod enc Try.prog w 0 (fun _ => true) held fuel 34 cs = some x) :
    (cs = [.slice none 0 0] ∧ x = (.nil, [])) ∨
    ∃ (a : Addr) (len cap : Nat) (D : Nat → DataW H) (Pl : List MemPlace) (X : Nat → ActI), cs = [.slice (some a) len cap] ∧ len ≤ cap ∧ cap ≤ maxLen ∧
      x = (.slice ((List.range len).map D) ((List.range (cap - len)).map fun j => D (len + j)), Pl) ∧
      ∀ i, i < cap → (X i).at w ∧ ∀ j v, (X i).cs[j]? = some v → w.cell? (a.add (i * 5 + j)) = some v := by
  rcases Go.Deep.open_slice Try.underlying34 h with h0 | ⟨a, len, cap, m, n, D, Pl, rfl, hb, hl, hm, hmm, rfl, hx⟩
  · exact Or.inl h0
  right
  simp only [if_true] at hmm
  subst hmm
  have ce : Try.prog.cellsOf 38 = 5 := by kernel_rfl
  have each : ∀ i, i < m → ∃ q : ActI, q.at w ∧ ∀ j v, q.cs[j]? = some v → w.cell? (a.add (i * 5 + j)) = some v := by
    intro i hi
    obtain ⟨cs', h1, h2⟩ := hx i hi
    rw [ce] at h1
    obtain ⟨_, hlen, hcell⟩ := World.cells?_some h1
    obtain ⟨q, rfl, hq⟩ := openQ_act hlen h2
    refine ⟨q, hq, fun j v hv => ?_⟩
    have hj : j < 5 := by
      have := (List.getElem?_eq_some_iff.1 hv).1
      omega
    have := hcell j (by omega)
    rw [Go.Deep.add_add] at this
    rw [this, hv]
  obtain ⟨X, hX⟩ := Go.Deep.choose_lt each
  exact ⟨a, len, m, D, _, X, rfl, hl, hm, rfl, hX⟩
end
set_option maxRecDepth 10000 in
theorem argQ_of {w : World} {a : Addr} {len cap : Nat} {X : Nat → ActI} (hl : len ≤ cap) (hr : cap * 56 ≤ 140737488351232)
    (hX : ∀ i, i < cap → (X i).at w ∧ ∀ j v, (X i).cs[j]? = some v → w.cell? (a.add (i * 5 + j)) = some v) : ArgQ w (some a) len cap ((List.range len).map X) := by
  refine ⟨by simp, hl, hr, fun h => (by cases h), fun m hm => ?_, fun h0 => ?_⟩
  · obtain ⟨i, hi, rfl⟩ := List.mem_map.1 hm
    exact (hX i (by have := List.mem_range.1 hi; omega)).1
  · obtain ⟨b, off, spot⟩ := a
    have h1 := (hX 0 (by omega)).2 0 _ rfl
    have hs : spot = none := by simpa [Addr.add] using World.cell?_spot h1
    subst hs
    refine ⟨b, off, rfl, fun i m hm => ?_⟩
    have hi : i < len := by have := (List.getElem?_eq_some_iff.1 hm).1; simpa using this
    have hg : X i = m := by
      rw [List.getElem?_map, List.getElem?_range hi] at hm
      simpa using hm
    subst hg
    have h2 := (hX i (by omega)).2
    have h3 := h2 0 _ rfl
    have h4 := h2 1 _ rfl
    have h5 := h2 2 _ rfl
    have h6 := h2 3 _ rfl
    have h7 := h2 4 _ rfl
    rw [Addr.add_lit] at h3 h4 h5 h6 h7
    exact ⟨h3, h4, h5, h6, h7⟩
end Go.Proofs.Ytlljfinagjdihaa

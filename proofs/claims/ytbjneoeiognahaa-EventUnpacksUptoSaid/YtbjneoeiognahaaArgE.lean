/-
  An argument that is a list of events: what its reading says of memory. No function of the program.
-/
import Derived.Test.YtbjneoeiognahaaEvList
import Derived.Deep.Slices
import Derived.ChangeSame
import Derived.ChangeArms
import Derived.OpenShut
import Derived.ChangeOld
namespace Go.Proofs.Ytbjneoeiognahaa
open Go.ChangeShapes Go.WideShapes Go.ChangeAt Go.RowKit

section
variable {H : Type} {enc : TypeId × Value → H} {w : World} {held : Bool}
set_option maxRecDepth 10000 in
/-- Bytes in a cell. -/
theorem open_data {fuel : Nat} {v : Value} {x : DataW H × List MemPlace} (h : DataW.trod enc Try.prog w 0 (fun _ => true) held fuel 23 [v] = some x) :
    ∃ A c l, v = .slice A (List.length l) c ∧ Rd .u8 w A l ∧ l.length ≤ 9223372036854775807 ∧ l.length ≤ c ∧ (A = none → c = 0) ∧ ∀ y ∈ l, (0 : Int) ≤ y ∧ y < 256 := by
  rcases open_ints Try.underlying23 Try.underlying5 (by kernel_rfl) h with ⟨hcs, _⟩ | ⟨a, l, c, zs, hcs, _, hl, hm, hz, _, hcell, hwz⟩
  · simp at hcs
    subst hcs
    exact ⟨none, 0, [], rfl, .inl rfl, by simp, by simp, fun _ => rfl, by simp⟩
  · simp at hcs
    subst hcs
    simp only [if_true] at hz
    refine ⟨some a, c, zs.take l, ?_, rd_of l hcell, ?_, ?_, fun e => (by cases e), fun y hy => wf_u8 (hwz y (List.mem_of_mem_take hy))⟩
    · simp; omega
    · unfold maxLen at hm; simp; omega
    · simp; omega

set_option maxRecDepth 10000 in
theorem open_i {fuel : Nat} {v : Value} {x : DataW H × List MemPlace} (h : DataW.trod enc Try.prog w 0 (fun _ => true) held fuel 3 [v] = some x) : ∃ n, v = .int .i64 n ∧ -9223372036854775808 ≤ n ∧ n ≤ 9223372036854775807 := by
  obtain ⟨n, h0, _, wf⟩ := DataW.trod_int Try.underlying3 h
  simp only [List.cons.injEq, and_true] at h0
  exact ⟨n, h0, wf_i64 wf⟩
set_option maxRecDepth 10000 in
theorem open_b {fuel : Nat} {v : Value} {x : DataW H × List MemPlace} (h : DataW.trod enc Try.prog w 0 (fun _ => true) held fuel 4 [v] = some x) : ∃ n, v = .bool n := by
  obtain ⟨n, h0, _⟩ := DataW.trod_bool Try.underlying4 h
  simp only [List.cons.injEq, and_true] at h0
  exact ⟨n, h0⟩

set_option maxRecDepth 10000 in
theorem open_pk {fuel : Nat} {cs : List Value} {x : DataW H × List MemPlace} (hl : cs.length = 9) (h : DataW.trod enc Try.prog w 0 (fun _ => true) held fuel 58 cs = some x) :
    ∃ pk B d, cs = Pkt.cs pk B d ∧ PktAt w pk B d := by
  obtain ⟨xs, k, hk, hxy, _, hxl, hf⟩ := DataW.trod_struct Try.underlying58 h
  have hxl9 : xs.length = 9 := hxl
  have some_ : ∀ i, i < 9 → ∃ z, xs[i]? = some z := fun i hi => ⟨_, List.getElem?_eq_getElem (by omega)⟩
  have ci : Try.prog.cellsOf 3 = 1 := by kernel_rfl
  have cb : Try.prog.cellsOf 4 = 1 := by kernel_rfl
  have cl : Try.prog.cellsOf 23 = 1 := by kernel_rfl
  match cs, hl with
  | [v0, v1, v2, v3, v4, v5, v6, v7, v8], _ =>
    have g0 := hf 0 _ rfl
    have g1 := hf 1 _ rfl
    have g2 := hf 2 _ rfl
    have g3 := hf 3 _ rfl
    have g4 := hf 4 _ rfl
    have g5 := hf 5 _ rfl
    have g6 := hf 6 _ rfl
    have g7 := hf 7 _ rfl
    have g8 := hf 8 _ rfl
    simp [ci, cb, cl] at g0 g1 g2 g3 g4 g5 g6 g7 g8
    obtain ⟨z0, e0⟩ := some_ 0 (by omega)
    obtain ⟨z1, e1⟩ := some_ 1 (by omega)
    obtain ⟨z2, e2⟩ := some_ 2 (by omega)
    obtain ⟨z3, e3⟩ := some_ 3 (by omega)
    obtain ⟨z4, e4⟩ := some_ 4 (by omega)
    obtain ⟨z5, e5⟩ := some_ 5 (by omega)
    obtain ⟨z6, e6⟩ := some_ 6 (by omega)
    obtain ⟨z7, e7⟩ := some_ 7 (by omega)
    obtain ⟨z8, e8⟩ := some_ 8 (by omega)
    obtain ⟨n0, rfl, b0⟩ := open_i (g0.trans e0)
    obtain ⟨n1, rfl, b1⟩ := open_i (g1.trans e1)
    obtain ⟨n2, rfl, b2⟩ := open_i (g2.trans e2)
    obtain ⟨n3, rfl, b3⟩ := open_i (g3.trans e3)
    obtain ⟨n4, rfl, b4⟩ := open_i (g4.trans e4)
    obtain ⟨A, c, l, rfl, rd, r1, r2, r3, r4⟩ := open_data (g5.trans e5)
    obtain ⟨fin, rfl⟩ := open_b (g6.trans e6)
    obtain ⟨n7, rfl, b7⟩ := open_i (g7.trans e7)
    obtain ⟨n8, rfl, b8⟩ := open_i (g8.trans e8)
    exact ⟨⟨n0, n1, n2, n3, n4, l, fin, n7, n8⟩, A, c, rfl, ⟨rd, r1, r2, r3, r4, b0, b1, b2, b3, b4, b7, b8⟩⟩

set_option maxRecDepth 10000 in
theorem open_ev {fuel : Nat} {cs : List Value} {x : DataW H × List MemPlace} (hl : cs.length = 12) (h : DataW.trod enc Try.prog w 0 (fun _ => true) held fuel 60 cs = some x) :
    ∃ m : EvM, cs = m.cs ∧ m.at w := by
  obtain ⟨xs, k, hk, hxy, _, hxl, hf⟩ := DataW.trod_struct Try.underlying60 h
  have hxl9 : xs.length = 4 := hxl
  have some_ : ∀ i, i < 4 → ∃ z, xs[i]? = some z := fun i hi => ⟨_, List.getElem?_eq_getElem (by omega)⟩
  have ci : Try.prog.cellsOf 3 = 1 := by kernel_rfl
  have cl : Try.prog.cellsOf 23 = 1 := by kernel_rfl
  have cp : Try.prog.cellsOf 58 = 9 := by kernel_rfl
  match cs, hl with
  | [v0, v1, v2, v3, v4, v5, v6, v7, v8, v9, v10, v11], _ =>
    have g0 := hf 0 _ rfl
    have g1 := hf 1 _ rfl
    have g2 := hf 2 _ rfl
    have g3 := hf 3 _ rfl
    simp [ci, cl, cp] at g0 g1 g2 g3
    obtain ⟨z0, e0⟩ := some_ 0 (by omega)
    obtain ⟨z1, e1⟩ := some_ 1 (by omega)
    obtain ⟨z2, e2⟩ := some_ 2 (by omega)
    obtain ⟨z3, e3⟩ := some_ 3 (by omega)
    obtain ⟨n0, rfl, b0⟩ := open_i (g0.trans e0)
    obtain ⟨n1, rfl, b1⟩ := open_i (g1.trans e1)
    obtain ⟨A, c, l, rfl, rd, r1, r2, r3, r4⟩ := open_data (g2.trans e2)
    obtain ⟨pk, B, d, hp, hat⟩ := open_pk (by simp) (g3.trans e3)
    refine ⟨⟨⟨n0, n1, l, pk⟩, A, c, B, d⟩, ?_, ⟨rd, r1, r2, r3, r4, b0, b1, hat⟩⟩
    unfold EvM.cs Ev.cs
    unfold Pkt.cs at hp
    simp only [List.cons.injEq] at hp
    simp only [List.cons.injEq, true_and]
    exact hp

/-- A slice of events that came in. -/
structure ArgE (w : World) (A : Option Addr) (n c : Nat) (ms : List EvM) : Prop where
  len : ms.length = n
  le : n ≤ c
  reach : c * 96 ≤ 140737488351232
  nil : A = none → c = 0
  evs : Evs w A ms
set_option maxRecDepth 10000 in
theorem argE_nil (w : World) : ArgE w none 0 0 [] := ⟨rfl, Nat.le_refl _, by omega, fun _ => rfl, Evs.nil _ _⟩
set_option maxRecDepth 10000 in
theorem open_evs {fuel : Nat} {cs : List Value} {x : DataW H × List MemPlace} (h : DataW.trod enc Try.prog w 0 (fun _ => true) held fuel 55 cs = some x) :
    (cs = [.slice none 0 0] ∧ x = (.nil, [])) ∨
    ∃ (a : Addr) (len cap : Nat) (D : Nat → DataW H) (Pl : List MemPlace) (X : Nat → EvM), cs = [.slice (some a) len cap] ∧ len ≤ cap ∧ cap ≤ maxLen ∧
      x = (.slice ((List.range len).map D) ((List.range (cap - len)).map fun j => D (len + j)), Pl) ∧
      ∀ i, i < cap → (X i).at w ∧ ∀ j v, (X i).cs[j]? = some v → w.cell? (a.add (i * 12 + j)) = some v := by
  rcases Go.Deep.open_slice Try.underlying55 h with h0 | ⟨a, len, cap, m, n, D, Pl, rfl, hb, hl, hm, hmm, rfl, hx⟩
  · exact Or.inl h0
  right
  simp only [if_true] at hmm
  subst hmm
  have ce : Try.prog.cellsOf 60 = 12 := by kernel_rfl
  have each : ∀ i, i < m → ∃ q : EvM, q.at w ∧ ∀ j v, q.cs[j]? = some v → w.cell? (a.add (i * 12 + j)) = some v := by
    intro i hi
    obtain ⟨cs', h1, h2⟩ := hx i hi
    rw [ce] at h1
    obtain ⟨_, hlen, hcell⟩ := World.cells?_some h1
    obtain ⟨q, rfl, hq⟩ := open_ev hlen h2
    refine ⟨q, hq, fun j v hv => ?_⟩
    have hj : j < 12 := by
      have := (List.getElem?_eq_some_iff.1 hv).1
      omega
    have := hcell j (by omega)
    rw [Go.Deep.add_add] at this
    rw [this, hv]
  obtain ⟨X, hX⟩ := Go.Deep.choose_lt each
  exact ⟨a, len, m, D, _, X, rfl, hl, hm, rfl, hX⟩
end
set_option maxRecDepth 10000 in
theorem argE_of {w : World} {a : Addr} {len cap : Nat} {X : Nat → EvM} (hl : len ≤ cap) (hr : cap * 96 ≤ 140737488351232)
    (hX : ∀ i, i < cap → (X i).at w ∧ ∀ j v, (X i).cs[j]? = some v → w.cell? (a.add (i * 12 + j)) = some v) : ArgE w (some a) len cap ((List.range len).map X) := by
  refine ⟨by simp, hl, hr, fun h => (by cases h), ⟨fun m hm => ?_, ?_⟩⟩
  · obtain ⟨i, hi, rfl⟩ := List.mem_map.1 hm
    exact (hX i (by have := List.mem_range.1 hi; omega)).1
  · by_cases h0 : len = 0
    · left; simp [h0]
    · right
      obtain ⟨b, off, spot⟩ := a
      have h1 := (hX 0 (by omega)).2 0 _ rfl
      have hs : spot = none := by simpa [Addr.add] using World.cell?_spot h1
      subst hs
      refine ⟨b, off, rfl, fun i hi => ?_⟩
      have hi' : i < len := by simpa using hi
      have hg : ((List.range len).map X).getD i default = X i := by simp [List.getD, hi']
      rw [hg]
      refine evIn_of fun j v hv => ?_
      have := (hX i (by omega)).2 j v hv
      rw [Addr.add_lit] at this
      rw [← this, Nat.add_assoc]
end Go.Proofs.Ytbjneoeiognahaa

/-
  Numbers that are read in memory ('Rd'), and what a statement's argument, a slice of numbers, is told to be ('ArgI'). No program.
-/
import Derived.WalkKit
import Derived.WalkSpells
import Derived.Deep.Draws
import Derived.Lib.Hide
import Derived.ProofKit
import Derived.SizedLaws
namespace Go.Proofs.Ytlkoenlimdfifaa
open Go.RowKit

set_option maxRecDepth 10000 in
theorem ret_i {k : IntKind} {a b : Int} (h : a = b) : Ending.returned (.int k a) = .returned (.int k b) := by rw [h]
set_option maxRecDepth 10000 in
theorem ret_b {a b : Bool} (h : a = b) : Ending.returned (.bool a) = .returned (.bool b) := by rw [h]

/-- A list of numbers as cells. -/
def cel (k : IntKind) (xs : List Int) : List Value := xs.map (Value.int k)
/-- A list of bytes as a block's cells. -/
def bts (xs : List Int) : Array Value := (xs.map (Value.int .u8)).toArray

set_option maxRecDepth 10000 in
theorem cel_len (k : IntKind) (xs : List Int) : (cel k xs).length = xs.length := by simp [cel]
set_option maxRecDepth 10000 in
theorem cel_one (k : IntKind) (xs : List Int) : ∀ u ∈ cel k xs, u.oneCell' = true := ints_oneCell k xs

/-- From the address A on memory holds the numbers xs. -/
def Rd (k : IntKind) (w : World) (A : Option Addr) (xs : List Int) : Prop :=
  xs = [] ∨ ∃ b off, A = some ⟨b, off, none⟩ ∧ ∀ i, i < xs.length → w.cell? ⟨b, off + i, none⟩ = some (.int k (xs.getD i 0))

section
variable {k : IntKind} {w w' : World} {A : Option Addr} {xs ys : List Int}
set_option maxRecDepth 10000 in
theorem Rd.drewN (h : Rd k w A xs) (n : Nat) : Rd k (w.drewN n) A xs := h
set_option maxRecDepth 10000 in
theorem Rd.drew (h : Rd k w A xs) : Rd k w.drew A xs := h
set_option maxRecDepth 10000 in
theorem Rd.later (h : Rd k w A xs) (hb : Below w.heap.size w w') : Rd k w' A xs := by
  rcases h with h | ⟨b, off, rfl, h⟩
  · exact .inl h
  · exact .inr ⟨b, off, rfl, fun i hi => cell_later hb (h i hi)⟩
set_option maxRecDepth 10000 in
theorem Rd.alloc (h : Rd k w A xs) (o : Obj) : Rd k (w.alloc o) A xs := h.later ((Below.refl _ _).alloc (Nat.le_refl _) _)
set_option maxRecDepth 10000 in
theorem Rd.keep (h : Rd k w A xs) (hk : ∀ a : Addr, (∃ v, w.cell? a = some v) → w'.cell? a = w.cell? a) : Rd k w' A xs := by
  rcases h with h | ⟨b, off, rfl, h⟩
  · exact .inl h
  · exact .inr ⟨b, off, rfl, fun i hi => by rw [hk _ ⟨_, h i hi⟩]; exact h i hi⟩
set_option maxRecDepth 10000 in
theorem Rd.new (w : World) (xs : List Int) (t : TypeId) : Rd .u8 (w.alloc (.cells (bts xs) t)) (some ⟨w.heap.size, 0, none⟩) xs := by
  refine .inr ⟨_, _, rfl, fun i hi => ?_⟩
  rw [Nat.zero_add]
  simp [bts, hi]
set_option maxRecDepth 10000 in
theorem Rd.take (h : Rd k w A xs) (n : Nat) : Rd k w A (xs.take n) := by
  rcases h with h | ⟨b, off, rfl, h⟩
  · exact .inl (by simp [h])
  · refine .inr ⟨b, off, rfl, fun i hi => ?_⟩
    have hi' : i < n ∧ i < xs.length := by simp at hi; omega
    rw [h i hi'.2]
    simp [List.getD, hi'.1]
set_option maxRecDepth 10000 in
theorem Rd.drop (h : Rd k w A xs) (n : Nat) (c : Nat) (hn : n ≤ xs.length) (hc : xs.length ≤ c) : Rd k w (if c = n then A else A.map (·.add n)) (xs.drop n) := by
  rcases h with h | ⟨b, off, rfl, h⟩
  · exact .inl (by simp [h])
  · by_cases e : c = n
    · exact .inl (by simp; omega)
    · rw [if_neg e]
      refine .inr ⟨b, off + n, by simp [Addr.add_lit], fun i hi => ?_⟩
      have hi' : n + i < xs.length := by simp at hi; omega
      rw [Nat.add_assoc, h (n + i) hi']
      simp [List.getD]
set_option maxRecDepth 10000 in
/-- The cells, as the laws on append ask for them. -/
theorem Rd.cells (h : Rd k w A xs) : ∀ ad, A = some ad → ∀ j u, (cel k xs)[j]? = some u → w.cell? (ad.add j) = some u := by
  intro ad ha j u hu
  have hj : j < xs.length := by
    have := (List.getElem?_eq_some_iff.1 hu).1
    simpa [cel] using this
  rcases h with h | ⟨b, off, rfl, h⟩
  · subst h; simp at hj
  · obtain rfl := Option.some.inj ha
    rw [Addr.add_lit, h j hj]
    simp [cel, hj] at hu
    simp [List.getD, hj, hu]
set_option maxRecDepth 10000 in
theorem Rd.some_ (h : Rd k w A xs) (hne : 0 < xs.length) : ∃ b off, A = some ⟨b, off, none⟩ ∧ ∀ i, i < xs.length → w.cell? ⟨b, off + i, none⟩ = some (.int k (xs.getD i 0)) := by
  rcases h with h | h
  · subst h; simp at hne
  · exact h
set_option maxRecDepth 10000 in
/-- What the call owns reads as its numbers. -/
theorem Rd.own {base : Nat} {e : TypeId} {n c : Nat} (h : w.ownsRow base e 1 (.slice A n c) n (cel k xs)) : Rd k w A xs := by
  have hl : xs.length = n := by have := h.1; rw [cel_len] at this; omega
  rcases h.2 with ⟨hv, h0⟩ | ⟨g, cap, cur, hv, _⟩
  · exact .inl (List.eq_nil_of_length_eq_zero (by omega))
  · injection hv with hA _ hc
    subst hA; subst hc
    refine .inr ⟨g, 0, rfl, fun i hi => ?_⟩
    rw [Nat.zero_add, h.cellAt i (by omega)]
    simp [cel, List.getD, hi]
end

set_option maxRecDepth 10000 in
theorem list_eq_of_getD {xs ys : List Int} (hl : xs.length = ys.length) (h : ∀ j, j < xs.length → xs.getD j 0 = ys.getD j 0) : xs = ys := by
  apply List.ext_getElem hl
  intro i h1 h2
  have := h i h1
  simpa [List.getD, h1, h2] using this

/-- A slice of numbers that came in. -/
structure ArgI (k : IntKind) (bytes : Nat) (w : World) (A : Option Addr) (n c : Nat) (xs : List Int) : Prop where
  len : xs.length = n
  le : n ≤ c
  reach : c * bytes ≤ 140737488351232
  nil : A = none → c = 0
  rd : Rd k w A xs
  wf : ∀ x ∈ xs, (Lit.int k x).wf = true

set_option maxRecDepth 10000 in
theorem rd_of {k : IntKind} {w : World} {x : Addr} {zs : List Int} (n : Nat) (hcell : ∀ i, i < zs.length → w.cell? (x.add i) = some (.int k (zs.getD i 0))) : Rd k w (some x) (zs.take n) := by
  by_cases h0 : zs.length = 0
  · exact .inl (by rw [List.eq_nil_of_length_eq_zero h0]; simp)
  · obtain ⟨b, off, spot⟩ := x
    have hs : spot = none := by simpa [Addr.add] using World.cell?_spot (hcell 0 (by omega))
    subst hs
    refine Rd.take (.inr ⟨b, off, rfl, fun i hi => ?_⟩) n
    have := hcell i hi
    rwa [Addr.add_lit] at this

set_option maxRecDepth 10000 in
theorem argI_nil (k : IntKind) (bytes : Nat) (w : World) : ArgI k bytes w none 0 0 [] := ⟨rfl, Nat.le_refl _, by omega, fun _ => rfl, .inl rfl, by simp⟩
set_option maxRecDepth 10000 in
theorem argI_of {k : IntKind} {bytes : Nat} {w : World} {x : Addr} {len cap : Nat} {zs : List Int} (hl : len ≤ cap) (hz : zs.length = cap) (hcell : ∀ i, i < zs.length → w.cell? (x.add i) = some (.int k (zs.getD i 0)))
    (hwz : ∀ n ∈ zs, (Lit.int k n).wf = true) (hr : cap * bytes ≤ 140737488351232) : ArgI k bytes w (some x) len cap (zs.take len) :=
  ⟨by simp; omega, hl, hr, fun h => (by cases h), rd_of len hcell, fun n hn => hwz n (List.mem_of_mem_take hn)⟩

set_option maxRecDepth 10000 in
theorem wf_u8 {x : Int} (h : (Lit.int .u8 x).wf = true) : 0 ≤ x ∧ x < 256 := by
  have h1 : IntKind.u8.min = 0 := rfl
  have h2 : IntKind.u8.max = 255 := rfl
  simp only [Lit.wf, Bool.and_eq_true, decide_eq_true_eq] at h
  omega
set_option maxRecDepth 10000 in
theorem wf_i64 {x : Int} (h : (Lit.int .i64 x).wf = true) : -9223372036854775808 ≤ x ∧ x ≤ 9223372036854775807 := by
  have h1 : IntKind.i64.min = -9223372036854775808 := rfl
  have h2 : IntKind.i64.max = 9223372036854775807 := rfl
  simp only [Lit.wf, Bool.and_eq_true, decide_eq_true_eq] at h
  omega
set_option maxRecDepth 10000 in
theorem wf_u32 {x : Int} (h : (Lit.int .u32 x).wf = true) : 0 ≤ x ∧ x < 4294967296 := by
  have h1 : IntKind.u32.min = 0 := rfl
  have h2 : IntKind.u32.max = 4294967295 := rfl
  simp only [Lit.wf, Bool.and_eq_true, decide_eq_true_eq] at h
  omega

set_option maxRecDepth 10000 in
theorem below_drewN' {B : Nat} {a w : World} (h : Below B a w) (n : Nat) : Below B a (w.drewN n) := ⟨h.os, h.tape, h.output, h.size, h.block⟩

end Go.Proofs.Ytlkoenlimdfifaa

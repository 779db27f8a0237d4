/-
  A Reader whose bytes are only read: they may lie in memory that came in ('RdrS', as XRdr's 'RdrT', but that the bytes need not be the call's own). No function of the program.
-/
import Derived.Test.YtbjneoeiognahaaBase
namespace Go.Proofs.Ytbjneoeiognahaa
open Go.RowKit

/-- Bytes that are read from A on, and lie in another block than p. -/
structure LentR (w : World) (p : Nat) (A : Option Addr) (c : Nat) (xs : List Int) : Prop where
  rd : Rd .u8 w A xs
  cap : xs.length ≤ c
  nil : A = none → c = 0
  ap : ∀ b off, A = some ⟨b, off, none⟩ → xs ≠ [] → b ≠ p
set_option maxRecDepth 10000 in
/-- What is read stays where no block of it is written. -/
theorem Rd.grown {k : IntKind} {w w' : World} {row : Option Nat} {A : Option Addr} {xs : List Int} (h : Rd k w A xs) (hg : w.grownBy w' row) (hne : ∀ b off, A = some ⟨b, off, none⟩ → xs ≠ [] → row ≠ some b) : Rd k w' A xs := by
  rcases h with rfl | ⟨b, off, rfl, h⟩
  · exact .inl rfl
  · by_cases h0 : xs = []
    · exact .inl h0
    · refine .inr ⟨b, off, rfl, fun i hi => ?_⟩
      have hc := h i hi
      rw [← hc]
      exact World.cell?_of_block (hg.block b (World.block_lt_of_cell? _ _ hc) (Ne.symm (hne b off rfl h0)))
set_option maxRecDepth 10000 in
/-- Where the bytes lie there is a block. -/
theorem Rd.lt {k : IntKind} {w : World} {b off : Nat} {xs : List Int} (h : Rd k w (some ⟨b, off, none⟩) xs) (h0 : xs ≠ []) : b < w.heap.size := by
  rcases h with rfl | ⟨b', off', e, h⟩
  · exact absurd rfl h0
  · injection e with e
    injection e with e1 e2 _
    subst e1
    subst e2
    have hp : 0 < xs.length := by
      cases xs with
      | nil => exact absurd rfl h0
      | cons => simp
    exact World.block_lt_of_cell? _ _ (h 0 hp)
section
variable {w w' : World} {p : Nat} {A : Option Addr} {c : Nat} {xs : List Int}
set_option maxRecDepth 10000 in
theorem LentR.later (h : LentR w p A c xs) (hb : Below w.heap.size w w') : LentR w' p A c xs := ⟨h.rd.later hb, h.cap, h.nil, h.ap⟩
set_option maxRecDepth 10000 in
theorem LentR.grown {row : Option Nat} (h : LentR w p A c xs) (hg : w.grownBy w' row) (hne : ∀ b off, A = some ⟨b, off, none⟩ → xs ≠ [] → row ≠ some b) : LentR w' p A c xs := ⟨h.rd.grown hg hne, h.cap, h.nil, h.ap⟩
set_option maxRecDepth 10000 in
theorem LentR.mine (h : LentR w p A c xs) (hg : w.grownBy w' (some p)) : LentR w' p A c xs := h.grown hg (fun b off e h0 e2 => by
  injection e2 with e2
  exact h.ap b off e h0 e2.symm)
end

/-- Block p is a Reader of the bytes xs, at the place a. -/
structure RdrS (ty : TypeId) (w : World) (p : Nat) (A : Option Addr) (c : Nat) (xs : List Int) (a : Nat) (bad : Bool) : Prop where
  ne : 5 ≠ ty
  row : w.rowIs p ty 3 (rdrF A xs.length c a bad)
  own : LentR w p A c xs
  le : a ≤ xs.length
  reach : xs.length ≤ 140737488355328
  bytes : ∀ x ∈ xs, 0 ≤ x ∧ x < 256

section
variable {ty ty' : TypeId} {w w' : World} {p : Nat} {A : Option Addr} {c : Nat} {xs : List Int} {a : Nat} {bad : Bool}
set_option maxRecDepth 10000 in
theorem RdrS.lt (h : RdrS ty w p A c xs a bad) : p < w.heap.size := World.rowIs.lt h.row
set_option maxRecDepth 10000 in
theorem RdrS.later (h : RdrS ty w p A c xs a bad) (hb : Below w.heap.size w w') : RdrS ty w' p A c xs a bad :=
  ⟨h.ne, World.rowIs.of_block h.row (hb.block p h.lt), h.own.later hb, h.le, h.reach, h.bytes⟩
set_option maxRecDepth 10000 in
theorem RdrS.drewN (h : RdrS ty w p A c xs a bad) (n : Nat) : RdrS ty (w.drewN n) p A c xs a bad := h.later (below_drewN' (Below.refl _ _) n)
set_option maxRecDepth 10000 in
theorem RdrS.alloc (h : RdrS ty w p A c xs a bad) (o : Obj) : RdrS ty (w.alloc o) p A c xs a bad := h.later ((Below.refl _ _).alloc (Nat.le_refl _) _)
set_option maxRecDepth 10000 in
/-- What reads at a Reader's block. -/
theorem RdrS.c0 (h : RdrS ty w p A c xs a bad) : w.cell? ⟨p, 0, none⟩ = some (.slice A xs.length c) := World.rowIs.cell (i := 0) h.row (by omega)
set_option maxRecDepth 10000 in
theorem RdrS.c1 (h : RdrS ty w p A c xs a bad) : w.cell? ⟨p, 0 + 1, none⟩ = some (.int .i64 (a : Nat)) := World.rowIs.cell (i := 1) h.row (by omega)
set_option maxRecDepth 10000 in
theorem RdrS.c2 (h : RdrS ty w p A c xs a bad) : w.cell? ⟨p, 0 + 2, none⟩ = some (.bool bad) := World.rowIs.cell (i := 2) h.row (by omega)
set_option maxRecDepth 10000 in
theorem RdrS.fr (h : RdrS ty w p A c xs a bad) (i : Nat) : w.frozen? ⟨p, i, none⟩ = false := World.rowIs.frozen h.row i
set_option maxRecDepth 10000 in
theorem Own.rdrS {v : Value} {B : Nat} {ys : List Int} (h : Own .u8 5 w B v ys) (hr : RdrS ty w p A c xs a bad) (hg : w.grownBy w' (some p)) : Own .u8 5 w' B v ys := h.kept hg (own_not_row h hr.ne hr.row)
set_option maxRecDepth 10000 in
theorem RdrS.set1 (h : RdrS ty w p A c xs a bad) (b : Nat) (hb : b ≤ xs.length) (x : Int) (hx : x = (b : Int)) : RdrS ty (w.setCell ⟨p, 0 + 1, none⟩ (.int .i64 x)) p A c xs b bad := by
  subst hx
  exact ⟨h.ne, (h.row.set 1 _).congr fun i _ => by
    unfold rdrF
    by_cases h0 : i = 1
    · subst h0; simp
    · simp [h0], h.own.mine (setCell_one _ _ _ _), hb, h.reach, h.bytes⟩
set_option maxRecDepth 10000 in
theorem RdrS.set2 (h : RdrS ty w p A c xs a bad) (b : Bool) : RdrS ty (w.setCell ⟨p, 0 + 2, none⟩ (.bool b)) p A c xs a b :=
  ⟨h.ne, (h.row.set 2 _).congr fun i hi => by
    unfold rdrF
    have : i = 0 ∨ i = 1 ∨ i = 2 := by omega
    rcases this with rfl | rfl | rfl <;> simp, h.own.mine (setCell_one _ _ _ _), h.le, h.reach, h.bytes⟩
set_option maxRecDepth 10000 in
/-- A block that the Reader's bytes do not lie in is written. -/
theorem RdrS.grown {row : Option Nat} (h : RdrS ty w p A c xs a bad) (hg : w.grownBy w' row) (hp : row ≠ some p) (hne : ∀ b off, A = some ⟨b, off, none⟩ → xs ≠ [] → row ≠ some b) : RdrS ty w' p A c xs a bad :=
  ⟨h.ne, World.rowIs.of_block h.row (hg.block p h.lt (Ne.symm hp)), h.own.grown hg hne, h.le, h.reach, h.bytes⟩
end
end Go.Proofs.Ytbjneoeiognahaa

/-
  A Reader (three cells: its bytes, its place, whether it is bad) in a block of the call's own ('RdrT'), of whatever type. No function of the program.
-/
import Derived.Test.YtheecfgehfhimaaOwn
import Derived.Deep.OwnRows
import Derived.Deep.QuietTactic
namespace Go.Proofs.Ytheecfgehfhimaa
open Go.RowKit

/-- A contract that leaves the world, at a call of a quiet region. -/
theorem quiet_eq {P : Program} {f : Nat} {args : Array Value} {w : World} {n : Nat} {v : Value} (h : Calls P f args (w.drewN n) fun e w' => e = .returned v ∧ w.drewN n = w') :
    Calls P f args (w.drewN n) fun e w'' => e = .returned v ∧ ∃ m, w'' = w.drewN m := Calls.quiet_of_same (h.mono fun _ _ ⟨h1, h2⟩ => ⟨h1, h2.symm⟩)

theorem grown_drewN {w w' : World} {k : Nat} {r : Option Nat} (h : (w.drewN k).grownBy w' r) : w.grownBy w' r := ⟨h.os, h.tape, h.output, h.size, h.block⟩

theorem grown_then {w w1 w' : World} {r : Option Nat} (h : w.grownBy w1 r) (hb : Below w1.heap.size w1 w') : w.grownBy w' r :=
  ⟨hb.os.trans h.os, hb.tape.trans h.tape, hb.output.trans h.output, Nat.le_trans h.size hb.size, fun i hi hne => (hb.block i (Nat.lt_of_lt_of_le hi h.size)).trans (h.block i hi hne)⟩

/-- The cells of a Reader. -/
def rdrF (A : Option Addr) (n c a : Nat) (bad : Bool) (i : Nat) : Value := if i = 0 then .slice A n c else if i = 1 then .int .i64 (a : Nat) else .bool bad
/-- Block p is a Reader of the bytes xs, at the place a. -/
structure RdrT (ty : TypeId) (w : World) (p : Nat) (A : Option Addr) (c : Nat) (xs : List Int) (a : Nat) (bad : Bool) : Prop where
  ne : 5 ≠ ty
  row : w.rowIs p ty 3 (rdrF A xs.length c a bad)
  own : Own .u8 5 w 0 (.slice A xs.length c) xs
  le : a ≤ xs.length
  reach : xs.length ≤ 140737488355328
  bytes : ∀ x ∈ xs, 0 ≤ x ∧ x < 256

section
variable {ty ty' : TypeId} {w w' : World} {p : Nat} {A : Option Addr} {c : Nat} {xs : List Int} {a : Nat} {bad : Bool}
theorem RdrT.lt (h : RdrT ty w p A c xs a bad) : p < w.heap.size := World.rowIs.lt h.row
theorem RdrT.drewN (h : RdrT ty w p A c xs a bad) (n : Nat) : RdrT ty (w.drewN n) p A c xs a bad := ⟨h.ne, h.row, h.own, h.le, h.reach, h.bytes⟩
theorem RdrT.drew (h : RdrT ty w p A c xs a bad) : RdrT ty w.drew p A c xs a bad := ⟨h.ne, h.row, h.own, h.le, h.reach, h.bytes⟩
theorem RdrT.later (h : RdrT ty w p A c xs a bad) (hb : Below w.heap.size w w') : RdrT ty w' p A c xs a bad :=
  ⟨h.ne, World.rowIs.of_block h.row (hb.block p h.lt), h.own.later hb, h.le, h.reach, h.bytes⟩
theorem RdrT.alloc (h : RdrT ty w p A c xs a bad) (o : Obj) : RdrT ty (w.alloc o) p A c xs a bad := h.later ((Below.refl _ _).alloc (Nat.le_refl _) _)
/-- What reads at a Reader's block. -/
theorem RdrT.c0 (h : RdrT ty w p A c xs a bad) : w.cell? ⟨p, 0, none⟩ = some (.slice A xs.length c) := World.rowIs.cell (i := 0) h.row (by omega)
theorem RdrT.c1 (h : RdrT ty w p A c xs a bad) : w.cell? ⟨p, 0 + 1, none⟩ = some (.int .i64 (a : Nat)) := World.rowIs.cell (i := 1) h.row (by omega)
theorem RdrT.c2 (h : RdrT ty w p A c xs a bad) : w.cell? ⟨p, 0 + 2, none⟩ = some (.bool bad) := World.rowIs.cell (i := 2) h.row (by omega)
theorem RdrT.fr (h : RdrT ty w p A c xs a bad) (i : Nat) : w.frozen? ⟨p, i, none⟩ = false := World.rowIs.frozen h.row i
/-- Bytes of the call's own never lie in a Reader's block. -/
theorem own_not_row {v : Value} {B q n : Nat} {ys : List Int} {f : Nat → Value} (h : Own .u8 5 w B v ys) (hne : 5 ≠ ty) (hr : w.rowIs q ty n f) : v.ownBlock = none ∨ v.ownBlock ≠ some q := by
  rcases h.2 with ⟨hv, _⟩ | ⟨g, cap, cur, hv, _, hh, _⟩
  · left; rw [hv]; rfl
  · right
    rw [hv]
    intro he
    simp only [Value.ownBlock, Option.some.injEq] at he
    subst he
    obtain ⟨cur', hh', _⟩ := hr
    rw [hh] at hh'
    injection hh' with hh'
    injection hh' with _ ht
    exact hne ht
theorem Own.rdr {v : Value} {B : Nat} {ys : List Int} (h : Own .u8 5 w B v ys) (hr : RdrT ty w p A c xs a bad) (hg : w.grownBy w' (some p)) : Own .u8 5 w' B v ys := h.kept hg (own_not_row h hr.ne hr.row)
theorem bel_rdr {B : Nat} {w0 : World} (hb : Below B w0 w) (hB : B ≤ w.heap.size) (hp : B ≤ p) (hg : w.grownBy w' (some p)) : Below B w0 w' := hb.grown hg hB (by intro g hg; simp at hg; omega)
/-- Another Reader's call leaves it. -/
theorem RdrT.other {q : Nat} {A' : Option Addr} {c' : Nat} {ys : List Int} {a' : Nat} {bad' : Bool} (h : RdrT ty w p A c xs a bad) (hr : RdrT ty' w q A' c' ys a' bad') (hne : p ≠ q) (hg : w.grownBy w' (some q)) : RdrT ty w' p A c xs a bad :=
  ⟨h.ne, World.rowIs.of_block h.row (hg.block p h.lt (by simp; omega)), h.own.kept hg (own_not_row h.own hr.ne hr.row), h.le, h.reach, h.bytes⟩
theorem RdrT.set1 (h : RdrT ty w p A c xs a bad) (b : Nat) (hb : b ≤ xs.length) (x : Int) (hx : x = (b : Int)) : RdrT ty (w.setCell ⟨p, 0 + 1, none⟩ (.int .i64 x)) p A c xs b bad := by
  subst hx
  exact ⟨h.ne, (h.row.set 1 _).congr fun i _ => by
    unfold rdrF
    by_cases h0 : i = 1
    · subst h0; simp
    · simp [h0], h.own.kept (setCell_one _ _ _ _) (own_not_row h.own h.ne h.row), hb, h.reach, h.bytes⟩
theorem RdrT.set2 (h : RdrT ty w p A c xs a bad) (b : Bool) : RdrT ty (w.setCell ⟨p, 0 + 2, none⟩ (.bool b)) p A c xs a b :=
  ⟨h.ne, (h.row.set 2 _).congr fun i hi => by
    unfold rdrF
    have : i = 0 ∨ i = 1 ∨ i = 2 := by omega
    rcases this with rfl | rfl | rfl <;> simp, h.own.kept (setCell_one _ _ _ _) (own_not_row h.own h.ne h.row), h.le, h.reach, h.bytes⟩
end
end Go.Proofs.Ytheecfgehfhimaa

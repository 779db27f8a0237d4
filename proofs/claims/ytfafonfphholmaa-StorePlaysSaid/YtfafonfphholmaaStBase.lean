/-
  What New, may, must, act, Dead, Fuse of package store do to a store: contracts over the program.
-/
import Derived.Test.YtfafonfphholmaaStMath
import Derived.Test.YtfafonfphholmaaRows
import Derived.Lib.Hide
import Derived.Handy
import Derived.Carry
import Derived.Deep.QuietTactic
import Derived.BigQuiet
namespace Go.Proofs.Ytfafonfphholmaa
open Go.RowKit Go.Maps

theorem keyI : Keyed Try.prog 3 := int_keyed Try.underlying3
theorem wfI {n : Int} (h : -9223372036854775808 ≤ n) (h' : n ≤ 9223372036854775807) : (Lit.int .i64 n).wf = true := by
  have e1 : IntKind.i64.min = -9223372036854775808 := by decide
  have e2 : IntKind.i64.max = 9223372036854775807 := by decide
  simp [Lit.wf, e1, e2, h, h']
theorem keyN {n : Int} (h : -9223372036854775808 ≤ n) (h' : n ≤ 9223372036854775807) : keyOf Try.prog 3 (.int .i64 n) = some (.int .i64 n) := keyOf_int_mk Try.underlying3 (wfI h h')

def NewSt (B : Nat) (w : World) (e : Ending) (w' : World) : Prop := ∃ p m, e = .returned (.pointer (some ⟨p, 0, none⟩)) ∧ StoreAt w' B p m [] false 0 false ∧ Below w.heap.size w w' ∧ w.heap.size ≤ p ∧ w.heap.size ≤ m

set_option maxRecDepth 10000 in
theorem newst_any (w : World) (B : Nat) (hB : B ≤ w.heap.size) : Calls Try.prog 4 #[] w (NewSt B w) := by
  have hmm := @run_makeMap Try.prog
  go_enter Try.func4, Try.ntmps4
  go_wp2
  go_ret
  refine ⟨w.heap.size + 1, w.heap.size, rfl, ⟨?_, ?_, (fun e he => by cases he), List.Pairwise.nil, List.Pairwise.nil, by omega, hB, Int.le_refl _, by simp, (fun e he => by cases he)⟩, ?_, by omega, Nat.le_refl _⟩
  · have := World.rowIs_alloc (w.alloc (.map #[] 0)) #[.map (some w.heap.size), .bool false, .int .i64 0, .bool false] 46 (stoF w.heap.size false 0 false) (fun i hi => by
      have : i < 4 := hi
      match i, this with
      | 0, _ => rfl
      | 1, _ => rfl
      | 2, _ => rfl
      | 3, _ => rfl)
    rw [World.size_alloc] at this
    exact this
  · exact (World.ownsMap_made w Try.prog 3 ptr).alloc _
  · exact ((Below.refl _ _).alloc (Nat.le_refl _) _).alloc (by simp) _

/-- What speaks against an act on a block. -/
def mayE (de : Bool) (n : Int) : Int := if de then 6 else if n < 1 then 1 else 0

section
variable {w : World} {B p m : Nat} {L : List Ent} {fu : Bool} {lf : Int} {de : Bool}

set_option maxRecDepth 10000 in
theorem may_any (h : StoreAt w B p m L fu lf de) (n r : Int) (hr : mayE de n = r) : Calls Try.prog 26 #[.pointer (some ⟨p, 0, none⟩), .int .i64 n] w fun e w' => e = .returned (.int .i64 r) ∧ w = w' := by
  have s3 := h.s3
  subst hr
  unfold mayE
  cases de
  · by_cases hn : n < 1
    · simp only [hn, if_true, Bool.false_eq_true, if_false]
      clear h
      go_enter Try.func26, Try.ntmps26
      go_wp2
      go_ret
      exact ⟨rfl, rfl⟩
    · simp only [hn, if_false, Bool.false_eq_true]
      clear h
      go_enter Try.func26, Try.ntmps26
      go_wp2
      go_ret
      exact ⟨rfl, rfl⟩
  · simp only [if_true]
    clear h
    go_enter Try.func26, Try.ntmps26
    go_wp2
    go_ret
    exact ⟨rfl, rfl⟩

theorem zeroP (w : World) : (zeroValue 48).run Try.prog w = .ok (.pointer none) w := by kernel_rfl

theorem look_none (h : StoreAt w B p m L fu lf de) {n : Int} (hn : ∀ e ∈ L, e.k.n ≠ n) (h1 : -9223372036854775808 ≤ n) (h2 : n ≤ 9223372036854775807) : (Instr.lookup 44 (.map (some m)) (.int .i64 n) false).run Try.prog w = .ok (.pointer none) w := by
  obtain ⟨v, ps, hrun, hv⟩ := h.map.lookup keyI Try.underlying44 (zeroP w) (zd := .lit (.int .i64 (-1))) (zp := []) rfl (keyN h1 h2)
  rw [DL_at_none hn] at hv
  rw [hrun, ptr_none hv]
theorem look_some (h : StoreAt w B p m L fu lf de) {e : Ent} (he : e ∈ L) : (Instr.lookup 44 (.map (some m)) (.int .i64 e.k.n) false).run Try.prog w = .ok (.pointer (some ⟨e.b, 0, none⟩)) w := by
  have hn := (h.each e he).num
  obtain ⟨v, ps, hrun, hv⟩ := h.map.lookup keyI Try.underlying44 (zeroP w) (zd := .lit (.int .i64 (-1))) (zp := []) rfl (keyN (by omega) hn.2)
  rw [DL_at h.rise he] at hv
  rw [hrun, ptr_some hv]
theorem looks_none (h : StoreAt w B p m L fu lf de) {n : Int} (hn : ∀ e ∈ L, e.k.n ≠ n) (h1 : -9223372036854775808 ≤ n) (h2 : n ≤ 9223372036854775807) : (Instr.lookup 44 (.map (some m)) (.int .i64 n) true).run Try.prog w = .ok (.tuple #[.pointer none, .bool false]) w := by
  obtain ⟨v, ps, hrun, hv⟩ := h.map.look_ok keyI Try.underlying44 (zeroP w) (zd := .lit (.int .i64 (-1))) (zp := []) rfl (keyN h1 h2)
  rw [DL_at_none hn] at hv
  rw [hrun, ptr_none hv, DL_has, List.any_eq_false.2 (fun e he => by simpa using hn e he)]
theorem looks_some (h : StoreAt w B p m L fu lf de) {e : Ent} (he : e ∈ L) : (Instr.lookup 44 (.map (some m)) (.int .i64 e.k.n) true).run Try.prog w = .ok (.tuple #[.pointer (some ⟨e.b, 0, none⟩), .bool true]) w := by
  have hn := (h.each e he).num
  obtain ⟨v, ps, hrun, hv⟩ := h.map.look_ok keyI Try.underlying44 (zeroP w) (zd := .lit (.int .i64 (-1))) (zp := []) rfl (keyN (by omega) hn.2)
  rw [DL_at h.rise he] at hv
  rw [hrun, ptr_some hv, DL_has, List.any_eq_true.2 ⟨e, he, by simp⟩]

set_option maxRecDepth 10000 in
/-- Something speaks against it already. -/
theorem must_may (h : StoreAt w B p m L fu lf de) (n r : Int) (hr : mayE de n = r) (h0 : r ≠ 0) : Calls Try.prog 30 #[.pointer (some ⟨p, 0, none⟩), .int .i64 n] w fun e w' => e = .returned (.int .i64 r) ∧ w = w' := by
  have HM := Lib.hid (may_any h n r hr)
  have hb : (r != 0) = true := by simpa using h0
  clear h hr h0
  go_enter Try.func30, Try.ntmps30
  go_wp2_with (refine HM.out.mono ?_; rintro e w' ⟨rfl, rfl⟩)
  go_ret
  exact ⟨rfl, rfl⟩

set_option maxRecDepth 10000 in
/-- The block isn't there. -/
theorem must_none (h : StoreAt w B p m L fu lf de) (n : Int) (hr : mayE de n = 0) (hn : ∀ e ∈ L, e.k.n ≠ n) (h1 : -9223372036854775808 ≤ n) (h2 : n ≤ 9223372036854775807) : Calls Try.prog 30 #[.pointer (some ⟨p, 0, none⟩), .int .i64 n] w fun e w' => e = .returned (.int .i64 3) ∧ w = w' := by
  have HM := Lib.hid (may_any h n 0 hr)
  have hl := look_none h hn h1 h2
  have s0 := h.s0
  clear h hr hn h1 h2
  go_enter Try.func30, Try.ntmps30
  go_wp2_with (refine HM.out.mono ?_; rintro e w' ⟨rfl, rfl⟩)
  go_ret
  exact ⟨rfl, rfl⟩

set_option maxRecDepth 10000 in
/-- It is there. -/
theorem must_some (h : StoreAt w B p m L fu lf de) (e : Ent) (he : e ∈ L) (hr : mayE de e.k.n = 0) : Calls Try.prog 30 #[.pointer (some ⟨p, 0, none⟩), .int .i64 e.k.n] w fun e w' => e = .returned (.int .i64 0) ∧ w = w' := by
  have HM := Lib.hid (may_any h e.k.n 0 hr)
  have hl := look_some h he
  have s0 := h.s0
  obtain ⟨n, hn⟩ : ∃ n, e.k.n = n := ⟨_, rfl⟩
  rw [hn] at hl HM ⊢
  clear h hr he hn
  go_enter Try.func30, Try.ntmps30
  go_wp2_with (refine HM.out.mono ?_; rintro e w' ⟨rfl, rfl⟩)
  go_ret
  exact ⟨rfl, rfl⟩

set_option maxRecDepth 10000 in
theorem dead_any (h : StoreAt w B p m L fu lf de) : Calls Try.prog 42 #[.pointer (some ⟨p, 0, none⟩)] w fun e w' => e = .returned (.bool de) ∧ w = w' := by
  have s3 := h.s3
  clear h
  go_enter Try.func42, Try.ntmps42
  go_wp2
  go_ret
  exact ⟨rfl, rfl⟩

set_option maxRecDepth 10000 in
/-- act, where something speaks against it. -/
theorem act_err (w : World) (x fv : Value) (r : Int) (h0 : r ≠ 0) : Calls Try.prog 25 #[x, .int .i64 r, fv] w fun e w' => e = .returned (.int .i64 r) ∧ w = w' := by
  have hb : (r != 0) = true := by simpa using h0
  clear h0
  go_enter Try.func25, Try.ntmps25
  go_wp2
  go_ret
  exact ⟨rfl, rfl⟩
end
end Go.Proofs.Ytfafonfphholmaa

/-
  What the document's between and Right answer: contracts over the program.
-/
import Derived.Test.YtbjneoeiognahaaPktFields
namespace Go.Proofs.Ytbjneoeiognahaa
open Go.RowKit

set_option maxRecDepth 10000 in
theorem between_any (n a b : Int) (w : World) : Calls Try.prog 65 #[.int .i64 n, .int .i64 a, .int .i64 b] w fun e w' => e = .returned (.bool (decide (a ≤ n) && decide (n ≤ b))) ∧ w = w' := by
  by_cases h : a ≤ n
  · have d1 : decide (n ≥ a) = true := by simp; omega
    go_enter Try.func65, Try.ntmps65
    go_wp2
    go_ret
    exact ⟨ret_b (by simp [h]), rfl⟩
  · have d1 : decide (n ≥ a) = false := by simp; omega
    go_enter Try.func65, Try.ntmps65
    go_wp2
    go_ret
    exact ⟨ret_b (by simp), rfl⟩
set_option maxRecDepth 10000 in
theorem between_in (n b : Int) (w : World) : Calls Try.prog 65 #[.int .i64 n, .int .i64 0, .int .i64 b] w fun e w' => e = .returned (.bool (inB n b)) ∧ w = w' := between_any n 0 b w

section
variable {k pa nu o fr : Int} {da : List Int} {fin : Bool} {se li : Int}
set_option maxRecDepth 10000 in
theorem ok1 : Pkt.ok ⟨1, pa, nu, o, fr, da, fin, se, li⟩ = (inB pa 2 && inB nu 65535 && decide (o = 0) && decide (fr = 0) && decide (da.length = 0) && !fin && decide (se = 0) && decide (li = 0)) := by
  rw [Bool.eq_iff_iff]
  simp [Pkt.ok, Pkt.known, Pkt.same, Pkt.bare, Pkt.bounded, inB]
  constructor
  · intro h
    simp_all
  · intro h
    simp_all
set_option maxRecDepth 10000 in
theorem ok2 : Pkt.ok ⟨2, pa, nu, o, fr, da, fin, se, li⟩ = (inB pa 2 && inB nu 65535 && inB o 65535 && decide (fr = 0) && decide (da.length = 0) && !fin && decide (se = 0) && decide (li = 0)) := by
  rw [Bool.eq_iff_iff]
  simp [Pkt.ok, Pkt.known, Pkt.same, Pkt.bare, Pkt.bounded, inB]
  constructor
  · intro h
    simp_all
  · intro h
    simp_all
set_option maxRecDepth 10000 in
theorem ok3 : Pkt.ok ⟨3, pa, nu, o, fr, da, fin, se, li⟩ = (inB pa 2 && inB nu 65535 && decide (o = 0) && inB fr 4096 && decide (da.length ≤ 64) && decide (fr + (da.length : Int) ≤ 4096) && decide (se = 0) && decide (li = 0)) := by
  rw [Bool.eq_iff_iff]
  simp [Pkt.ok, Pkt.known, Pkt.same, Pkt.bare, Pkt.bounded, inB]
  constructor
  · intro h
    simp_all
  · intro h
    simp_all
set_option maxRecDepth 10000 in
theorem ok4 : Pkt.ok ⟨4, pa, nu, o, fr, da, fin, se, li⟩ = (inB pa 2 && inB nu 65535 && inB o 65535 && decide (fr = 0) && decide (da.length = 0) && !fin && inB se 4097 && inB li 4496) := by
  rw [Bool.eq_iff_iff]
  simp [Pkt.ok, Pkt.known, Pkt.same, Pkt.bare, Pkt.bounded, inB]
  constructor
  · intro h
    simp_all
  · intro h
    simp_all
set_option maxRecDepth 10000 in
theorem okx (h1 : k ≠ 1) (h2 : k ≠ 2) (h3 : k ≠ 3) (h4 : k ≠ 4) : Pkt.ok ⟨k, pa, nu, o, fr, da, fin, se, li⟩ = false := by
  have h : ¬ (1 ≤ k ∧ k ≤ 4) := by omega
  rw [Bool.eq_false_iff]
  intro h9
  simp only [Pkt.ok, Pkt.known, Bool.and_eq_true, decide_eq_true_eq] at h9
  exact h ⟨h9.1.1.1.1.1, h9.1.1.1.1.2⟩
end
end Go.Proofs.Ytbjneoeiognahaa

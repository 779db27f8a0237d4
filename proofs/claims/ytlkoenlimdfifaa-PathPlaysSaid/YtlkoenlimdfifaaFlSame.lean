/-
  What the Sames of chapter 15's statements answer of lists that are alike; the document's example of package flight: contracts over the program.
-/
import Derived.Test.YtlkoenlimdfifaaFlight4
import Derived.Test.YtlkoenlimdfifaaOutR
import Derived.Laws.StructEq
namespace Go.Proofs.Ytlkoenlimdfifaa
open Go.RowKit

set_option maxRecDepth 100000 in
set_option maxHeartbeats 2000000 in
/-- The program's list and the document's, alike. -/
theorem lsameQ_any {w : World} {B B' : Nat} {A A' : Option Addr} {n c c' : Nat} {ps : List Qd} (h : OwnQ tOutP w B (.slice A n c) ps) (h' : OwnQ tOutR w B' (.slice A' n c') ps) (hn : n ≤ 1099511627776) :
    Calls Try.prog 30 #[.slice A n c, .slice A' n c'] w fun e w' => e = .returned (.bool true) ∧ ∃ k, w' = w.drewN k := by
  have HX := Lib.hid (show ∀ k, k < n → ∃ g, A = some ⟨g, 0, none⟩ ∧ w.cell? ⟨g, k * 4, none⟩ = some (.int .i64 (ps.getD k qz).n) ∧ w.cell? ⟨g, k * 4 + 1, none⟩ = some (.int .i64 (ps.getD k qz).f) ∧ w.cell? ⟨g, k * 4 + 2, none⟩ = some (.int .i64 (ps.getD k qz).t) ∧ w.cell? ⟨g, k * 4 + 3, none⟩ = some (.int .i64 (ps.getD k qz).a) from fun k hk => by
    obtain ⟨g, rfl, _⟩ := h.at (by omega)
    exact ⟨g, rfl, h.cells k hk⟩)
  have HY := Lib.hid (show ∀ k, k < n → ∃ g, A' = some ⟨g, 0, none⟩ ∧ w.cell? ⟨g, k * 4, none⟩ = some (.int .i64 (ps.getD k qz).n) ∧ w.cell? ⟨g, k * 4 + 1, none⟩ = some (.int .i64 (ps.getD k qz).f) ∧ w.cell? ⟨g, k * 4 + 2, none⟩ = some (.int .i64 (ps.getD k qz).t) ∧ w.cell? ⟨g, k * 4 + 3, none⟩ = some (.int .i64 (ps.getD k qz).a) from fun k hk => by
    obtain ⟨g, rfl, _⟩ := h'.at (by omega)
    exact ⟨g, rfl, h'.cells k hk⟩)
  clear h h'
  go_enter Try.func30, Try.ntmps30
  go_wp2
  go_loopw [13] (fun iv wr => ∃ k nd : Nat, k ≤ n ∧ iv = .int .i64 k ∧ wr = w.drewN nd) (fun iv _ => n - (intOf iv).toNat)
  case atStart => exact ⟨0, 0, by omega, rfl, rfl⟩
  case round =>
    obtain ⟨k, nd, hk, rfl, rfl⟩ := hrel
    by_cases hlt : k < n
    · obtain ⟨g, rfl, y1, y2, y3, y4⟩ := HX.out k hlt
      obtain ⟨g', rfl, z1, z2, z3, z4⟩ := HY.out k hlt
      have i1 : (k : Int) < (n : Int) := by omega
      have i2 : (0 : Int) ≤ (k : Int) := by omega
      obtain ⟨q, hq⟩ : ∃ q, ps.getD k qz = q := ⟨_, rfl⟩
      rw [hq] at y1 y2 y3 y4 z1 z2 z3 z4
      clear hq
      go_wp2_with fail
      go_quiet (fail)
      go_wp2
      go_roundw
      case rel => exact ⟨k + 1, _, by omega, by go_num, rfl⟩
      case measure => simp [intOf]; omega
    · have : k = n := by omega
      subst this
      have j1 : ¬ ((k : Int) < (k : Int)) := by omega
      go_wp2
      go_ret
      exact ⟨rfl, _, rfl⟩
end Go.Proofs.Ytlkoenlimdfifaa

/-
  What the Sames of chapter 15's statements answer of lists that are alike; the document's example of package flight: contracts over the program.
-/
import Derived.Test.YtdfgomnppepmnaaDocFl2
import Derived.Laws.StructEq
namespace Go.Proofs.Ytdfgomnppepmnaa
open Go.RowKit

set_option maxRecDepth 100000 in
set_option maxHeartbeats 2000000 in
/-- Same, of one list that lies twice. -/
theorem sameQ_any {w : World} {B B' : Nat} {A A' : Option Addr} {n c c' : Nat} {ps : List Qd} (h : OwnQ tOutP w B (.slice A n c) ps) (h' : OwnQ tOutP w B' (.slice A' n c') ps) (hn : n ≤ 1099511627776) :
    Calls Try.prog 11 #[.slice A n c, .slice A' n c'] w fun e w' => e = .returned (.bool true) ∧ ∃ k, w' = w.drewN k := by
  have HX := Lib.hid (show ∀ k, k < n → ∃ g, A = some ⟨g, 0, none⟩ ∧ w.cell? ⟨g, k * 4, none⟩ = some (.int .i64 (ps.getD k qz).n) ∧ w.cell? ⟨g, k * 4 + 1, none⟩ = some (.int .i64 (ps.getD k qz).f) ∧ w.cell? ⟨g, k * 4 + 2, none⟩ = some (.int .i64 (ps.getD k qz).t) ∧ w.cell? ⟨g, k * 4 + 3, none⟩ = some (.int .i64 (ps.getD k qz).a) from fun k hk => by
    obtain ⟨g, rfl, _⟩ := h.at (by omega)
    exact ⟨g, rfl, h.cells k hk⟩)
  have HY := Lib.hid (show ∀ k, k < n → ∃ g, A' = some ⟨g, 0, none⟩ ∧ w.cell? ⟨g, k * 4, none⟩ = some (.int .i64 (ps.getD k qz).n) ∧ w.cell? ⟨g, k * 4 + 1, none⟩ = some (.int .i64 (ps.getD k qz).f) ∧ w.cell? ⟨g, k * 4 + 2, none⟩ = some (.int .i64 (ps.getD k qz).t) ∧ w.cell? ⟨g, k * 4 + 3, none⟩ = some (.int .i64 (ps.getD k qz).a) from fun k hk => by
    obtain ⟨g, rfl, _⟩ := h'.at (by omega)
    exact ⟨g, rfl, h'.cells k hk⟩)
  clear h h'
  go_enter Try.func11, Try.ntmps11
  go_wp2
  go_loopw [5] (fun iv wr => ∃ k nd : Nat, k ≤ n ∧ iv = .int .i64 k ∧ wr = w.drewN nd) (fun iv _ => n - (intOf iv).toNat)
  case atStart => exact ⟨0, 0, by omega, rfl, rfl⟩
  case round =>
    obtain ⟨k, nd, hk, rfl, rfl⟩ := hrel
    by_cases hlt : k < n
    · obtain ⟨g, rfl, y1, y2, y3, y4⟩ := HX.out k hlt
      obtain ⟨g', rfl, z1, z2, z3, z4⟩ := HY.out k hlt
      have i1 : (k : Int) < (n : Int) := by omega
      have i2 : (0 : Int) ≤ (k : Int) := by omega
      obtain ⟨q, hq⟩ : ∃ q, ps.getD k qz = q := ⟨_, rfl⟩
      rw [hq] at y1 y2 y3 y4 z1 z2 z3 z4
      clear hq
      go_wp2_with fail
      go_quiet (fail)
      go_wp2
      go_roundw
      case rel => exact ⟨k + 1, _, by omega, by go_num, rfl⟩
      case measure => simp [intOf]; omega
    · have : k = n := by omega
      subst this
      have j1 : ¬ ((k : Int) < (k : Int)) := by omega
      go_wp2
      go_ret
      exact ⟨rfl, _, rfl⟩
set_option maxRecDepth 100000 in
set_option maxHeartbeats 2000000 in
/-- The program's list and the document's, alike. -/
theorem lsameQ_any {w : World} {B B' : Nat} {A A' : Option Addr} {n c c' : Nat} {ps : List Qd} (h : OwnQ tOutP w B (.slice A n c) ps) (h' : OwnQ tOutR w B' (.slice A' n c') ps) (hn : n ≤ 1099511627776) :
    Calls Try.prog 18 #[.slice A n c, .slice A' n c'] w fun e w' => e = .returned (.bool true) ∧ ∃ k, w' = w.drewN k := by
  have HX := Lib.hid (show ∀ k, k < n → ∃ g, A = some ⟨g, 0, none⟩ ∧ w.cell? ⟨g, k * 4, none⟩ = some (.int .i64 (ps.getD k qz).n) ∧ w.cell? ⟨g, k * 4 + 1, none⟩ = some (.int .i64 (ps.getD k qz).f) ∧ w.cell? ⟨g, k * 4 + 2, none⟩ = some (.int .i64 (ps.getD k qz).t) ∧ w.cell? ⟨g, k * 4 + 3, none⟩ = some (.int .i64 (ps.getD k qz).a) from fun k hk => by
    obtain ⟨g, rfl, _⟩ := h.at (by omega)
    exact ⟨g, rfl, h.cells k hk⟩)
  have HY := Lib.hid (show ∀ k, k < n → ∃ g, A' = some ⟨g, 0, none⟩ ∧ w.cell? ⟨g, k * 4, none⟩ = some (.int .i64 (ps.getD k qz).n) ∧ w.cell? ⟨g, k * 4 + 1, none⟩ = some (.int .i64 (ps.getD k qz).f) ∧ w.cell? ⟨g, k * 4 + 2, none⟩ = some (.int .i64 (ps.getD k qz).t) ∧ w.cell? ⟨g, k * 4 + 3, none⟩ = some (.int .i64 (ps.getD k qz).a) from fun k hk => by
    obtain ⟨g, rfl, _⟩ := h'.at (by omega)
    exact ⟨g, rfl, h'.cells k hk⟩)
  clear h h'
  go_enter Try.func18, Try.ntmps18
  go_wp2
  go_loopw [13] (fun iv wr => ∃ k nd : Nat, k ≤ n ∧ iv = .int .i64 k ∧ wr = w.drewN nd) (fun iv _ => n - (intOf iv).toNat)
  case atStart => exact ⟨0, 0, by omega, rfl, rfl⟩
  case round =>
    obtain ⟨k, nd, hk, rfl, rfl⟩ := hrel
    by_cases hlt : k < n
    · obtain ⟨g, rfl, y1, y2, y3, y4⟩ := HX.out k hlt
      obtain ⟨g', rfl, z1, z2, z3, z4⟩ := HY.out k hlt
      have i1 : (k : Int) < (n : Int) := by omega
      have i2 : (0 : Int) ≤ (k : Int) := by omega
      obtain ⟨q, hq⟩ : ∃ q, ps.getD k qz = q := ⟨_, rfl⟩
      rw [hq] at y1 y2 y3 y4 z1 z2 z3 z4
      clear hq
      go_wp2_with fail
      go_quiet (fail)
      go_wp2
      go_roundw
      case rel => exact ⟨k + 1, _, by omega, by go_num, rfl⟩
      case measure => simp [intOf]; omega
    · have : k = n := by omega
      subst this
      have j1 : ¬ ((k : Int) < (k : Int)) := by omega
      go_wp2
      go_ret
      exact ⟨rfl, _, rfl⟩

set_option maxHeartbeats 1000000 in
theorem wakesF_any (w : World) : Calls Try.prog 15 #[] w fun e w' => e = .returned (.bool true) ∧ Below w.heap.size w w' := by
  have HN := Lib.hid (newfl_any w)
  obtain ⟨b, hb⟩ : ∃ b, w.heap.size = b := ⟨_, rfl⟩
  have HB := Lib.hid hb
  rw [hb] at HN ⊢
  clear hb
  go_enter Try.func15, Try.ntmps15
  go_wp2_with fail
  refine HN.out.mono ?_
  rintro e w1 ⟨rfl, h1, b1, -⟩
  have HL := Lib.hid (fllate_any h1 5 1 4 (by omega) (by omega) (by omega) (by simp))
  have HB1 := Lib.hid b1
  have H1 := Lib.hid h1
  clear HN b1 h1
  go_wp2_with fail
  refine HL.out.mono ?_
  rintro e w2 ⟨A', m, c', rfl, ho, v2, h2, s2⟩
  have hm : m = 0 := ho.len.symm
  subst hm
  have HA := Lib.hid (fladd_yes h2 3 0 0 0 (fun j hj => by simp [stayQ] at hj) (by simp [stayQ]))
  have HB2 := Lib.hid (HB1.out.trans (H1.out.bel s2 (Nat.le_refl _)))
  have H2 := Lib.hid h2
  clear HL ho h2 s2
  go_wp2_with fail
  refine HA.out.mono ?_
  rintro e w3 ⟨rfl, v3, h3, s3⟩
  have e3 : stayQ [] 4 ++ [(⟨3, 0, 0, 0⟩ : Qd)] = [⟨3, 0, 0, 0⟩] := rfl
  rw [e3] at h3
  have HN2 := Lib.hid (fladd_no h3 3 0 0 0 0 ⟨by simp, rfl, fun j hj => by omega⟩ (by simp))
  have H3 := Lib.hid h3
  have HB3 := Lib.hid (HB2.out.trans (H2.out.bel s3 (Nat.le_refl _)))
  clear HA h3 s3 e3
  go_wp2_with fail
  refine HN2.out.mono ?_
  rintro e w4 ⟨rfl, b4⟩
  have HLN := Lib.hid (fllen_any (H3.out.later b4))
  have HB4 := Lib.hid (HB3.out.trans (b4.mono H3.out.size))
  clear HN2 b4
  go_wp2_with fail
  refine HLN.out.mono ?_
  rintro e w5 ⟨rfl, rfl⟩
  go_wp2_with fail
  go_ret
  exact ⟨rfl, HB4.out⟩
end Go.Proofs.Ytdfgomnppepmnaa

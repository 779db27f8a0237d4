/-
  append of blocks of the document's store onto a row of them. No function of the program.
-/
import Derived.Test.YtfafonfphholmaaRfActs
import Derived.Maps.AppendAt
import Derived.Laws.Append
namespace Go.Proofs.Ytfafonfphholmaa
open Go.RowKit

set_option maxRecDepth 10000 in
theorem info_blk : (Try.prog.info? 53).map (fun i => (i.zero, i.size, i.bytes)) = some (some (.agg #[.int .i64 0, .slice none 0 0, .int .i64 0, .bool false]), 4, 48) := by kernel_rfl

section
variable {w : World}
/-- append of blocks, onto a row of the call's own (or nil). -/
theorem run_appR (ty : TypeId) (B : Nat) (v : Value) (L M : List RE) (hown : w.ownsRow B 53 4 v L.length (rcs L)) (A : Option Addr) (m c : Nat) (hm : M.length = m)
    (hsrc : 0 < m → ∃ ad, A = some ad ∧ ∀ j u, (rcs M)[j]? = some u → w.cell? (ad.add j) = some u) (hb : (L.length + m) * 48 ≤ 140737488355328) (hB : B ≤ w.heap.size) :
    ∃ A' c' w', (Builtin.append_ #[26, 26] ty #[v, .slice A m c]).run Try.prog w = .ok (.slice A' (L.length + m) c') w' ∧ w'.ownsRow B 53 4 (.slice A' (L.length + m) c') (L.length + m) (rcs (L ++ M)) ∧
      w.grownBy w' v.ownBlock ∧ (∀ g, (Value.slice A' (L.length + m) c').ownBlock = some g → v.ownBlock = some g ∨ g = w.heap.size) := by
  obtain ⟨i, hi, hz0, hz2, hz3⟩ := info_parts info_blk
  have hmax : L.length + m ≤ maxLen := by unfold maxLen; omega
  have hform : ∀ (w' : World) (v' : Value) (n : Nat) (xs : List Value), w'.ownsRow B 53 4 v' n xs → ∃ A' c', v' = .slice A' n c' := fun w' v' n xs h => by
    rcases h.2 with ⟨rfl, rfl⟩ | ⟨g, cap, cur, rfl, _⟩
    · exact ⟨none, 0, rfl⟩
    · exact ⟨_, _, rfl⟩
  by_cases h0 : m = 0
  · have hq : M = [] := List.eq_nil_of_length_eq_zero (by omega)
    have hnil : (Builtin.append_ #[26, 26] ty #[v, .slice A m c]).run Try.prog w = .ok v w := by
      subst h0
      rcases hown.2 with ⟨rfl, h1⟩ | ⟨g, cap, cur, rfl, _, _, hnc, _⟩
      · cases A <;> simp [Builtin.append_, run_underlying Try.underlying26, sizeOf, typeInfo, hi, Builtin.lenOf, Builtin.firstCells, loadCells, loadCellsFrom]
      · cases A <;> simp [Builtin.append_, run_underlying Try.underlying26, sizeOf, typeInfo, hi, Builtin.lenOf, Builtin.firstCells, hnc, storeCells, loadCells, loadCellsFrom]
    subst hq
    subst h0
    obtain ⟨A', c', rfl⟩ := hform w v _ _ hown
    exact ⟨A', c', w, by simpa using hnil, by simpa using hown, World.grownBy.refl _ _, fun g hg => .inl hg⟩
  · obtain ⟨ad, rfl, hsr⟩ := hsrc (by omega)
    obtain ⟨v', w', hrun, h2, h3, _, h4⟩ := run_append_own_at (P := Try.prog) (w := w) B 26 ty 53 i _ 4 48 Try.underlying26 hi hz0 hz2 hz3 rfl (by omega) v L.length (rcs L) hown ad m c (rcs M) (by rw [rcs_len, hm]) hsr (rcs_one M) hmax hb hB
    obtain ⟨A', c', rfl⟩ := hform w' v' _ _ h2
    rw [← rcs_app] at h2
    refine ⟨A', c', w', hrun, h2, h3, fun g hg => ?_⟩
    rcases h4 with h5 | h5
    · exact .inl (h5 ▸ hg)
    · rw [h5] at hg; exact .inr (by cases hg; rfl)

/-- append onto a slice that is full: a new row. -/
theorem run_growR (ty : TypeId) (A0 : Option Addr) (L M : List RE) (k m c : Nat) (hk : L.length = k) (h0 : A0 = none → k = 0) (hold : ∀ ad, A0 = some ad → ∀ j u, (rcs L)[j]? = some u → w.cell? (ad.add j) = some u) (ad : Addr) (hm : M.length = m) (hpos : 0 < m)
    (hsrc : ∀ j u, (rcs M)[j]? = some u → w.cell? (ad.add j) = some u) (hb : (k + m) * 48 ≤ 140737488355328) :
    ∃ C w', (Builtin.append_ #[26, 26] ty #[.slice A0 k k, .slice (some ad) m c]).run Try.prog w = .ok (.slice (some ⟨w.heap.size, 0, none⟩) (k + m) C) w' ∧ w'.ownsRow w.heap.size 53 4 (.slice (some ⟨w.heap.size, 0, none⟩) (k + m) C) (k + m) (rcs (L ++ M)) ∧
      w.grownBy w' none := by
  obtain ⟨i, hi, hz0, hz2, hz3⟩ := info_parts info_blk
  have hmax : k + m ≤ maxLen := by unfold maxLen; omega
  cases A0 with
  | none =>
    have hk0 := h0 rfl
    subst hk0
    have hL : L = [] := List.eq_nil_of_length_eq_zero hk
    subst hL
    obtain ⟨A', c', w', hrun, h2, h3, h4⟩ := run_appR (w := w) ty w.heap.size (.slice none 0 0) [] M (World.ownsRow_nil _ _ _ _) (some ad) m c hm (fun _ => ⟨ad, rfl, hsrc⟩) (by simpa using hb) (Nat.le_refl _)
    simp only [List.length_nil, Nat.zero_add, List.nil_append] at hrun h2 h4
    rcases h2.2 with ⟨_, h5⟩ | ⟨g, cap, cur, hv, hge, hh, r⟩
    · omega
    · injection hv with e1 e2 e3
      subst e1
      have hg := h4 g rfl
      rcases hg with h6 | h6
      · simp [Value.ownBlock] at h6
      · subst h6
        simp only [Nat.zero_add, List.nil_append]
        exact ⟨c', w', hrun, h2, h3⟩
  | some b =>
    have hr1 := run_append_grow (P := Try.prog) w 26 ty 53 i _ Try.underlying26 hi hz0 b k k (rcs L) (by rw [hz2, rcs_len, hk]) (hold b rfl) ad m c (rcs M) (by rw [hz2, rcs_len, hm]) hsrc (by omega) (by unfold maxLen at hmax; omega) (growslice_fits (by omega) (by rw [hz3]; exact hb))
    refine ⟨_, _, hr1, ⟨by rw [rcs_len, List.length_append, hk, hm], .inr ⟨w.heap.size, _, _, rfl, Nat.le_refl _, heap_alloc_new w.drew _, grownCap_ge w _ _ _, grownCap_le_maxLen w _ _ _ hmax, ?_, ?_⟩⟩, ⟨rfl, rfl, rfl, by simp, fun j hj _ => heap_alloc_old w.drew _ hj⟩⟩
    · have hzc : ∀ n, (Builtin.zeroCells (Value.agg #[.int .i64 0, .slice none 0 0, .int .i64 0, .bool false]).cells n).size = n * 4 := fun n => by simp [Builtin.zeroCells, Value.cells]
      have := grownCap_ge w (k + m) k 53
      rw [Array.size_append, Array.size_append, hzc, List.size_toArray, List.size_toArray, rcs_len, rcs_len, hk, hm]
      omega
    · rw [Array.toList_append, Array.toList_append, rcs_app, List.take_append_of_le_length (by simp [rcs_len, hk, hm]; omega), List.take_of_length_le (by simp [rcs_len, hk, hm]; omega)]
end
end Go.Proofs.Ytfafonfphholmaa

/-
  append(s, make([]byte, k)...) onto bytes of the call's own: what it leaves. No program.
-/
import Derived.Test.YtlljfinagjdihaaOwn
import Derived.Lib.AppendZeros
import Derived.Lib.AppendZerosOnto
import Derived.Laws.CopyRow
namespace Go.Proofs.Ytlljfinagjdihaa
open Go.RowKit

section
variable {P : Program} (w : World)

theorem zero_cells (k : Nat) : (Builtin.zeroCells (Value.int .u8 0).cells k).toList = cel .u8 (List.replicate k 0) := by
  apply List.ext_getElem
  · simp [Builtin.zeroCells, cel, Value.cells]
  · intro i h1 h2
    simp [Builtin.zeroCells, cel, Value.cells, Nat.mod_one]

set_option maxHeartbeats 400000 in
theorem run_app_zeros (t tn ty e : TypeId) (ht : P.underlying t = some (.slice e)) (htn : P.underlying tn = some (.int .i64)) (hinfo : (P.info? e).map (fun i => (i.zero, i.size, i.bytes)) = some (some (.int .u8 0), 1, 1))
    (B : Nat) (v : Value) (xs : List Int) (hown : Own .u8 e w B v xs) (k : Nat) (h0 : 0 < k) (hb : xs.length + k ≤ 140737488355328) (hB : B ≤ w.heap.size) :
    ∃ A' c' w', (Builtin.append_ #[t, tn] ty #[v, .int .i64 (k : Nat)]).run P w = .ok (.slice A' (xs.length + k) c') w' ∧ Own .u8 e w' B (.slice A' (xs.length + k) c') (xs ++ List.replicate k 0) ∧ w.grownBy w' v.ownBlock := by
  obtain ⟨inf, hi, hz0, hz2, hz3⟩ := info_parts hinfo
  have hlen : (xs ++ List.replicate k 0).length = xs.length + k := by simp
  have hz := zero_cells k
  have hmax : xs.length + k ≤ maxLen := by unfold maxLen; omega
  have grow : ∀ (A : Option Addr) (c : Nat), v = .slice A xs.length c → c < xs.length + k → ((Builtin.firstCells inf.size xs.length (.slice A xs.length c)).run P w.drew = .ok (cel .u8 xs).toArray w.drew) →
      ∃ A' c' w', (Builtin.append_ #[t, tn] ty #[v, .int .i64 (k : Nat)]).run P w = .ok (.slice A' (xs.length + k) c') w' ∧ Own .u8 e w' B (.slice A' (xs.length + k) c') (xs ++ List.replicate k 0) ∧ w.grownBy w' v.ownBlock := by
    intro A c hv hc hf
    subst hv
    have h := Lib.run_append_grow_zeros w t tn ty e inf (.int .u8 0) .i64 .i64 ht htn hi hz0 A xs.length c (cel .u8 xs) hf k h0 (by omega) hc (by omega) (by rw [hz3]; omega) (by rw [hz3]; exact growslice_fits hc (by omega))
    refine ⟨_, _, _, h, ?_, ⟨rfl, rfl, rfl, by simp, fun j hj _ => heap_alloc_old w.drew _ hj⟩⟩
    unfold Own
    rw [hlen]
    have hge := grownCap_ge w (xs.length + k) c e
    refine ⟨by simp [cel], .inr ⟨_, _, _, rfl, hB, heap_alloc_new w.drew _, hge, grownCap_le_maxLen w _ _ _ hmax, ?_, ?_⟩⟩
    · rw [Array.size_append, Array.size_append, size_zeroCells, size_zeroCells, List.size_toArray, cel_len]
      simp only [Value.cells, List.size_toArray, List.length_cons, List.length_nil]
      omega
    · have e1 : (cel .u8 (xs ++ List.replicate k 0)) = cel .u8 xs ++ cel .u8 (List.replicate k 0) := by simp [cel]
      rw [Array.toList_append, Array.toList_append, hz, e1, Nat.mul_one, show xs.length + k = (cel .u8 xs ++ cel .u8 (List.replicate k 0)).length by simp [cel]]
      exact List.take_left
  rcases hown.2 with ⟨hv, hl0⟩ | ⟨g, cap, cur, hv, hBg, hg, hnc, hcm, hcs, htk⟩
  · refine grow none 0 (by rw [hl0]; exact hv) (by omega) ?_
    have : xs = [] := List.eq_nil_of_length_eq_zero hl0
    subst this
    simp [Builtin.firstCells, cel]
  · by_cases hroom : xs.length + k ≤ cap
    · have hst := run_storeCells_at P g xs.length e (cel .u8 (List.replicate k 0)) 0 cur w hg (by rw [cel_len, List.length_replicate]; omega) (cel_one _ _)
      simp only [Nat.add_zero] at hst
      rw [cel_len, List.length_replicate] at hst
      have hzz : (Builtin.zeroCells (Value.int .u8 0).cells k).toList = cel .u8 (List.replicate k 0) := hz
      refine ⟨some ⟨g, 0, none⟩, cap, w.setRow g (cur.toList.take xs.length ++ cel .u8 (List.replicate k 0) ++ cur.toList.drop (xs.length + k)).toArray, ?_, ?_, ⟨rfl, rfl, rfl, by simp [World.setRow], fun j _ hj => setRow_other w g j _ (fun e => hj (by rw [hv, e]; rfl))⟩⟩
      · rw [hv]
        have hw : IntKind.i64.wrap (k : Int) = k := by rw [IntKind.wrap_i64]; omega
        have hk : k ≠ 0 := by omega
        have hneg : ¬ ((k : Int) < 0) := by omega
        have h48 : ¬ (281474976710656 < (k : Int)) := by omega
        simp [Builtin.append_, run_underlying ht, run_underlying htn, sizeOf, typeInfo, zeroValue, hi, hz0, hz2, hz3, asInt, asIntOf, hw, hk, hneg, h48, hroom, Addr.add_lit, hzz, hst]
      · unfold Own
        rw [hlen]
        refine ⟨by simp [cel], .inr ⟨g, cap, _, rfl, hBg, setRow_heap w g _ _ e _ hg, hroom, hcm, ?_, ?_⟩⟩
        · simp only [List.size_toArray, List.length_append, List.length_take, List.length_drop, Array.length_toList, cel_len, List.length_replicate]
          omega
        · have e1 : (cel .u8 (xs ++ List.replicate k 0)) = cel .u8 xs ++ cel .u8 (List.replicate k 0) := by simp [cel]
          rw [e1]
          rw [Nat.mul_one] at htk
          rw [htk, Nat.mul_one, show xs.length + k = (cel .u8 xs ++ cel .u8 (List.replicate k 0)).length by simp [cel]]
          exact List.take_left
    · refine grow (some ⟨g, 0, none⟩) cap hv (by omega) ?_
      exact run_firstCells_some w.drew inf.size xs.length ⟨g, 0, none⟩ xs.length cap (cel .u8 xs) (by rw [cel_len, hz2]; omega) (fun j u hj => by
        have := hown.cells (g := g) (by rw [hv]; rfl) j u hj
        rw [Addr.add_lit, Nat.zero_add] at this ⊢
        exact this)
end
end Go.Proofs.Ytlljfinagjdihaa

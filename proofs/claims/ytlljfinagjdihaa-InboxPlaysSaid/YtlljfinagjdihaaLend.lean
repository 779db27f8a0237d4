/-
  What Lend makes of bytes, and what Intact answers of it: contracts over the program.
-/
import Derived.Test.YtlljfinagjdihaaCopy
import Derived.Laws.CopyOwn
import Derived.Deep.OwnRows
import Derived.Deep.QuietTactic
import Derived.BigQuiet
namespace Go.Proofs.Ytlljfinagjdihaa
open Go.RowKit

set_option maxRecDepth 10000 in
theorem madeByte (n : Nat) : madeCells #[.int .u8 0] n = ((List.replicate n (Value.int .u8 0))).toArray := by
  rw [← toList_madeCells_one]

set_option maxRecDepth 10000 in
theorem copy_pos {k : IntKind} {w : World} {A : Option Addr} {xs : List Int} (g : Nat) (hr : Rd k w A xs) :
    0 < (cel k xs).length → (some ⟨g, 0, none⟩ : Option Addr) = some ⟨g, 0, none⟩ ∧ ∃ ad, A = some ad ∧ ∀ j v, (cel k xs)[j]? = some v → w.cell? (ad.add j) = some v := fun hp => by
  rw [cel_len] at hp
  obtain ⟨b, off, hA, _⟩ := hr.some_ hp
  exact ⟨rfl, _, hA, hr.cells _ hA⟩

/-- The cells behind j of the three stores. -/
def lendF (xs : List Int) (j t : Nat) : Value := .int .u8 (if t < xs.length then xs.getD t 0 else if t < xs.length + j then 85 else 0)

set_option maxRecDepth 10000 in
theorem lendF_0 (w : World) (g : Nat) (e : TypeId) (xs : List Int) (zs : List Value) (hz : zs = List.replicate (xs.length + 3) (Value.int .u8 0))
    (h : w.heap[g]? = some (.cells (splice zs 0 (cel .u8 xs)).toArray e (0, 0))) : w.rowIs g e (xs.length + 3) (lendF xs 0) := by
  refine ⟨_, h, ?_, fun i hi => ?_⟩
  · simp [splice, cel, hz]
  · rw [hz]
    by_cases h1 : i < xs.length
    · simp [splice, cel, lendF, h1, List.getElem?_append]
    · have h2 : ¬ i < xs.length + 0 := by omega
      simp only [splice, cel, lendF, if_neg h1, if_neg h2, List.take_zero, List.nil_append, List.getElem?_toArray, Nat.zero_add, List.length_map]
      rw [List.getElem?_append_right (by simpa using h1)]
      simp
      have h3 : i - xs.length = 0 ∨ i - xs.length = 1 ∨ i - xs.length = 2 := by omega
      rcases h3 with h3 | h3 | h3 <;> rw [h3] <;> rfl
set_option maxRecDepth 10000 in
theorem lendF_3 {w : World} {g : Nat} {e : TypeId} {xs : List Int} (h : w.rowIs g e (xs.length + 3) (lendF xs 3)) : Rd .u8 w (some ⟨g, 0, none⟩) (xs ++ [85, 85, 85]) := by
  refine .inr ⟨g, 0, rfl, fun i hi => ?_⟩
  simp only [List.length_append, List.length_cons, List.length_nil] at hi
  rw [Nat.zero_add, h.cell (by omega)]
  unfold lendF
  by_cases h1 : i < xs.length
  · simp [List.getD, h1, List.getElem?_append]
  · rw [if_neg h1, if_pos (by omega)]
    have : i = xs.length ∨ i = xs.length + 1 ∨ i = xs.length + 2 := by omega
    rcases this with rfl | rfl | rfl <;> simp [List.getD]

set_option maxRecDepth 10000 in
set_option maxHeartbeats 400000 in
theorem lend_new (A : Option Addr) (n c : Nat) (xs : List Int) (w : World) (hn : xs.length = n) (hr : Rd .u8 w A xs) (hb : n ≤ 140737488355328) :
    Calls Try.prog 23 #[.slice A n c] w fun e w' => e = .returned (.slice (some ⟨w.heap.size, 0, none⟩) n (n + 3)) ∧ Rd .u8 w' (some ⟨w.heap.size, 0, none⟩) (xs ++ [85, 85, 85]) ∧ Below w.heap.size w w' := by
  obtain ⟨i0, hi0, hz0, hz1, hz2⟩ := info_parts info_byte
  obtain ⟨zs, hzs⟩ : ∃ zs : List Value, zs = List.replicate (n + 3) (Value.int .u8 0) := ⟨_, rfl⟩
  have hmk : ∀ w, (Instr.makeSlice 22 (.int .i64 (n : Int)) (.int .i64 ((n : Int) + 3))).run Try.prog w = .ok (.slice (some ⟨w.heap.size, 0, none⟩) n (n + 3)) (w.alloc (.cells zs.toArray 5)) := fun w => by
    have := run_make (P := Try.prog) w 22 5 i0 (.int .u8 0) Try.underlying22 hi0 hz0 .i64 .i64 n (n + 3) (by omega) (by omega) (by rw [hz2]; omega) (by omega)
    rw [hz1, Nat.mul_one, show ((n : Int) + 3).toNat = n + 3 from by omega, Int.toNat_natCast] at this
    rw [this, hzs, ← madeByte]
    rfl
  have hl : zs.length = n + 3 := by rw [hzs]; simp
  have HN := Lib.hid hn
  have HL := Lib.hid hl
  have HZ := Lib.hid hzs
  clear hn hi0 hz0 hz1 hz2 hzs hl
  have hbl0 : Below w.heap.size w (w.alloc (.cells zs.toArray 5)) := (Below.refl _ _).alloc (Nat.le_refl _) _
  have hg0 : (w.alloc (.cells zs.toArray 5)).heap[w.heap.size]? = some (.cells zs.toArray 5 (0, 0)) := heap_alloc_new w _
  have HG := Lib.hid hg0
  clear hg0
  go_enter Try.func23, Try.ntmps23
  go_wp2_with (with_reducible refine wpList_copy_splice (o := ⟨some 14, _, _, _, _, _⟩) rfl (.tmp 12) (.tmp 13) 22 22 rfl 5 Try.underlying22 (by kernel_rfl) _ _ n (n + 3) n c rfl rfl w.heap.size 0 zs 5 HG.out (cel .u8 xs) (by rw [cel_len, HN.out]; simp) (copy_pos _ (hr.alloc _)) (by rw [cel_len, HN.out, HL.out]; omega) (cel_one _ _) w.heap.size w hbl0 (Nat.le_refl _) ?_)
  intro w1 HW hb1
  have hrow : w1.rowIs w.heap.size 5 (n + 3) (lendF xs 0) := by
    have := lendF_0 w1 w.heap.size 5 xs zs (by rw [HN.out]; exact HZ.out) HW.out
    rwa [HN.out] at this
  have HR := Lib.hid hrow
  clear hrow HW hmk
  go_wp2
  go_loopw [5] (fun i wr => ∃ j : Nat, j ≤ 3 ∧ i = .int .i64 ((n + j : Nat) : Int) ∧ Below w.heap.size w wr ∧ Hid (wr.rowIs w.heap.size 5 (n + 3) (lendF xs j))) (fun i _ => n + 3 - (intOf i).toNat)
  case atStart => exact ⟨0, by omega, by simp, hb1, HR⟩
  case round =>
    obtain ⟨j, hj, rfl, hb2, hr2⟩ := hrel
    by_cases hlt : j < 3
    · have c1 := hr2.out.cell (i := n + j) (by omega)
      have f1 := hr2.out.frozen (n + j)
      have hn1 : ((n + j : Nat) : Int) < (n : Int) + 3 := by omega
      have hn2 : (0 : Int) ≤ ((n + j : Nat) : Int) := by omega
      go_wp2
      go_roundw
      case rel =>
        refine ⟨j + 1, by omega, by go_num, hb2.setCell (Nat.le_refl _) _, ?_⟩
        have hset := hr2.out.set (n + j) (.int .u8 85)
        refine hset.congr fun t ht => ?_
        simp only [lendF, HN.out]
        by_cases h1 : t < n
        · rw [if_neg (by omega), if_pos h1, if_pos h1]
        · by_cases h2 : t = n + j
          · rw [if_pos h2, if_neg h1, if_pos (by omega)]
          · rw [if_neg h2, if_neg h1, if_neg h1]
            by_cases h3 : t < n + j
            · rw [if_pos h3, if_pos (by omega)]
            · rw [if_neg h3, if_neg (by omega)]
      case measure => simp [intOf]; omega
    · have : j = 3 := by omega
      subst this
      go_wp2
      go_ret
      refine ⟨rfl, lendF_3 (e := 5) ?_, hb2⟩
      have := hr2.out
      rw [← HN.out] at this
      exact this
theorem lend_any (A : Option Addr) (n c : Nat) (xs : List Int) (w : World) (hn : xs.length = n) (hr : Rd .u8 w A xs) (hb : n ≤ 140737488355328) :
    Calls Try.prog 23 #[.slice A n c] w fun e w' => ∃ A', e = .returned (.slice A' n (n + 3)) ∧ Rd .u8 w' A' (xs ++ [85, 85, 85]) ∧ Below w.heap.size w w' :=
  (lend_new A n c xs w hn hr hb).mono fun _ _ ⟨h1, h2, h3⟩ => ⟨_, h1, h2, h3⟩

set_option maxRecDepth 10000 in
set_option maxHeartbeats 1000000 in
theorem intact_any (A B : Option Addr) (n c : Nat) (xs : List Int) (w : World) (hn : xs.length = n) (ha : Rd .u8 w A (xs ++ [85, 85, 85])) (hb : Rd .u8 w B xs) (hm : n ≤ 140737488355328) :
    Calls Try.prog 25 #[.slice A n (n + 3), .slice B n c] w fun e w' => e = .returned (.bool true) ∧ ∃ k, w' = w.drewN k := by
  have hl : (xs ++ [85, 85, 85]).length = n + 3 := by simp [hn]
  obtain ⟨b, off, rfl, hx⟩ := ha.some_ (by omega)
  rw [hl] at hx
  have hx1 : ∀ i, i < n → w.cell? ⟨b, off + i, none⟩ = some (.int .u8 (xs.getD i 0)) := fun i hi => by
    rw [hx i (by omega)]
    simp [List.getD, List.getElem?_append, hn, hi]
  have hx2 : ∀ i, n ≤ i → i < n + 3 → w.cell? ⟨b, off + i, none⟩ = some (.int .u8 85) := fun i h1 h2 => by
    rw [hx i (by omega)]
    have : i = xs.length ∨ i = xs.length + 1 ∨ i = xs.length + 2 := by omega
    rcases this with rfl | rfl | rfl <;> simp [List.getD]
  have HX1 := Lib.hid hx1
  have HX2 := Lib.hid hx2
  have HB := Lib.hid hb
  have HN := Lib.hid hn
  clear hx hx1 hx2 hb hn hl ha
  go_enter Try.func25, Try.ntmps25
  go_wp2
  go_loopw [27] (fun i wr => ∃ k nd : Nat, k ≤ n + 3 ∧ i = .int .i64 k ∧ wr = w.drewN nd) (fun i _ => n + 3 - (intOf i).toNat)
  case atStart => exact ⟨0, 0, by omega, rfl, rfl⟩
  case round =>
    obtain ⟨k, nd, hk, rfl, rfl⟩ := hrel
    by_cases hlt : k < n + 3
    · have hi : (k : Int) < (n : Int) + 3 := by omega
      have h0 : (0 : Int) ≤ (k : Int) := by omega
      by_cases hkn : k < n
      · have c1 := HX1.out k hkn
        obtain ⟨b', off', rfl, hy⟩ := HB.out.some_ (by rw [HN.out]; omega)
        have c2 := hy k (by rw [HN.out]; exact hkn)
        clear hy
        have hkn' : (k : Int) < (n : Int) := by omega
        have hnk : decide ((n : Int) ≤ (k : Int)) = false := by simp; omega
        have hnk' : decide (n ≤ k) = false := by simp; omega
        obtain ⟨x, hx⟩ : ∃ x, xs.getD k 0 = x := ⟨_, rfl⟩
        rw [hx] at c1 c2
        clear hx
        go_wp2_with fail
        go_quiet (fail)
        go_wp2
        go_roundw
        case rel => exact ⟨k + 1, _, by omega, by go_num, rfl⟩
        case measure => simp [intOf]; omega
      · have c1 := HX2.out k (by omega) hlt
        have hkn' : decide ((k : Int) < (n : Int)) = false := by simp; omega
        have hkn2 : decide (k < n) = false := by simp; omega
        have hnk : (n : Int) ≤ (k : Int) := by omega
        go_wp2_with fail
        go_quiet (fail)
        go_wp2
        go_roundw
        case rel => exact ⟨k + 1, _, by omega, by go_num, rfl⟩
        case measure => simp [intOf]; omega
    · have : k = n + 3 := by omega
      subst this
      go_wp2
      go_ret
      exact ⟨rfl, _, rfl⟩
end Go.Proofs.Ytlljfinagjdihaa

/-
  SetHas · Lend.
-/
import Derived.Test.YtpjlnpnadkbakaaGreatQEcSets
import Derived.Laws.StructEq
import Derived.Laws.ResultCell
import Derived.Test.YtpjlnpnadkbakaaGreatQEcCopy
import Derived.Laws.CopyOwn
import Derived.Deep.OwnRows
import Derived.Deep.QuietTactic
import Derived.BigQuiet
namespace Go.Proofs.YtpjlnpnadkbakaaGreat
set_option maxRecDepth 10000
open Go.RowKit
open Go.Sort (grow grow_grow grow_empty alloc_eq_grow)

set_option maxHeartbeats 400000 in
theorem front_none (p : Nat) (v : Value) (B : Nat) (w : World) (hs : SetAt w B p v []) :
    Calls Tryz.prog 155 #[.pointer (some ⟨p, 0, none⟩)] w fun e w' => e = .returned (.int .i64 0) ∧ Below w.heap.size w w' := by
  have H := Lib.hid (first_none p v B w hs)
  clear hs
  go_enter Tryz.func155, Tryz.ntmps155
  go_wp2_with fail
  refine H.out.mono ?_
  rintro e w1 ⟨rfl, hb⟩
  have HB := Lib.hid hb
  clear hb
  go_wp2
  go_ret
  exact ⟨rfl, HB.out.alloc HB.out.size _⟩

set_option maxHeartbeats 400000 in
theorem has_any (p : Nat) (v : Value) (ps : List (Int × Int)) (B : Nat) (f t : Int) (r : Bool) (w : World) (hs : SetAt w B p v ps) (hl : ps.length ≤ 1099511627776) (hr : r = true ↔ ∀ k, f ≤ k → k < t → ins ps k) :
    Calls Tryz.prog 152 #[.pointer (some ⟨p, 0, none⟩), .int .i64 f, .int .i64 t] w fun e w' => e = .returned (.bool r) ∧ Below w.heap.size w w' := by
  by_cases h : t ≤ f
  · obtain rfl : r = true := hr.2 fun k h1 h2 => by omega
    clear hr hs
    go_enter Tryz.func152, Tryz.ntmps152
    go_wp2
    go_ret
    exact ⟨rfl, Below.refl _ _⟩
  · obtain ⟨a, ha, a1, a2⟩ := reach_exists hs.norm t
    have hiff := has_iff hs.norm (show f < t by omega) ha a1 a2
    rw [← hr] at hiff
    have HR := Lib.hid (reaching_any p v ps B a t w hs ⟨ha, a1, a2⟩ (by omega))
    have HBEL := Lib.hid (show ∀ q os, Below w.heap.size w (grow (w.drewN q) os) from fun q os => below_grow _ _ _ _ (Nat.le_refl _))
    have H0 : ¬ (t ≤ f) := h
    obtain ⟨A, c, hv⟩ := hs.own.form
    by_cases hal : a < ps.length
    · rcases hs.form with ⟨_, h1⟩ | ⟨g, c, rfl⟩
      · rw [h1] at hal; simp at hal
      · have HC := Lib.hid (show ∀ q os, (grow (w.drewN q) os).cell? ⟨p, 0, none⟩ = some (.slice (some ⟨g, 0, none⟩) ps.length c) ∧ (grow (w.drewN q) os).cell? ⟨g, a * 2, none⟩ = some (.int .i64 (ps.getD a (0, 0)).1) from fun q os => ⟨(hs.grow q os).c0, ((hs.grow q os).own.cells a hal).1⟩)
        obtain ⟨y, hy⟩ : ∃ y, (ps.getD a (0, 0)).1 = y := ⟨_, rfl⟩
        rw [hy] at HC hiff
        have er : decide (y ≤ f) = r := by
          cases r with
          | true => exact decide_eq_true (hiff.2 rfl).2
          | false => exact decide_eq_false fun h => by have := hiff.1 ⟨hal, h⟩; cases this
        obtain ⟨n, hn⟩ : ∃ n, ps.length = n := ⟨_, rfl⟩
        rw [hn] at HC hal
        have i1 : (a : Int) < (n : Int) := by omega
        have i2 : (0 : Int) ≤ (a : Int) := by omega
        have ER := Lib.hid er
        clear er hr hs hiff ha a1 a2 hl hy hn hv h
        go_enter Tryz.func152, Tryz.ntmps152
        go_wp2_with fail
        refine HR.out.mono ?_
        rintro e w1 ⟨rfl, q, os, rfl⟩
        obtain ⟨c0, c1⟩ := HC.out q os
        have HB := Lib.hid (HBEL.out q os)
        generalize grow (w.drewN q) os = W at *
        go_wp2
        go_ret
        exact ⟨ret_b ER.out, HB.out⟩
    · have er : r = false := by
        cases r with
        | true => exact absurd (hiff.2 rfl).1 hal
        | false => rfl
      subst er
      have hal' : a = ps.length := by omega
      subst hal'
      have HC := Lib.hid (show ∀ q os, (grow (w.drewN q) os).cell? ⟨p, 0, none⟩ = some v from fun q os => (hs.grow q os).c0)
      subst hv
      obtain ⟨n, hn⟩ : ∃ n, ps.length = n := ⟨_, rfl⟩
      rw [hn] at HC HR
      clear hr hs hiff ha a1 a2 hl hn h hal
      go_enter Tryz.func152, Tryz.ntmps152
      go_wp2_with fail
      refine HR.out.mono ?_
      rintro e w1 ⟨rfl, q, os, rfl⟩
      have c0 := HC.out q os
      have HB := Lib.hid (HBEL.out q os)
      generalize grow (w.drewN q) os = W at *
      go_wp2
      go_ret
      exact ⟨rfl, HB.out⟩

theorem cnt_le {ps : List (Int × Int)} (h : Norm ps) : ∀ lo : Int, lo ≤ 1099511627776 → (∀ p ∈ ps, lo ≤ p.1) → 0 ≤ cntL ps ∧ cntL ps ≤ 1099511627776 - lo := by
  induction ps with
  | nil => intro lo hlo _; simp [cntL]; omega
  | cons p ps ih =>
    intro lo hlo hp
    have h1 := h.head
    have h2 := hp p List.mem_cons_self
    have h3 := ih h.tail p.2 h1.2.2 (fun q hq => by have := h.rest q hq; omega)
    simp only [cntL]
    omega
theorem cnt_bd {ps : List (Int × Int)} (h : Norm ps) : 0 ≤ cntL ps ∧ cntL ps ≤ 1099511627776 := by
  have := cnt_le h 0 (by omega) (fun p hp => (h.each p hp).1)
  omega
theorem cnt_step (ps : List (Int × Int)) (k : Nat) (hk : k < ps.length) : cntL (ps.take (k + 1)) = cntL (ps.take k) + ((ps.getD k (0, 0)).2 - (ps.getD k (0, 0)).1) := by
  rw [List.take_add_one, cntL_app]
  simp [List.getD, hk, cntL]

set_option maxHeartbeats 400000 in
theorem count_any (p : Nat) (v : Value) (ps : List (Int × Int)) (B : Nat) (w : World) (hs : SetAt w B p v ps) (hl : ps.length ≤ 1099511627776) :
    Calls Tryz.prog 153 #[.pointer (some ⟨p, 0, none⟩)] w fun e w' => e = .returned (.int .i64 (cntL ps)) ∧ Below w.heap.size w w' := by
  obtain ⟨A, c, hv⟩ := hs.own.form
  have c0 := hs.c0
  have HCELL := Lib.hid (show ∀ (W : World) k, Below w.heap.size w W → k < ps.length → ∃ g, A = some ⟨g, 0, none⟩ ∧ W.cell? ⟨g, k * 2, none⟩ = some (.int .i64 (ps.getD k (0, 0)).1) ∧ W.cell? ⟨g, k * 2 + 1, none⟩ = some (.int .i64 (ps.getD k (0, 0)).2) from fun W k hb hk => by
    have h1 := (hs.later hb).own
    rw [hv] at h1
    obtain ⟨g, rfl, _⟩ := h1.at (by omega)
    exact ⟨g, rfl, h1.cells k hk⟩)
  have HBD := Lib.hid (show ∀ k, 0 ≤ cntL (ps.take k) ∧ cntL (ps.take k) ≤ 1099511627776 from fun k => cnt_bd (hs.norm.take k))
  have HAT := Lib.hid (show ∀ k, k < ps.length → 0 ≤ (ps.getD k (0, 0)).1 ∧ (ps.getD k (0, 0)).1 < (ps.getD k (0, 0)).2 ∧ (ps.getD k (0, 0)).2 ≤ 1099511627776 from fun k hk => hs.norm.at k hk)
  have HST := Lib.hid (cnt_step ps)
  subst hv
  obtain ⟨n, hn⟩ : ∃ n, ps.length = n := ⟨_, rfl⟩
  have HN := Lib.hid hn
  rw [hn] at c0 hl HCELL HAT HST
  clear hs hn
  go_enter Tryz.func153, Tryz.ntmps153
  go_wp2
  go_loopw [3, 11] (fun s i wr => ∃ k : Nat, k ≤ n ∧ i = .int .i64 k ∧ s = .int .i64 (cntL (ps.take k)) ∧ Hid (Below w.heap.size w wr)) (fun _ i _ => n - (intOf i).toNat)
  case atStart => exact ⟨0, by omega, rfl, rfl, Below.refl _ _⟩
  case round =>
    obtain ⟨k, hk, rfl, rfl, hb⟩ := hrel
    by_cases hlt : k < n
    · obtain ⟨g, rfl, c1, c2⟩ := HCELL.out wr k hb.out hlt
      have hst := HST.out k hlt
      have hat := HAT.out k hlt
      have hbd := HBD.out k
      obtain ⟨x, hx⟩ : ∃ x, (ps.getD k (0, 0)).1 = x := ⟨_, rfl⟩
      obtain ⟨y, hy⟩ : ∃ y, (ps.getD k (0, 0)).2 = y := ⟨_, rfl⟩
      obtain ⟨s, hs⟩ : ∃ s, cntL (ps.take k) = s := ⟨_, rfl⟩
      rw [hx, hy, hs] at hst
      rw [hx, hy] at hat
      rw [hx] at c1
      rw [hy] at c2
      rw [hs] at hbd ⊢
      have HST2 := Lib.hid hst
      have i1 : (k : Int) < (n : Int) := by omega
      have i2 : (0 : Int) ≤ (k : Int) := by omega
      clear hst hx hy hs
      go_wp2
      go_roundw
      case rel => exact ⟨k + 1, by omega, by go_num, by rw [HST2.out], hb.out.alloc hb.out.size _⟩
      case measure => simp [intOf]; omega
    · have : k = n := by omega
      subst this
      rw [show ps.take k = ps from by rw [← HN.out, List.take_length]]
      obtain ⟨s, hs⟩ : ∃ s, cntL ps = s := ⟨_, rfl⟩
      rw [hs]
      have HSS := Lib.hid hs
      clear hs
      go_wp2
      go_ret
      exact ⟨ret_i HSS.out.symm, hb.out⟩

end Go.Proofs.YtpjlnpnadkbakaaGreat
namespace Go.Proofs.YtpjlnpnadkbakaaGreat
set_option maxRecDepth 10000
open Go.RowKit

theorem madeByte (n : Nat) : madeCells #[.int .u8 0] n = ((List.replicate n (Value.int .u8 0))).toArray := by
  rw [← toList_madeCells_one]

theorem copy_pos {k : IntKind} {w : World} {A : Option Addr} {xs : List Int} (g : Nat) (hr : Rd k w A xs) :
    0 < (cel k xs).length → (some ⟨g, 0, none⟩ : Option Addr) = some ⟨g, 0, none⟩ ∧ ∃ ad, A = some ad ∧ ∀ j v, (cel k xs)[j]? = some v → w.cell? (ad.add j) = some v := fun hp => by
  rw [cel_len] at hp
  obtain ⟨b, off, hA, _⟩ := hr.some_ hp
  exact ⟨rfl, _, hA, hr.cells _ hA⟩

/-- The cells behind j of the three stores. -/
def lendF (xs : List Int) (j t : Nat) : Value := .int .u8 (if t < xs.length then xs.getD t 0 else if t < xs.length + j then 85 else 0)

theorem lendF_0 (w : World) (g : Nat) (e : TypeId) (xs : List Int) (zs : List Value) (hz : zs = List.replicate (xs.length + 3) (Value.int .u8 0))
    (h : w.heap[g]? = some (.cells (splice zs 0 (cel .u8 xs)).toArray e (0, 0))) : w.rowIs g e (xs.length + 3) (lendF xs 0) := by
  refine ⟨_, h, ?_, fun i hi => ?_⟩
  · simp [splice, cel, hz]
  · rw [hz]
    by_cases h1 : i < xs.length
    · simp [splice, cel, lendF, h1, List.getElem?_append]
    · have h2 : ¬ i < xs.length + 0 := by omega
      simp only [splice, cel, lendF, if_neg h1, if_neg h2, List.take_zero, List.nil_append, List.getElem?_toArray, Nat.zero_add, List.length_map]
      rw [List.getElem?_append_right (by simpa using h1)]
      simp
      have h3 : i - xs.length = 0 ∨ i - xs.length = 1 ∨ i - xs.length = 2 := by omega
      rcases h3 with h3 | h3 | h3 <;> rw [h3] <;> rfl
theorem lendF_3 {w : World} {g : Nat} {e : TypeId} {xs : List Int} (h : w.rowIs g e (xs.length + 3) (lendF xs 3)) : Rd .u8 w (some ⟨g, 0, none⟩) (xs ++ [85, 85, 85]) := by
  refine .inr ⟨g, 0, rfl, fun i hi => ?_⟩
  simp only [List.length_append, List.length_cons, List.length_nil] at hi
  rw [Nat.zero_add, h.cell (by omega)]
  unfold lendF
  by_cases h1 : i < xs.length
  · simp [List.getD, h1, List.getElem?_append]
  · rw [if_neg h1, if_pos (by omega)]
    have : i = xs.length ∨ i = xs.length + 1 ∨ i = xs.length + 2 := by omega
    rcases this with rfl | rfl | rfl <;> simp [List.getD]

set_option maxHeartbeats 400000 in
theorem lend_new (A : Option Addr) (n c : Nat) (xs : List Int) (w : World) (hn : xs.length = n) (hr : Rd .u8 w A xs) (hb : n ≤ 140737488355328) :
    Calls Tryz.prog 43 #[.slice A n c] w fun e w' => e = .returned (.slice (some ⟨w.heap.size, 0, none⟩) n (n + 3)) ∧ Rd .u8 w' (some ⟨w.heap.size, 0, none⟩) (xs ++ [85, 85, 85]) ∧ Below w.heap.size w w' := by
  obtain ⟨i0, hi0, hz0, hz1, hz2⟩ := info_parts info_byte
  obtain ⟨zs, hzs⟩ : ∃ zs : List Value, zs = List.replicate (n + 3) (Value.int .u8 0) := ⟨_, rfl⟩
  have hmk : ∀ w, (Instr.makeSlice 29 (.int .i64 (n : Int)) (.int .i64 ((n : Int) + 3))).run Tryz.prog w = .ok (.slice (some ⟨w.heap.size, 0, none⟩) n (n + 3)) (w.alloc (.cells zs.toArray 5)) := fun w => by
    have := run_make (P := Tryz.prog) w 29 5 i0 (.int .u8 0) Tryz.underlying29 hi0 hz0 .i64 .i64 n (n + 3) (by omega) (by omega) (by rw [hz2]; omega) (by omega)
    rw [hz1, Nat.mul_one, show ((n : Int) + 3).toNat = n + 3 from by omega, Int.toNat_natCast] at this
    rw [this, hzs, ← madeByte]
    rfl
  have hl : zs.length = n + 3 := by rw [hzs]; simp
  have HN := Lib.hid hn
  have HL := Lib.hid hl
  have HZ := Lib.hid hzs
  clear hn hi0 hz0 hz1 hz2 hzs hl
  have hbl0 : Below w.heap.size w (w.alloc (.cells zs.toArray 5)) := (Below.refl _ _).alloc (Nat.le_refl _) _
  have hg0 : (w.alloc (.cells zs.toArray 5)).heap[w.heap.size]? = some (.cells zs.toArray 5 (0, 0)) := heap_alloc_new w _
  have HG := Lib.hid hg0
  clear hg0
  go_enter Tryz.func43, Tryz.ntmps43
  go_wp2_with (with_reducible refine wpList_copy_splice (o := ⟨some 14, _, _, _, _, _⟩) rfl (.tmp 12) (.tmp 13) 29 29 rfl 5 Tryz.underlying29 (by kernel_rfl) _ _ n (n + 3) n c rfl rfl w.heap.size 0 zs 5 HG.out (cel .u8 xs) (by rw [cel_len, HN.out]; simp) (copy_pos _ (hr.alloc _)) (by rw [cel_len, HN.out, HL.out]; omega) (cel_one _ _) w.heap.size w hbl0 (Nat.le_refl _) ?_)
  intro w1 HW hb1
  have hrow : w1.rowIs w.heap.size 5 (n + 3) (lendF xs 0) := by
    have := lendF_0 w1 w.heap.size 5 xs zs (by rw [HN.out]; exact HZ.out) HW.out
    rwa [HN.out] at this
  have HR := Lib.hid hrow
  clear hrow HW hmk
  go_wp2
  go_loopw [5] (fun i wr => ∃ j : Nat, j ≤ 3 ∧ i = .int .i64 ((n + j : Nat) : Int) ∧ Below w.heap.size w wr ∧ Hid (wr.rowIs w.heap.size 5 (n + 3) (lendF xs j))) (fun i _ => n + 3 - (intOf i).toNat)
  case atStart => exact ⟨0, by omega, by simp, hb1, HR⟩
  case round =>
    obtain ⟨j, hj, rfl, hb2, hr2⟩ := hrel
    by_cases hlt : j < 3
    · have c1 := hr2.out.cell (i := n + j) (by omega)
      have f1 := hr2.out.frozen (n + j)
      have hn1 : ((n + j : Nat) : Int) < (n : Int) + 3 := by omega
      have hn2 : (0 : Int) ≤ ((n + j : Nat) : Int) := by omega
      go_wp2
      go_roundw
      case rel =>
        refine ⟨j + 1, by omega, by go_num, hb2.setCell (Nat.le_refl _) _, ?_⟩
        have hset := hr2.out.set (n + j) (.int .u8 85)
        refine hset.congr fun t ht => ?_
        simp only [lendF, HN.out]
        by_cases h1 : t < n
        · rw [if_neg (by omega), if_pos h1, if_pos h1]
        · by_cases h2 : t = n + j
          · rw [if_pos h2, if_neg h1, if_pos (by omega)]
          · rw [if_neg h2, if_neg h1, if_neg h1]
            by_cases h3 : t < n + j
            · rw [if_pos h3, if_pos (by omega)]
            · rw [if_neg h3, if_neg (by omega)]
      case measure => simp [intOf]; omega
    · have : j = 3 := by omega
      subst this
      go_wp2
      go_ret
      refine ⟨rfl, lendF_3 (e := 5) ?_, hb2⟩
      have := hr2.out
      rw [← HN.out] at this
      exact this
theorem lend_any (A : Option Addr) (n c : Nat) (xs : List Int) (w : World) (hn : xs.length = n) (hr : Rd .u8 w A xs) (hb : n ≤ 140737488355328) :
    Calls Tryz.prog 43 #[.slice A n c] w fun e w' => ∃ A', e = .returned (.slice A' n (n + 3)) ∧ Rd .u8 w' A' (xs ++ [85, 85, 85]) ∧ Below w.heap.size w w' :=
  (lend_new A n c xs w hn hr hb).mono fun _ _ ⟨h1, h2, h3⟩ => ⟨_, h1, h2, h3⟩

set_option maxHeartbeats 1000000 in
theorem intact_any (A B : Option Addr) (n c : Nat) (xs : List Int) (w : World) (hn : xs.length = n) (ha : Rd .u8 w A (xs ++ [85, 85, 85])) (hb : Rd .u8 w B xs) (hm : n ≤ 140737488355328) :
    Calls Tryz.prog 45 #[.slice A n (n + 3), .slice B n c] w fun e w' => e = .returned (.bool true) ∧ ∃ k, w' = w.drewN k := by
  have hl : (xs ++ [85, 85, 85]).length = n + 3 := by simp [hn]
  obtain ⟨b, off, rfl, hx⟩ := ha.some_ (by omega)
  rw [hl] at hx
  have hx1 : ∀ i, i < n → w.cell? ⟨b, off + i, none⟩ = some (.int .u8 (xs.getD i 0)) := fun i hi => by
    rw [hx i (by omega)]
    simp [List.getD, List.getElem?_append, hn, hi]
  have hx2 : ∀ i, n ≤ i → i < n + 3 → w.cell? ⟨b, off + i, none⟩ = some (.int .u8 85) := fun i h1 h2 => by
    rw [hx i (by omega)]
    have : i = xs.length ∨ i = xs.length + 1 ∨ i = xs.length + 2 := by omega
    rcases this with rfl | rfl | rfl <;> simp [List.getD]
  have HX1 := Lib.hid hx1
  have HX2 := Lib.hid hx2
  have HB := Lib.hid hb
  have HN := Lib.hid hn
  clear hx hx1 hx2 hb hn hl ha
  go_enter Tryz.func45, Tryz.ntmps45
  go_wp2
  go_loopw [27] (fun i wr => ∃ k nd : Nat, k ≤ n + 3 ∧ i = .int .i64 k ∧ wr = w.drewN nd) (fun i _ => n + 3 - (intOf i).toNat)
  case atStart => exact ⟨0, 0, by omega, rfl, rfl⟩
  case round =>
    obtain ⟨k, nd, hk, rfl, rfl⟩ := hrel
    by_cases hlt : k < n + 3
    · have hi : (k : Int) < (n : Int) + 3 := by omega
      have h0 : (0 : Int) ≤ (k : Int) := by omega
      by_cases hkn : k < n
      · have c1 := HX1.out k hkn
        obtain ⟨b', off', rfl, hy⟩ := HB.out.some_ (by rw [HN.out]; omega)
        have c2 := hy k (by rw [HN.out]; exact hkn)
        clear hy
        have hkn' : (k : Int) < (n : Int) := by omega
        have hnk : decide ((n : Int) ≤ (k : Int)) = false := by simp; omega
        have hnk' : decide (n ≤ k) = false := by simp; omega
        obtain ⟨x, hx⟩ : ∃ x, xs.getD k 0 = x := ⟨_, rfl⟩
        rw [hx] at c1 c2
        clear hx
        go_wp2_with fail
        go_quiet (fail)
        go_wp2
        go_roundw
        case rel => exact ⟨k + 1, _, by omega, by go_num, rfl⟩
        case measure => simp [intOf]; omega
      · have c1 := HX2.out k (by omega) hlt
        have hkn' : decide ((k : Int) < (n : Int)) = false := by simp; omega
        have hkn2 : decide (k < n) = false := by simp; omega
        have hnk : (n : Int) ≤ (k : Int) := by omega
        go_wp2_with fail
        go_quiet (fail)
        go_wp2
        go_roundw
        case rel => exact ⟨k + 1, _, by omega, by go_num, rfl⟩
        case measure => simp [intOf]; omega
    · have : k = n + 3 := by omega
      subst this
      go_wp2
      go_ret
      exact ⟨rfl, _, rfl⟩
end Go.Proofs.YtpjlnpnadkbakaaGreat

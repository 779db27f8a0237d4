/-
  The document's example of package store, and a block that is torn: a contract over the program.
-/
import Derived.Test.YtfafonfphholmaaStCrash
import Derived.Test.YtfafonfphholmaaStBlocks
import Derived.Test.YtfafonfphholmaaBase
namespace Go.Proofs.Ytfafonfphholmaa
open Go.RowKit Go.Maps

section
variable {w w' : World} {B p : Nat} {s : St} {F F' : Nat → Prop}
theorem StoreIs.bel (h : StoreIs w B p s F) (hsc : SC w w' F F') : Below B w w' := by
  have h2 : B ≤ w.heap.size := by
    obtain ⟨m, L, h, hk, rfl, hlf⟩ := h
    exact Nat.le_trans h.gep (Nat.le_of_lt h.row.lt)
  exact hsc.below h2 (fun k hk => (h.foot_lt k hk).1)
/-- A new block is none of the store's. -/
theorem StoreIs.new (h : StoreIs w B p s F) {k : Nat} (hk : w.heap.size ≤ k) : ¬ F k := fun e => by have := (h.foot_lt k e).2; omega
end

/-- A literal of bytes, as it is read. -/
theorem lit_rd (w : World) (xs : List Int) (hl : xs.length ≤ maxLen) : Rd .u8 (w.alloc (.cells (bts xs) 5)) (some ⟨w.heap.size, 0, none⟩) xs := (Own.new w xs 5 hl).rd

theorem stEnd_is {w w' : World} {B p : Nat} {F : Nat → Prop} {r : St × Int} {s' : St} {a : Int} {e : Ending} (h : StEnd w B p F r e w') (hr : r = (s', a)) : ∃ F', e = .returned (.int .i64 a) ∧ StoreIs w' B p s' F' ∧ SC w w' F F' := by
  subst hr
  exact h

set_option maxRecDepth 10000 in
set_option maxHeartbeats 1000000 in
theorem wakesS_any (w : World) : Calls Try.prog 23 #[] w fun e w' => e = .returned (.bool true) ∧ Below w.heap.size w w' := by
  go_enter Try.func23, Try.ntmps23
  go_wp2_with fail
  refine (newst_any w w.heap.size (Nat.le_refl _)).mono ?_
  rintro e w1 hn
  obtain ⟨p, F, rfl, hs, hb, hf⟩ := newst_is hn
  have HS := Lib.hid hs
  have HB := Lib.hid hb
  clear hn hs hb hf
  go_wp2_with fail
  refine (blocks_any HS.out (by simp)).mono ?_
  rintro e w2 ⟨A, c, rfl, ho, hb2⟩
  have HS2 := Lib.hid (HS.out.later hb2)
  have HB2 := Lib.hid (HB.out.trans (hb2.mono HB.out.size))
  clear ho hb2 HS HB
  simp only [List.map_nil, List.length_nil]
  go_wp2_with fail
  have hal : Below w2.heap.size w2 (w2.alloc (.cells (bts [1, 2]) 5)) := (Below.refl _ _).alloc (Nat.le_refl _) _
  have HS3 := Lib.hid (HS2.out.later hal)
  have HB3 := Lib.hid (HB2.out.trans (hal.mono HB2.out.size))
  have ha := append_any HS3.out 3 (by omega) (some ⟨w2.heap.size, 0, none⟩) 2 2 [1, 2] rfl (lit_rd w2 [1, 2] (by simp [maxLen])) (fun a he => by cases he; exact HS2.out.new (Nat.le_refl _)) (by simp) (by omega) (fun k hk => by cases hk)
  have HA := Lib.hid ha
  clear ha hal HS2 HB2
  refine HA.out.mono ?_
  intro e w3 h3
  obtain ⟨F3, rfl, hs3, hsc3⟩ := stEnd_is h3 (s' := ⟨[⟨3, [1, 2], 0, false⟩], false, 0, false⟩) (a := 0) rfl
  have HS4 := Lib.hid hs3
  have HB4 := Lib.hid (HB3.out.trans (HS3.out.bel hsc3))
  clear h3 hs3 hsc3 HS3 HB3 HA
  go_wp2_with fail
  refine (sync_any HS4.out 3 (by omega)).mono ?_
  intro e w4 h4
  obtain ⟨F4, rfl, hs4, hsc4⟩ := stEnd_is h4 (s' := ⟨[⟨3, [1, 2], 2, true⟩], false, 0, false⟩) (a := 0) rfl
  have HS5 := Lib.hid hs4
  have HB5 := Lib.hid (HB4.out.trans (HS4.out.bel hsc4))
  clear h4 hs4 hsc4 HS4 HB4
  go_wp2_with fail
  have hal : Below w4.heap.size w4 (w4.alloc (.cells (bts [9]) 5)) := (Below.refl _ _).alloc (Nat.le_refl _) _
  have HS6 := Lib.hid (HS5.out.later hal)
  have HB6 := Lib.hid (HB5.out.trans (hal.mono HB5.out.size))
  have ha := append_any HS6.out 3 (by omega) (some ⟨w4.heap.size, 0, none⟩) 1 1 [9] rfl (lit_rd w4 [9] (by simp [maxLen])) (fun a he => by cases he; exact HS5.out.new (Nat.le_refl _)) (by simp) (by omega) (fun k hk => by simp at hk; subst hk; simp)
  have HA := Lib.hid ha
  clear ha hal HS5 HB5
  refine HA.out.mono ?_
  intro e w5 h5
  obtain ⟨F5, rfl, hs5, hsc5⟩ := stEnd_is h5 (s' := ⟨[⟨3, [1, 2, 9], 2, true⟩], false, 0, false⟩) (a := 0) rfl
  have HS7 := Lib.hid hs5
  have HB7 := Lib.hid (HB6.out.trans (HS6.out.bel hsc5))
  clear h5 hs5 hsc5 HS6 HB6 HA
  go_wp2_with fail
  refine (crash_any HS7.out 0).mono ?_
  rintro e w6 ⟨F6, rfl, hs6, hsc6⟩
  have HS8 := Lib.hid hs6
  have HB8 := Lib.hid (HB7.out.trans (HS7.out.bel hsc6))
  rw [show (⟨[⟨3, [1, 2, 9], 2, true⟩], false, 0, false⟩ : St).crash 0 = ⟨[⟨3, [1, 2], 2, true⟩], false, 0, false⟩ from rfl] at HS8
  clear hs6 hsc6 HS7 HB7
  go_wp2_with fail
  refine (read_some HS8.out ⟨3, [1, 2], 2, true⟩ (by simp)).mono ?_
  rintro e w7 ⟨A7, c7, rfl, ho7, hb7⟩
  have HO7 := Lib.hid ho7
  have HB9 := Lib.hid (HB8.out.trans (hb7.mono HB8.out.size))
  clear ho7 hb7 HS8 HB8
  go_wp2_with fail
  have hal : Below w7.heap.size w7 (w7.alloc (.cells (bts [1, 2]) 5)) := (Below.refl _ _).alloc (Nat.le_refl _) _
  refine (same_any [1, 2] [1, 2] A7 (some ⟨w7.heap.size, 0, none⟩) c7 2 (w7.alloc (.cells (bts [1, 2]) 5)) ((HO7.out.later hal).rd) (lit_rd w7 [1, 2] (by simp [maxLen])) (by simp [maxLen])).mono ?_
  rintro e w8 ⟨rfl, kq, rfl⟩
  have HB10 := Lib.hid (below_drewN' (HB9.out.trans (hal.mono HB9.out.size)) kq)
  clear hal
  rw [decide_eq_true rfl]
  go_wp2_with fail
  go_ret
  exact ⟨rfl, HB10.out⟩
end Go.Proofs.Ytfafonfphholmaa

/-
  What New of the developers' End answers where it may not be; Check of haulierref19: contracts over the program.
-/
import Derived.Test.YtpjlnpnadkbakaaGreatQBXEc
import Derived.Test.YtpjlnpnadkbakaaGreatQBPrEn17
namespace Go.Proofs.YtpjlnpnadkbakaaGreat
set_option maxRecDepth 10000
open Go.RowKit
theorem newee_bad (np buf win chk most first sched side : Int) (w : World) (hok : Cg.ok ⟨np, buf, win, chk, most, first, sched⟩ = false) :
    Calls Tryz.prog 31 #[.agg #[.int .i64 np, .int .i64 buf, .int .i64 win, .int .i64 chk, .int .i64 most, .int .i64 first, .int .i64 sched], .int .i64 side] w fun e w' => e = .returned (.tuple #[.pointer none, .int .i64 1]) ∧ Below w.heap.size w w' := by
  obtain ⟨w0, hw0⟩ : ∃ w0, w.alloc (.cells #[.int .i64 np, .int .i64 buf, .int .i64 win, .int .i64 chk, .int .i64 most, .int .i64 first, .int .i64 sched] 26) = w0 := ⟨_, rfl⟩
  have hr0 : w0.rangeAt w.heap.size 0 [.int .i64 np, .int .i64 buf, .int .i64 win, .int .i64 chk, .int .i64 most, .int .i64 first, .int .i64 sched] := by rw [← hw0]; exact alloc_rangeE w [.int .i64 np, .int .i64 buf, .int .i64 win, .int .i64 chk, .int .i64 most, .int .i64 first, .int .i64 sched] _
  have hb0 : Below w.heap.size w w0 := by rw [← hw0]; exact (Below.refl _ _).alloc (Nat.le_refl _) _
  have hck := echeck_any np buf win chk most first sched w0
  rw [hok] at hck
  have HCK := Lib.hid (show Calls Tryz.prog 40 #[.agg #[.int .i64 np, .int .i64 buf, .int .i64 win, .int .i64 chk, .int .i64 most, .int .i64 first, .int .i64 sched]] w0 fun e w' => e = .returned (.int .i64 1) ∧ Below w0.heap.size w0 w' from hck)
  have HQ := Lib.hid hb0
  have z0 : w0.cell? ⟨w.heap.size, 0, none⟩ = some (.int .i64 np) := hr0 0 _ rfl
  have z1 : w0.cell? ⟨w.heap.size, 0 + 1, none⟩ = some (.int .i64 buf) := hr0 1 _ rfl
  have z2 : w0.cell? ⟨w.heap.size, 0 + 2, none⟩ = some (.int .i64 win) := hr0 2 _ rfl
  have z3 : w0.cell? ⟨w.heap.size, 0 + 3, none⟩ = some (.int .i64 chk) := hr0 3 _ rfl
  have z4 : w0.cell? ⟨w.heap.size, 0 + 4, none⟩ = some (.int .i64 most) := hr0 4 _ rfl
  have z5 : w0.cell? ⟨w.heap.size, 0 + 5, none⟩ = some (.int .i64 first) := hr0 5 _ rfl
  have z6 : w0.cell? ⟨w.heap.size, 0 + 6, none⟩ = some (.int .i64 sched) := hr0 6 _ rfl
  clear hok hr0 hb0 hck
  go_enter Tryz.func31, Tryz.ntmps31
  go_wp2_with fail
  try rw [hw0]
  clear z0 z1 z2 z3 z4 z5 z6
  refine HCK.out.mono ?_
  rintro e w1 ⟨rfl, hb⟩
  have HF := Lib.hid (HQ.out.trans (hb.mono HQ.out.size))
  clear hb HCK HQ hw0
  go_wp2_with fail
  refine bodyPost_ret (v := .tuple #[.pointer none, .int .i64 1]) ?_ rfl ⟨rfl, HF.out⟩
  simp [results, Tryz.results31]
theorem newee_side (np buf win chk most first sched side : Int) (w : World) (hok : Cg.ok ⟨np, buf, win, chk, most, first, sched⟩ = true) (h0 : side ≠ 0) (h1 : side ≠ 1) :
    Calls Tryz.prog 31 #[.agg #[.int .i64 np, .int .i64 buf, .int .i64 win, .int .i64 chk, .int .i64 most, .int .i64 first, .int .i64 sched], .int .i64 side] w fun e w' => e = .returned (.tuple #[.pointer none, .int .i64 1]) ∧ Below w.heap.size w w' := by
  obtain ⟨w0, hw0⟩ : ∃ w0, w.alloc (.cells #[.int .i64 np, .int .i64 buf, .int .i64 win, .int .i64 chk, .int .i64 most, .int .i64 first, .int .i64 sched] 26) = w0 := ⟨_, rfl⟩
  have hr0 : w0.rangeAt w.heap.size 0 [.int .i64 np, .int .i64 buf, .int .i64 win, .int .i64 chk, .int .i64 most, .int .i64 first, .int .i64 sched] := by rw [← hw0]; exact alloc_rangeE w [.int .i64 np, .int .i64 buf, .int .i64 win, .int .i64 chk, .int .i64 most, .int .i64 first, .int .i64 sched] _
  have hb0 : Below w.heap.size w w0 := by rw [← hw0]; exact (Below.refl _ _).alloc (Nat.le_refl _) _
  have hck := echeck_any np buf win chk most first sched w0
  rw [hok] at hck
  have HCK := Lib.hid (show Calls Tryz.prog 40 #[.agg #[.int .i64 np, .int .i64 buf, .int .i64 win, .int .i64 chk, .int .i64 most, .int .i64 first, .int .i64 sched]] w0 fun e w' => e = .returned (.int .i64 0) ∧ Below w0.heap.size w0 w' from hck)
  have HQ := Lib.hid hb0
  have z0 : w0.cell? ⟨w.heap.size, 0, none⟩ = some (.int .i64 np) := hr0 0 _ rfl
  have z1 : w0.cell? ⟨w.heap.size, 0 + 1, none⟩ = some (.int .i64 buf) := hr0 1 _ rfl
  have z2 : w0.cell? ⟨w.heap.size, 0 + 2, none⟩ = some (.int .i64 win) := hr0 2 _ rfl
  have z3 : w0.cell? ⟨w.heap.size, 0 + 3, none⟩ = some (.int .i64 chk) := hr0 3 _ rfl
  have z4 : w0.cell? ⟨w.heap.size, 0 + 4, none⟩ = some (.int .i64 most) := hr0 4 _ rfl
  have z5 : w0.cell? ⟨w.heap.size, 0 + 5, none⟩ = some (.int .i64 first) := hr0 5 _ rfl
  have z6 : w0.cell? ⟨w.heap.size, 0 + 6, none⟩ = some (.int .i64 sched) := hr0 6 _ rfl
  have s0 : (side != 0) = true := by simp [h0]
  have s1 : (side != 1) = true := by simp [h1]
  clear hok hr0 hb0 hck h0 h1
  go_enter Tryz.func31, Tryz.ntmps31
  go_wp2_with fail
  try rw [hw0]
  clear z0 z1 z2 z3 z4 z5 z6
  refine HCK.out.mono ?_
  rintro e w1 ⟨rfl, hb⟩
  have HF := Lib.hid (HQ.out.trans (hb.mono HQ.out.size))
  clear hb HCK HQ hw0
  go_wp2_with fail
  refine bodyPost_ret (v := .tuple #[.pointer none, .int .i64 1]) ?_ rfl ⟨rfl, HF.out⟩
  simp [results, Tryz.results31]
theorem hwithin_any (n m : Int) (w : World) : Calls Tryz.prog 100 #[.int .i64 n, .int .i64 m] w fun e w' => e = .returned (.bool (inR n m)) ∧ w = w' := by
  by_cases h1 : 1 ≤ n
  · have h1' : decide (1 ≤ n) = true := decide_eq_true h1
    by_cases h2 : n ≤ m
    · have h2' : decide (n ≤ m) = true := decide_eq_true h2
      have hr : inR n m = true := by unfold inR; rw [h1', h2']; rfl
      rw [hr]
      clear hr
      go_enter Tryz.func100, Tryz.ntmps100
      go_wp2
      go_ret
      exact ⟨rfl, rfl⟩
    · have h2' : decide (n ≤ m) = false := decide_eq_false h2
      have hr : inR n m = false := by unfold inR; rw [h1', h2']; rfl
      rw [hr]
      clear hr
      go_enter Tryz.func100, Tryz.ntmps100
      go_wp2
      go_ret
      exact ⟨rfl, rfl⟩
  · have h1' : decide (1 ≤ n) = false := decide_eq_false h1
    have hr : inR n m = false := by unfold inR; rw [h1']; rfl
    rw [hr]
    clear hr
    go_enter Tryz.func100, Tryz.ntmps100
    go_wp2
    go_ret
    exact ⟨by simp, rfl⟩
set_option maxHeartbeats 4000000 in
theorem rcheck_any (np buf win chk most first sched : Int) (w : World) : Calls Tryz.prog 39 #[.agg #[.int .i64 np, .int .i64 buf, .int .i64 win, .int .i64 chk, .int .i64 most, .int .i64 first, .int .i64 sched]] w fun e w' => e = .returned (.bool (Cg.ok ⟨np, buf, win, chk, most, first, sched⟩)) ∧ Below w.heap.size w w' := by
  have hC : Cg.ok ⟨np, buf, win, chk, most, first, sched⟩ = (inR np 3 && inR buf 400 && inR win 400 && inR chk 64 && inR most 16 && inR first 64 && inR sched 3) := rfl
  rw [hC]
  have HB := Lib.hid (show Below w.heap.size w (w.alloc (.cells #[.int .i64 np, .int .i64 buf, .int .i64 win, .int .i64 chk, .int .i64 most, .int .i64 first, .int .i64 sched] 26)) from (Below.refl _ _).alloc (Nat.le_refl _) _)
  have HW := Lib.hid (fun (n m : Int) (W : World) => hwithin_any n m W)
  cases h0 : inR np 3
  · clear hC
    go_enter Tryz.func39, Tryz.ntmps39
    go_wp2_with (go_at_call 100; refine (HW.out _ _ _).mono ?_; rintro e w' ⟨rfl, rfl⟩)
    go_ret
    exact ⟨by first | rfl | simp [*], HB.out⟩
  · cases h1 : inR buf 400
    · clear hC
      go_enter Tryz.func39, Tryz.ntmps39
      go_wp2_with (go_at_call 100; refine (HW.out _ _ _).mono ?_; rintro e w' ⟨rfl, rfl⟩)
      go_ret
      exact ⟨by first | rfl | simp [*], HB.out⟩
    · cases h2 : inR win 400
      · clear hC
        go_enter Tryz.func39, Tryz.ntmps39
        go_wp2_with (go_at_call 100; refine (HW.out _ _ _).mono ?_; rintro e w' ⟨rfl, rfl⟩)
        go_ret
        exact ⟨by first | rfl | simp [*], HB.out⟩
      · cases h3 : inR chk 64
        · clear hC
          go_enter Tryz.func39, Tryz.ntmps39
          go_wp2_with (go_at_call 100; refine (HW.out _ _ _).mono ?_; rintro e w' ⟨rfl, rfl⟩)
          go_ret
          exact ⟨by first | rfl | simp [*], HB.out⟩
        · cases h4 : inR most 16
          · clear hC
            go_enter Tryz.func39, Tryz.ntmps39
            go_wp2_with (go_at_call 100; refine (HW.out _ _ _).mono ?_; rintro e w' ⟨rfl, rfl⟩)
            go_ret
            exact ⟨by first | rfl | simp [*], HB.out⟩
          · cases h5 : inR first 64
            · clear hC
              go_enter Tryz.func39, Tryz.ntmps39
              go_wp2_with (go_at_call 100; refine (HW.out _ _ _).mono ?_; rintro e w' ⟨rfl, rfl⟩)
              go_ret
              exact ⟨by first | rfl | simp [*], HB.out⟩
            · cases h6 : inR sched 3
              · clear hC
                go_enter Tryz.func39, Tryz.ntmps39
                go_wp2_with (go_at_call 100; refine (HW.out _ _ _).mono ?_; rintro e w' ⟨rfl, rfl⟩)
                go_ret
                exact ⟨by first | rfl | simp [*], HB.out⟩
              · clear hC
                go_enter Tryz.func39, Tryz.ntmps39
                go_wp2_with (go_at_call 100; refine (HW.out _ _ _).mono ?_; rintro e w' ⟨rfl, rfl⟩)
                go_ret
                exact ⟨by first | rfl | simp [*], HB.out⟩
end Go.Proofs.YtpjlnpnadkbakaaGreat

/-
  PrLaw · PrCheck · Within · ArgSetup.
-/
import Derived.Test.YtpjlnpnadkbakaaGreatQEcPrEn17
import Derived.Lib.SlBytesConst
import Derived.Test.YtpjlnpnadkbakaaGreatRows
import Derived.Test.YtpjlnpnadkbakaaGreatQEcSchedMath
import Derived.Test.YtpjlnpnadkbakaaGreatQEcClamp
import Derived.WalkLawsBesides
import Derived.Deep.Slices
import Derived.ChangeSame
import Derived.ChangeArms
import Derived.OpenShut
import Derived.ChangeOld
import Derived.BigQuiet
import Derived.Lib.Hide
namespace Go.Proofs.YtpjlnpnadkbakaaGreat
set_option maxRecDepth 10000
open Go.RowKit

theorem Rd.newF (w : World) (xs : List Int) (t : TypeId) (fr : Nat × Nat) : Rd .u8 (w.alloc (.cells (bts xs) t fr)) (some ⟨w.heap.size, 0, none⟩) xs := by
  refine .inr ⟨_, _, rfl, fun i hi => ?_⟩
  rw [Nat.zero_add, World.cell?_alloc_mark]
  simp [bts, List.getD, hi]
theorem plain_any (w : World) : Calls Tryz.prog 17 #[] w fun e w' => e = .returned (.agg #[.int .i64 ((2 : Nat) : Int), .int .i64 60, .int .i64 50, .int .i64 10, .int .i64 4, .int .i64 3, .int .i64 1]) ∧ Below w.heap.size w w' := by
  go_enter Tryz.func17, Tryz.ntmps17
  go_wp2_with fail
  refine bodyPost_ret (v := .agg #[.int .i64 ((2 : Nat) : Int), .int .i64 60, .int .i64 50, .int .i64 10, .int .i64 4, .int .i64 3, .int .i64 1]) ?_ rfl ⟨rfl, (Below.refl _ _).alloc (Nat.le_refl _) _⟩
  simp [results, Tryz.results17, go_sem]
section
variable {w0 w w' : World} {L L' : Lab} {K b n : Nat} {E : En}
theorem EV.relab0 (h : EV w0 w L K b E n) : ¬ Es K 0 := by have := h.k0; unfold Es; omega
/-- A Write of what was just laid. -/
theorem EV.writeLit (h : EV w0 w L K b E n) (hn : n ≤ 40000) {cs : Array Value} {m q : Nat} {fr : Nat × Nat} {ys : List Int} (hcs : cs = bts ys) (hq : w.heap.size = q) (hm : ys.length = m) (hmm : m ≤ 1048576) (hyb : ∀ x ∈ ys, 0 ≤ x ∧ x < 256) {r : Nat} (hk : E.takes ys = r) :
    Calls Tryz.prog 18 #[.pointer (some ⟨b, 0, none⟩), .slice (some ⟨q, 0, none⟩) m m] (w.alloc (.cells cs 5 fr)) (EvA w0 w L K b (E.write ys) (n + 1) (.int .i64 (r : Int))) := by
  subst hcs; subst hq
  have hb := (Below.refl w.heap.size w).alloc (Nat.le_refl _) (.cells (bts ys) 5 fr)
  refine ((h.later hb).write hn (some ⟨w.heap.size, 0, none⟩) m m ys hm (Rd.newF w ys _ fr) (Nat.le_refl _) (by omega) (fun e => by cases e) hyb (fun a ha => ?_) hk).mono ?_
  · injection ha with ha
    subst ha
    rw [relab_new (Nat.le_refl _)]
    exact h.relab0
  · rintro e w' ⟨rfl, L', h1, h2⟩
    exact ⟨rfl, L', h1, (Tn.of_below hb L 0 (Es K)).trans h2⟩
end
/-- What is read of a row of packets. -/
theorem PkLs.look {w : World} {L : Lab} {i : Nat} {A : Option Addr} {n c : Nat} {ps : List Pkt} (h : PkLs w L i (.slice A n c) ps) (hn : ps.length = n) (h0 : 0 < n) :
    ∃ g, A = some ⟨g, 0, none⟩ ∧ g < w.heap.size ∧ L g = i ∧ ∀ j, j < n → ∃ B d, w.rangeAt g (j * 9) ((ps.getD j Pkt.zero).cs B d) ∧ PktAt w (ps.getD j Pkt.zero) B d ∧ PkB (ps.getD j Pkt.zero) ∧ OfV L 0 (.slice B (ps.getD j Pkt.zero).da.length d) := by
  obtain ⟨ms, rfl, h⟩ := h
  rw [List.length_map] at hn
  subst hn
  rcases h.row.2 with ⟨_, h1⟩ | ⟨g, cap, cur, hv, _⟩
  · omega
  · injection hv with hA _ hc
    subst hA; subst hc
    have hgb : (Value.slice (some ⟨g, 0, none⟩) ms.length c).ownBlock = some g := rfl
    refine ⟨g, rfl, (World.ownsRow.lt h.row g hgb).2, h.lab g hgb, fun j hj => ?_⟩
    have hm : ms.getD j default ∈ ms := by simp [List.getD, hj]
    have hq : (ms.map PkM.p).getD j Pkt.zero = (ms.getD j default).p := by simp [List.getD, hj]
    have hmm := h.each _ hm
    rw [hq]
    refine ⟨(ms.getD j default).A, (ms.getD j default).c, fun k u hu => ?_, hmm.at, hmm.bd, hmm.by_.lab⟩
    have hk : k < 9 := by
      have := (List.getElem?_eq_some_iff.1 hu).1
      rwa [show ((ms.getD j default).p.cs (ms.getD j default).A (ms.getD j default).c).length = 9 from rfl] at this
    rw [World.ownsRow.cellAt h.row (j * 9 + k) (by have : (j + 1) * 9 ≤ ms.length * 9 := Nat.mul_le_mul_right 9 hj; omega), pks_get ms j hj k hk]
    exact hu
theorem ev_wakes : En.takes (En.new ⟨((2 : Nat) : Int), 60, 50, 10, 4, 3, 1⟩ 0) [104, 101, 108, 108, 111] = 5 ∧ En.mayU ((En.new ⟨((2 : Nat) : Int), 60, 50, 10, 4, 3, 1⟩ 0).write [104, 101, 108, 108, 111]) 1 = true ∧
    (((En.new ⟨((2 : Nat) : Int), 60, 50, 10, 4, 3, 1⟩ 0).write [104, 101, 108, 108, 111]).up 1).out = [⟨1, 1, 0, 0, 0, [], false, 0, 0⟩] ∧
    (((En.new ⟨((2 : Nat) : Int), 60, 50, 10, 4, 3, 1⟩ 0).write [104, 101, 108, 108, 111]).up 1).taken.ev.length = 3 ∧
    (((En.new ⟨((2 : Nat) : Int), 60, 50, 10, 4, 3, 1⟩ 0).write [104, 101, 108, 108, 111]).up 1).taken.done = false := by
  refine ⟨?_, ?_, ?_, ?_, ?_⟩ <;> kernel_rfl

set_option maxHeartbeats 2000000 in
theorem wakes19_any (w : World) : Calls Tryz.prog 26 #[] w fun e w' => e = .returned (.bool true) ∧ Below w.heap.size w w' := by
  obtain ⟨r1, r2, r3, r4, r5⟩ := ev_wakes
  have kc := fun (w : World) (C : Array Value) (n c : Nat) => Lib.run_convert_bytes_const (P := Tryz.prog) w 29 5 C n c Tryz.underlying29 Tryz.underlying5
  go_enter Tryz.func26, Tryz.ntmps26
  go_wp2_with fail
  refine (plain_any _).mono ?_
  rintro e w1 ⟨rfl, hb⟩
  have HB1 := Lib.hid hb
  clear hb
  go_wp2_with fail
  refine (ev_new (w0 := w) w1 1 2 (by omega) 60 50 10 4 3 1 0 HB1.out rfl (.inl rfl) (fun _ => 0) (fun k _ => by unfold Es; omega)).mono ?_
  rintro e w2 ⟨b, L2, rfl, hx, -⟩
  have HX := Lib.hid hx
  clear hx HB1
  go_wp2_with fail
  refine (HX.out.events (by omega) (es := []) (m := 0) rfl rfl).mono ?_
  rintro e w3 ⟨ms, A3, c3, L3, rfl, -, -, hx, -⟩
  have HY := Lib.hid hx
  clear hx HX
  go_wp2_with fail
  refine (HY.out.writeLit (by omega) (m := 5) (ys := [104, 101, 108, 108, 111]) rfl rfl rfl (by omega) (by decide) r1).mono ?_
  rintro e w4 ⟨rfl, L4, hx, -⟩
  have HX := Lib.hid hx
  clear hx HY
  go_wp2_with fail
  refine (HX.out.up (by omega) 1 r2).mono ?_
  rintro e w5 ⟨rfl, L5, hx, -⟩
  have HY := Lib.hid hx
  clear hx HX
  go_wp2_with fail
  refine (HY.out.take (by omega) (m := 1) r3 rfl).mono ?_
  rintro e w6 ⟨A6, c6, L6, rfl, hls, hx, ht⟩
  obtain ⟨g, rfl, hg, hLg, hat⟩ := hls.look rfl (by omega)
  obtain ⟨B, d, hr, -, -, -⟩ := hat 0 (by omega)
  have z0 : w6.cell? ⟨g, 0, none⟩ = some (.int .i64 1) := hr 0 _ rfl
  have z1 : w6.cell? ⟨g, 0 + 1, none⟩ = some (.int .i64 1) := hr 1 _ rfl
  have HX := Lib.hid hx
  clear hx HY hls ht hat hr hLg hg
  go_wp2_with fail
  refine (HX.out.events (by omega) (m := 3) rfl r4).mono ?_
  rintro e w7 ⟨ms7, A7, c7, L7, rfl, -, -, hx, -⟩
  have HY := Lib.hid hx
  clear hx HX z0 z1
  go_wp2_with fail
  refine (HY.out.done r5).mono ?_
  rintro e w8 ⟨rfl, L8, hx, -⟩
  have HFIN := Lib.hid hx.bel
  clear hx HY r1 r2 r3 r4 r5 kc
  go_wp2
  go_ret
  exact ⟨rfl, HFIN.out⟩
end Go.Proofs.YtpjlnpnadkbakaaGreat
namespace Go.Proofs.YtpjlnpnadkbakaaGreat
set_option maxRecDepth 10000
open Go.RowKit

theorem newee_bad (np buf win chk most first sched side : Int) (w : World) (hok : Cg.ok ⟨np, buf, win, chk, most, first, sched⟩ = false) :
    Calls Tryz.prog 31 #[.agg #[.int .i64 np, .int .i64 buf, .int .i64 win, .int .i64 chk, .int .i64 most, .int .i64 first, .int .i64 sched], .int .i64 side] w fun e w' => e = .returned (.tuple #[.pointer none, .int .i64 1]) ∧ Below w.heap.size w w' := by
  obtain ⟨w0, hw0⟩ : ∃ w0, w.alloc (.cells #[.int .i64 np, .int .i64 buf, .int .i64 win, .int .i64 chk, .int .i64 most, .int .i64 first, .int .i64 sched] 26) = w0 := ⟨_, rfl⟩
  have hr0 : w0.rangeAt w.heap.size 0 [.int .i64 np, .int .i64 buf, .int .i64 win, .int .i64 chk, .int .i64 most, .int .i64 first, .int .i64 sched] := by rw [← hw0]; exact alloc_rangeE w [.int .i64 np, .int .i64 buf, .int .i64 win, .int .i64 chk, .int .i64 most, .int .i64 first, .int .i64 sched] _
  have hb0 : Below w.heap.size w w0 := by rw [← hw0]; exact (Below.refl _ _).alloc (Nat.le_refl _) _
  have hck := echeck_any np buf win chk most first sched w0
  rw [hok] at hck
  have HCK := Lib.hid (show Calls Tryz.prog 40 #[.agg #[.int .i64 np, .int .i64 buf, .int .i64 win, .int .i64 chk, .int .i64 most, .int .i64 first, .int .i64 sched]] w0 fun e w' => e = .returned (.int .i64 1) ∧ Below w0.heap.size w0 w' from hck)
  have HQ := Lib.hid hb0
  have z0 : w0.cell? ⟨w.heap.size, 0, none⟩ = some (.int .i64 np) := hr0 0 _ rfl
  have z1 : w0.cell? ⟨w.heap.size, 0 + 1, none⟩ = some (.int .i64 buf) := hr0 1 _ rfl
  have z2 : w0.cell? ⟨w.heap.size, 0 + 2, none⟩ = some (.int .i64 win) := hr0 2 _ rfl
  have z3 : w0.cell? ⟨w.heap.size, 0 + 3, none⟩ = some (.int .i64 chk) := hr0 3 _ rfl
  have z4 : w0.cell? ⟨w.heap.size, 0 + 4, none⟩ = some (.int .i64 most) := hr0 4 _ rfl
  have z5 : w0.cell? ⟨w.heap.size, 0 + 5, none⟩ = some (.int .i64 first) := hr0 5 _ rfl
  have z6 : w0.cell? ⟨w.heap.size, 0 + 6, none⟩ = some (.int .i64 sched) := hr0 6 _ rfl
  clear hok hr0 hb0 hck
  go_enter Tryz.func31, Tryz.ntmps31
  go_wp2_with fail
  try rw [hw0]
  clear z0 z1 z2 z3 z4 z5 z6
  refine HCK.out.mono ?_
  rintro e w1 ⟨rfl, hb⟩
  have HF := Lib.hid (HQ.out.trans (hb.mono HQ.out.size))
  clear hb HCK HQ hw0
  go_wp2_with fail
  refine bodyPost_ret (v := .tuple #[.pointer none, .int .i64 1]) ?_ rfl ⟨rfl, HF.out⟩
  simp [results, Tryz.results31]
theorem newee_side (np buf win chk most first sched side : Int) (w : World) (hok : Cg.ok ⟨np, buf, win, chk, most, first, sched⟩ = true) (h0 : side ≠ 0) (h1 : side ≠ 1) :
    Calls Tryz.prog 31 #[.agg #[.int .i64 np, .int .i64 buf, .int .i64 win, .int .i64 chk, .int .i64 most, .int .i64 first, .int .i64 sched], .int .i64 side] w fun e w' => e = .returned (.tuple #[.pointer none, .int .i64 1]) ∧ Below w.heap.size w w' := by
  obtain ⟨w0, hw0⟩ : ∃ w0, w.alloc (.cells #[.int .i64 np, .int .i64 buf, .int .i64 win, .int .i64 chk, .int .i64 most, .int .i64 first, .int .i64 sched] 26) = w0 := ⟨_, rfl⟩
  have hr0 : w0.rangeAt w.heap.size 0 [.int .i64 np, .int .i64 buf, .int .i64 win, .int .i64 chk, .int .i64 most, .int .i64 first, .int .i64 sched] := by rw [← hw0]; exact alloc_rangeE w [.int .i64 np, .int .i64 buf, .int .i64 win, .int .i64 chk, .int .i64 most, .int .i64 first, .int .i64 sched] _
  have hb0 : Below w.heap.size w w0 := by rw [← hw0]; exact (Below.refl _ _).alloc (Nat.le_refl _) _
  have hck := echeck_any np buf win chk most first sched w0
  rw [hok] at hck
  have HCK := Lib.hid (show Calls Tryz.prog 40 #[.agg #[.int .i64 np, .int .i64 buf, .int .i64 win, .int .i64 chk, .int .i64 most, .int .i64 first, .int .i64 sched]] w0 fun e w' => e = .returned (.int .i64 0) ∧ Below w0.heap.size w0 w' from hck)
  have HQ := Lib.hid hb0
  have z0 : w0.cell? ⟨w.heap.size, 0, none⟩ = some (.int .i64 np) := hr0 0 _ rfl
  have z1 : w0.cell? ⟨w.heap.size, 0 + 1, none⟩ = some (.int .i64 buf) := hr0 1 _ rfl
  have z2 : w0.cell? ⟨w.heap.size, 0 + 2, none⟩ = some (.int .i64 win) := hr0 2 _ rfl
  have z3 : w0.cell? ⟨w.heap.size, 0 + 3, none⟩ = some (.int .i64 chk) := hr0 3 _ rfl
  have z4 : w0.cell? ⟨w.heap.size, 0 + 4, none⟩ = some (.int .i64 most) := hr0 4 _ rfl
  have z5 : w0.cell? ⟨w.heap.size, 0 + 5, none⟩ = some (.int .i64 first) := hr0 5 _ rfl
  have z6 : w0.cell? ⟨w.heap.size, 0 + 6, none⟩ = some (.int .i64 sched) := hr0 6 _ rfl
  have s0 : (side != 0) = true := by simp [h0]
  have s1 : (side != 1) = true := by simp [h1]
  clear hok hr0 hb0 hck h0 h1
  go_enter Tryz.func31, Tryz.ntmps31
  go_wp2_with fail
  try rw [hw0]
  clear z0 z1 z2 z3 z4 z5 z6
  refine HCK.out.mono ?_
  rintro e w1 ⟨rfl, hb⟩
  have HF := Lib.hid (HQ.out.trans (hb.mono HQ.out.size))
  clear hb HCK HQ hw0
  go_wp2_with fail
  refine bodyPost_ret (v := .tuple #[.pointer none, .int .i64 1]) ?_ rfl ⟨rfl, HF.out⟩
  simp [results, Tryz.results31]
theorem hwithin_any (n m : Int) (w : World) : Calls Tryz.prog 100 #[.int .i64 n, .int .i64 m] w fun e w' => e = .returned (.bool (inR n m)) ∧ w = w' := by
  by_cases h1 : 1 ≤ n
  · have h1' : decide (1 ≤ n) = true := decide_eq_true h1
    by_cases h2 : n ≤ m
    · have h2' : decide (n ≤ m) = true := decide_eq_true h2
      have hr : inR n m = true := by unfold inR; rw [h1', h2']; rfl
      rw [hr]
      clear hr
      go_enter Tryz.func100, Tryz.ntmps100
      go_wp2
      go_ret
      exact ⟨rfl, rfl⟩
    · have h2' : decide (n ≤ m) = false := decide_eq_false h2
      have hr : inR n m = false := by unfold inR; rw [h1', h2']; rfl
      rw [hr]
      clear hr
      go_enter Tryz.func100, Tryz.ntmps100
      go_wp2
      go_ret
      exact ⟨rfl, rfl⟩
  · have h1' : decide (1 ≤ n) = false := decide_eq_false h1
    have hr : inR n m = false := by unfold inR; rw [h1']; rfl
    rw [hr]
    clear hr
    go_enter Tryz.func100, Tryz.ntmps100
    go_wp2
    go_ret
    exact ⟨by simp, rfl⟩
set_option maxHeartbeats 4000000 in
theorem rcheck_any (np buf win chk most first sched : Int) (w : World) : Calls Tryz.prog 39 #[.agg #[.int .i64 np, .int .i64 buf, .int .i64 win, .int .i64 chk, .int .i64 most, .int .i64 first, .int .i64 sched]] w fun e w' => e = .returned (.bool (Cg.ok ⟨np, buf, win, chk, most, first, sched⟩)) ∧ Below w.heap.size w w' := by
  have hC : Cg.ok ⟨np, buf, win, chk, most, first, sched⟩ = (inR np 3 && inR buf 400 && inR win 400 && inR chk 64 && inR most 16 && inR first 64 && inR sched 3) := rfl
  rw [hC]
  have HB := Lib.hid (show Below w.heap.size w (w.alloc (.cells #[.int .i64 np, .int .i64 buf, .int .i64 win, .int .i64 chk, .int .i64 most, .int .i64 first, .int .i64 sched] 26)) from (Below.refl _ _).alloc (Nat.le_refl _) _)
  have HW := Lib.hid (fun (n m : Int) (W : World) => hwithin_any n m W)
  cases h0 : inR np 3
  · clear hC
    go_enter Tryz.func39, Tryz.ntmps39
    go_wp2_with (go_at_call 100; refine (HW.out _ _ _).mono ?_; rintro e w' ⟨rfl, rfl⟩)
    go_ret
    exact ⟨by first | rfl | simp [*], HB.out⟩
  · cases h1 : inR buf 400
    · clear hC
      go_enter Tryz.func39, Tryz.ntmps39
      go_wp2_with (go_at_call 100; refine (HW.out _ _ _).mono ?_; rintro e w' ⟨rfl, rfl⟩)
      go_ret
      exact ⟨by first | rfl | simp [*], HB.out⟩
    · cases h2 : inR win 400
      · clear hC
        go_enter Tryz.func39, Tryz.ntmps39
        go_wp2_with (go_at_call 100; refine (HW.out _ _ _).mono ?_; rintro e w' ⟨rfl, rfl⟩)
        go_ret
        exact ⟨by first | rfl | simp [*], HB.out⟩
      · cases h3 : inR chk 64
        · clear hC
          go_enter Tryz.func39, Tryz.ntmps39
          go_wp2_with (go_at_call 100; refine (HW.out _ _ _).mono ?_; rintro e w' ⟨rfl, rfl⟩)
          go_ret
          exact ⟨by first | rfl | simp [*], HB.out⟩
        · cases h4 : inR most 16
          · clear hC
            go_enter Tryz.func39, Tryz.ntmps39
            go_wp2_with (go_at_call 100; refine (HW.out _ _ _).mono ?_; rintro e w' ⟨rfl, rfl⟩)
            go_ret
            exact ⟨by first | rfl | simp [*], HB.out⟩
          · cases h5 : inR first 64
            · clear hC
              go_enter Tryz.func39, Tryz.ntmps39
              go_wp2_with (go_at_call 100; refine (HW.out _ _ _).mono ?_; rintro e w' ⟨rfl, rfl⟩)
              go_ret
              exact ⟨by first | rfl | simp [*], HB.out⟩
            · cases h6 : inR sched 3
              · clear hC
                go_enter Tryz.func39, Tryz.ntmps39
                go_wp2_with (go_at_call 100; refine (HW.out _ _ _).mono ?_; rintro e w' ⟨rfl, rfl⟩)
                go_ret
                exact ⟨by first | rfl | simp [*], HB.out⟩
              · clear hC
                go_enter Tryz.func39, Tryz.ntmps39
                go_wp2_with (go_at_call 100; refine (HW.out _ _ _).mono ?_; rintro e w' ⟨rfl, rfl⟩)
                go_ret
                exact ⟨by first | rfl | simp [*], HB.out⟩

end Go.Proofs.YtpjlnpnadkbakaaGreat
namespace Go.Proofs.YtpjlnpnadkbakaaGreat
set_option maxRecDepth 10000
open Go.RowKit

set_option maxHeartbeats 400000 in
theorem within_any (v n : Int) (w : World) (h1 : 1 ≤ n) (h2 : n ≤ 4611686018427387904) :
    Calls Tryz.prog 25 #[.int .i64 v, .int .i64 n] w fun e w' => e = .returned (.int .i64 (v % n)) ∧ w = w' := by
  by_cases h : v.tmod n < 0
  · go_enter Tryz.func25, Tryz.ntmps25
    go_wp2
    go_ret
    exact ⟨ret_i (within_lt h1 h2 h), rfl⟩
  · go_enter Tryz.func25, Tryz.ntmps25
    go_wp2
    go_ret
    exact ⟨ret_i (within_ge h1 (by omega)), rfl⟩
end Go.Proofs.YtpjlnpnadkbakaaGreat
namespace Go.Proofs.YtpjlnpnadkbakaaGreat
set_option maxRecDepth 10000
open Go.ChangeShapes Go.WideShapes Go.ChangeAt Go.RowKit

/-- A setup that came in. -/
structure Su where
  pa : Int
  bu : Int
  wi : Int
  ch : Int
  mo : Int
  fi : Int
  sc : Int
def Su.cs (s : Su) : List Value := [.int .i64 s.pa, .int .i64 s.bu, .int .i64 s.wi, .int .i64 s.ch, .int .i64 s.mo, .int .i64 s.fi, .int .i64 s.sc]
def Su.val (s : Su) : Value := .agg #[.int .i64 s.pa, .int .i64 s.bu, .int .i64 s.wi, .int .i64 s.ch, .int .i64 s.mo, .int .i64 s.fi, .int .i64 s.sc]

section
variable {H : Type} {enc : TypeId × Value → H} {w : World} {held : Bool}
theorem openSu_i {fuel : Nat} {v : Value} {x : DataW H × List MemPlace} (h : DataW.trod enc Tryz.prog w 0 (fun _ => true) held fuel 3 [v] = some x) : ∃ n, v = .int .i64 n := by
  obtain ⟨n, h0, _, _⟩ := DataW.trod_int Tryz.underlying3 h
  simp only [List.cons.injEq, and_true] at h0
  exact ⟨n, h0⟩
theorem open_setup {fuel : Nat} {cs : List Value} {x : DataW H × List MemPlace} (hl : cs.length = 7) (h : DataW.trod enc Tryz.prog w 0 (fun _ => true) held fuel 53 cs = some x) :
    ∃ s : Su, cs = s.cs := by
  obtain ⟨xs, k, hk, hxy, _, hxl, hf⟩ := DataW.trod_struct Tryz.underlying53 h
  have hxl9 : xs.length = 7 := hxl
  have some_ : ∀ i, i < 7 → ∃ z, xs[i]? = some z := fun i hi => ⟨_, List.getElem?_eq_getElem (by omega)⟩
  have ci : Tryz.prog.cellsOf 3 = 1 := by kernel_rfl
  match cs, hl with
  | [v0, v1, v2, v3, v4, v5, v6], _ =>
    have g0 := hf 0 _ rfl
    have g1 := hf 1 _ rfl
    have g2 := hf 2 _ rfl
    have g3 := hf 3 _ rfl
    have g4 := hf 4 _ rfl
    have g5 := hf 5 _ rfl
    have g6 := hf 6 _ rfl
    simp [ci] at g0 g1 g2 g3 g4 g5 g6
    obtain ⟨z0, e0⟩ := some_ 0 (by omega)
    obtain ⟨z1, e1⟩ := some_ 1 (by omega)
    obtain ⟨z2, e2⟩ := some_ 2 (by omega)
    obtain ⟨z3, e3⟩ := some_ 3 (by omega)
    obtain ⟨z4, e4⟩ := some_ 4 (by omega)
    obtain ⟨z5, e5⟩ := some_ 5 (by omega)
    obtain ⟨z6, e6⟩ := some_ 6 (by omega)
    obtain ⟨n0, rfl⟩ := openSu_i (g0.trans e0)
    obtain ⟨n1, rfl⟩ := openSu_i (g1.trans e1)
    obtain ⟨n2, rfl⟩ := openSu_i (g2.trans e2)
    obtain ⟨n3, rfl⟩ := openSu_i (g3.trans e3)
    obtain ⟨n4, rfl⟩ := openSu_i (g4.trans e4)
    obtain ⟨n5, rfl⟩ := openSu_i (g5.trans e5)
    obtain ⟨n6, rfl⟩ := openSu_i (g6.trans e6)
    exact ⟨⟨n0, n1, n2, n3, n4, n5, n6⟩, rfl⟩
end

/-- The configuration of a setup. -/
structure Cf where
  pa : Int
  bu : Int
  wi : Int
  ch : Int
  mo : Int
  fi : Int
  sc : Int
def Cf.val (s : Cf) : Value := .agg #[.int .i64 s.pa, .int .i64 s.bu, .int .i64 s.wi, .int .i64 s.ch, .int .i64 s.mo, .int .i64 s.fi, .int .i64 s.sc]
def Su.cf (s : Su) : Cf := ⟨1 + s.pa % 3, 1 + s.bu % 60, 1 + s.wi % 50, 1 + s.ch % 20, 1 + s.mo % 6, 1 + s.fi % 8, 1 + s.sc % 3⟩
/-- What holds of a configuration of a setup. -/
structure Cf.ok (c : Cf) : Prop where
  pa : 1 ≤ c.pa ∧ c.pa ≤ 3
  bu : 1 ≤ c.bu ∧ c.bu ≤ 60
  wi : 1 ≤ c.wi ∧ c.wi ≤ 50
  ch : 1 ≤ c.ch ∧ c.ch ≤ 20
  mo : 1 ≤ c.mo ∧ c.mo ≤ 6
  fi : 1 ≤ c.fi ∧ c.fi ≤ 8
  sc : 1 ≤ c.sc ∧ c.sc ≤ 3
theorem Su.cf_ok (s : Su) : s.cf.ok := by
  constructor <;> (simp only [Su.cf]; omega)
end Go.Proofs.YtpjlnpnadkbakaaGreat

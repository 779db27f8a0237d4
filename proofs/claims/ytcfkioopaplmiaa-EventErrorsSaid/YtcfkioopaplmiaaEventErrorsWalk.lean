/-
  The walk of EventErrors.
-/
import Derived.Test.YtcfkioopaplmiaaAnyReg
import Derived.Test.YtcfkioopaplmiaaEvWakes
import Derived.Deep.LoopGhost
import Derived.Deep.DeepCutAuto
namespace Go.Proofs.Ytcfkioopaplmiaa
open Go.RowKit

/-- What the operations of the literal yield. -/
def errsY (n : Int) (L : Nat) : List Yv := [Yv.e, Yv.e, Yv.c (.int .i64 n), Yv.c (.int .i64 (-n)), Yv.e, Yv.e, Yv.e, Yv.c (.int .i64 n), Yv.c (.int .i64 (4096 + n)), Yv.s (List.replicate L (0 : Int)), Yv.e, Yv.s ([1]), Yv.c (.int .i64 n), Yv.e, Yv.s ([1]), Yv.c ((⟨1, 0, 0, 0, 0, [], false, 0, 0⟩ : Pkt).val none 0), Yv.e, Yv.e, Yv.c (.int .i64 n), Yv.c (.int .i64 (-n)), Yv.e, Yv.c (.int .i64 n), Yv.c (.int .i64 (1048576 + n)), Yv.e, Yv.c (.int .i64 n), Yv.s ([1]), Yv.e, Yv.e, Yv.c (.int .i64 n), Yv.c ((⟨1, 0, 0, 0, 0, [], false, n, 0⟩ : Pkt).val none 0), Yv.e, Yv.c ((⟨1, 0, 0, 0, 0, [], false, 0, 0⟩ : Pkt).val none 0), Yv.c (.int .i64 n), Yv.e, Yv.c ((⟨1, 0, 0, 0, 0, [], false, 0, 0⟩ : Pkt).val none 0), Yv.s ([1]), Yv.e, Yv.c (.int .i64 n), Yv.e, Yv.c ((⟨1, 0, 0, 0, 0, [], false, 0, 0⟩ : Pkt).val none 0), Yv.e, Yv.e, Yv.c (.int .i64 n), Yv.c (.int .i64 (-n)), Yv.e, Yv.c ((⟨1, 0, 0, 0, 0, [], false, 0, 0⟩ : Pkt).val none 0), Yv.e, Yv.l 21, Yv.c (.int .i64 21), Yv.c (.int .i64 0)]
theorem pktIn_range {w : World} {b : Nat} {p : Pkt} {A : Option Addr} {c : Nat} (h : PktIn w b p A c) : w.rangeAt b 0 (p.cs A c) := fun j v hv => by
  have hj : j < 9 := (List.getElem?_eq_some_iff.1 hv).1
  obtain ⟨c0, c1, c2, c3, c4, c5, c6, c7, c8⟩ := h
  rw [Nat.zero_add]
  match j, hj, hv with
  | 0, _, rfl => exact c0
  | 1, _, rfl => exact c1
  | 2, _, rfl => exact c2
  | 3, _, rfl => exact c3
  | 4, _, rfl => exact c4
  | 5, _, rfl => exact c5
  | 6, _, rfl => exact c6
  | 7, _, rfl => exact c7
  | 8, _, rfl => exact c8

theorem plain_bad (k n : Int) (da : List Int) (p : Pkt) (h : p.k ≤ 1) (hd : da.length ≤ 5096) : (⟨k, n, da, p⟩ : Ev).plainL.length ≤ 10000 := by
  have h1 := putL_len n
  have h2 := putL_len (da.length : Int)
  have h3 := putL_len p.pa
  have h4 := putL_len p.nu
  have h5 : p.fieldsL = [] := by
    unfold Pkt.fieldsL
    rw [if_neg (by omega), if_neg (by omega), if_neg (by omega)]
  unfold Ev.plainL Ev.restL Pkt.plainL
  rw [h5]
  simp only
  repeat' split
  all_goals (simp; try omega)

set_option maxRecDepth 100000 in
set_option maxHeartbeats 8000000 in
set_option linter.unusedSimpArgs false in
set_option linter.unusedVariables false in
theorem eventErrors_walk (a0 : Int) (W : World) (w0 : (Lit.int .i64 a0).wf = true) :
    Calls Try.prog 4 #[.int .i64 a0] W fun e W' => e = .returned (.bool true) ∧ Below W.heap.size W W' := by
  have hw0 := wf_i64 w0
  obtain ⟨r, hr⟩ : ∃ r, a0 % 1000 = r := ⟨_, rfl⟩
  obtain ⟨n, hn⟩ : ∃ n, 1 + r = n := ⟨_, rfl⟩
  have hn1 : 1 ≤ n ∧ n ≤ 1000 := by omega
  obtain ⟨L, hL⟩ : ∃ L : Nat, 4096 + n = (L : Int) := ⟨(4096 + n).toNat, by omega⟩
  have hwr : IntKind.i64.wrap (1 + r) = n := by rw [IntKind.wrap_i64]; omega
  have hw := fun w => within_any a0 1000 w (by omega) (by omega)
  rw [hr] at hw
  clear hr w0 hw0
  go_enter Try.func4, Try.ntmps4
  go_wp2_with (refine (hw _).mono ?_; rintro e w ⟨rfl, rfl⟩)
  clear hw hwr hn
  have hI := PktIn.new W (⟨1, 0, 0, 0, 0, [], false, 0, 0⟩ : Pkt) none 0 26
  have hbl := (Below.refl W.heap.size W).alloc (Nat.le_refl _) (.cells ((⟨1, 0, 0, 0, 0, [], false, 0, 0⟩ : Pkt).cs none 0).toArray 26)
  obtain ⟨w1, hw1⟩ : ∃ w1, W.alloc (.cells ((⟨1, 0, 0, 0, 0, [], false, 0, 0⟩ : Pkt).cs none 0).toArray 26) = w1 := ⟨_, rfl⟩
  rw [hw1] at hI hbl
  have hq : W.heap.size < w1.heap.size := by rw [← hw1]; simp
  obtain ⟨q, hqe⟩ : ∃ q, W.heap.size = q := ⟨_, rfl⟩
  rw [hqe] at hI hq
  have hw2 : W.alloc (.cells #[.int .i64 1, .int .i64 0, .int .i64 0, .int .i64 0, .int .i64 0, .slice none 0 0, .bool false, .int .i64 0, .int .i64 0] 26) = w1 := hw1
  rw [hw2, hqe]
  clear hw1 hw2
  refine region_inv (w := w1) 50 12 (errsY n L) w1 (by kernel_rfl) ?_ (by rfl) (by kernel_rfl) rfl (Below.refl _ _) ?_ ?_
  · show 62 ≤ 97
    omega
  · intro t0 ht0 hc listed a w Q' h
    have h0 : t0.getD 0 undef = .int .i64 n := (ht0 0).trans rfl
    have h3 : t0.getD 3 undef = .pointer (some ⟨q, 0, none⟩) := (ht0 3).trans rfl
    have hb : q < w1.heap.size := hq
    clear ht0
    refine lt_cases (n := 49) ?_ ?_
    rotate_left
    · intro hi3
      have r := hi3 _ rfl
      refine h.go (i := 49) (v := .int .i64 0) (w' := w) rfl rfl rfl (by omega) (by omega) ?_ ?_ (Below.refl _ _)
      · exact ex_move rfl rfl
      · rfl
    refine lt_cases (n := 48) ?_ ?_
    rotate_left
    · intro hi3
      have r := hi3 _ rfl
      obtain ⟨g, ms, e59', _, _, _⟩ := h.val 47 (r ⟨47, .data⟩ (by simp) rfl)
      have e59 : a.eval (.tmp 59) = _ := e59'
      refine h.go (i := 48) (v := .int .i64 21) (w' := w) rfl rfl rfl (by omega) (by omega) ?_ ?_ (Below.refl _ _)
      · exact ex_len rfl ⟨_, Try.underlying29⟩ e59
      · rfl
    refine lt_cases (n := 47) ?_ ?_
    rotate_left
    · intro hi3
      have r := hi3 _ rfl
      obtain ⟨m0, e12', a0, o0⟩ := h.val 0 (r ⟨0, .data⟩ (by simp) rfl)
      have e12 : a.eval (.tmp 12) = _ := e12'
      obtain ⟨m1, e13', a1, o1⟩ := h.val 1 (r ⟨1, .data⟩ (by simp) rfl)
      have e13 : a.eval (.tmp 13) = _ := e13'
      obtain ⟨m2, e16', a2, o2⟩ := h.val 4 (r ⟨4, .data⟩ (by simp) rfl)
      have e16 : a.eval (.tmp 16) = _ := e16'
      obtain ⟨m3, e17', a3, o3⟩ := h.val 5 (r ⟨5, .data⟩ (by simp) rfl)
      have e17 : a.eval (.tmp 17) = _ := e17'
      obtain ⟨m4, e18', a4, o4⟩ := h.val 6 (r ⟨6, .data⟩ (by simp) rfl)
      have e18 : a.eval (.tmp 18) = _ := e18'
      obtain ⟨m5, e22', a5, o5⟩ := h.val 10 (r ⟨10, .data⟩ (by simp) rfl)
      have e22 : a.eval (.tmp 22) = _ := e22'
      obtain ⟨m6, e25', a6, o6⟩ := h.val 13 (r ⟨13, .data⟩ (by simp) rfl)
      have e25 : a.eval (.tmp 25) = _ := e25'
      obtain ⟨m7, e28', a7, o7⟩ := h.val 16 (r ⟨16, .data⟩ (by simp) rfl)
      have e28 : a.eval (.tmp 28) = _ := e28'
      obtain ⟨m8, e29', a8, o8⟩ := h.val 17 (r ⟨17, .data⟩ (by simp) rfl)
      have e29 : a.eval (.tmp 29) = _ := e29'
      obtain ⟨m9, e32', a9, o9⟩ := h.val 20 (r ⟨20, .data⟩ (by simp) rfl)
      have e32 : a.eval (.tmp 32) = _ := e32'
      obtain ⟨m10, e35', a10, o10⟩ := h.val 23 (r ⟨23, .data⟩ (by simp) rfl)
      have e35 : a.eval (.tmp 35) = _ := e35'
      obtain ⟨m11, e38', a11, o11⟩ := h.val 26 (r ⟨26, .data⟩ (by simp) rfl)
      have e38 : a.eval (.tmp 38) = _ := e38'
      obtain ⟨m12, e39', a12, o12⟩ := h.val 27 (r ⟨27, .data⟩ (by simp) rfl)
      have e39 : a.eval (.tmp 39) = _ := e39'
      obtain ⟨m13, e42', a13, o13⟩ := h.val 30 (r ⟨30, .data⟩ (by simp) rfl)
      have e42 : a.eval (.tmp 42) = _ := e42'
      obtain ⟨m14, e45', a14, o14⟩ := h.val 33 (r ⟨33, .data⟩ (by simp) rfl)
      have e45 : a.eval (.tmp 45) = _ := e45'
      obtain ⟨m15, e48', a15, o15⟩ := h.val 36 (r ⟨36, .data⟩ (by simp) rfl)
      have e48 : a.eval (.tmp 48) = _ := e48'
      obtain ⟨m16, e50', a16, o16⟩ := h.val 38 (r ⟨38, .data⟩ (by simp) rfl)
      have e50 : a.eval (.tmp 50) = _ := e50'
      obtain ⟨m17, e52', a17, o17⟩ := h.val 40 (r ⟨40, .data⟩ (by simp) rfl)
      have e52 : a.eval (.tmp 52) = _ := e52'
      obtain ⟨m18, e53', a18, o18⟩ := h.val 41 (r ⟨41, .data⟩ (by simp) rfl)
      have e53 : a.eval (.tmp 53) = _ := e53'
      obtain ⟨m19, e56', a19, o19⟩ := h.val 44 (r ⟨44, .data⟩ (by simp) rfl)
      have e56 : a.eval (.tmp 56) = _ := e56'
      obtain ⟨m20, e58', a20, o20⟩ := h.val 46 (r ⟨46, .data⟩ (by simp) rfl)
      have e58 : a.eval (.tmp 58) = _ := e58'
      obtain ⟨ms, hms⟩ : ∃ ms : List EvM, ms = [m0, m1, m2, m3, m4, m5, m6, m7, m8, m9, m10, m11, m12, m13, m14, m15, m16, m17, m18, m19, m20] := ⟨_, rfl⟩
      have hat : ∀ m ∈ ms, m.at w := by
        intro m hm
        rw [hms] at hm
        simp only [List.mem_cons, List.not_mem_nil, or_false] at hm
        rcases hm with rfl | rfl | rfl | rfl | rfl | rfl | rfl | rfl | rfl | rfl | rfl | rfl | rfl | rfl | rfl | rfl | rfl | rfl | rfl | rfl | rfl <;> assumption
      have hbd : ∀ m ∈ ms, m.e.ok = false ∧ m.e.plainL.length ≤ 10000 := by
        intro m hm
        rw [hms] at hm
        simp only [List.mem_cons, List.not_mem_nil, or_false] at hm
        rcases hm with rfl | rfl | rfl | rfl | rfl | rfl | rfl | rfl | rfl | rfl | rfl | rfl | rfl | rfl | rfl | rfl | rfl | rfl | rfl | rfl | rfl <;> assumption
      refine h.go (i := 47) (v := .slice (some ⟨w.heap.size, 0, none⟩) 21 21) (w' := w.alloc (.cells (evs ms).toArray 28)) rfl rfl rfl (by omega) (by omega) ?_ ?_ (below_alloc _ _)
      · refine ex_litE rfl ms (by rw [hms]; rfl) (by omega) (by omega) ?_
        show [(0, a.eval (.tmp 12)), (1, a.eval (.tmp 13)), (2, a.eval (.tmp 16)), (3, a.eval (.tmp 17)), (4, a.eval (.tmp 18)), (5, a.eval (.tmp 22)), (6, a.eval (.tmp 25)), (7, a.eval (.tmp 28)), (8, a.eval (.tmp 29)), (9, a.eval (.tmp 32)), (10, a.eval (.tmp 35)), (11, a.eval (.tmp 38)), (12, a.eval (.tmp 39)), (13, a.eval (.tmp 42)), (14, a.eval (.tmp 45)), (15, a.eval (.tmp 48)), (16, a.eval (.tmp 50)), (17, a.eval (.tmp 52)), (18, a.eval (.tmp 53)), (19, a.eval (.tmp 56)), (20, a.eval (.tmp 58))] = _
        rw [e12, e13, e16, e17, e18, e22, e25, e28, e29, e32, e35, e38, e39, e42, e45, e48, e50, e52, e53, e56, e58, hms]
        rfl
      · exact ⟨w.heap.size, ms, rfl, by rw [hms]; rfl, Evs.new _ _ _ hat, hbd⟩
    refine lt_cases (n := 46) ?_ ?_
    rotate_left
    · intro hi3
      have r := hi3 _ rfl
      have e57 : a.eval (.tmp 57) = _ := h.val 45 (r ⟨45, .data⟩ (by simp) rfl)
      obtain ⟨m, hm⟩ : ∃ m : EvM, m = ⟨⟨7, 0, [], (⟨1, 0, 0, 0, 0, [], false, 0, 0⟩ : Pkt)⟩, none, 0, none, 0⟩ := ⟨_, rfl⟩
      refine h.go (i := 46) (v := m.val) (w' := w) rfl rfl rfl (by omega) (by omega) ?_ ?_ (Below.refl _ _)
      · rw [hm]
        refine ex_build rfl (pv := [(0, .int .i64 7), (3, (⟨1, 0, 0, 0, 0, [], false, 0, 0⟩ : Pkt).val none 0)]) (by
          first
            | rfl
            | (show [(0, a.eval (.const (.int .i64 7))), (3, a.eval (.tmp 57))] = _; rw [e57]; done)
            | (show [(0, a.eval (.const (.int .i64 7))), (3, a.eval (.tmp 57))] = _; rw [e57]; rfl)) ?_
        kernel_rfl
      · refine ⟨m, rfl, ?_, ?_, ?_⟩
        · rw [hm]
          exact evAt_bare _ _ _ _ _ _ (by omega) (by omega) (pktAt_bare _ _ _ _ _ _ _ _ _ (by omega) (by omega) (by omega) (by omega) (by omega) (by omega) (by omega))
        · rw [hm]
          simp [Ev.ok, Pkt.same, Pkt.zero, Pkt.ok, Pkt.known, Pkt.bare, Pkt.bounded, inB] <;> omega
        · rw [hm]
          exact plain_bad _ _ _ _ (by first | exact Int.le_refl _ | decide) (by simp)
    refine lt_cases (n := 45) ?_ ?_
    rotate_left
    · intro hi3
      have r := hi3 _ rfl
      refine h.go (i := 45) (v := (⟨1, 0, 0, 0, 0, [], false, 0, 0⟩ : Pkt).val none 0) (w' := w) rfl rfl rfl (by omega) (by omega) ?_ ?_ (Below.refl _ _)
      · have e3 : a.eval (.tmp 3) = _ := (h.old 3 (by omega)).trans h3
        exact ex_load rfl e3 (pktIn_range (hI.below h.r hb)) Try.underlying26 rfl (by kernel_rfl)
      · rfl
    refine lt_cases (n := 44) ?_ ?_
    rotate_left
    · intro hi3
      have r := hi3 _ rfl
      have e55 : a.eval (.tmp 55) = _ := h.val 43 (r ⟨43, .data⟩ (by simp) rfl)
      obtain ⟨m, hm⟩ : ∃ m : EvM, m = ⟨⟨8, (-n), [], Pkt.zero⟩, none, 0, none, 0⟩ := ⟨_, rfl⟩
      refine h.go (i := 44) (v := m.val) (w' := w) rfl rfl rfl (by omega) (by omega) ?_ ?_ (Below.refl _ _)
      · rw [hm]
        refine ex_build rfl (pv := [(0, .int .i64 8), (1, .int .i64 (-n))]) (by
          first
            | rfl
            | (show [(0, a.eval (.const (.int .i64 8))), (1, a.eval (.tmp 55))] = _; rw [e55]; done)
            | (show [(0, a.eval (.const (.int .i64 8))), (1, a.eval (.tmp 55))] = _; rw [e55]; rfl)) ?_
        kernel_rfl
      · refine ⟨m, rfl, ?_, ?_, ?_⟩
        · rw [hm]
          exact evAt_bare _ _ _ _ _ _ (by omega) (by omega) (pktAt_bare _ _ _ _ _ _ _ _ _ (by omega) (by omega) (by omega) (by omega) (by omega) (by omega) (by omega))
        · rw [hm]
          simp [Ev.ok, Pkt.same, Pkt.zero, Pkt.ok, Pkt.known, Pkt.bare, Pkt.bounded, inB] <;> omega
        · rw [hm]
          exact plain_bad _ _ _ _ (by first | exact Int.le_refl _ | decide) (by simp)
    refine lt_cases (n := 43) ?_ ?_
    rotate_left
    · intro hi3
      have r := hi3 _ rfl
      have e54 : a.eval (.tmp 54) = _ := h.val 42 (r ⟨42, .data⟩ (by simp) rfl)
      refine h.go (i := 43) (v := .int .i64 (-n)) (w' := w) rfl rfl rfl (by omega) (by omega) ?_ ?_ (Below.refl _ _)
      · exact ex_neg rfl e54 (by omega) (by omega)
      · rfl
    refine lt_cases (n := 42) ?_ ?_
    rotate_left
    · intro hi3
      have r := hi3 _ rfl
      refine h.go (i := 42) (v := .int .i64 n) (w' := w) rfl rfl rfl (by omega) (by omega) ?_ ?_ (Below.refl _ _)
      · have e0 : a.eval (.tmp 0) = _ := (h.old 0 (by omega)).trans h0
        exact ex_move rfl e0
      · rfl
    refine lt_cases (n := 41) ?_ ?_
    rotate_left
    · intro hi3
      have r := hi3 _ rfl
      obtain ⟨m, hm⟩ : ∃ m : EvM, m = ⟨⟨7, 3, [], Pkt.zero⟩, none, 0, none, 0⟩ := ⟨_, rfl⟩
      refine h.go (i := 41) (v := m.val) (w' := w) rfl rfl rfl (by omega) (by omega) ?_ ?_ (Below.refl _ _)
      · rw [hm]
        refine ex_build rfl (pv := [(0, .int .i64 7), (1, .int .i64 3)]) (by
          first
            | rfl
            | (show [(0, a.eval (.const (.int .i64 7))), (1, a.eval (.const (.int .i64 3)))] = _; rw [hm]; done)
            | (show [(0, a.eval (.const (.int .i64 7))), (1, a.eval (.const (.int .i64 3)))] = _; rw [hm]; rfl)) ?_
        kernel_rfl
      · refine ⟨m, rfl, ?_, ?_, ?_⟩
        · rw [hm]
          exact evAt_bare _ _ _ _ _ _ (by omega) (by omega) (pktAt_bare _ _ _ _ _ _ _ _ _ (by omega) (by omega) (by omega) (by omega) (by omega) (by omega) (by omega))
        · rw [hm]
          simp [Ev.ok, Pkt.same, Pkt.zero, Pkt.ok, Pkt.known, Pkt.bare, Pkt.bounded, inB] <;> omega
        · rw [hm]
          exact plain_bad _ _ _ _ (by first | exact Int.le_refl _ | decide) (by simp)
    refine lt_cases (n := 40) ?_ ?_
    rotate_left
    · intro hi3
      have r := hi3 _ rfl
      have e51 : a.eval (.tmp 51) = _ := h.val 39 (r ⟨39, .data⟩ (by simp) rfl)
      obtain ⟨m, hm⟩ : ∃ m : EvM, m = ⟨⟨6, 0, [], (⟨1, 0, 0, 0, 0, [], false, 0, 0⟩ : Pkt)⟩, none, 0, none, 0⟩ := ⟨_, rfl⟩
      refine h.go (i := 40) (v := m.val) (w' := w) rfl rfl rfl (by omega) (by omega) ?_ ?_ (Below.refl _ _)
      · rw [hm]
        refine ex_build rfl (pv := [(0, .int .i64 6), (3, (⟨1, 0, 0, 0, 0, [], false, 0, 0⟩ : Pkt).val none 0)]) (by
          first
            | rfl
            | (show [(0, a.eval (.const (.int .i64 6))), (3, a.eval (.tmp 51))] = _; rw [e51]; done)
            | (show [(0, a.eval (.const (.int .i64 6))), (3, a.eval (.tmp 51))] = _; rw [e51]; rfl)) ?_
        kernel_rfl
      · refine ⟨m, rfl, ?_, ?_, ?_⟩
        · rw [hm]
          exact evAt_bare _ _ _ _ _ _ (by omega) (by omega) (pktAt_bare _ _ _ _ _ _ _ _ _ (by omega) (by omega) (by omega) (by omega) (by omega) (by omega) (by omega))
        · rw [hm]
          simp [Ev.ok, Pkt.same, Pkt.zero, Pkt.ok, Pkt.known, Pkt.bare, Pkt.bounded, inB] <;> omega
        · rw [hm]
          exact plain_bad _ _ _ _ (by first | exact Int.le_refl _ | decide) (by simp)
    refine lt_cases (n := 39) ?_ ?_
    rotate_left
    · intro hi3
      have r := hi3 _ rfl
      refine h.go (i := 39) (v := (⟨1, 0, 0, 0, 0, [], false, 0, 0⟩ : Pkt).val none 0) (w' := w) rfl rfl rfl (by omega) (by omega) ?_ ?_ (Below.refl _ _)
      · have e3 : a.eval (.tmp 3) = _ := (h.old 3 (by omega)).trans h3
        exact ex_load rfl e3 (pktIn_range (hI.below h.r hb)) Try.underlying26 rfl (by kernel_rfl)
      · rfl
    refine lt_cases (n := 38) ?_ ?_
    rotate_left
    · intro hi3
      have r := hi3 _ rfl
      have e49 : a.eval (.tmp 49) = _ := h.val 37 (r ⟨37, .data⟩ (by simp) rfl)
      obtain ⟨m, hm⟩ : ∃ m : EvM, m = ⟨⟨6, n, [], Pkt.zero⟩, none, 0, none, 0⟩ := ⟨_, rfl⟩
      refine h.go (i := 38) (v := m.val) (w' := w) rfl rfl rfl (by omega) (by omega) ?_ ?_ (Below.refl _ _)
      · rw [hm]
        refine ex_build rfl (pv := [(0, .int .i64 6), (1, .int .i64 n)]) (by
          first
            | rfl
            | (show [(0, a.eval (.const (.int .i64 6))), (1, a.eval (.tmp 49))] = _; rw [e49]; done)
            | (show [(0, a.eval (.const (.int .i64 6))), (1, a.eval (.tmp 49))] = _; rw [e49]; rfl)) ?_
        kernel_rfl
      · refine ⟨m, rfl, ?_, ?_, ?_⟩
        · rw [hm]
          exact evAt_bare _ _ _ _ _ _ (by omega) (by omega) (pktAt_bare _ _ _ _ _ _ _ _ _ (by omega) (by omega) (by omega) (by omega) (by omega) (by omega) (by omega))
        · rw [hm]
          simp [Ev.ok, Pkt.same, Pkt.zero, Pkt.ok, Pkt.known, Pkt.bare, Pkt.bounded, inB] <;> omega
        · rw [hm]
          exact plain_bad _ _ _ _ (by first | exact Int.le_refl _ | decide) (by simp)
    refine lt_cases (n := 37) ?_ ?_
    rotate_left
    · intro hi3
      have r := hi3 _ rfl
      refine h.go (i := 37) (v := .int .i64 n) (w' := w) rfl rfl rfl (by omega) (by omega) ?_ ?_ (Below.refl _ _)
      · have e0 : a.eval (.tmp 0) = _ := (h.old 0 (by omega)).trans h0
        exact ex_move rfl e0
      · rfl
    refine lt_cases (n := 36) ?_ ?_
    rotate_left
    · intro hi3
      have r := hi3 _ rfl
      have e46 : a.eval (.tmp 46) = _ := h.val 34 (r ⟨34, .data⟩ (by simp) rfl)
      obtain ⟨b47, e47', l47⟩ := h.val 35 (r ⟨35, .data⟩ (by simp) rfl)
      have e47 : a.eval (.tmp 47) = _ := e47'
      obtain ⟨m, hm⟩ : ∃ m : EvM, m = ⟨⟨4, 0, [1], (⟨1, 0, 0, 0, 0, [], false, 0, 0⟩ : Pkt)⟩, some ⟨b47, 0, none⟩, 1, none, 0⟩ := ⟨_, rfl⟩
      refine h.go (i := 36) (v := m.val) (w' := w) rfl rfl rfl (by omega) (by omega) ?_ ?_ (Below.refl _ _)
      · rw [hm]
        refine ex_build rfl (pv := [(0, .int .i64 4), (3, (⟨1, 0, 0, 0, 0, [], false, 0, 0⟩ : Pkt).val none 0), (2, .slice (some ⟨b47, 0, none⟩) ([1]).length ([1]).length)]) (by
          first
            | rfl
            | (show [(0, a.eval (.const (.int .i64 4))), (3, a.eval (.tmp 46)), (2, a.eval (.tmp 47))] = _; rw [e46, e47]; done)
            | (show [(0, a.eval (.const (.int .i64 4))), (3, a.eval (.tmp 46)), (2, a.eval (.tmp 47))] = _; rw [e46, e47]; rfl)) ?_
        kernel_rfl
      · refine ⟨m, rfl, ?_, ?_, ?_⟩
        · rw [hm]
          exact evAt_data _ _ _ _ _ _ _ _ _ (by omega) (by omega) (pktAt_bare _ _ _ _ _ _ _ _ _ (by omega) (by omega) (by omega) (by omega) (by omega) (by omega) (by omega)) l47 (Nat.le_refl _) (by simp) (by intro x hx; simp at hx; omega)
        · rw [hm]
          simp [Ev.ok, Pkt.same, Pkt.zero, Pkt.ok, Pkt.known, Pkt.bare, Pkt.bounded, inB] <;> omega
        · rw [hm]
          exact plain_bad _ _ _ _ (by first | exact Int.le_refl _ | decide) (by simp)
    refine lt_cases (n := 35) ?_ ?_
    rotate_left
    · intro hi3
      have r := hi3 _ rfl
      refine h.go (i := 35) (v := .slice (some ⟨w.heap.size, 0, none⟩) 1 1) (w' := w.alloc (.cells (bts [1]) 5)) rfl rfl rfl (by omega) (by omega) ?_ ?_ (below_alloc _ _)
      · exact ex_bytes rfl [1] rfl (by omega) (by omega) rfl
      · exact ys_new _ [1] _ _ rfl
    refine lt_cases (n := 34) ?_ ?_
    rotate_left
    · intro hi3
      have r := hi3 _ rfl
      refine h.go (i := 34) (v := (⟨1, 0, 0, 0, 0, [], false, 0, 0⟩ : Pkt).val none 0) (w' := w) rfl rfl rfl (by omega) (by omega) ?_ ?_ (Below.refl _ _)
      · have e3 : a.eval (.tmp 3) = _ := (h.old 3 (by omega)).trans h3
        exact ex_load rfl e3 (pktIn_range (hI.below h.r hb)) Try.underlying26 rfl (by kernel_rfl)
      · rfl
    refine lt_cases (n := 33) ?_ ?_
    rotate_left
    · intro hi3
      have r := hi3 _ rfl
      have e43 : a.eval (.tmp 43) = _ := h.val 31 (r ⟨31, .data⟩ (by simp) rfl)
      have e44 : a.eval (.tmp 44) = _ := h.val 32 (r ⟨32, .data⟩ (by simp) rfl)
      obtain ⟨m, hm⟩ : ∃ m : EvM, m = ⟨⟨5, n, [], (⟨1, 0, 0, 0, 0, [], false, 0, 0⟩ : Pkt)⟩, none, 0, none, 0⟩ := ⟨_, rfl⟩
      refine h.go (i := 33) (v := m.val) (w' := w) rfl rfl rfl (by omega) (by omega) ?_ ?_ (Below.refl _ _)
      · rw [hm]
        refine ex_build rfl (pv := [(0, .int .i64 5), (3, (⟨1, 0, 0, 0, 0, [], false, 0, 0⟩ : Pkt).val none 0), (1, .int .i64 n)]) (by
          first
            | rfl
            | (show [(0, a.eval (.const (.int .i64 5))), (3, a.eval (.tmp 43)), (1, a.eval (.tmp 44))] = _; rw [e43, e44]; done)
            | (show [(0, a.eval (.const (.int .i64 5))), (3, a.eval (.tmp 43)), (1, a.eval (.tmp 44))] = _; rw [e43, e44]; rfl)) ?_
        kernel_rfl
      · refine ⟨m, rfl, ?_, ?_, ?_⟩
        · rw [hm]
          exact evAt_bare _ _ _ _ _ _ (by omega) (by omega) (pktAt_bare _ _ _ _ _ _ _ _ _ (by omega) (by omega) (by omega) (by omega) (by omega) (by omega) (by omega))
        · rw [hm]
          simp [Ev.ok, Pkt.same, Pkt.zero, Pkt.ok, Pkt.known, Pkt.bare, Pkt.bounded, inB] <;> omega
        · rw [hm]
          exact plain_bad _ _ _ _ (by first | exact Int.le_refl _ | decide) (by simp)
    refine lt_cases (n := 32) ?_ ?_
    rotate_left
    · intro hi3
      have r := hi3 _ rfl
      refine h.go (i := 32) (v := .int .i64 n) (w' := w) rfl rfl rfl (by omega) (by omega) ?_ ?_ (Below.refl _ _)
      · have e0 : a.eval (.tmp 0) = _ := (h.old 0 (by omega)).trans h0
        exact ex_move rfl e0
      · rfl
    refine lt_cases (n := 31) ?_ ?_
    rotate_left
    · intro hi3
      have r := hi3 _ rfl
      refine h.go (i := 31) (v := (⟨1, 0, 0, 0, 0, [], false, 0, 0⟩ : Pkt).val none 0) (w' := w) rfl rfl rfl (by omega) (by omega) ?_ ?_ (Below.refl _ _)
      · have e3 : a.eval (.tmp 3) = _ := (h.old 3 (by omega)).trans h3
        exact ex_load rfl e3 (pktIn_range (hI.below h.r hb)) Try.underlying26 rfl (by kernel_rfl)
      · rfl
    refine lt_cases (n := 30) ?_ ?_
    rotate_left
    · intro hi3
      have r := hi3 _ rfl
      have e41 : a.eval (.tmp 41) = _ := h.val 29 (r ⟨29, .data⟩ (by simp) rfl)
      obtain ⟨m, hm⟩ : ∃ m : EvM, m = ⟨⟨5, 0, [], ⟨1, 0, 0, 0, 0, [], false, n, 0⟩⟩, none, 0, none, 0⟩ := ⟨_, rfl⟩
      refine h.go (i := 30) (v := m.val) (w' := w) rfl rfl rfl (by omega) (by omega) ?_ ?_ (Below.refl _ _)
      · rw [hm]
        refine ex_build rfl (pv := [(0, .int .i64 5), (3, (⟨1, 0, 0, 0, 0, [], false, n, 0⟩ : Pkt).val none 0)]) (by
          first
            | rfl
            | (show [(0, a.eval (.const (.int .i64 5))), (3, a.eval (.tmp 41))] = _; rw [e41]; done)
            | (show [(0, a.eval (.const (.int .i64 5))), (3, a.eval (.tmp 41))] = _; rw [e41]; rfl)) ?_
        kernel_rfl
      · refine ⟨m, rfl, ?_, ?_, ?_⟩
        · rw [hm]
          exact evAt_bare _ _ _ _ _ _ (by omega) (by omega) (pktAt_bare _ _ _ _ _ _ _ _ _ (by omega) (by omega) (by omega) (by omega) (by omega) (by omega) (by omega))
        · rw [hm]
          simp [Ev.ok, Pkt.same, Pkt.zero, Pkt.ok, Pkt.known, Pkt.bare, Pkt.bounded, inB] <;> omega
        · rw [hm]
          exact plain_bad _ _ _ _ (by first | exact Int.le_refl _ | decide) (by simp)
    refine lt_cases (n := 29) ?_ ?_
    rotate_left
    · intro hi3
      have r := hi3 _ rfl
      have e40 : a.eval (.tmp 40) = _ := h.val 28 (r ⟨28, .data⟩ (by simp) rfl)
      refine h.go (i := 29) (v := (⟨1, 0, 0, 0, 0, [], false, n, 0⟩ : Pkt).val none 0) (w' := w) rfl rfl rfl (by omega) (by omega) ?_ ?_ (Below.refl _ _)
      · refine ex_build rfl (pv := [(0, .int .i64 1), (7, .int .i64 n)]) (by
          first
            | rfl
            | (show [(0, a.eval (.const (.int .i64 1))), (7, a.eval (.tmp 40))] = _; rw [e40]; done)
            | (show [(0, a.eval (.const (.int .i64 1))), (7, a.eval (.tmp 40))] = _; rw [e40]; rfl)) ?_
        kernel_rfl
      · rfl
    refine lt_cases (n := 28) ?_ ?_
    rotate_left
    · intro hi3
      have r := hi3 _ rfl
      refine h.go (i := 28) (v := .int .i64 n) (w' := w) rfl rfl rfl (by omega) (by omega) ?_ ?_ (Below.refl _ _)
      · have e0 : a.eval (.tmp 0) = _ := (h.old 0 (by omega)).trans h0
        exact ex_move rfl e0
      · rfl
    refine lt_cases (n := 27) ?_ ?_
    rotate_left
    · intro hi3
      have r := hi3 _ rfl
      obtain ⟨m, hm⟩ : ∃ m : EvM, m = ⟨⟨4, 0, [], Pkt.zero⟩, none, 0, none, 0⟩ := ⟨_, rfl⟩
      refine h.go (i := 27) (v := m.val) (w' := w) rfl rfl rfl (by omega) (by omega) ?_ ?_ (Below.refl _ _)
      · rw [hm]
        refine ex_build rfl (pv := [(0, .int .i64 4)]) (by
          first
            | rfl
            | (show [(0, a.eval (.const (.int .i64 4)))] = _; rw [hm]; done)
            | (show [(0, a.eval (.const (.int .i64 4)))] = _; rw [hm]; rfl)) ?_
        kernel_rfl
      · refine ⟨m, rfl, ?_, ?_, ?_⟩
        · rw [hm]
          exact evAt_bare _ _ _ _ _ _ (by omega) (by omega) (pktAt_bare _ _ _ _ _ _ _ _ _ (by omega) (by omega) (by omega) (by omega) (by omega) (by omega) (by omega))
        · rw [hm]
          simp [Ev.ok, Pkt.same, Pkt.zero, Pkt.ok, Pkt.known, Pkt.bare, Pkt.bounded, inB] <;> omega
        · rw [hm]
          exact plain_bad _ _ _ _ (by first | exact Int.le_refl _ | decide) (by simp)
    refine lt_cases (n := 26) ?_ ?_
    rotate_left
    · intro hi3
      have r := hi3 _ rfl
      have e36 : a.eval (.tmp 36) = _ := h.val 24 (r ⟨24, .data⟩ (by simp) rfl)
      obtain ⟨b37, e37', l37⟩ := h.val 25 (r ⟨25, .data⟩ (by simp) rfl)
      have e37 : a.eval (.tmp 37) = _ := e37'
      obtain ⟨m, hm⟩ : ∃ m : EvM, m = ⟨⟨3, n, [1], Pkt.zero⟩, some ⟨b37, 0, none⟩, 1, none, 0⟩ := ⟨_, rfl⟩
      refine h.go (i := 26) (v := m.val) (w' := w) rfl rfl rfl (by omega) (by omega) ?_ ?_ (Below.refl _ _)
      · rw [hm]
        refine ex_build rfl (pv := [(0, .int .i64 3), (1, .int .i64 n), (2, .slice (some ⟨b37, 0, none⟩) ([1]).length ([1]).length)]) (by
          first
            | rfl
            | (show [(0, a.eval (.const (.int .i64 3))), (1, a.eval (.tmp 36)), (2, a.eval (.tmp 37))] = _; rw [e36, e37]; done)
            | (show [(0, a.eval (.const (.int .i64 3))), (1, a.eval (.tmp 36)), (2, a.eval (.tmp 37))] = _; rw [e36, e37]; rfl)) ?_
        kernel_rfl
      · refine ⟨m, rfl, ?_, ?_, ?_⟩
        · rw [hm]
          exact evAt_data _ _ _ _ _ _ _ _ _ (by omega) (by omega) (pktAt_bare _ _ _ _ _ _ _ _ _ (by omega) (by omega) (by omega) (by omega) (by omega) (by omega) (by omega)) l37 (Nat.le_refl _) (by simp) (by intro x hx; simp at hx; omega)
        · rw [hm]
          simp [Ev.ok, Pkt.same, Pkt.zero, Pkt.ok, Pkt.known, Pkt.bare, Pkt.bounded, inB] <;> omega
        · rw [hm]
          exact plain_bad _ _ _ _ (by first | exact Int.le_refl _ | decide) (by simp)
    refine lt_cases (n := 25) ?_ ?_
    rotate_left
    · intro hi3
      have r := hi3 _ rfl
      refine h.go (i := 25) (v := .slice (some ⟨w.heap.size, 0, none⟩) 1 1) (w' := w.alloc (.cells (bts [1]) 5)) rfl rfl rfl (by omega) (by omega) ?_ ?_ (below_alloc _ _)
      · exact ex_bytes rfl [1] rfl (by omega) (by omega) rfl
      · exact ys_new _ [1] _ _ rfl
    refine lt_cases (n := 24) ?_ ?_
    rotate_left
    · intro hi3
      have r := hi3 _ rfl
      refine h.go (i := 24) (v := .int .i64 n) (w' := w) rfl rfl rfl (by omega) (by omega) ?_ ?_ (Below.refl _ _)
      · have e0 : a.eval (.tmp 0) = _ := (h.old 0 (by omega)).trans h0
        exact ex_move rfl e0
      · rfl
    refine lt_cases (n := 23) ?_ ?_
    rotate_left
    · intro hi3
      have r := hi3 _ rfl
      have e34 : a.eval (.tmp 34) = _ := h.val 22 (r ⟨22, .data⟩ (by simp) rfl)
      obtain ⟨m, hm⟩ : ∃ m : EvM, m = ⟨⟨3, (1048576 + n), [], Pkt.zero⟩, none, 0, none, 0⟩ := ⟨_, rfl⟩
      refine h.go (i := 23) (v := m.val) (w' := w) rfl rfl rfl (by omega) (by omega) ?_ ?_ (Below.refl _ _)
      · rw [hm]
        refine ex_build rfl (pv := [(0, .int .i64 3), (1, .int .i64 (1048576 + n))]) (by
          first
            | rfl
            | (show [(0, a.eval (.const (.int .i64 3))), (1, a.eval (.tmp 34))] = _; rw [e34]; done)
            | (show [(0, a.eval (.const (.int .i64 3))), (1, a.eval (.tmp 34))] = _; rw [e34]; rfl)) ?_
        kernel_rfl
      · refine ⟨m, rfl, ?_, ?_, ?_⟩
        · rw [hm]
          exact evAt_bare _ _ _ _ _ _ (by omega) (by omega) (pktAt_bare _ _ _ _ _ _ _ _ _ (by omega) (by omega) (by omega) (by omega) (by omega) (by omega) (by omega))
        · rw [hm]
          simp [Ev.ok, Pkt.same, Pkt.zero, Pkt.ok, Pkt.known, Pkt.bare, Pkt.bounded, inB] <;> omega
        · rw [hm]
          exact plain_bad _ _ _ _ (by first | exact Int.le_refl _ | decide) (by simp)
    refine lt_cases (n := 22) ?_ ?_
    rotate_left
    · intro hi3
      have r := hi3 _ rfl
      have e33 : a.eval (.tmp 33) = _ := h.val 21 (r ⟨21, .data⟩ (by simp) rfl)
      refine h.go (i := 22) (v := .int .i64 (1048576 + n)) (w' := w) rfl rfl rfl (by omega) (by omega) ?_ ?_ (Below.refl _ _)
      · exact ex_add rfl rfl e33 (by omega) (by omega)
      · rfl
    refine lt_cases (n := 21) ?_ ?_
    rotate_left
    · intro hi3
      have r := hi3 _ rfl
      refine h.go (i := 21) (v := .int .i64 n) (w' := w) rfl rfl rfl (by omega) (by omega) ?_ ?_ (Below.refl _ _)
      · have e0 : a.eval (.tmp 0) = _ := (h.old 0 (by omega)).trans h0
        exact ex_move rfl e0
      · rfl
    refine lt_cases (n := 20) ?_ ?_
    rotate_left
    · intro hi3
      have r := hi3 _ rfl
      have e31 : a.eval (.tmp 31) = _ := h.val 19 (r ⟨19, .data⟩ (by simp) rfl)
      obtain ⟨m, hm⟩ : ∃ m : EvM, m = ⟨⟨3, (-n), [], Pkt.zero⟩, none, 0, none, 0⟩ := ⟨_, rfl⟩
      refine h.go (i := 20) (v := m.val) (w' := w) rfl rfl rfl (by omega) (by omega) ?_ ?_ (Below.refl _ _)
      · rw [hm]
        refine ex_build rfl (pv := [(0, .int .i64 3), (1, .int .i64 (-n))]) (by
          first
            | rfl
            | (show [(0, a.eval (.const (.int .i64 3))), (1, a.eval (.tmp 31))] = _; rw [e31]; done)
            | (show [(0, a.eval (.const (.int .i64 3))), (1, a.eval (.tmp 31))] = _; rw [e31]; rfl)) ?_
        kernel_rfl
      · refine ⟨m, rfl, ?_, ?_, ?_⟩
        · rw [hm]
          exact evAt_bare _ _ _ _ _ _ (by omega) (by omega) (pktAt_bare _ _ _ _ _ _ _ _ _ (by omega) (by omega) (by omega) (by omega) (by omega) (by omega) (by omega))
        · rw [hm]
          simp [Ev.ok, Pkt.same, Pkt.zero, Pkt.ok, Pkt.known, Pkt.bare, Pkt.bounded, inB] <;> omega
        · rw [hm]
          exact plain_bad _ _ _ _ (by first | exact Int.le_refl _ | decide) (by simp)
    refine lt_cases (n := 19) ?_ ?_
    rotate_left
    · intro hi3
      have r := hi3 _ rfl
      have e30 : a.eval (.tmp 30) = _ := h.val 18 (r ⟨18, .data⟩ (by simp) rfl)
      refine h.go (i := 19) (v := .int .i64 (-n)) (w' := w) rfl rfl rfl (by omega) (by omega) ?_ ?_ (Below.refl _ _)
      · exact ex_neg rfl e30 (by omega) (by omega)
      · rfl
    refine lt_cases (n := 18) ?_ ?_
    rotate_left
    · intro hi3
      have r := hi3 _ rfl
      refine h.go (i := 18) (v := .int .i64 n) (w' := w) rfl rfl rfl (by omega) (by omega) ?_ ?_ (Below.refl _ _)
      · have e0 : a.eval (.tmp 0) = _ := (h.old 0 (by omega)).trans h0
        exact ex_move rfl e0
      · rfl
    refine lt_cases (n := 17) ?_ ?_
    rotate_left
    · intro hi3
      have r := hi3 _ rfl
      obtain ⟨m, hm⟩ : ∃ m : EvM, m = ⟨⟨3, 0, [], Pkt.zero⟩, none, 0, none, 0⟩ := ⟨_, rfl⟩
      refine h.go (i := 17) (v := m.val) (w' := w) rfl rfl rfl (by omega) (by omega) ?_ ?_ (Below.refl _ _)
      · rw [hm]
        refine ex_build rfl (pv := [(0, .int .i64 3)]) (by
          first
            | rfl
            | (show [(0, a.eval (.const (.int .i64 3)))] = _; rw [hm]; done)
            | (show [(0, a.eval (.const (.int .i64 3)))] = _; rw [hm]; rfl)) ?_
        kernel_rfl
      · refine ⟨m, rfl, ?_, ?_, ?_⟩
        · rw [hm]
          exact evAt_bare _ _ _ _ _ _ (by omega) (by omega) (pktAt_bare _ _ _ _ _ _ _ _ _ (by omega) (by omega) (by omega) (by omega) (by omega) (by omega) (by omega))
        · rw [hm]
          simp [Ev.ok, Pkt.same, Pkt.zero, Pkt.ok, Pkt.known, Pkt.bare, Pkt.bounded, inB] <;> omega
        · rw [hm]
          exact plain_bad _ _ _ _ (by first | exact Int.le_refl _ | decide) (by simp)
    refine lt_cases (n := 16) ?_ ?_
    rotate_left
    · intro hi3
      have r := hi3 _ rfl
      obtain ⟨b26, e26', l26⟩ := h.val 14 (r ⟨14, .data⟩ (by simp) rfl)
      have e26 : a.eval (.tmp 26) = _ := e26'
      have e27 : a.eval (.tmp 27) = _ := h.val 15 (r ⟨15, .data⟩ (by simp) rfl)
      obtain ⟨m, hm⟩ : ∃ m : EvM, m = ⟨⟨2, 0, [1], (⟨1, 0, 0, 0, 0, [], false, 0, 0⟩ : Pkt)⟩, some ⟨b26, 0, none⟩, 1, none, 0⟩ := ⟨_, rfl⟩
      refine h.go (i := 16) (v := m.val) (w' := w) rfl rfl rfl (by omega) (by omega) ?_ ?_ (Below.refl _ _)
      · rw [hm]
        refine ex_build rfl (pv := [(0, .int .i64 2), (2, .slice (some ⟨b26, 0, none⟩) ([1]).length ([1]).length), (3, (⟨1, 0, 0, 0, 0, [], false, 0, 0⟩ : Pkt).val none 0)]) (by
          first
            | rfl
            | (show [(0, a.eval (.const (.int .i64 2))), (2, a.eval (.tmp 26)), (3, a.eval (.tmp 27))] = _; rw [e26, e27]; done)
            | (show [(0, a.eval (.const (.int .i64 2))), (2, a.eval (.tmp 26)), (3, a.eval (.tmp 27))] = _; rw [e26, e27]; rfl)) ?_
        kernel_rfl
      · refine ⟨m, rfl, ?_, ?_, ?_⟩
        · rw [hm]
          exact evAt_data _ _ _ _ _ _ _ _ _ (by omega) (by omega) (pktAt_bare _ _ _ _ _ _ _ _ _ (by omega) (by omega) (by omega) (by omega) (by omega) (by omega) (by omega)) l26 (Nat.le_refl _) (by simp) (by intro x hx; simp at hx; omega)
        · rw [hm]
          simp [Ev.ok, Pkt.same, Pkt.zero, Pkt.ok, Pkt.known, Pkt.bare, Pkt.bounded, inB] <;> omega
        · rw [hm]
          exact plain_bad _ _ _ _ (by first | exact Int.le_refl _ | decide) (by simp)
    refine lt_cases (n := 15) ?_ ?_
    rotate_left
    · intro hi3
      have r := hi3 _ rfl
      refine h.go (i := 15) (v := (⟨1, 0, 0, 0, 0, [], false, 0, 0⟩ : Pkt).val none 0) (w' := w) rfl rfl rfl (by omega) (by omega) ?_ ?_ (Below.refl _ _)
      · have e3 : a.eval (.tmp 3) = _ := (h.old 3 (by omega)).trans h3
        exact ex_load rfl e3 (pktIn_range (hI.below h.r hb)) Try.underlying26 rfl (by kernel_rfl)
      · rfl
    refine lt_cases (n := 14) ?_ ?_
    rotate_left
    · intro hi3
      have r := hi3 _ rfl
      refine h.go (i := 14) (v := .slice (some ⟨w.heap.size, 0, none⟩) 1 1) (w' := w.alloc (.cells (bts [1]) 5)) rfl rfl rfl (by omega) (by omega) ?_ ?_ (below_alloc _ _)
      · exact ex_bytes rfl [1] rfl (by omega) (by omega) rfl
      · exact ys_new _ [1] _ _ rfl
    refine lt_cases (n := 13) ?_ ?_
    rotate_left
    · intro hi3
      have r := hi3 _ rfl
      obtain ⟨b23, e23', l23⟩ := h.val 11 (r ⟨11, .data⟩ (by simp) rfl)
      have e23 : a.eval (.tmp 23) = _ := e23'
      have e24 : a.eval (.tmp 24) = _ := h.val 12 (r ⟨12, .data⟩ (by simp) rfl)
      obtain ⟨m, hm⟩ : ∃ m : EvM, m = ⟨⟨1, n, [1], Pkt.zero⟩, some ⟨b23, 0, none⟩, 1, none, 0⟩ := ⟨_, rfl⟩
      refine h.go (i := 13) (v := m.val) (w' := w) rfl rfl rfl (by omega) (by omega) ?_ ?_ (Below.refl _ _)
      · rw [hm]
        refine ex_build rfl (pv := [(0, .int .i64 1), (2, .slice (some ⟨b23, 0, none⟩) ([1]).length ([1]).length), (1, .int .i64 n)]) (by
          first
            | rfl
            | (show [(0, a.eval (.const (.int .i64 1))), (2, a.eval (.tmp 23)), (1, a.eval (.tmp 24))] = _; rw [e23, e24]; done)
            | (show [(0, a.eval (.const (.int .i64 1))), (2, a.eval (.tmp 23)), (1, a.eval (.tmp 24))] = _; rw [e23, e24]; rfl)) ?_
        kernel_rfl
      · refine ⟨m, rfl, ?_, ?_, ?_⟩
        · rw [hm]
          exact evAt_data _ _ _ _ _ _ _ _ _ (by omega) (by omega) (pktAt_bare _ _ _ _ _ _ _ _ _ (by omega) (by omega) (by omega) (by omega) (by omega) (by omega) (by omega)) l23 (Nat.le_refl _) (by simp) (by intro x hx; simp at hx; omega)
        · rw [hm]
          simp [Ev.ok, Pkt.same, Pkt.zero, Pkt.ok, Pkt.known, Pkt.bare, Pkt.bounded, inB] <;> omega
        · rw [hm]
          exact plain_bad _ _ _ _ (by first | exact Int.le_refl _ | decide) (by simp)
    refine lt_cases (n := 12) ?_ ?_
    rotate_left
    · intro hi3
      have r := hi3 _ rfl
      refine h.go (i := 12) (v := .int .i64 n) (w' := w) rfl rfl rfl (by omega) (by omega) ?_ ?_ (Below.refl _ _)
      · have e0 : a.eval (.tmp 0) = _ := (h.old 0 (by omega)).trans h0
        exact ex_move rfl e0
      · rfl
    refine lt_cases (n := 11) ?_ ?_
    rotate_left
    · intro hi3
      have r := hi3 _ rfl
      refine h.go (i := 11) (v := .slice (some ⟨w.heap.size, 0, none⟩) 1 1) (w' := w.alloc (.cells (bts [1]) 5)) rfl rfl rfl (by omega) (by omega) ?_ ?_ (below_alloc _ _)
      · exact ex_bytes rfl [1] rfl (by omega) (by omega) rfl
      · exact ys_new _ [1] _ _ rfl
    refine lt_cases (n := 10) ?_ ?_
    rotate_left
    · intro hi3
      have r := hi3 _ rfl
      obtain ⟨b21, e21', l21⟩ := h.val 9 (r ⟨9, .data⟩ (by simp) rfl)
      have e21 : a.eval (.tmp 21) = _ := e21'
      obtain ⟨m, hm⟩ : ∃ m : EvM, m = ⟨⟨1, 0, List.replicate L (0 : Int), Pkt.zero⟩, some ⟨b21, 0, none⟩, (List.replicate L (0 : Int)).length, none, 0⟩ := ⟨_, rfl⟩
      refine h.go (i := 10) (v := m.val) (w' := w) rfl rfl rfl (by omega) (by omega) ?_ ?_ (Below.refl _ _)
      · rw [hm]
        refine ex_build rfl (pv := [(0, .int .i64 1), (2, .slice (some ⟨b21, 0, none⟩) (List.replicate L (0 : Int)).length (List.replicate L (0 : Int)).length)]) (by
          first
            | rfl
            | (show [(0, a.eval (.const (.int .i64 1))), (2, a.eval (.tmp 21))] = _; rw [e21]; done)
            | (show [(0, a.eval (.const (.int .i64 1))), (2, a.eval (.tmp 21))] = _; rw [e21]; rfl)) ?_
        kernel_rfl
      · refine ⟨m, rfl, ?_, ?_, ?_⟩
        · rw [hm]
          exact evAt_data _ _ _ _ _ _ _ _ _ (by omega) (by omega) (pktAt_bare _ _ _ _ _ _ _ _ _ (by omega) (by omega) (by omega) (by omega) (by omega) (by omega) (by omega)) l21 (Nat.le_refl _) (by simp; omega) (by intro x hx; have := List.eq_of_mem_replicate hx; omega)
        · rw [hm]
          simp [Ev.ok, Pkt.same, Pkt.zero, Pkt.ok, Pkt.known, Pkt.bare, Pkt.bounded, inB] <;> omega
        · rw [hm]
          exact plain_bad _ _ _ _ (by first | exact Int.le_refl _ | decide) (by simp; omega)
    refine lt_cases (n := 9) ?_ ?_
    rotate_left
    · intro hi3
      have r := hi3 _ rfl
      have e20 : a.eval (.tmp 20) = _ := h.val 8 (r ⟨8, .data⟩ (by simp) rfl)
      rw [show (4096 + n : Int) = (L : Int) by omega] at e20
      refine h.go (i := 9) (v := .slice (some ⟨w.heap.size, 0, none⟩) L L) (w' := w.alloc (.cells (bts (List.replicate L 0)) 5)) rfl rfl rfl (by omega) (by omega) ?_ ?_ (below_alloc _ _)
      · exact ex_make rfl e20 (by omega)
      · exact ys_new _ _ _ _ (by simp)
    refine lt_cases (n := 8) ?_ ?_
    rotate_left
    · intro hi3
      have r := hi3 _ rfl
      have e19 : a.eval (.tmp 19) = _ := h.val 7 (r ⟨7, .data⟩ (by simp) rfl)
      refine h.go (i := 8) (v := .int .i64 (4096 + n)) (w' := w) rfl rfl rfl (by omega) (by omega) ?_ ?_ (Below.refl _ _)
      · exact ex_add rfl rfl e19 (by omega) (by omega)
      · rfl
    refine lt_cases (n := 7) ?_ ?_
    rotate_left
    · intro hi3
      have r := hi3 _ rfl
      refine h.go (i := 7) (v := .int .i64 n) (w' := w) rfl rfl rfl (by omega) (by omega) ?_ ?_ (Below.refl _ _)
      · have e0 : a.eval (.tmp 0) = _ := (h.old 0 (by omega)).trans h0
        exact ex_move rfl e0
      · rfl
    refine lt_cases (n := 6) ?_ ?_
    rotate_left
    · intro hi3
      have r := hi3 _ rfl
      obtain ⟨m, hm⟩ : ∃ m : EvM, m = ⟨⟨2, 0, [], Pkt.zero⟩, none, 0, none, 0⟩ := ⟨_, rfl⟩
      refine h.go (i := 6) (v := m.val) (w' := w) rfl rfl rfl (by omega) (by omega) ?_ ?_ (Below.refl _ _)
      · rw [hm]
        refine ex_build rfl (pv := [(0, .int .i64 2)]) (by
          first
            | rfl
            | (show [(0, a.eval (.const (.int .i64 2)))] = _; rw [hm]; done)
            | (show [(0, a.eval (.const (.int .i64 2)))] = _; rw [hm]; rfl)) ?_
        kernel_rfl
      · refine ⟨m, rfl, ?_, ?_, ?_⟩
        · rw [hm]
          exact evAt_bare _ _ _ _ _ _ (by omega) (by omega) (pktAt_bare _ _ _ _ _ _ _ _ _ (by omega) (by omega) (by omega) (by omega) (by omega) (by omega) (by omega))
        · rw [hm]
          simp [Ev.ok, Pkt.same, Pkt.zero, Pkt.ok, Pkt.known, Pkt.bare, Pkt.bounded, inB] <;> omega
        · rw [hm]
          exact plain_bad _ _ _ _ (by first | exact Int.le_refl _ | decide) (by simp)
    refine lt_cases (n := 5) ?_ ?_
    rotate_left
    · intro hi3
      have r := hi3 _ rfl
      obtain ⟨m, hm⟩ : ∃ m : EvM, m = ⟨⟨1, 0, [], Pkt.zero⟩, none, 0, none, 0⟩ := ⟨_, rfl⟩
      refine h.go (i := 5) (v := m.val) (w' := w) rfl rfl rfl (by omega) (by omega) ?_ ?_ (Below.refl _ _)
      · rw [hm]
        refine ex_build rfl (pv := [(0, .int .i64 1)]) (by
          first
            | rfl
            | (show [(0, a.eval (.const (.int .i64 1)))] = _; rw [hm]; done)
            | (show [(0, a.eval (.const (.int .i64 1)))] = _; rw [hm]; rfl)) ?_
        kernel_rfl
      · refine ⟨m, rfl, ?_, ?_, ?_⟩
        · rw [hm]
          exact evAt_bare _ _ _ _ _ _ (by omega) (by omega) (pktAt_bare _ _ _ _ _ _ _ _ _ (by omega) (by omega) (by omega) (by omega) (by omega) (by omega) (by omega))
        · rw [hm]
          simp [Ev.ok, Pkt.same, Pkt.zero, Pkt.ok, Pkt.known, Pkt.bare, Pkt.bounded, inB] <;> omega
        · rw [hm]
          exact plain_bad _ _ _ _ (by first | exact Int.le_refl _ | decide) (by simp)
    refine lt_cases (n := 4) ?_ ?_
    rotate_left
    · intro hi3
      have r := hi3 _ rfl
      have e15 : a.eval (.tmp 15) = _ := h.val 3 (r ⟨3, .data⟩ (by simp) rfl)
      obtain ⟨m, hm⟩ : ∃ m : EvM, m = ⟨⟨(-n), 0, [], Pkt.zero⟩, none, 0, none, 0⟩ := ⟨_, rfl⟩
      refine h.go (i := 4) (v := m.val) (w' := w) rfl rfl rfl (by omega) (by omega) ?_ ?_ (Below.refl _ _)
      · rw [hm]
        refine ex_build rfl (pv := [(0, .int .i64 (-n))]) (by
          first
            | rfl
            | (show [(0, a.eval (.tmp 15))] = _; rw [e15]; done)
            | (show [(0, a.eval (.tmp 15))] = _; rw [e15]; rfl)) ?_
        kernel_rfl
      · refine ⟨m, rfl, ?_, ?_, ?_⟩
        · rw [hm]
          exact evAt_bare _ _ _ _ _ _ (by omega) (by omega) (pktAt_bare _ _ _ _ _ _ _ _ _ (by omega) (by omega) (by omega) (by omega) (by omega) (by omega) (by omega))
        · rw [hm]
          simp [Ev.ok, Pkt.same, Pkt.zero, Pkt.ok, Pkt.known, Pkt.bare, Pkt.bounded, inB] <;> omega
        · rw [hm]
          exact plain_bad _ _ _ _ (by first | exact Int.le_refl _ | decide) (by simp)
    refine lt_cases (n := 3) ?_ ?_
    rotate_left
    · intro hi3
      have r := hi3 _ rfl
      have e14 : a.eval (.tmp 14) = _ := h.val 2 (r ⟨2, .data⟩ (by simp) rfl)
      refine h.go (i := 3) (v := .int .i64 (-n)) (w' := w) rfl rfl rfl (by omega) (by omega) ?_ ?_ (Below.refl _ _)
      · exact ex_neg rfl e14 (by omega) (by omega)
      · rfl
    refine lt_cases (n := 2) ?_ ?_
    rotate_left
    · intro hi3
      have r := hi3 _ rfl
      refine h.go (i := 2) (v := .int .i64 n) (w' := w) rfl rfl rfl (by omega) (by omega) ?_ ?_ (Below.refl _ _)
      · have e0 : a.eval (.tmp 0) = _ := (h.old 0 (by omega)).trans h0
        exact ex_move rfl e0
      · rfl
    refine lt_cases (n := 1) ?_ ?_
    rotate_left
    · intro hi3
      have r := hi3 _ rfl
      obtain ⟨m, hm⟩ : ∃ m : EvM, m = ⟨⟨9, 0, [], Pkt.zero⟩, none, 0, none, 0⟩ := ⟨_, rfl⟩
      refine h.go (i := 1) (v := m.val) (w' := w) rfl rfl rfl (by omega) (by omega) ?_ ?_ (Below.refl _ _)
      · rw [hm]
        refine ex_build rfl (pv := [(0, .int .i64 9)]) (by
          first
            | rfl
            | (show [(0, a.eval (.const (.int .i64 9)))] = _; rw [hm]; done)
            | (show [(0, a.eval (.const (.int .i64 9)))] = _; rw [hm]; rfl)) ?_
        kernel_rfl
      · refine ⟨m, rfl, ?_, ?_, ?_⟩
        · rw [hm]
          exact evAt_bare _ _ _ _ _ _ (by omega) (by omega) (pktAt_bare _ _ _ _ _ _ _ _ _ (by omega) (by omega) (by omega) (by omega) (by omega) (by omega) (by omega))
        · rw [hm]
          simp [Ev.ok, Pkt.same, Pkt.zero, Pkt.ok, Pkt.known, Pkt.bare, Pkt.bounded, inB] <;> omega
        · rw [hm]
          exact plain_bad _ _ _ _ (by first | exact Int.le_refl _ | decide) (by simp)
    refine lt_cases (n := 0) ?_ ?_
    rotate_left
    · intro hi3
      have r := hi3 _ rfl
      obtain ⟨m, hm⟩ : ∃ m : EvM, m = ⟨⟨0, 0, [], Pkt.zero⟩, none, 0, none, 0⟩ := ⟨_, rfl⟩
      refine h.go (i := 0) (v := m.val) (w' := w) rfl rfl rfl (by omega) (by omega) ?_ ?_ (Below.refl _ _)
      · rw [hm]
        refine ex_build rfl (pv := []) (by
          first
            | rfl
            | (show [] = _; rw [hm]; done)
            | (show [] = _; rw [hm]; rfl)) ?_
        kernel_rfl
      · refine ⟨m, rfl, ?_, ?_, ?_⟩
        · rw [hm]
          exact evAt_bare _ _ _ _ _ _ (by omega) (by omega) (pktAt_bare _ _ _ _ _ _ _ _ _ (by omega) (by omega) (by omega) (by omega) (by omega) (by omega) (by omega))
        · rw [hm]
          simp [Ev.ok, Pkt.same, Pkt.zero, Pkt.ok, Pkt.known, Pkt.bare, Pkt.bounded, inB] <;> omega
        · rw [hm]
          exact plain_bad _ _ _ _ (by first | exact Int.le_refl _ | decide) (by simp)
    intro i hi
    omega
  · intro a w2 hsz hdf hbw hold hval
    obtain ⟨tm, df⟩ := a
    simp only at hsz hdf hold hval
    subst hdf
    obtain ⟨g, ms, f59, hms, hev, hbad⟩ := hval 47 (by omega)
    have f60 := hval 48 (by omega)
    have f61 := hval 49 (by omega)
    have e59 : tm.getD 59 undef = .slice (some ⟨g, 0, none⟩) 21 21 := f59
    have e60 : tm.getD 60 undef = .int .i64 21 := f60
    have e61 : tm.getD 61 undef = .int .i64 0 := f61
    have hs : tm.size = 97 := hsz
    have hform : tm = #[tm.getD 0 undef, tm.getD 1 undef, tm.getD 2 undef, tm.getD 3 undef, tm.getD 4 undef, tm.getD 5 undef, tm.getD 6 undef, tm.getD 7 undef, tm.getD 8 undef, tm.getD 9 undef, tm.getD 10 undef, tm.getD 11 undef, tm.getD 12 undef, tm.getD 13 undef, tm.getD 14 undef, tm.getD 15 undef, tm.getD 16 undef, tm.getD 17 undef, tm.getD 18 undef, tm.getD 19 undef, tm.getD 20 undef, tm.getD 21 undef, tm.getD 22 undef, tm.getD 23 undef, tm.getD 24 undef, tm.getD 25 undef, tm.getD 26 undef, tm.getD 27 undef, tm.getD 28 undef, tm.getD 29 undef, tm.getD 30 undef, tm.getD 31 undef, tm.getD 32 undef, tm.getD 33 undef, tm.getD 34 undef, tm.getD 35 undef, tm.getD 36 undef, tm.getD 37 undef, tm.getD 38 undef, tm.getD 39 undef, tm.getD 40 undef, tm.getD 41 undef, tm.getD 42 undef, tm.getD 43 undef, tm.getD 44 undef, tm.getD 45 undef, tm.getD 46 undef, tm.getD 47 undef, tm.getD 48 undef, tm.getD 49 undef, tm.getD 50 undef, tm.getD 51 undef, tm.getD 52 undef, tm.getD 53 undef, tm.getD 54 undef, tm.getD 55 undef, tm.getD 56 undef, tm.getD 57 undef, tm.getD 58 undef, tm.getD 59 undef, tm.getD 60 undef, tm.getD 61 undef, tm.getD 62 undef, tm.getD 63 undef, tm.getD 64 undef, tm.getD 65 undef, tm.getD 66 undef, tm.getD 67 undef, tm.getD 68 undef, tm.getD 69 undef, tm.getD 70 undef, tm.getD 71 undef, tm.getD 72 undef, tm.getD 73 undef, tm.getD 74 undef, tm.getD 75 undef, tm.getD 76 undef, tm.getD 77 undef, tm.getD 78 undef, tm.getD 79 undef, tm.getD 80 undef, tm.getD 81 undef, tm.getD 82 undef, tm.getD 83 undef, tm.getD 84 undef, tm.getD 85 undef, tm.getD 86 undef, tm.getD 87 undef, tm.getD 88 undef, tm.getD 89 undef, tm.getD 90 undef, tm.getD 91 undef, tm.getD 92 undef, tm.getD 93 undef, tm.getD 94 undef, tm.getD 95 undef, tm.getD 96 undef] := (arr_ext hs).trans rfl
    clear hsz hold hval hs f59 f60 f61
    rw [e59, e60, e61] at hform
    clear e59 e60 e61
    generalize tm.getD 0 undef = y0 at hform
    generalize tm.getD 1 undef = y1 at hform
    generalize tm.getD 2 undef = y2 at hform
    generalize tm.getD 3 undef = y3 at hform
    generalize tm.getD 4 undef = y4 at hform
    generalize tm.getD 5 undef = y5 at hform
    generalize tm.getD 6 undef = y6 at hform
    generalize tm.getD 7 undef = y7 at hform
    generalize tm.getD 8 undef = y8 at hform
    generalize tm.getD 9 undef = y9 at hform
    generalize tm.getD 10 undef = y10 at hform
    generalize tm.getD 11 undef = y11 at hform
    generalize tm.getD 12 undef = y12 at hform
    generalize tm.getD 13 undef = y13 at hform
    generalize tm.getD 14 undef = y14 at hform
    generalize tm.getD 15 undef = y15 at hform
    generalize tm.getD 16 undef = y16 at hform
    generalize tm.getD 17 undef = y17 at hform
    generalize tm.getD 18 undef = y18 at hform
    generalize tm.getD 19 undef = y19 at hform
    generalize tm.getD 20 undef = y20 at hform
    generalize tm.getD 21 undef = y21 at hform
    generalize tm.getD 22 undef = y22 at hform
    generalize tm.getD 23 undef = y23 at hform
    generalize tm.getD 24 undef = y24 at hform
    generalize tm.getD 25 undef = y25 at hform
    generalize tm.getD 26 undef = y26 at hform
    generalize tm.getD 27 undef = y27 at hform
    generalize tm.getD 28 undef = y28 at hform
    generalize tm.getD 29 undef = y29 at hform
    generalize tm.getD 30 undef = y30 at hform
    generalize tm.getD 31 undef = y31 at hform
    generalize tm.getD 32 undef = y32 at hform
    generalize tm.getD 33 undef = y33 at hform
    generalize tm.getD 34 undef = y34 at hform
    generalize tm.getD 35 undef = y35 at hform
    generalize tm.getD 36 undef = y36 at hform
    generalize tm.getD 37 undef = y37 at hform
    generalize tm.getD 38 undef = y38 at hform
    generalize tm.getD 39 undef = y39 at hform
    generalize tm.getD 40 undef = y40 at hform
    generalize tm.getD 41 undef = y41 at hform
    generalize tm.getD 42 undef = y42 at hform
    generalize tm.getD 43 undef = y43 at hform
    generalize tm.getD 44 undef = y44 at hform
    generalize tm.getD 45 undef = y45 at hform
    generalize tm.getD 46 undef = y46 at hform
    generalize tm.getD 47 undef = y47 at hform
    generalize tm.getD 48 undef = y48 at hform
    generalize tm.getD 49 undef = y49 at hform
    generalize tm.getD 50 undef = y50 at hform
    generalize tm.getD 51 undef = y51 at hform
    generalize tm.getD 52 undef = y52 at hform
    generalize tm.getD 53 undef = y53 at hform
    generalize tm.getD 54 undef = y54 at hform
    generalize tm.getD 55 undef = y55 at hform
    generalize tm.getD 56 undef = y56 at hform
    generalize tm.getD 57 undef = y57 at hform
    generalize tm.getD 58 undef = y58 at hform
    generalize tm.getD 62 undef = y62 at hform
    generalize tm.getD 63 undef = y63 at hform
    generalize tm.getD 64 undef = y64 at hform
    generalize tm.getD 65 undef = y65 at hform
    generalize tm.getD 66 undef = y66 at hform
    generalize tm.getD 67 undef = y67 at hform
    generalize tm.getD 68 undef = y68 at hform
    generalize tm.getD 69 undef = y69 at hform
    generalize tm.getD 70 undef = y70 at hform
    generalize tm.getD 71 undef = y71 at hform
    generalize tm.getD 72 undef = y72 at hform
    generalize tm.getD 73 undef = y73 at hform
    generalize tm.getD 74 undef = y74 at hform
    generalize tm.getD 75 undef = y75 at hform
    generalize tm.getD 76 undef = y76 at hform
    generalize tm.getD 77 undef = y77 at hform
    generalize tm.getD 78 undef = y78 at hform
    generalize tm.getD 79 undef = y79 at hform
    generalize tm.getD 80 undef = y80 at hform
    generalize tm.getD 81 undef = y81 at hform
    generalize tm.getD 82 undef = y82 at hform
    generalize tm.getD 83 undef = y83 at hform
    generalize tm.getD 84 undef = y84 at hform
    generalize tm.getD 85 undef = y85 at hform
    generalize tm.getD 86 undef = y86 at hform
    generalize tm.getD 87 undef = y87 at hform
    generalize tm.getD 88 undef = y88 at hform
    generalize tm.getD 89 undef = y89 at hform
    generalize tm.getD 90 undef = y90 at hform
    generalize tm.getD 91 undef = y91 at hform
    generalize tm.getD 92 undef = y92 at hform
    generalize tm.getD 93 undef = y93 at hform
    generalize tm.getD 94 undef = y94 at hform
    generalize tm.getD 95 undef = y95 at hform
    generalize tm.getD 96 undef = y96 at hform
    dsimp only at hform
    subst hform
    have HEV := Lib.hid hev
    have HBAD := Lib.hid hbad
    have HMS := Lib.hid hms
    have HB0 := Lib.hid (hbl.trans (hbw.mono hbl.size))
    clear hev hbad hms hbl hbw hI hq hqe hn1 hL
    have hc := fun W (x : EvM) (h : x.at W) (hb : x.e.ok = false) => checkE_any x.e x.A x.c x.B x.d W h
    have hp := fun W (A : Option Addr) (x : EvM) (h : Evs W A [⟨⟨6, 0, [], Pkt.zero⟩, none, 0, none, 0⟩, x]) (hb : x.e.ok = false) (hl : x.e.plainL.length ≤ 10000) => packE_any [⟨⟨6, 0, [], Pkt.zero⟩, none, 0, none, 0⟩, x] A 2 W h (by simp) (by
      have h9 : packL ([⟨⟨6, 0, [], Pkt.zero⟩, none, 0, none, 0⟩, x].map EvM.e) = [6] ++ x.e.plainL := by
        simp [packL, Ev.plainL, Ev.restL]
      rw [h9]
      simp
      omega)
    go_wp2_with fail
    go_loopw [61] (fun vi wr => ∃ k : Nat, k ≤ 21 ∧ vi = .int .i64 k ∧ Hid (Below w2.heap.size w2 wr)) (fun vi _ => 21 - (intOf vi).toNat)
    case atStart => exact ⟨0, by omega, rfl, Below.refl _ _⟩
    case round =>
      obtain ⟨k, hk, rfl, hbl⟩ := hrel
      by_cases hlt : k < 21
      · have i1 : (k : Int) < 21 := by omega
        have i2 : (0 : Int) ≤ (k : Int) := by omega
        have hx2 := HEV.out.later hbl.out
        have hka : k < ms.length := by rw [HMS.out]; exact hlt
        have hxm : ms.getD k default ∈ ms := by simp [List.getD, hka]
        have xo := hx2.each _ hxm
        obtain ⟨b1, o1, hA, hx3⟩ : ∃ b off, (some ⟨g, 0, none⟩ : Option Addr) = some ⟨b, off, none⟩ ∧ ∀ i, i < ms.length → (ms.getD i default).lies wr b (off + i * 12) := by
          rcases hx2.lie with h | h
          · rw [h] at hka; simp at hka
          · exact h
        injection hA with hA
        injection hA with hA1 hA2
        subst hA1 hA2
        have x3 := hx3 k hka
        have xb := HBAD.out _ hxm
        obtain ⟨x, hx⟩ : ∃ x, ms.getD k default = x := ⟨_, rfl⟩
        rw [hx] at xo x3 xb
        obtain ⟨xb1, xb2⟩ := xb
        have XB1 := Lib.hid xb1
        have XB2 := Lib.hid xb2
        have XO := Lib.hid xo
        clear hx hx2 hx3 hka hxm xo xb1 xb2
        have hab := (Below.refl wr.heap.size wr).alloc (Nat.le_refl _) (.cells x.cs.toArray 28)
        have HV := Lib.hid (EvV.new wr x.e x.A x.c x.B x.d)
        have XO1 := Lib.hid (EvAt.later XO.out hab)
        have HBL := Lib.hid (hbl.out.trans (hab.mono hbl.out.size))
        clear hab hbl XO
        obtain ⟨c0, c1', c2', c3, c4, c5, c6, c7, c8, c9, c10, c11⟩ := x3
        simp only [Nat.zero_add] at c0 c1' c2' c3 c4 c5 c6 c7 c8 c9 c10 c11
        unfold EvM.cs Ev.cs at XO1 HBL
        unfold Ev.cs at HV
        go_wp2_with fail
        obtain ⟨W1, hW1⟩ : ∃ W1, wr.alloc (.cells #[.int .i64 x.e.k, .int .i64 x.e.n, .slice x.A x.e.da.length x.c, .int .i64 x.e.pk.k, .int .i64 x.e.pk.pa, .int .i64 x.e.pk.nu, .int .i64 x.e.pk.ofn, .int .i64 x.e.pk.fr, .slice x.B x.e.pk.da.length x.d, .bool x.e.pk.fin, .int .i64 x.e.pk.se, .int .i64 x.e.pk.li] 28) = W1 := ⟨_, rfl⟩
        have hs1 : wr.heap.size + 1 = W1.heap.size := by rw [← hW1]; simp
        rw [hW1] at HV XO1 HBL ⊢
        obtain ⟨q, hq⟩ : ∃ q, wr.heap.size = q := ⟨_, rfl⟩
        rw [hq] at HV hs1 ⊢
        rw [hs1]
        clear hW1 hs1 c0 c1' c2' c3 c4 c5 c6 c7 c8 c9 c10 c11
        have hat : ∀ m ∈ [(⟨⟨6, 0, [], Pkt.zero⟩, none, 0, none, 0⟩ : EvM), x], m.at W1 := by
          intro m hm
          simp only [List.mem_cons, List.not_mem_nil, or_false] at hm
          rcases hm with rfl | rfl
          · exact evAt_bare _ _ _ _ _ _ (by omega) (by omega) (pktAt_bare _ _ _ _ _ _ _ _ _ (by omega) (by omega) (by omega) (by omega) (by omega) (by omega) (by omega))
          · exact XO1.out
        have hev := Evs.new W1 _ 28 hat
        have hp9 := hp _ _ x hev XB1.out XB2.out
        have hok : okL ([(⟨⟨6, 0, [], Pkt.zero⟩, none, 0, none, 0⟩ : EvM), x].map EvM.e) = false := by simp [okL, XB1.out]
        have hpo : packO ([(⟨⟨6, 0, [], Pkt.zero⟩, none, 0, none, 0⟩ : EvM), x].map EvM.e) = [] := by unfold packO; rw [hok]; rfl
        rw [hok, hpo] at hp9
        simp only [Bool.false_eq_true, if_false, List.length_nil] at hp9
        have hba := below_alloc W1 (.cells (evs [(⟨⟨6, 0, [], Pkt.zero⟩, none, 0, none, 0⟩ : EvM), x]).toArray 28)
        have HV1 := Lib.hid (HV.out.later hba)
        have XO2 := Lib.hid (EvAt.later XO1.out hba)
        have HB1 := Lib.hid (HBL.out.trans (hba.mono HBL.out.size))
        clear hat hev hok hpo hba HV XO1 HBL
        refine hp9.mono ?_
        rintro e w3 ⟨A', c', rfl, _, hb⟩
        have HV2 := Lib.hid (HV1.out.later hb)
        have XO3 := Lib.hid (EvAt.later XO2.out hb)
        have HB2 := Lib.hid (HB1.out.trans (hb.mono HB1.out.size))
        clear hp9 hb HV1 XO2 HB1
        have hvc := HV2.out.cells
        obtain ⟨d0, d1, d2, d3, d4, d5, d6, d7, d8, d9, d10, d11⟩ := hvc
        simp only [Nat.zero_add] at d0 d1 d2 d3 d4 d5 d6 d7 d8 d9 d10 d11
        have hc9 := hc w3 x XO3.out XB1.out
        rw [XB1.out] at hc9
        simp only [Bool.false_eq_true, if_false] at hc9
        go_wp2_with fail
        refine hc9.mono ?_
        rintro e w4 ⟨rfl, hb⟩
        have HB3 := Lib.hid (HB2.out.trans (hb.mono HB2.out.size))
        clear hc9 hb d0 d1 d2 d3 d4 d5 d6 d7 d8 d9 d10 d11
        go_wp2_with fail
        go_roundw
        case rel => exact ⟨k + 1, by omega, by go_num, HB3⟩
        case measure => simp [intOf]; omega
      · have i3 : ¬ (k : Int) < 21 := by omega
        obtain ⟨K, hK⟩ : ∃ K : Nat, K = 4096 := ⟨_, rfl⟩
        have hmk : ∀ w, (Instr.makeSlice 22 (.int .i64 4096) (.int .i64 4096)).run Try.prog w = .ok (.slice (some ⟨w.heap.size, 0, none⟩) K K) (w.alloc (.cells (bts (List.replicate K 0)) 5)) := fun w => by
          have := run_make_row' (P := Try.prog) 22 5 (.int .u8 0) 1 Try.underlying22 info_byte rfl .i64 .i64 K (by omega) (by omega) w
          rw [madeByte] at this
          rw [show (4096 : Int) = (K : Int) by omega, this]
          simp only [bts, List.map_replicate]
        have hok1 : (⟨1, 0, List.replicate K 0, Pkt.zero⟩ : Ev).ok = true := by
          subst hK
          simp [Ev.ok, Pkt.same, Pkt.zero]
        have hok2 : (⟨3, 1048576, [], Pkt.zero⟩ : Ev).ok = true := by simp [Ev.ok, Pkt.same, Pkt.zero]
        have hpz : ∀ w, PktAt w Pkt.zero none 0 := fun w => pktAt_bare _ _ _ _ _ _ _ _ _ (by omega) (by omega) (by omega) (by omega) (by omega) (by omega) (by omega)
        have hc1 := fun W b (h : Rd .u8 W (some ⟨b, 0, none⟩) (List.replicate K 0)) => checkE_any ⟨1, 0, List.replicate K 0, Pkt.zero⟩ (some ⟨b, 0, none⟩) K none 0 W (evAt_data _ _ _ _ _ _ _ _ _ (by omega) (by omega) (hpz W) h (by simp) (by simp; omega) (by intro x hx; have := List.eq_of_mem_replicate hx; omega))
        have hc2 := fun W => checkE_any ⟨3, 1048576, [], Pkt.zero⟩ none 0 none 0 W (evAt_bare _ _ _ _ _ _ (by omega) (by omega) (hpz W))
        rw [hok1] at hc1
        rw [hok2] at hc2
        unfold Ev.val at hc1 hc2
        simp only [if_true, List.length_replicate, List.length_nil, Pkt.zero] at hc1 hc2
        have hba := below_alloc wr (.cells (bts (List.replicate K 0)) 5)
        have hrd := Rd.new wr (List.replicate K 0) 5
        clear hok1 hok2 hpz hK hc hp
        go_wp2_with fail
        refine (hc1 _ _ hrd).mono ?_
        rintro e w3 ⟨rfl, hb⟩
        have HB3 := Lib.hid (hbl.out.trans ((hba.trans (hb.mono hba.size)).mono hbl.out.size))
        clear hc1 hb hba hrd hbl
        go_wp2_with fail
        refine (hc2 _).mono ?_
        rintro e w4 ⟨rfl, hb⟩
        have HB4 := Lib.hid (HB3.out.trans (hb.mono HB3.out.size))
        clear hc2 hb HB3
        go_wp2_with fail
        refine (wakesE_any _).mono ?_
        rintro e w5 ⟨rfl, hb⟩
        have HB5 := Lib.hid (HB4.out.trans (hb.mono HB4.out.size))
        clear hb HB4
        go_wp2_with fail
        go_ret
        exact ⟨rfl, HB0.out.trans (HB5.out.mono HB0.out.size)⟩
end Go.Proofs.Ytcfkioopaplmiaa


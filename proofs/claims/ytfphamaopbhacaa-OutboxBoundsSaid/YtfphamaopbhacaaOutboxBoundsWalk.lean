/-
  The walk of OutboxBounds.
-/
import Derived.Test.YtfphamaopbhacaaOutWakes
import Derived.Test.YtfphamaopbhacaaWithin
import Derived.Deep.LoopGhost
namespace Go.Proofs.Ytfphamaopbhacaa
open Go.RowKit

theorem run_min3 (a b c K : Int) (hK : K = min (min a b) c) (ts : Array TypeId) (t : TypeId) (w : World) : (Builtin.min_ ts t #[.int .i64 a, .int .i64 b, .int .i64 c]).run Try.prog w = .ok (.int .i64 K) w := by
  rw [run_min_int3]
  congr 2
  split <;> split <;> (try split at *) <;> omega
/-- n bytes 0, anew. -/
theorem made_rd (w : World) (n : Nat) : Rd .u8 (w.alloc (.cells (madeCells #[.int .u8 0] n) 5)) (some ⟨w.heap.size, 0, none⟩) (List.replicate n 0) := by
  refine .inr ⟨_, _, rfl, fun i hi => ?_⟩
  rw [List.length_replicate] at hi
  rw [Nat.zero_add, (World.rowIs_made w (.int .u8 0) n 5).cell hi]
  simp [List.getD, hi]

/-- The state of the first loop. -/
structure OB (W wr : World) (k1 S : Nat) (xs : List Int) (v : Value) : Prop where
  out : OutAt wr k1 k1 v ⟨400, xs, false, (S : Int)⟩
  len : xs.length = S
  bel : Below W.heap.size W wr
  ge : W.heap.size ≤ k1

/-- The state behind Close. -/
structure OD (W wr : World) (k1 : Nat) (xs : List Int) (v : Value) : Prop where
  out : OutAt wr k1 k1 v ⟨400, xs, true, 4096⟩
  len : xs.length = 4096
  bel : Below W.heap.size W wr
  ge : W.heap.size ≤ k1
section
variable {W wr w' : World} {k1 : Nat} {xs : List Int} {v : Value}
theorem OD.later (h : OD W wr k1 xs v) (hb : Below wr.heap.size wr w') : OD W w' k1 xs v := ⟨h.out.later hb, h.len, h.bel.trans (hb.mono h.bel.size), h.ge⟩
theorem OD.pl (h : OD W wr k1 xs v) : (Ou.mk 400 xs true 4096).places = 4097 := by rw [Ou.places_shut rfl, h.len]; rfl
theorem OB.write (h : OB W wr k1 4096 xs v) (q : Option Addr) (ys : List Int) (hm : ys.length = 1) (hr : Rd .u8 wr q ys) :
    Calls Try.prog 8 #[.pointer (some ⟨k1, 0, none⟩), .slice q 1 1] wr fun e w' => e = .returned (.int .i64 0) ∧ ∃ v', OB W w' k1 4096 xs v' :=
  (write_any h.out q 1 1 ys hm hr (Nat.le_refl _) (by omega) 0 (by rw [Ou.room_open rfl]; simp only [h.len]; decide)).mono fun _ _ ⟨v', h1, h2, h3⟩ => ⟨h1, v', by
    rw [show (Ou.mk 400 xs false ((4096 : Nat) : Int)).more (ys.take 0) = ⟨400, xs, false, ((4096 : Nat) : Int)⟩ from by simp [Ou.more]] at h2
    exact ⟨h2, h.len, h.bel.trans (h.out.bel h3 h.ge), h.ge⟩⟩
theorem OB.later {S : Nat} (h : OB W wr k1 S xs v) (hb : Below wr.heap.size wr w') : OB W w' k1 S xs v := ⟨h.out.later hb, h.len, h.bel.trans (hb.mono h.bel.size), h.ge⟩
theorem OB.close (h : OB W wr k1 4096 xs v) : Calls Try.prog 11 #[.pointer (some ⟨k1, 0, none⟩)] wr fun e w' => e = .returned (.bool true) ∧ OD W w' k1 xs v :=
  (close_any h.out).mono fun _ _ ⟨h1, h2, h3⟩ => ⟨h1, h2, h.len, h.bel.trans (h.out.bel (sc_p h3) h.ge), h.ge⟩
theorem OD.places (h : OD W wr k1 xs v) : Calls Try.prog 12 #[.pointer (some ⟨k1, 0, none⟩)] wr fun e w' => e = .returned (.int .i64 4097) ∧ wr = w' := by
  have := places_any h.out
  rwa [h.pl] at this
theorem OD.bad (h : OD W wr k1 xs v) (f t : Int) (hb : f < 0 ∨ t < f ∨ 4097 < t) : Calls Try.prog 13 #[.pointer (some ⟨k1, 0, none⟩), .int .i64 f, .int .i64 t] wr fun e w' => ∃ A' c', e = .returned (.tuple #[.slice A' 0 c', .bool false]) ∧ OD W w' k1 xs v ∧ Below wr.heap.size wr w' :=
  (piece_bad h.out f t (by rw [Ou.has, h.pl]; exact decide_eq_false (by omega))).mono fun _ _ ⟨A', c', h1, _, h3⟩ => ⟨A', c', h1, h.later h3, h3⟩
theorem OD.last (h : OD W wr k1 xs v) : Calls Try.prog 13 #[.pointer (some ⟨k1, 0, none⟩), .int .i64 4096, .int .i64 4097] wr fun e w' => ∃ A' c', e = .returned (.tuple #[.slice A' 0 c', .bool true]) ∧ OD W w' k1 xs v := by
  have := piece_ok h.out 4096 4097 (by rw [Ou.has, h.pl]; decide)
  rw [show (Ou.mk 400 xs true 4096).cut 4096 4097 = [] from List.drop_eq_nil_of_le (by have := h.len; simp [List.length_take]; omega), show (Ou.mk 400 xs true 4096).fin 4096 4097 = true from by simp only [Ou.fin, h.len]; decide] at this
  exact this.mono fun _ _ ⟨A', c', h1, _, h3⟩ => ⟨A', c', h1, h.later h3⟩
theorem OD.none_ (h : OD W wr k1 xs v) (n : Nat) (hn : n ≤ 300) : Calls Try.prog 13 #[.pointer (some ⟨k1, 0, none⟩), .int .i64 (n : Int), .int .i64 (n : Int)] wr fun e w' => ∃ A' c', e = .returned (.tuple #[.slice A' 0 c', .bool false]) ∧ OD W w' k1 xs v := by
  have := piece_ok h.out (n : Int) (n : Int) (by rw [Ou.has, h.pl]; exact decide_eq_true (by omega))
  rw [show (Ou.mk 400 xs true 4096).cut (n : Int) (n : Int) = [] from List.drop_eq_nil_of_le (by simp [List.length_take]; omega), show (Ou.mk 400 xs true 4096).fin (n : Int) (n : Int) = false from by simp only [Ou.fin, h.len]; rw [decide_eq_false (by omega : ¬ ((4096 : Nat) : Int) < (n : Int))]; simp] at this
  exact this.mono fun _ _ ⟨A', c', h1, _, h3⟩ => ⟨A', c', h1, h.later h3⟩
theorem OD.open_ (h : OD W wr k1 xs v) (n r : Int) (hr : (if 4096 ≤ n then 4097 else max n 0) = r) : Calls Try.prog 14 #[.pointer (some ⟨k1, 0, none⟩), .int .i64 n] wr fun e w' => e = .returned (.int .i64 r) ∧ wr = w' := by
  have := open_any h.out n
  rwa [show (Ou.mk 400 xs true 4096).till n = r from by unfold Ou.till; rw [h.pl]; simp only [h.len]; exact hr] at this
end

/-- The list of what may not be asked for, cell by cell. -/
def badF (i : Nat) : Value := if i = 0 then .int .i64 (-1) else if i = 1 then .int .i64 5 else if i = 2 then .int .i64 5 else if i = 3 then .int .i64 4 else if i = 4 then .int .i64 0 else .int .i64 4098
theorem bad_row (w : World) : (w.alloc (.cells #[.int .i64 (-1), .int .i64 5, .int .i64 5, .int .i64 4, .int .i64 0, .int .i64 4098, .int .i64 4098, .int .i64 4098] 30)).rowIs w.heap.size 30 8 badF :=
  World.rowIs_alloc w _ _ _ (fun i hi => by
    have : i < 8 := hi
    match i, this with
    | 0, _ | 1, _ | 2, _ | 3, _ | 4, _ | 5, _ | 6, _ | 7, _ => rfl)

set_option maxRecDepth 100000 in
set_option maxHeartbeats 4000000 in
theorem outboxBounds_walk (a0 : Int) (W : World) (_ : (Lit.int .i64 a0).wf = true) :
    Calls Try.prog 3 #[.int .i64 a0] W fun e W' => e = .returned (.bool true) ∧ Below W.heap.size W W' := by
  have hn := newout_any 400 W
  rw [show Ou.new 400 = ⟨400, [], false, 0⟩ from rfl] at hn
  obtain ⟨k1, hk1⟩ : ∃ k, W.heap.size = k := ⟨_, rfl⟩
  rw [hk1] at hn
  have HN := Lib.hid hn
  have HK := Lib.hid hk1
  clear hn hk1
  have hw := fun w => within_any a0 300 w (by decide) (by decide)
  have o0 : 0 ≤ a0 % 300 := Int.emod_nonneg a0 (by decide)
  have o1 : a0 % 300 < 300 := Int.emod_lt_of_pos a0 (by decide)
  obtain ⟨f, hf⟩ : ∃ f, a0 % 300 = f := ⟨_, rfl⟩
  rw [hf] at hw o0 o1
  have HW := Lib.hid hw
  clear hw hf
  obtain ⟨n, hn⟩ : ∃ n : Nat, 1 + f = (n : Int) := ⟨(1 + f).toNat, by omega⟩
  have n0 : 1 ≤ n := by omega
  have n1 : n ≤ 300 := by omega
  obtain ⟨s, hs⟩ : ∃ s : Nat, 300 + (n : Int) = (s : Int) := ⟨300 + n, by omega⟩
  have s0 : 301 ≤ s := by omega
  have s1 : s ≤ 600 := by omega
  have hmk := fun w => run_make_row' (P := Try.prog) 26 5 (.int .u8 0) 1 Try.underlying26 info_byte rfl .i64 .i64 s (by omega) (by omega) w
  go_enter Try.func3, Try.ntmps3
  go_wp2_with fail
  refine HN.out.mono ?_
  rintro e w3 ⟨rfl, h3, b3, z3⟩
  have HST := Lib.hid (show OB W w3 k1 0 [] (.slice none 0 0) from ⟨h3, rfl, by rw [HK.out]; exact b3, by rw [HK.out]; exact Nat.le_refl _⟩)
  clear h3 b3 z3 HN
  go_wp2_with fail
  refine (HW.out _).mono ?_
  rintro e w' ⟨rfl, rfl⟩
  clear HW
  go_wp2_with fail
  go_loopw [4, 5] (fun vs vi wr => ∃ (j S : Nat) (xs : List Int) (v : Value), j ≤ 40 ∧ S = min (j * min s 400) 4096 ∧ vi = .int .i64 (j : Nat) ∧ vs = .int .i64 (S : Nat) ∧ Hid (OB W wr k1 S xs v)) (fun _ vi _ => 40 - (intOf vi).toNat)
  case atStart => exact ⟨0, 0, [], _, by omega, by omega, rfl, rfl, HST⟩
  case round =>
    obtain ⟨j, S, xs, v, hj, hS, rfl, rfl, hst⟩ := hrel
    by_cases hlt : j < 40
    · obtain ⟨q, hq⟩ : ∃ q, min s 400 = q := ⟨_, rfl⟩
      rw [hq] at hS
      have q0 : 301 ≤ q := by omega
      have q1 : q ≤ 400 := by omega
      have q2 : (j : Int) < 40 := by omega
      have q3 : (0 : Int) ≤ (j : Int) := by omega
      have hmul : (j + 1) * q = j * q + q := Nat.succ_mul j q
      obtain ⟨jq, hjq⟩ : ∃ x, j * q = x := ⟨_, rfl⟩
      rw [hjq] at hS hmul
      obtain ⟨k, hk⟩ : ∃ k, min q (4096 - S) = k := ⟨_, rfl⟩
      have S0 : S ≤ 4096 := by omega
      have k400 : k ≤ 400 := by omega
      have hmin := run_min3 (s : Int) 400 (4096 - (S : Int)) (k : Int) (by omega)
      obtain ⟨T, hT⟩ : ∃ T : Nat, (S : Int) + (k : Int) = (T : Int) := ⟨S + k, by omega⟩
      have hT2 : T = min ((j + 1) * q) 4096 := by omega
      have hroom : (k : Int) = min (s : Int) (Ou.mk 400 xs false (S : Int)).room := by
        rw [Ou.room_open rfl]; simp only [hst.out.len]; omega
      have HT2 := Lib.hid hT2
      have HR := Lib.hid hroom
      have HTS := Lib.hid hT
      have HQ := Lib.hid hq
      clear hS hmul hjq hk hT2 hroom hq HST
      go_wp2_with fail
      have hb : Below wr.heap.size wr (wr.alloc (.cells (madeCells #[.int .u8 0] s) 5)) := (Below.refl _ _).alloc (Nat.le_refl _) _
      have hX := hst.out.out.later hb
      have hwr := write_any hX (some ⟨wr.heap.size, 0, none⟩) s s (List.replicate s 0) (by simp) (made_rd wr s) (Nat.le_refl _) (by omega) k HR.out
      have HX := Lib.hid hX
      have HB := Lib.hid (hst.out.bel.trans (hb.mono hst.out.bel.size))
      have HL := Lib.hid hst.out.len
      have HG := Lib.hid hst.out.ge
      have hks : k ≤ s := by have := HR.out; omega
      have HKS := Lib.hid hks
      clear hb hX hst HR hks
      refine hwr.mono ?_
      rintro e w5 ⟨v5, rfl, h5, s5⟩
      obtain ⟨ys, hys⟩ : ∃ ys, xs ++ (List.replicate s (0 : Int)).take k = ys := ⟨_, rfl⟩
      have hyl : ys.length = T := by
        have h1 := HTS.out
        have h2 := HKS.out
        rw [← hys, List.length_append, HL.out, List.length_take, List.length_replicate]
        omega
      rw [show (Ou.mk 400 xs false (S : Int)).more ((List.replicate s (0 : Int)).take k) = ⟨400, ys, false, (S : Int)⟩ from by rw [← hys]; rfl] at h5
      have H5 := Lib.hid h5
      have HB5 := Lib.hid (HB.out.trans (HX.out.bel s5 HG.out))
      have HYL := Lib.hid hyl
      have hak := ack_any h5 (T : Int)
      have hmx : max (S : Int) (T : Int) = (T : Int) := by have := HTS.out; omega
      rw [show (Ou.mk 400 ys false (S : Int)).may (T : Int) = true from by simp [Ou.may, Ou.places, hyl], show (Ou.mk 400 ys false (S : Int)).ack (T : Int) = ⟨400, ys, false, (T : Int)⟩ from by unfold Ou.ack; rw [if_pos (by simp [Ou.places, hyl])]; show (⟨400, ys, false, max (S : Int) (T : Int)⟩ : Ou) = _; rw [hmx]] at hak
      have HAK := Lib.hid hak
      have hT := HTS.out
      clear hwr h5 s5 hys hyl hak hmx HX HB HL
      go_wp2_with fail
      refine HAK.out.mono ?_
      rintro e w6 ⟨rfl, h6, g6⟩
      have HST := Lib.hid (show OB W w6 k1 T ys v5 from ⟨h6, HYL.out, HB5.out.trans (H5.out.bel (sc_p g6) HG.out), HG.out⟩)
      clear h6 g6 H5 HB5 HAK
      go_wp2_with fail
      go_roundw
      case rel => exact ⟨j + 1, T, ys, v5, by omega, by rw [HQ.out]; exact HT2.out, by go_num, rfl, HST⟩
      case measure => simp [intOf]; omega
    · have hj2 : j = 40 := by omega
      have hS2 : S = 4096 := by rw [hS, hj2]; omega
      subst hj2; subst hS2
      have hl := hst.out.len
      have HL := Lib.hid hl
      clear hS hl HST hmk hlt hj
      go_wp2_with fail
      refine (len_any hst.out.out).mono ?_
      rw [show ((Ou.mk 400 xs false ((4096 : Nat) : Int)).xs.length : Int) = 4096 from by simp only [HL.out]; rfl]
      rintro e w' ⟨rfl, rfl⟩
      go_wp2_with fail
      have hb : Below wr.heap.size wr (wr.alloc (.cells (bts [1]) 5)) := (Below.refl _ _).alloc (Nat.le_refl _) _
      refine ((hst.out.later hb).write (some ⟨wr.heap.size, 0, none⟩) [1] rfl (Rd.new wr [1] _)).mono ?_
      rintro e w4 ⟨rfl, v4, h4⟩
      have H4 := Lib.hid h4
      clear h4 hb hst
      go_wp2_with fail
      refine H4.out.close.mono ?_
      rintro e w5 ⟨rfl, h5⟩
      have H5 := Lib.hid h5
      clear h5 H4
      go_wp2_with fail
      refine H5.out.places.mono ?_
      rintro e w' ⟨rfl, rfl⟩
      go_wp2_with fail
      have hrow := bad_row w5
      have hod := H5.out.later ((Below.refl _ _).alloc (Nat.le_refl _) (.cells #[.int .i64 (-1), .int .i64 5, .int .i64 5, .int .i64 4, .int .i64 0, .int .i64 4098, .int .i64 4098, .int .i64 4098] 30))
      obtain ⟨wl, hwl⟩ : ∃ x, w5.alloc (.cells #[.int .i64 (-1), .int .i64 5, .int .i64 5, .int .i64 4, .int .i64 0, .int .i64 4098, .int .i64 4098, .int .i64 4098] 30) = x := ⟨_, rfl⟩
      obtain ⟨p4, hp4⟩ : ∃ x, w5.heap.size = x := ⟨_, rfl⟩
      rw [hwl] at hod hrow ⊢
      rw [hp4] at hrow
      have H6 := Lib.hid hod
      have HP4 := Lib.hid hp4
      have HR6 := Lib.hid hrow
      clear hwl H5 hod hrow
      refine wp_loop_rounds 5 ?_
      have ca := World.rowIs.cell (i := 0) HR6.out (by omega)
      have cb := World.rowIs.cell (i := 1) HR6.out (by omega)
      rw [show badF 0 = .int .i64 (-1) from rfl] at ca
      rw [show badF 1 = .int .i64 5 from rfl] at cb
      have cc : wl.cell? ⟨p4, 0 + 1, none⟩ = some (.int .i64 5) := cb
      rw [rounds_succ]
      go_wp2_with fail
      have hb := (Below.refl wl.heap.size wl).alloc (Nat.le_refl _) (.cells #[.int .i64 (-1), .int .i64 5] 30)
      refine ((H6.out.later hb).bad (-1) 5 (by omega)).mono ?_
      rintro e w0 ⟨A0, d0, rfl, h, hb2⟩
      have H2 := Lib.hid h
      have HR2 := Lib.hid (World.rowIs.of_block HR6.out ((hb2.block p4 (Nat.lt_of_lt_of_le HR6.out.lt hb.size)).trans (hb.block p4 HR6.out.lt)))
      clear h hb hb2 ca cb cc H6 HR6
      have H6 := H2
      have HR6 := HR2
      clear H2 HR2
      go_wp2_with fail
      have ca := World.rowIs.cell (i := 2) HR6.out (by omega)
      have cb := World.rowIs.cell (i := 3) HR6.out (by omega)
      rw [show badF 2 = .int .i64 5 from rfl] at ca
      rw [show badF 3 = .int .i64 4 from rfl] at cb
      have cc : w0.cell? ⟨p4, 2 + 1, none⟩ = some (.int .i64 4) := cb
      rw [rounds_succ]
      go_wp2_with fail
      have hb := (Below.refl w0.heap.size w0).alloc (Nat.le_refl _) (.cells #[.int .i64 5, .int .i64 4] 30)
      refine ((H6.out.later hb).bad 5 4 (by omega)).mono ?_
      rintro e w1 ⟨A1, d1, rfl, h, hb2⟩
      have H2 := Lib.hid h
      have HR2 := Lib.hid (World.rowIs.of_block HR6.out ((hb2.block p4 (Nat.lt_of_lt_of_le HR6.out.lt hb.size)).trans (hb.block p4 HR6.out.lt)))
      clear h hb hb2 ca cb cc H6 HR6
      have H6 := H2
      have HR6 := HR2
      clear H2 HR2
      go_wp2_with fail
      have ca := World.rowIs.cell (i := 4) HR6.out (by omega)
      have cb := World.rowIs.cell (i := 5) HR6.out (by omega)
      rw [show badF 4 = .int .i64 0 from rfl] at ca
      rw [show badF 5 = .int .i64 4098 from rfl] at cb
      have cc : w1.cell? ⟨p4, 4 + 1, none⟩ = some (.int .i64 4098) := cb
      rw [rounds_succ]
      go_wp2_with fail
      have hb := (Below.refl w1.heap.size w1).alloc (Nat.le_refl _) (.cells #[.int .i64 0, .int .i64 4098] 30)
      refine ((H6.out.later hb).bad 0 4098 (by omega)).mono ?_
      rintro e w2 ⟨A2, d2, rfl, h, hb2⟩
      have H2 := Lib.hid h
      have HR2 := Lib.hid (World.rowIs.of_block HR6.out ((hb2.block p4 (Nat.lt_of_lt_of_le HR6.out.lt hb.size)).trans (hb.block p4 HR6.out.lt)))
      clear h hb hb2 ca cb cc H6 HR6
      have H6 := H2
      have HR6 := HR2
      clear H2 HR2
      go_wp2_with fail
      have ca := World.rowIs.cell (i := 6) HR6.out (by omega)
      have cb := World.rowIs.cell (i := 7) HR6.out (by omega)
      rw [show badF 6 = .int .i64 4098 from rfl] at ca
      rw [show badF 7 = .int .i64 4098 from rfl] at cb
      have cc : w2.cell? ⟨p4, 6 + 1, none⟩ = some (.int .i64 4098) := cb
      rw [rounds_succ]
      go_wp2_with fail
      have hb := (Below.refl w2.heap.size w2).alloc (Nat.le_refl _) (.cells #[.int .i64 4098, .int .i64 4098] 30)
      refine ((H6.out.later hb).bad 4098 4098 (by omega)).mono ?_
      rintro e w3 ⟨A3, d3, rfl, h, hb2⟩
      have H2 := Lib.hid h
      have HR2 := Lib.hid (World.rowIs.of_block HR6.out ((hb2.block p4 (Nat.lt_of_lt_of_le HR6.out.lt hb.size)).trans (hb.block p4 HR6.out.lt)))
      clear h hb hb2 ca cb cc H6 HR6
      have H6 := H2
      have HR6 := HR2
      clear H2 HR2
      go_wp2_with fail
      rw [rounds_succ]
      go_wp2_with fail
      refine H6.out.last.mono ?_
      rintro e w7 ⟨A7, d7, rfl, h7⟩
      have H7 := Lib.hid h7
      clear h7 H6 HR6
      go_wp2_with fail
      refine (H7.out.none_ n n1).mono ?_
      rintro e w8 ⟨A8, d8, rfl, h8⟩
      have H8 := Lib.hid h8
      clear h8 H7
      go_wp2_with fail
      refine (H8.out.open_ 4096 4097 rfl).mono ?_
      rintro e w' ⟨rfl, rfl⟩
      go_wp2_with fail
      refine (H8.out.open_ 4095 4095 rfl).mono ?_
      rintro e w' ⟨rfl, rfl⟩
      go_wp2_with fail
      refine (H8.out.open_ (-(n : Int)) 0 (by rw [if_neg (by omega)]; omega)).mono ?_
      rintro e w' ⟨rfl, rfl⟩
      go_wp2_with fail
      refine (H8.out.open_ (4096 + (n : Int)) 4097 (by rw [if_pos (by omega)])).mono ?_
      rintro e w' ⟨rfl, rfl⟩
      go_wp2_with fail
      refine (wakesO_any _).mono ?_
      rintro e w14 ⟨rfl, hb⟩
      have HB14 := Lib.hid (H8.out.bel.trans (hb.mono H8.out.bel.size))
      clear hb
      go_wp2_with fail
      go_ret
      exact ⟨rfl, HB14.out⟩
end Go.Proofs.Ytfphamaopbhacaa

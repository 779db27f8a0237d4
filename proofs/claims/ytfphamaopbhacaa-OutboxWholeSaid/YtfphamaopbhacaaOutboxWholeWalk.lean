/-
  The walk of OutboxWhole.
-/
import Derived.Test.YtfphamaopbhacaaOutWakes
import Derived.Test.YtfphamaopbhacaaKeep
import Derived.Test.YtfphamaopbhacaaWithin
import Derived.Test.YtfphamaopbhacaaArgT
import Derived.Deep.LoopGhost
import Derived.Deep.DeepCutAuto
namespace Go.Proofs.Ytfphamaopbhacaa
open Go.RowKit

/-- The state of the first loop. -/
structure OW (W wr : World) (k1 : Nat) (buf : Int) (j : Nat) (A : Option Addr) (c : Nat) (xs : List Int) (v : Value) (ak : Int) : Prop where
  out : OutAt wr k1 k1 v ⟨buf, xs, false, ak⟩
  own : Own .u8 5 wr W.heap.size (.slice A xs.length c) xs
  apart : Apart (.slice A xs.length c) (Oft k1 v)
  bel : Below W.heap.size W wr
  len : xs.length ≤ 60 * j
  ge : W.heap.size ≤ k1

theorem OW.turn {W wr w' : World} {k1 : Nat} {buf : Int} {j : Nat} {A : Option Addr} {c : Nat} {xs : List Int} {v : Value} {ak ak' : Int} (h : OW W wr k1 buf j A c xs v ak) (ho : OutAt w' k1 k1 v ⟨buf, xs, false, ak'⟩) (hg : wr.grownBy w' (some k1)) : OW W w' k1 buf j A c xs v ak' :=
  ⟨ho, (keep_own (sc_p hg) h.own h.apart).1, h.apart, h.bel.trans (h.out.bel (sc_p hg) h.ge), h.len, h.ge⟩

section
variable {W wr : World} {k1 : Nat} {buf : Int} {j : Nat} {A : Option Addr} {c : Nat} {xs : List Int} {v : Value} {ak : Int}
theorem OW.hit (h : OW W wr k1 buf j A c xs v ak) (n : Nat) (hn : xs.length = n) : Calls Try.prog 9 #[.pointer (some ⟨k1, 0, none⟩), .int .i64 (n : Int)] wr fun e w' => e = .returned (.bool true) ∧ ∃ ak', OW W w' k1 buf j A c xs v ak' := by
  have hak := ack_any h.out (n : Int)
  rw [show (Ou.mk buf xs false ak).may (n : Int) = true from by simp [Ou.may, Ou.places, hn], show (Ou.mk buf xs false ak).ack (n : Int) = ⟨buf, xs, false, max ak (n : Int)⟩ from by unfold Ou.ack; rw [if_pos (by simp [Ou.places, hn])]] at hak
  exact hak.mono fun _ _ ⟨h1, h2, h3⟩ => ⟨h1, _, h.turn h2 h3⟩
theorem OW.past (h : OW W wr k1 buf j A c xs v ak) (n : Nat) (hn : xs.length = n) : Calls Try.prog 9 #[.pointer (some ⟨k1, 0, none⟩), .int .i64 ((n : Int) + 1)] wr fun e w' => e = .returned (.bool false) ∧ OW W w' k1 buf j A c xs v ak := by
  have hak := ack_any h.out ((n : Int) + 1)
  rw [show (Ou.mk buf xs false ak).may ((n : Int) + 1) = false from by simp [Ou.may, Ou.places, hn]; omega, show (Ou.mk buf xs false ak).ack ((n : Int) + 1) = ⟨buf, xs, false, ak⟩ from by unfold Ou.ack; rw [if_neg (by simp [Ou.places, hn]; omega)]] at hak
  exact hak.mono fun _ _ ⟨h1, h2, h3⟩ => ⟨h1, h.turn h2 h3⟩
theorem OW.acked (h : OW W wr k1 buf j A c xs v ak) (n : Nat) (hn : xs.length = n) : ∃ r : Int, Calls Try.prog 20 #[.pointer (some ⟨k1, 0, none⟩)] wr (fun e w' => e = .returned (.int .i64 r) ∧ wr = w') ∧ 0 ≤ r ∧ r ≤ n ∧ (n : Int) - r ≤ buf := by
  have s2 := h.out.ok.w
  have s3 := h.out.ok.a1
  have s4 := h.out.ok.a2
  rw [Ou.places_open rfl] at s4
  simp only [hn] at s2 s3 s4
  exact ⟨ak, acked_any h.out, s3, s4, s2⟩
end

/-- The state behind Close. -/
structure OC (W wr : World) (k1 : Nat) (buf : Int) (A : Option Addr) (c : Nat) (xs : List Int) (v : Value) (ak : Int) : Prop where
  out : OutAt wr k1 k1 v ⟨buf, xs, true, ak⟩
  own : Own .u8 5 wr W.heap.size (.slice A xs.length c) xs
  apart : Apart (.slice A xs.length c) (Oft k1 v)
  bel : Below W.heap.size W wr
  ge : W.heap.size ≤ k1
section
variable {W wr w' : World} {k1 : Nat} {buf : Int} {j : Nat} {A : Option Addr} {c : Nat} {xs : List Int} {v v' : Value} {ak ak' : Int}
theorem OC.step (h : OC W wr k1 buf A c xs v ak) (ho : OutAt w' k1 k1 v' ⟨buf, xs, true, ak'⟩) (hs : SC wr w' (Oft k1 v) (Oft k1 v')) : OC W w' k1 buf A c xs v' ak' :=
  ⟨ho, (keep_own hs h.own h.apart).1, (keep_own hs h.own h.apart).2, h.bel.trans (h.out.bel hs h.ge), h.ge⟩
theorem OC.later (h : OC W wr k1 buf A c xs v ak) (hb : Below wr.heap.size wr w') : OC W w' k1 buf A c xs v ak :=
  ⟨h.out.later hb, h.own.later hb, h.apart, h.bel.trans (hb.mono h.bel.size), h.ge⟩
theorem OC.drewN (h : OC W wr k1 buf A c xs v ak) (n : Nat) : OC W (wr.drewN n) k1 buf A c xs v ak := h.later ⟨rfl, rfl, rfl, Nat.le_refl _, fun _ _ => rfl⟩
theorem OW.close (h : OW W wr k1 buf j A c xs v ak) : Calls Try.prog 11 #[.pointer (some ⟨k1, 0, none⟩)] wr fun e w' => e = .returned (.bool true) ∧ OC W w' k1 buf A c xs v ak :=
  (close_any h.out).mono fun _ _ ⟨h1, h2, h3⟩ => ⟨h1, h2, (keep_own (sc_p h3) h.own h.apart).1, h.apart, h.bel.trans (h.out.bel (sc_p h3) h.ge), h.ge⟩
theorem OC.close (h : OC W wr k1 buf A c xs v ak) : Calls Try.prog 11 #[.pointer (some ⟨k1, 0, none⟩)] wr fun e w' => e = .returned (.bool false) ∧ OC W w' k1 buf A c xs v ak :=
  (close_any h.out).mono fun _ _ ⟨h1, h2, h3⟩ => ⟨h1, h.step h2 (sc_p h3)⟩
theorem OC.write (h : OC W wr k1 buf A c xs v ak) (q : Option Addr) (m d : Nat) (ys : List Int) (hm : ys.length = m) (hr : Rd .u8 wr q ys) (hle : m ≤ d) (h2 : m ≤ 9223372036854775807) :
    Calls Try.prog 8 #[.pointer (some ⟨k1, 0, none⟩), .slice q m d] wr fun e w' => e = .returned (.int .i64 0) ∧ ∃ v', OC W w' k1 buf A c xs v' ak :=
  (write_any h.out q m d ys hm hr hle h2 0 (by rw [Ou.room_shut rfl]; omega)).mono fun _ _ ⟨v', h1, h2, h3⟩ => ⟨h1, v', h.step (by rwa [show (Ou.mk buf xs true ak).more (ys.take 0) = ⟨buf, xs, true, ak⟩ from by simp [Ou.more]] at h2) h3⟩
theorem OC.places (h : OC W wr k1 buf A c xs v ak) (n : Nat) (hn : xs.length = n) : Calls Try.prog 12 #[.pointer (some ⟨k1, 0, none⟩)] wr fun e w' => e = .returned (.int .i64 ((n : Int) + 1)) ∧ wr = w' := by
  have := places_any h.out
  rwa [Ou.places_shut rfl, hn] at this
theorem OC.ack (h : OC W wr k1 buf A c xs v ak) (m : Int) (r : Int) (hm : 0 ≤ m ∧ m ≤ (xs.length : Int) + 1) (hr : max ak m = r) : Calls Try.prog 9 #[.pointer (some ⟨k1, 0, none⟩), .int .i64 m] wr fun e w' => e = .returned (.bool true) ∧ OC W w' k1 buf A c xs v r := by
  have hp : (Ou.mk buf xs true ak).places = (xs.length : Int) + 1 := Ou.places_shut rfl
  have hak := ack_any h.out m
  rw [show (Ou.mk buf xs true ak).may m = true from by rw [Ou.may, hp]; exact decide_eq_true hm, show (Ou.mk buf xs true ak).ack m = ⟨buf, xs, true, r⟩ from by unfold Ou.ack; rw [if_pos (by rw [hp]; exact hm), ← hr]] at hak
  exact hak.mono fun _ _ ⟨h1, h2, h3⟩ => ⟨h1, h.step h2 (sc_p h3)⟩
theorem OC.nack (h : OC W wr k1 buf A c xs v ak) (m : Int) (hm : ¬ (0 ≤ m ∧ m ≤ (xs.length : Int) + 1)) : Calls Try.prog 9 #[.pointer (some ⟨k1, 0, none⟩), .int .i64 m] wr fun e w' => e = .returned (.bool false) ∧ OC W w' k1 buf A c xs v ak := by
  have hp : (Ou.mk buf xs true ak).places = (xs.length : Int) + 1 := Ou.places_shut rfl
  have hak := ack_any h.out m
  rw [show (Ou.mk buf xs true ak).may m = false from by rw [Ou.may, hp]; exact decide_eq_false hm, show (Ou.mk buf xs true ak).ack m = ⟨buf, xs, true, ak⟩ from by unfold Ou.ack; rw [if_neg (by rw [hp]; exact hm)]] at hak
  exact hak.mono fun _ _ ⟨h1, h2, h3⟩ => ⟨h1, h.step h2 (sc_p h3)⟩
theorem OC.piece (h : OC W wr k1 buf A c xs v ak) (f t : Nat) (h1 : f ≤ t) (h2 : t ≤ xs.length + 1) (hf : f ≤ xs.length) (b : Bool) (hb : decide (xs.length < t) = b) (ys : List Int) (hy : (xs.take t).drop f = ys) :
    Calls Try.prog 13 #[.pointer (some ⟨k1, 0, none⟩), .int .i64 (f : Int), .int .i64 (t : Int)] wr (PieceEnd wr ys b) := by
  have hp : (Ou.mk buf xs true ak).places = (xs.length : Int) + 1 := Ou.places_shut rfl
  have := piece_ok h.out (f : Int) (t : Int) (by rw [Ou.has, hp]; exact decide_eq_true (by omega))
  rwa [show (Ou.mk buf xs true ak).cut (f : Int) (t : Int) = ys from by rw [← hy]; simp [Ou.cut], show (Ou.mk buf xs true ak).fin (f : Int) (t : Int) = b from by
    rw [← hb]; simp only [Ou.fin]; rw [decide_eq_true (by omega : (f : Int) ≤ (xs.length : Int)), Bool.true_and]; exact decide_eq_decide.2 (by omega)] at this
end

set_option maxRecDepth 100000 in
set_option maxHeartbeats 8000000 in
theorem outboxWhole_walk (a0 : Int) (A1 : Option Addr) (n1 c1 : Nat) (Ra : Nat → Option Addr) (Rn Rc : Nat → Nat) (Rz : Nat → List Int) (a2 : Int) (W : World)
    (_ : (Lit.int .i64 a0).wf = true) (h1 : ArgT W A1 n1 c1 Ra Rn Rc Rz) (_ : (Lit.int .i64 a2).wf = true) :
    Calls Try.prog 5 #[.int .i64 a0, .slice A1 n1 c1, .int .i64 a2] W fun e W' => e = .returned (.bool true) ∧ Below W.heap.size W W' := by
  have r1 := h1.reach
  have l1 := h1.le
  have H1 := Lib.hid h1
  have hw := within_any a0 60 W (by decide) (by decide)
  have o0 : 0 ≤ a0 % 60 := Int.emod_nonneg a0 (by decide)
  have o1 : a0 % 60 < 60 := Int.emod_lt_of_pos a0 (by decide)
  obtain ⟨f, hf⟩ : ∃ f, a0 % 60 = f := ⟨_, rfl⟩
  rw [hf] at hw o0 o1
  have HW0 := Lib.hid hw
  clear hw hf
  have hw := within_any a2 9 W (by decide) (by decide)
  have p0 : 0 ≤ a2 % 9 := Int.emod_nonneg a2 (by decide)
  have p1 : a2 % 9 < 9 := Int.emod_lt_of_pos a2 (by decide)
  obtain ⟨g, hg⟩ : ∃ g, a2 % 9 = g := ⟨_, rfl⟩
  rw [hg] at hw p0 p1
  have HW2 := Lib.hid hw
  clear hw hg h1
  have hn := newout_any (1 + f) W
  rw [show Ou.new (1 + f) = ⟨1 + f, [], false, 0⟩ from by unfold Ou.new; congr 1; omega] at hn
  obtain ⟨k1, hk1⟩ : ∃ k, W.heap.size = k := ⟨_, rfl⟩
  rw [hk1] at hn
  have HN := Lib.hid hn
  have HK := Lib.hid hk1
  clear hn hk1
  go_enter Try.func5, Try.ntmps5
  go_wp2_with fail
  refine HW0.out.mono ?_
  rintro e w' ⟨rfl, rfl⟩
  go_wp2_with fail
  refine HW2.out.mono ?_
  rintro e w' ⟨rfl, rfl⟩
  go_wp2_with fail
  refine HN.out.mono ?_
  rintro e w3 ⟨rfl, h3, b3, z3⟩
  obtain ⟨buf, hbuf⟩ : ∃ b, 1 + f = b := ⟨_, rfl⟩
  obtain ⟨ch, hch⟩ : ∃ c : Nat, 1 + g = (c : Int) := ⟨(1 + g).toNat, by omega⟩
  have hst : OW W w3 k1 buf 0 none 0 [] (.slice none 0 0) 0 := ⟨by rw [← hbuf]; exact h3, Own.nil _ _ _ _, apart_nil _, by rw [HK.out]; exact b3, by simp, by rw [HK.out]; exact Nat.le_refl _⟩
  have HST := Lib.hid hst
  have u1 : 1 ≤ buf := by omega
  have u2 : buf ≤ 60 := by omega
  have u3 : 1 ≤ ch := by omega
  have u4 : ch ≤ 9 := by omega
  clear h3 b3 z3 hst HN HW0 HW2
  go_wp2_with fail
  go_loopw [8, 9] (fun va vi wr => ∃ (j : Nat) (A : Option Addr) (c : Nat) (xs : List Int) (v : Value) (ak : Int), j ≤ n1 ∧ j ≤ 8 ∧ vi = .int .i64 (j : Nat) ∧ va = .slice A xs.length c ∧ Hid (OW W wr k1 buf j A c xs v ak)) (fun _ vi _ => 8 - (intOf vi).toNat)
  case atStart => exact ⟨0, none, 0, [], _, 0, by omega, by omega, rfl, rfl, HST⟩
  case round =>
    obtain ⟨j, A, c, xs, v, ak, hj, hj8, rfl, rfl, hst⟩ := hrel
    have s1 := hst.out.len
    have s2 := hst.out.out.ok.w
    have s3 := hst.out.out.ok.a1
    have s4 := hst.out.out.ok.a2
    rw [Ou.places_open rfl] at s4
    simp only at s2 s3 s4
    obtain ⟨n, hn⟩ : ∃ n, xs.length = n := ⟨_, rfl⟩
    have HN := Lib.hid hn
    rw [hn] at s1 s2 s4 ⊢
    clear hn
    by_cases hlt : j < n1 ∧ j < 8
    · obtain ⟨hlt1, hlt2⟩ := hlt
      have q1 : decide ((j : Int) < (n1 : Int)) = true := by simp; omega
      have q2 : decide (j < n1) = true := by simp; omega
      have q3 : (j : Int) < 8 := by omega
      have q4 : (0 : Int) ≤ (j : Int) := by omega
      have HA := Lib.hid (H1.out.later hst.out.bel)
      obtain ⟨b2, o2, rfl, hc2⟩ := HA.out.cell (by omega)
      have k2 := hc2 j hlt1
      obtain ⟨y1, y2, y3, y4, _⟩ := HA.out.row j hlt1
      have y3' : Rc j ≤ 9223372036854775807 := by unfold maxLen at y3; omega
      have HC := Lib.hid (Go.Proofs.Ytfphamaopbhacaa.cut_any (Ra j) (Rn j) (Rc j) 70 (Rz j) wr y1 y2 y4 (by omega) (by omega) (by omega))
      rw [show (70 : Int).toNat = 70 from rfl] at HC
      obtain ⟨bs, hbs⟩ : ∃ bs, (Rz j).take 70 = bs := ⟨_, rfl⟩
      have hbl : bs.length ≤ 70 := by rw [← hbs]; exact List.length_take_le _ _
      rw [hbs] at HC
      obtain ⟨m, hm⟩ : ∃ m, bs.length = m := ⟨_, rfl⟩
      have HM := Lib.hid hm
      rw [hm] at HC hbl
      obtain ⟨ra, hra⟩ : ∃ x, Ra j = x := ⟨_, rfl⟩
      obtain ⟨rn, hrn⟩ : ∃ x, Rn j = x := ⟨_, rfl⟩
      obtain ⟨rc, hrc⟩ : ∃ x, Rc j = x := ⟨_, rfl⟩
      rw [hra, hrn, hrc] at HC k2
      clear hc2 y1 y2 y3 y3' y4 hbs hm hra hrn hrc HA
      go_wp2_with fail
      refine HC.out.mono ?_
      rintro e w4 ⟨A4, c4, rfl, ho, hb⟩
      have HX := Lib.hid (hst.out.out.later hb)
      have HOW := Lib.hid (hst.out.own.later hb)
      have HBS := Lib.hid ho
      have HB := Lib.hid (hst.out.bel.trans (hb.mono hst.out.bel.size))
      have HAP := Lib.hid hst.out.apart
      have HGE := Lib.hid hst.out.ge
      have HAB := Lib.hid (show Apart (.slice A4 m c4) (Oft k1 v) from fun g hg e => by
        have h8 := (ho.lt g hg).1
        have h9 := (hst.out.out.foot_lt g e).2
        omega)
      rw [HN.out] at HOW HAP
      clear ho hb HC hst
      obtain ⟨k, hk⟩ : ∃ k : Nat, (k : Int) = min (m : Int) (Ou.mk buf xs false ak).room := ⟨(min (m : Int) (Ou.mk buf xs false ak).room).toNat, by have := Ou.room_range HX.out.ok; omega⟩
      have hwr := write_any HX.out A4 m c4 bs HM.out HBS.out.rd HBS.out.cap (by omega) k hk
      rw [Ou.room_open rfl] at hk
      simp only [HN.out] at hk
      have hk2 : (k : Int) = min (m : Int) (buf - ((n : Int) - ak)) := by omega
      have hkm : k ≤ m := by omega
      have hkb : (k : Int) ≤ buf - ((n : Int) - ak) := by omega
      have hmi := run_min2 (m : Int) (buf - ((n : Int) - ak)) (k : Int) hk2
      have HWR := Lib.hid hwr
      clear hwr hk hk2
      go_wp2_with fail
      refine HWR.out.mono ?_
      rintro e w5 ⟨v5, rfl, h5, s5⟩
      obtain ⟨ys, hys⟩ : ∃ ys, bs.take k = ys := ⟨_, rfl⟩
      have hyl : ys.length = k := by rw [← hys, List.length_take, HM.out]; omega
      rw [show (Ou.mk buf xs false ak).more (bs.take k) = ⟨buf, xs ++ ys, false, ak⟩ from by rw [hys]; rfl] at h5
      have hk5 := keep_own s5 HOW.out HAP.out
      have hb5 := (keep_own s5 HBS.out HAB.out).1
      have hyr := hb5.rd.take k
      rw [hys] at hyr
      have hsl := slice_h A4 m c4 k (by have := HBS.out.cap; omega)
      have e1 : n + k ≤ maxLen := by unfold maxLen; omega
      have e2 : (n + k) * 1 ≤ 140737488355328 := by omega
      have e3 : W.heap.size ≤ w5.heap.size := by have := hb5.lt; have := HB.out.size; have := s5.trn.size; omega
      have H5 := Lib.hid h5
      have HB5 := Lib.hid (HB.out.trans ((HX.out).bel s5 HGE.out))
      have HO5 := Lib.hid hk5.1
      have HA5 := Lib.hid hk5.2
      have HYR := Lib.hid hyr
      have HYL := Lib.hid hyl
      have E1 := Lib.hid e1
      have E2 := Lib.hid e2
      have E3 := Lib.hid e3
      have e4 : Hid (∀ A' c' w', Own .u8 5 w' W.heap.size (.slice A' (n + k) c') (xs ++ ys) → w5.grownBy w' (Value.slice A n c).ownBlock → (∀ g, (Value.slice A' (n + k) c').ownBlock = some g → (Value.slice A n c).ownBlock = some g ∨ w5.heap.size ≤ g) →
          OutAt w' k1 k1 v5 ⟨buf, xs ++ ys, false, ak⟩ ∧ Apart (.slice A' (n + k) c') (Oft k1 v5) ∧ Below W.heap.size W w') := Lib.hid (fun A' c' w' ho hg hb => by
        have ht : Trn w5 w' (fun k => (Value.slice A n c).ownBlock = some k) := Trn.of_grown hg
        refine ⟨h5.kept ht (fun k hk e => HA5.out k e hk), fun g hg' e => ?_, HB5.out.grown hg e3 (fun g e => (HO5.out.lt g e).1)⟩
        rcases hb g hg' with h8 | h8
        · exact HA5.out g h8 e
        · have := (h5.foot_lt g e).2; omega)
      clear h5 s5 hk5 hb5 hyr hys hyl e1 e2 e3 HX HOW HAP HAB HB HBS HWR
      go_wp2_with fail
      refine (acked_any H5.out).mono ?_
      rintro e w' ⟨rfl, rfl⟩
      go_wp2_with (at_builtin; refine wpList_append_f _ .u8 rfl (.tmp 57) (.tmp 60) 26 rfl 5 (.int .u8 0) 1 Try.underlying26 info_byte rfl W.heap.size (.slice A n c) xs n HN.out rfl HO5.out A4 k c4 rfl ys HYL.out HYR.out E1.out E2.out E3.out ?_; intro A6 c6 w6 ho hg hb; have H6 := Lib.hid (e4.out _ _ _ ho hg hb); have HO6 := Lib.hid ho; clear ho hg hb)
      all_goals
        have HLEN := Lib.hid (show (xs ++ ys).length = n + k by rw [List.length_append, HN.out, HYL.out])
        have HOW := Lib.hid (show OW W w6 k1 buf (j + 1) A6 c6 (xs ++ ys) v5 ak from ⟨H6.out.1, by rw [HLEN.out]; exact HO6.out, by rw [HLEN.out]; exact H6.out.2.1, H6.out.2.2, by rw [HLEN.out]; omega, HGE.out⟩)
        obtain ⟨zs, hzs⟩ : ∃ zs, xs ++ ys = zs := ⟨_, rfl⟩
        rw [hzs] at HLEN HOW
        obtain ⟨N, hNk⟩ : ∃ N : Nat, n + k = N := ⟨_, rfl⟩
        have hNi : (n : Int) + (k : Int) = (N : Int) := by omega
        have hN1 : N ≤ 480 := by omega
        rw [hNk] at HLEN ⊢
        rw [hNi]
        have HNK := Lib.hid hNk
        clear hzs hNk hNi H6 HO6 H5 HB5 HO5 HA5 HYR HYL E1 E2 E3 e4 HN HST hsl hmi s1 s2 s3 s4
      refine (HOW.out.hit N HLEN.out).mono ?_
      rintro e w7 ⟨rfl, ak7, h7⟩
      clear HOW
      have HOW := Lib.hid h7
      clear h7
      go_wp2_with fail
      all_goals
        refine (HOW.out.past N HLEN.out).mono ?_
        rintro e w8 ⟨rfl, h8⟩
        clear HOW
        have HOW := Lib.hid h8
        obtain ⟨r, hr, t1, t2, t3⟩ := h8.acked N HLEN.out
        have HR := Lib.hid hr
        have t4 : ¬ (N : Int) - r > buf := by omega
        clear h8 hr
        go_wp2_with fail
        refine HR.out.mono ?_
        rintro e w' ⟨rfl, rfl⟩
        clear HR
        go_wp2_with fail
        go_roundw
        case rel => exact ⟨j + 1, _, _, _, _, _, by omega, by omega, by go_num, by rw [HLEN.out], HOW⟩
        case measure => simp [intOf]; omega
    · have hq : ¬ (j : Int) < (n1 : Int) ∨ ((j : Int) < (n1 : Int) ∧ ¬ (j : Int) < 8) := by omega
      have hN1 : n ≤ 480 := by omega
      clear hlt s1 s2 s3 s4 HST
      rcases hq with hq | ⟨hq, hq2⟩
      all_goals
        go_wp2_with fail
        refine hst.out.close.mono ?_
        rintro e w4 ⟨rfl, h4⟩
        have H4 := Lib.hid h4
        clear h4 hst
        go_wp2_with fail
        refine H4.out.close.mono ?_
        rintro e w5 ⟨rfl, h5⟩
        have H5 := Lib.hid h5
        clear h5 H4
        go_wp2_with fail
        refine ((H5.out.later ((Below.refl _ _).alloc (Nat.le_refl _) (.cells (bts [1]) 5))).write (some ⟨w5.heap.size, 0, none⟩) 1 1 [1] rfl (Rd.new w5 [1] _) (Nat.le_refl _) (by omega)).mono ?_
        rintro e w6 ⟨rfl, v6, h6⟩
        have H6 := Lib.hid h6
        clear h6 H5
        go_wp2_with fail
        refine (H6.out.places n HN.out).mono ?_
        rintro e w' ⟨rfl, rfl⟩
        go_wp2_with fail
        obtain ⟨Z, hZ⟩ : ∃ Z, w6.heap.size = Z := ⟨_, rfl⟩
        have HZ := Lib.hid hZ
        have hz1 := H6.out.bel.size
        rw [hZ] at hz1
        have HZ1 := Lib.hid hz1
        clear hZ hz1
        go_loopw [12, 13] (fun vg vi wr => ∃ (a : Nat) (G : Option Addr) (gl gc : Nat), a ≤ n + 9 ∧ vi = .int .i64 (a : Nat) ∧ vg = .slice G gl gc ∧ Hid ((xs.take a).length = gl) ∧ Hid (Own .u8 5 wr Z (.slice G gl gc) (xs.take a)) ∧ Hid (Below Z w6 wr)) (fun _ vi _ => n + 1 - (intOf vi).toNat)
        case atStart => exact ⟨0, none, 0, 0, by omega, rfl, rfl, Lib.hid rfl, Lib.hid (Own.nil _ _ _ _), Lib.hid (Below.refl _ _)⟩
        case round =>
          obtain ⟨a, G, gl, gc, ha, rfl, rfl, hgl, hgo, hgb⟩ := hrel
          have HC := Lib.hid (H6.out.later (by rw [HZ.out]; exact hgb.out))
          by_cases hlt : a < n + 1
          · have q1 : (a : Int) < (n : Int) + 1 := by omega
            obtain ⟨T, hT⟩ : ∃ T, min (a + ch) (n + 1) = T := ⟨_, rfl⟩
            have m1 := run_min2 ((a : Int) + (ch : Int)) ((n : Int) + 1) (T : Int) (by omega)
            obtain ⟨M, hM⟩ : ∃ M, min T n = M := ⟨_, rfl⟩
            have m2 := run_min2 (T : Int) (n : Int) (M : Int) (by omega)
            obtain ⟨ys, hys⟩ : ∃ ys, (xs.take T).drop a = ys := ⟨_, rfl⟩
            have hyl : ys.length = M - a := by rw [← hys, List.length_drop, List.length_take, HN.out]; omega
            have hcat : xs.take a ++ ys = xs.take (a + ch) := by
              rw [← hys, show xs.take a = (xs.take T).take a from by rw [List.take_take]; congr 1; omega, List.take_append_drop]
              by_cases e : a + ch ≤ n + 1
              · congr 1; omega
              · rw [List.take_of_length_le (by rw [HN.out]; omega), List.take_of_length_le (by rw [HN.out]; omega)]
            have t1 : (M : Int) - (a : Int) = ((M - a : Nat) : Int) := by omega
            have tT : T ≤ n + 1 := by omega
            have tM : M ≤ n := by omega
            have taT : a ≤ T := by omega
            have hp := fun (b : Bool) (hb : decide (xs.length < T) = b) => HC.out.piece a T taT (by rw [HN.out]; exact tT) (by rw [HN.out]; omega) b hb ys hys
            have hE : ∃ b : Bool, decide (xs.length < T) = b ∧ ((T : Int) == (n : Int) + 1) = b := ⟨_, rfl, by rw [HN.out]; by_cases h : n < T <;> simp [h] <;> omega⟩
            obtain ⟨b, hb, hE⟩ := hE
            have HP := Lib.hid (hp b hb)
            have HYL := Lib.hid hyl
            have HCAT := Lib.hid hcat
            have e1 : gl + (M - a) ≤ maxLen := by have := hgl.out; rw [List.length_take, HN.out] at this; unfold maxLen; omega
            have e2 : (gl + (M - a)) * 1 ≤ 140737488355328 := by have := hgl.out; rw [List.length_take, HN.out] at this; omega
            have E1 := Lib.hid e1
            have E2 := Lib.hid e2
            have E3 := Lib.hid (show (xs.take (a + ch)).length = gl + (M - a) by rw [← hcat, List.length_append, hgl.out, hyl])
            have E4 := Lib.hid (show Z ≤ wr.heap.size by have := hgb.out.size; rw [HZ.out] at this; exact this)
            have ha9 : a + ch ≤ n + 9 := by omega
            clear hT hM hys hyl hcat hp hb e1 e2
            cases b
            all_goals
              go_wp2_with fail
              refine HP.out.mono ?_
              rintro e w8 ⟨A8, c8, rfl, ho, hb⟩
              rw [HYL.out] at ho ⊢
              have HO8 := Lib.hid ho
              have HG8 := Lib.hid (hgo.out.later hb)
              have HB8 := Lib.hid (hgb.out.trans (hb.mono E4.out))
              have E5 := Lib.hid (show Z ≤ w8.heap.size from Nat.le_trans E4.out hb.size)
              have e6 : Hid (∀ w', w8.grownBy w' (Value.slice G gl gc).ownBlock → Below Z w6 w') := Lib.hid (fun w' hg => HB8.out.grown hg E5.out (fun k e => (HG8.out.lt k e).1))
              clear ho hb HP hgo hgb
              go_wp2_with (at_builtin; refine wpList_append_f _ .u8 rfl (.tmp 147) (.tmp 148) 26 rfl 5 (.int .u8 0) 1 Try.underlying26 info_byte rfl Z (.slice G gl gc) (xs.take a) gl hgl.out rfl HG8.out A8 (M - a) c8 rfl ys HYL.out HO8.out.rd E1.out E2.out E5.out ?_; intro A9 c9 w9 ho hg hb; have HO9 := Lib.hid ho; have HB9 := Lib.hid (e6.out _ hg); clear ho hg hb)
              go_roundw
              case rel => exact ⟨a + ch, A9, _, c9, ha9, by go_num, rfl, E3, by rw [← HCAT.out]; exact HO9, HB9⟩
              case measure => simp [intOf]; omega
          · have q1 : ¬ (a : Int) < (n : Int) + 1 := by omega
            have hx : xs.take a = xs := List.take_of_length_le (by rw [HN.out]; omega)
            rw [hx] at hgl hgo
            have hk0 := H6.out.out.ok.a1
            have hk1 := H6.out.out.ok.a2
            rw [Ou.places_shut rfl] at hk1
            simp only [HN.out] at hk0 hk1
            have M1 := Lib.hid (show max ak ((n : Int) + 1) = (n : Int) + 1 by omega)
            have M2 := Lib.hid (show max ((n : Int) + 1) 0 = (n : Int) + 1 by omega)
            have HBW := Lib.hid (HC.out.bel)
            clear hx hk0 hk1 H6 hgb
            go_wp2_with fail
            refine (same_true xs hgl.out HN.out hgo.out.rd HC.out.own.rd (by rw [HN.out]; unfold maxLen; omega)).mono ?_
            rintro e w7 ⟨rfl, kq, rfl⟩
            have HC7 := Lib.hid (HC.out.drewN kq)
            clear HC hgo
            go_wp2_with fail
            have hall := all_any HC7.out.out
            rw [show (Ou.mk buf xs true ak).xs = xs from rfl, HN.out] at hall
            refine hall.mono ?_
            rintro e w8 ⟨A8, c8, rfl, ho, hb⟩
            have HY := Lib.hid ho
            have HC8 := Lib.hid (HC7.out.later hb)
            clear ho hb hall HC7
            go_wp2_with fail
            refine (same_true xs HN.out HN.out HY.out.rd (by have := HC8.out.own; rw [HN.out] at this; exact this.rd) (by rw [HN.out]; unfold maxLen; omega)).mono ?_
            rintro e w9 ⟨rfl, kr, rfl⟩
            have HC9 := Lib.hid (HC8.out.drewN kr)
            clear HY HC8
            go_wp2_with fail
            refine (HC9.out.ack ((n : Int) + 1) ((n : Int) + 1) (by rw [HN.out]; omega) M1.out).mono ?_
            rintro e w10 ⟨rfl, h10⟩
            have H10 := Lib.hid h10
            clear h10 HC9
            go_wp2_with fail
            refine (acked_any H10.out.out).mono ?_
            rintro e w' ⟨rfl, rfl⟩
            go_wp2_with fail
            refine (H10.out.nack (-1) (by omega)).mono ?_
            rintro e w11 ⟨rfl, h11⟩
            have H11 := Lib.hid h11
            clear h11 H10
            go_wp2_with fail
            refine (H11.out.nack ((n : Int) + 2) (by rw [HN.out]; omega)).mono ?_
            rintro e w12 ⟨rfl, h12⟩
            have H12 := Lib.hid h12
            clear h12 H11
            go_wp2_with fail
            refine (H12.out.ack 0 ((n : Int) + 1) (by omega) M2.out).mono ?_
            rintro e w13 ⟨rfl, h13⟩
            have H13 := Lib.hid h13
            clear h13 H12
            go_wp2_with fail
            refine (acked_any H13.out.out).mono ?_
            rintro e w' ⟨rfl, rfl⟩
            go_wp2_with fail
            refine (wakesO_any _).mono ?_
            rintro e w14 ⟨rfl, hb⟩
            have HB14 := Lib.hid (H13.out.bel.trans (hb.mono H13.out.bel.size))
            clear hb
            go_wp2_with fail
            go_ret
            exact ⟨rfl, HB14.out⟩
end Go.Proofs.Ytfphamaopbhacaa

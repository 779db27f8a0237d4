/-
  The walk of OutboxOwn.
-/
import Derived.Test.YtfphamaopbhacaaOutWakes
import Derived.Test.YtfphamaopbhacaaKeep
namespace Go.Proofs.Ytfphamaopbhacaa
open Go.RowKit

/-- A store into a row that lies elsewhere. -/
theorem trn_set (w : World) (g i : Nat) (x : Value) : Trn w (w.setCell ⟨g, i, none⟩ x) (fun k => k = g) := (Trn.of_grown (setCell_one w g i x)).mono (fun _ _ hk => (Option.some.inj hk).symm)
theorem bel_set {B : Nat} {w : World} {g i : Nat} (x : Value) (h : B ≤ g) : Below B w (w.setCell ⟨g, i, none⟩ x) := (Below.refl _ _).setCell h x

set_option maxRecDepth 100000 in
set_option maxHeartbeats 4000000 in
theorem outboxOwn_walk (a0 : Option Addr) (len0 cap0 : Nat) (z0 : List Int) (W : World) (h0 : ArgI .u8 1 W a0 len0 cap0 z0) :
    Calls Try.prog 4 #[.slice a0 len0 cap0] W fun e W' => e = .returned (.bool true) ∧ Below W.heap.size W W' := by
  have hre0 := h0.reach
  have hle0 := h0.le
  have HC0 := Lib.hid (Go.Proofs.Ytfphamaopbhacaa.cut_any a0 len0 cap0 40 z0 W h0.len h0.le h0.rd (by omega) (by omega) (by omega))
  obtain ⟨xs, hxs⟩ : ∃ xs, z0.take 40 = xs := ⟨_, rfl⟩
  have hl : xs.length ≤ 40 := by rw [← hxs]; exact List.length_take_le _ _
  obtain ⟨L, hL⟩ : ∃ n, xs.length = n := ⟨_, rfl⟩
  rw [hL] at hl
  rw [show (40 : Int).toNat = 40 from rfl, hxs, hL] at HC0
  obtain ⟨ys, hys⟩ : ∃ ys, xs ++ [7] = ys := ⟨_, rfl⟩
  have hyl : ys.length = L + 1 := by rw [← hys, List.length_append, hL]; rfl
  obtain ⟨N, hN⟩ : ∃ N, L + 1 = N := ⟨_, rfl⟩
  rw [hN] at hyl
  have n0 : 0 < N := by omega
  have n1 : N ≤ 41 := by omega
  have HYL := Lib.hid hyl
  have HYS := Lib.hid hys
  have HL := Lib.hid hL
  have HN := Lib.hid hN
  clear h0 hxs hL hyl hys hN
  go_enter Try.func4, Try.ntmps4
  go_wp2_with fail
  refine HC0.out.mono ?_
  rintro e w1 ⟨A0, c0, rfl, ho, hb⟩
  have HO0 := Lib.hid ho
  have HB1 := Lib.hid hb
  clear ho hb HC0
  have e1 : xs.length + 1 ≤ maxLen := by rw [HL.out]; unfold maxLen; omega
  have e2 : (xs.length + 1) * 1 ≤ 140737488355328 := by rw [HL.out]; omega
  have e3 : W.heap.size ≤ (w1.alloc (.cells (bts [7]) 5)).heap.size := by have := HB1.out.size; rw [World.size_alloc]; omega
  have e4 : Hid (∀ A' c' w', Own .u8 5 w' W.heap.size (.slice A' (xs.length + 1) c') (xs ++ [7]) → Own .u8 5 w' W.heap.size (.slice A' N c') ys) := Lib.hid (fun A' c' w' h => by rw [← HN.out, ← HYS.out, ← HL.out]; exact h)
  have e5 : Hid (xs.length + 1 = N) := Lib.hid (by rw [HL.out, HN.out])
  have e6 : Hid (∀ w', (w1.alloc (.cells (bts [7]) 5)).grownBy w' (Value.slice A0 L c0).ownBlock → Below W.heap.size W w') := Lib.hid (fun w' hg => (HB1.out.alloc HB1.out.size _).grown hg e3 (fun k e => ((HO0.out.alloc (.cells (bts [7]) 5)).lt k e).1))
  have HE1 := Lib.hid e1
  have HE2 := Lib.hid e2
  have HE3 := Lib.hid e3
  clear e1 e2 e3
  go_wp2_with (at_builtin; go_loud (refine wpList_app _ .u8 rfl (.tmp 9) (.tmp 10) 26 rfl 5 (.int .u8 0) 1 Try.underlying26 info_byte rfl W.heap.size (.slice A0 L c0) xs rfl (HO0.out.alloc _) (some ⟨w1.heap.size, 0, none⟩) 1 1 rfl [7] rfl (Rd.new w1 [7] _) HE1.out HE2.out HE3.out ?_); intro A1 c1 w2 ho hg; have HO1 := Lib.hid (e4.out _ _ _ ho); have HB2 := Lib.hid (e6.out _ hg); clear ho hg; rw [e5.out])
  clear HO0 HB1 HE1 HE2 HE3 e4 e5 e6
  obtain ⟨k1, hk1⟩ : ∃ k1, w2.heap.size = k1 := ⟨_, rfl⟩
  have HK1 := Lib.hid hk1
  have hn := newout_any 100 w2
  rw [hk1] at hn
  refine hn.mono ?_
  rintro e w3 ⟨rfl, h3, b3, z3⟩
  have hlt3 : k1 < w3.heap.size := h3.lt
  have HA1 := Lib.hid (show Apart (.slice A1 N c1) (Oft k1 (.slice none 0 0)) from fun g hg => by
    have := (HO1.out.lt g hg).2
    rintro (h | h)
    · omega
    · simp [Value.ownBlock] at h)
  have H3 := Lib.hid h3
  have HO3 := Lib.hid (HO1.out.later (by rw [hk1]; exact b3))
  have HB3 := Lib.hid (HB2.out.trans (b3.mono (by have := HB2.out.size; omega)))
  have HS3 := Lib.hid (show W.heap.size ≤ k1 by have := HB2.out.size; omega)
  have HZ3 := Lib.hid (show k1 ≤ w3.heap.size by omega)
  clear h3 b3 z3 hn hk1 hlt3 HO1 HB2
  go_wp2_with fail
  refine (Go.Proofs.Ytfphamaopbhacaa.copy_any A1 N c1 ys w3 HYL.out HO3.out.rd (by omega)).mono ?_
  rintro e w4 ⟨A2, c2, rfl, ho, hb⟩
  have HO2 := Lib.hid ho
  have HA2 := Lib.hid (show Apart (.slice A2 N c2) (Oft k1 (.slice none 0 0)) from fun g hg => by
    have := (ho.lt g hg).1
    have h9 := H3.out.lt
    rintro (h | h)
    · omega
    · simp [Value.ownBlock] at h)
  have HA12 := Lib.hid (show ∀ g, (Value.slice A1 N c1).ownBlock = some g → (Value.slice A2 N c2).ownBlock ≠ some g from fun g hg e => by
    have h1 := (HO3.out.lt g hg).2
    have h2 := (ho.lt g e).1
    omega)
  have H4 := Lib.hid (H3.out.later hb)
  have HO4 := Lib.hid (HO3.out.later hb)
  have HB4 := Lib.hid (HB3.out.trans (hb.mono HB3.out.size))
  clear ho hb H3 HO3 HB3
  go_wp2_with fail
  have hcap := HO2.out.cap
  refine (write_any H4.out A2 N c2 ys HYL.out HO2.out.rd hcap (by omega) N (by simp [Ou.new, Ou.room]; omega)).mono ?_
  rintro e w5 ⟨v5, rfl, h5, s5⟩
  obtain ⟨o5, ho5⟩ : ∃ o, o = (⟨100, ys, false, 0⟩ : Ou) := ⟨_, rfl⟩
  rw [show (Ou.new 100).more (ys.take N) = o5 from by rw [List.take_of_length_le (by rw [HYL.out]; omega), ho5]; rfl] at h5
  have H5 := Lib.hid h5
  have HO5 := Lib.hid (keep_own s5 HO4.out HA1.out)
  have HX5 := Lib.hid (keep_own s5 HO2.out HA2.out)
  have HB5 := Lib.hid (HB4.out.trans (H4.out.bel s5 HS3.out))
  have HO := Lib.hid ho5
  clear h5 s5 ho5 hcap H4 HO4 HB4 HO2 HA1 HA2
  obtain ⟨g, rfl, hg1, hg2, _, hcell, hfr⟩ := HX5.out.1.block n0
  have hc0 := hcell 0 n0
  have hf0 := hfr 0
  obtain ⟨x, hx⟩ : ∃ x, ys.getD 0 0 = x := ⟨_, rfl⟩
  rw [hx] at hc0
  clear hx hcell hfr hg1
  have i0 : (0 : Int) < (N : Int) := by omega
  go_wp2_with fail
  obtain ⟨w6, hw6⟩ : ∃ w6, w5.setCell ⟨g, 0, none⟩ (.int .u8 ((x + 1) % 256)) = w6 := ⟨_, rfl⟩
  have t6 := trn_set w5 g 0 (.int .u8 ((x + 1) % 256))
  have b6 := (bel_set (B := W.heap.size) (w := w5) (i := 0) (.int .u8 ((x + 1) % 256)) (Nat.le_trans (Nat.le_trans HS3.out (by have := HK1.out; have := HX5.out.1.lt g rfl; have := HZ3.out; omega)) (HX5.out.1.lt g rfl).1))
  rw [hw6] at t6 b6 ⊢
  have H6 := Lib.hid (H5.out.kept t6 (fun k hk e => HX5.out.2 g rfl (by rw [← e]; exact hk)))
  have HO6 := Lib.hid (t6.own HO5.out.1 (fun k hk e => HA12.out k hk (by rw [e]; rfl)))
  have HB6 := Lib.hid (HB5.out.trans b6)
  have HA6 := Lib.hid HO5.out.2
  clear t6 b6 hw6 hc0 hf0 H5 HO5 HB5 HX5 HA12
  have hall := all_any H6.out
  have hpi := fun (w : World) (h : OutAt w k1 k1 v5 o5) => piece_ok h 0 (N : Int) (by rw [HO.out]; simp [Ou.has, Ou.places, HYL.out])
  rw [show o5.cut 0 (N : Int) = ys from by rw [HO.out]; simp only [Ou.cut, Int.toNat_zero, List.drop_zero, Int.toNat_natCast]; exact List.take_of_length_le (by rw [HYL.out]; omega),
    show o5.fin 0 (N : Int) = false from by rw [HO.out]; simp [Ou.fin, HYL.out]] at hpi
  rw [show o5.xs = ys from by rw [HO.out], HYL.out] at hall
  have HPI := Lib.hid hpi
  clear hpi
  refine hall.mono ?_
  rintro e w7 ⟨A7, c7, rfl, ho, hb⟩
  have HY7 := Lib.hid ho
  have H7 := Lib.hid (H6.out.later hb)
  have HO7 := Lib.hid (HO6.out.later hb)
  have HB7 := Lib.hid (HB6.out.trans (hb.mono HB6.out.size))
  have HS7 := Lib.hid (show W.heap.size ≤ w6.heap.size from HB6.out.size)
  have HS67 := Lib.hid (show w6.heap.size ≤ w7.heap.size from hb.size)
  have HL7 := Lib.hid (fun k hk => (H6.out.foot_lt k hk).2)
  have HM7 := Lib.hid (fun k hk => (HO6.out.lt k hk).2)
  clear ho hb hall H6 HO6 HB6
  go_wp2_with fail
  refine (HPI.out _ H7.out).mono ?_
  rintro e w8 ⟨A8, c8, rfl, ho, hb⟩
  rw [HYL.out] at ho ⊢
  have HZ8 := Lib.hid ho
  have HY8 := Lib.hid (HY7.out.later hb)
  have H8 := Lib.hid (H7.out.later hb)
  have HO8 := Lib.hid (HO7.out.later hb)
  have HB8 := Lib.hid (HB7.out.trans (hb.mono HB7.out.size))
  have HYL8 := Lib.hid (fun k hk => (HY7.out.lt k hk).2)
  have HS8 := Lib.hid (show w6.heap.size ≤ w7.heap.size ∧ w7.heap.size ≤ w8.heap.size from ⟨HS67.out, hb.size⟩)
  clear ho hb HPI H7 HO7 HB7 HY7
  go_wp2_with fail
  refine (same_true ys HYL.out HYL.out HY8.out.rd HO8.out.rd (by rw [HYL.out]; unfold maxLen; omega)).mono ?_
  rintro e w9 ⟨rfl, kq, rfl⟩
  go_wp2_with fail
  refine (same_true (w := w8.drewN kq) ys HYL.out HYL.out HZ8.out.rd HO8.out.rd (by rw [HYL.out]; unfold maxLen; omega)).mono ?_
  rintro e w9 ⟨rfl, kr, rfl⟩
  obtain ⟨w10, hw10⟩ : ∃ w10, w8.drewN (kq + kr) = w10 := ⟨_, rfl⟩
  have hz10 : w8.heap.size = w10.heap.size := by rw [← hw10]; rfl
  have HZ10 := Lib.hid (show Own .u8 5 w10 w7.heap.size (.slice A8 N c8) ys by rw [← hw10]; exact HZ8.out)
  have HY10 := Lib.hid (show Own .u8 5 w10 w6.heap.size (.slice A7 N c7) ys by rw [← hw10]; exact HY8.out)
  have H10 := Lib.hid (show OutAt w10 k1 k1 v5 o5 by rw [← hw10]; exact H8.out.drewN _)
  have HO10 := Lib.hid (show Own .u8 5 w10 W.heap.size (.slice A1 N c1) ys by rw [← hw10]; exact HO8.out)
  have HB10 := Lib.hid (show Below W.heap.size W w10 by rw [← hw10]; exact below_drewN' HB8.out _)
  have HS10 := Lib.hid hz10
  rw [World.drewN_drewN, hw10]
  clear hw10 hz10 HZ8 HY8 H8 HO8 HB8
  obtain ⟨g7, rfl, hg7, _, _, hcell, hfr⟩ := HY10.out.block n0
  have hc0 := hcell 0 n0
  have hf0 := hfr 0
  clear hcell hfr
  obtain ⟨g8, rfl, hg8, _, _, hcell, hfr⟩ := HZ10.out.block n0
  have hg78 : g7 < w7.heap.size := HYL8.out g7 rfl
  have hc8 : (w10.setCell ⟨g7, 0, none⟩ (.int .u8 ((ys.getD 0 0 - 1) % 256))).cell? ⟨g8, 0, none⟩ = some (.int .u8 (ys.getD 0 0)) := (setCell_one w10 g7 0 _).cell (hcell 0 n0) (by simp; omega)
  have hf8 : (w10.setCell ⟨g7, 0, none⟩ (.int .u8 ((ys.getD 0 0 - 1) % 256))).frozen? ⟨g8, 0, none⟩ = false := by
    rw [World.frozen?_of_block ((setCell_one w10 g7 0 _).block g8 (HZ10.out.lt g8 rfl).2 (by simp; omega))]
    exact hfr 0
  obtain ⟨y, hy⟩ : ∃ y, ys.getD 0 0 = y := ⟨_, rfl⟩
  rw [hy] at hc0 hc8 hf8
  obtain ⟨w11, hw11⟩ : ∃ w11, w10.setCell ⟨g7, 0, none⟩ (.int .u8 ((y - 1) % 256)) = w11 := ⟨_, rfl⟩
  have t11 := trn_set w10 g7 0 (.int .u8 ((y - 1) % 256))
  have b11 := bel_set (B := W.heap.size) (w := w10) (g := g7) (i := 0) (.int .u8 ((y - 1) % 256)) (by have := HS7.out; omega)
  have HW11 := Lib.hid hw11
  rw [hw11] at t11 b11 hc8 hf8
  obtain ⟨w12, hw12⟩ : ∃ w12, w11.setCell ⟨g8, 0, none⟩ (.int .u8 ((y + 1) % 256)) = w12 := ⟨_, rfl⟩
  have t12 := trn_set w11 g8 0 (.int .u8 ((y + 1) % 256))
  have b12 := bel_set (B := W.heap.size) (w := w11) (g := g8) (i := 0) (.int .u8 ((y + 1) % 256)) (by have := HS7.out; have := HS67.out; omega)
  have HW12 := Lib.hid hw12
  rw [hw12] at t12 b12
  have H12 := Lib.hid ((H10.out.kept t11 (fun k hk e => by have := HL7.out k hk; omega)).kept t12 (fun k hk e => by have := HL7.out k hk; have := HS67.out; omega))
  have HO12 := Lib.hid (t12.own (t11.own HO10.out (fun k hk e => by have := HM7.out k hk; omega)) (fun k hk e => by have := HM7.out k hk; have := HS67.out; omega))
  have HB12 := Lib.hid ((HB10.out.trans b11).trans b12)
  clear t11 t12 b11 b12 hw12 hcell hfr hy hg7 hg8 hg78 H10 HO10 HB10 HZ10 HY10
  go_wp2_with fail
  rw [HW12.out]
  clear HW12 HW11
  have hall := all_any H12.out
  rw [show o5.xs = ys from by rw [HO.out], HYL.out] at hall
  refine hall.mono ?_
  rintro e w13 ⟨A13, c13, rfl, ho, hb⟩
  have HY13 := Lib.hid ho
  have H13 := Lib.hid (H12.out.later hb)
  have HO13 := Lib.hid (HO12.out.later hb)
  have HB13 := Lib.hid (HB12.out.trans (hb.mono HB12.out.size))
  clear ho hb hall H12 HO12 HB12
  go_wp2_with fail
  refine (same_true ys HYL.out HYL.out HY13.out.rd HO13.out.rd (by rw [HYL.out]; unfold maxLen; omega)).mono ?_
  rintro e w14 ⟨rfl, kr, rfl⟩
  go_wp2_with fail
  refine (acked_any (H13.out.drewN kr)).mono ?_
  rw [show o5.ak = 0 from by rw [HO.out]]
  rintro e w15 ⟨rfl, rfl⟩
  go_wp2_with fail
  refine (closed_any (H13.out.drewN kr)).mono ?_
  rw [show o5.cl = false from by rw [HO.out]]
  rintro e w15 ⟨rfl, rfl⟩
  go_wp2_with fail
  refine (wakesO_any _).mono ?_
  rintro e w16 ⟨rfl, hb⟩
  have HB16 := Lib.hid ((below_drewN' HB13.out kr).trans (hb.mono HB13.out.size))
  clear hb
  go_wp2_with fail
  go_ret
  exact ⟨rfl, HB16.out⟩
end Go.Proofs.Ytfphamaopbhacaa

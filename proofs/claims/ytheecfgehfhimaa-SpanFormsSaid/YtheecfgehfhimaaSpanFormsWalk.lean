/-
  The walk of SpanForms.
-/
import Derived.Test.YtheecfgehfhimaaSpan
import Derived.Test.YtheecfgehfhimaaSpanPack
import Derived.Test.YtheecfgehfhimaaRefPut
import Derived.Test.YtheecfgehfhimaaRowsMath
namespace Go.Proofs.Ytheecfgehfhimaa
open Go.RowKit

/-- What the walk keeps of the bytes, and of what Pack made of them. -/
structure Env (W w : World) (vb vp : Value) (bs ps : List Int) : Prop where
  bel : Below W.heap.size W w
  ob : Own .u8 5 w W.heap.size vb bs
  op : Own .u8 5 w W.heap.size vp ps
section
variable {W w w' : World} {vb vp : Value} {bs ps : List Int} {p : Nat} {A : Option Addr} {c : Nat} {xs : List Int} {a : Nat} {bad : Bool}
theorem Env.drewN (h : Env W w vb vp bs ps) (k : Nat) : Env W (w.drewN k) vb vp bs ps := ⟨below_drewN' h.bel k, h.ob.drewN k, h.op.drewN k⟩
theorem Env.later (h : Env W w vb vp bs ps) (hb : Below w.heap.size w w') : Env W w' vb vp bs ps := ⟨h.bel.trans (hb.mono h.bel.size), h.ob.later hb, h.op.later hb⟩
theorem Env.rdr (h : Env W w vb vp bs ps) (hr : Rdr w p A c xs a bad) (hp : W.heap.size ≤ p) (hg : w.grownBy w' (some p)) : Env W w' vb vp bs ps := ⟨bel_rdr h.bel h.bel.size hp hg, h.ob.rdr hr hg, h.op.rdr hr hg⟩
end

theorem numT_bad (xs : List Int) (a : Nat) : numT xs a true = (0, 0, false) := rfl
theorem bytT_bad (xs : List Int) (a : Nat) (most : Int) : bytT xs a true most = ([], a, true) := by simp [bytT, numT_bad]
theorem oneT_bad (xs : List Int) (a : Nat) : oneT xs a true = (0, a, true) := by simp [oneT]
theorem oneT_end (a : Nat) : oneT [] a false = (0, a, true) := by simp [oneT]
theorem numT_pack (m : Nat) (bs : List Int) (h : m < 64) : numT (putL (m : Nat) ++ bs) 0 false = ((m : Int), 1, true) := by
  have := takeV_putL (x := (m : Nat)) (by omega) (by omega) bs
  rw [putL_1 (by omega) (by omega)] at this ⊢
  exact this
theorem bytT_most (m : Nat) (bs : List Int) (most : Int) (h : m < 64) (hm : most < m) : bytT (putL (m : Nat) ++ bs) 0 false most = ([], 0, true) := by
  unfold bytT
  rw [numT_pack m bs h, if_pos (.inr (.inl hm))]
theorem bytT_short (m : Nat) (bs : List Int) (most : Int) (h : m < 64) (hm : bs.length < m) : bytT (putL (m : Nat) ++ bs) 0 false most = ([], 0, true) := by
  have hl : (putL (m : Int) ++ bs).length = 1 + bs.length := by rw [putL_1 (by omega) (by omega), List.length_append, List.length_singleton]
  unfold bytT
  rw [numT_pack m bs h, if_pos (.inr (.inr (by rw [hl]; show ((1 + bs.length - 0 : Nat) : Int) - 1 < (m : Int); omega)))]
theorem bytT_all (m : Nat) (bs : List Int) (most : Int) (h : m < 64) (hm : bs.length = m) (hmo : (m : Int) ≤ most) : bytT (putL (m : Nat) ++ bs) 0 false most = (bs, m + 1, false) := by
  unfold bytT
  rw [numT_pack m bs h, if_neg ?_]
  · rw [putL_1 (by omega) (by omega)]
    simp [← hm]
    omega
  · rw [putL_1 (by omega) (by omega)]
    simp
    omega

section
variable {w : World} {p : Nat} {A : Option Addr} {c : Nat} {xs : List Int}
theorem numberB (h : Rdr w p A c xs 0 true) : Calls Try.prog 14 #[.pointer (some ⟨p, 0, none⟩)] w fun e w' => e = .returned (.int .i64 0) ∧ Rdr w' p A c xs 0 true ∧ w.grownBy w' (some p) := by
  have := numberX_any h
  rw [numT_bad] at this
  exact this
theorem byteB (h : Rdr w p A c xs 0 true) : Calls Try.prog 15 #[.pointer (some ⟨p, 0, none⟩)] w fun e w' => e = .returned (.int .u8 0) ∧ Rdr w' p A c xs 0 true ∧ w.grownBy w' (some p) := by
  have := byteX_any h
  rw [oneT_bad] at this
  exact this
theorem bytesB (most : Int) {a : Nat} {bad : Bool} (h : Rdr w p A c xs a bad) (hb : bytT xs a bad most = ([], 0, true)) : Calls Try.prog 10 #[.pointer (some ⟨p, 0, none⟩), .int .i64 most] w fun e w' => ∃ A' c', e = .returned (.slice A' 0 c') ∧ Rdr w' p A c xs 0 true ∧ w.grownBy w' (some p) := by
  have := bytesX_any most h
  rw [hb] at this
  exact this.mono fun e w' ⟨A', c', he, _, h1, h2⟩ => ⟨A', c', he, h1, h2⟩
theorem numberN {bad : Bool} (h : Rdr w p A c xs 0 bad) (hn : numT xs 0 bad = (0, 0, false)) : Calls Try.prog 14 #[.pointer (some ⟨p, 0, none⟩)] w fun e w' => e = .returned (.int .i64 0) ∧ Rdr w' p A c xs 0 true ∧ w.grownBy w' (some p) := by
  have := numberX_any h
  rw [hn] at this
  exact this
end

set_option maxRecDepth 100000 in
set_option maxHeartbeats 4000000 in
theorem spanForms_walk (A : Option Addr) (n c : Nat) (xs : List Int) (a1 : Int) (w : World) (ha : ArgI .u8 1 w A n c xs) (_ : (Lit.int .i64 a1).wf = true) :
    Calls Try.prog 3 #[.slice A n c, .int .i64 a1] w fun e w' => e = .returned (.bool true) ∧ Below w.heap.size w w' := by
  have r1 := ha.reach
  have l1 := ha.le
  have HA := Lib.hid ha
  clear ha
  go_enter Try.func3, Try.ntmps3
  go_wp2_with fail
  refine (cut_any A n c 50 xs w HA.out.len l1 HA.out.rd (by omega) (by omega) (by omega)).mono ?_
  rintro e w1 ⟨A1, c1, rfl, o1, b1⟩
  rw [show (50 : Int).toNat = 50 from rfl] at o1 ⊢
  have hk : (xs.take 50).length ≤ 50 := by simp; omega
  have hby : ∀ x ∈ xs.take 50 ++ [9], 0 ≤ x ∧ x < 256 := by
    intro x hx
    rcases List.mem_append.1 hx with hx | hx
    · exact wf_u8 (HA.out.wf x (List.mem_of_mem_take hx))
    · rw [List.mem_singleton.1 hx]; decide
  obtain ⟨k, hkk⟩ : ∃ k, (xs.take 50).length = k := ⟨_, rfl⟩
  obtain ⟨zs, hzs⟩ : ∃ zs, xs.take 50 = zs := ⟨_, rfl⟩
  rw [hzs] at o1 hkk hby
  rw [hzs]
  rw [hkk] at o1 ⊢
  rw [hzs, hkk] at hk
  have O1 := Lib.hid o1
  have HK := Lib.hid hkk
  have B1 := Lib.hid b1
  have HBY := Lib.hid hby
  clear o1 hkk b1 hby hzs
  go_wp2_with (at_builtin; refine wpList_app _ .u8 rfl (.tmp 13) (.tmp 14) 22 rfl 5 (.int .u8 0) 1 Try.underlying22 info_byte rfl w.heap.size (.slice A1 k c1) zs rfl (O1.out.alloc _) _ _ _ rfl [9] rfl (rd_one _ _ _ _) (by rw [HK.out]; unfold maxLen; omega) (by rw [HK.out]; omega) (by have := B1.out.size; simp only [World.size_alloc]; omega) ?_; intro A2 c2 w2 o2 g2)
  rw [HK.out] at o2 ⊢
  have e2 := Lib.hid (show Env w w2 (.slice A2 (k + 1) c2) (.slice A2 (k + 1) c2) (zs ++ [9]) (zs ++ [9]) from ⟨(B1.out.alloc B1.out.size _).grown g2 (by have := B1.out.size; simp only [World.size_alloc]; omega) (fun g hg => (O1.out.lt g hg).1), o2, o2⟩)
  clear g2 o2 O1 B1
  obtain ⟨m, hm⟩ : ∃ m, k + 1 = m := ⟨_, rfl⟩
  have hm64 : m < 64 := by omega
  have hm1 : 1 ≤ m := by omega
  rw [hm] at e2 ⊢
  rw [show (k : Int) + 1 = (m : Int) by omega]
  have HBL := Lib.hid (show (zs ++ [9]).length = m by rw [List.length_append, HK.out]; exact hm)
  clear HK hm hk
  obtain ⟨bs, hbs⟩ : ∃ bs, zs ++ [9] = bs := ⟨_, rfl⟩
  rw [hbs] at e2 HBL HBY
  clear hbs
  refine (within_any a1 (m : Int) w2 (by omega) (by omega)).mono ?_
  rintro e w' ⟨rfl, rfl⟩
  have hr0 := Int.emod_nonneg a1 (show (m : Int) ≠ 0 by omega)
  have hr1 := Int.emod_lt_of_pos a1 (show (0 : Int) < (m : Int) by omega)
  obtain ⟨r, hr⟩ : ∃ r, a1 % (m : Int) = r := ⟨_, rfl⟩
  rw [hr] at hr0 hr1 ⊢
  clear hr
  go_wp2_with fail
  refine (pack_any A2 m c2 bs w2 HBL.out e2.out.ob.rd (by omega)).mono ?_
  have hp1 : (putL (m : Int)).length = 1 := by rw [putL_1 (by omega) (by omega)]; rfl
  rw [hp1]
  rintro e w3 ⟨A3, c3, rfl, o3, b3⟩
  obtain ⟨q, hq⟩ : ∃ q, 1 + m = q := ⟨_, rfl⟩
  rw [hq] at o3 ⊢
  have e3 := Lib.hid (show Env w w3 (.slice A2 m c2) (.slice A3 q c3) bs (putL (m : Int) ++ bs) from ⟨e2.out.bel.trans (b3.mono e2.out.bel.size), e2.out.ob.later b3, o3.less e2.out.bel.size⟩)
  have HPL := Lib.hid (show (putL (m : Int) ++ bs).length = q by rw [List.length_append, hp1, HBL.out, hq])
  have HPB := Lib.hid (show ∀ x ∈ putL (m : Int) ++ bs, 0 ≤ x ∧ x < 256 from fun x hx => by
    rcases List.mem_append.1 hx with hx | hx
    · exact putL_bytes _ x hx
    · exact HBY.out x hx)
  have HN1 := Lib.hid (numT_pack m bs hm64)
  have HY1 := Lib.hid (bytT_most m bs r hm64 hr1)
  have HY2 := Lib.hid (bytT_all m bs (m : Int) hm64 HBL.out (by omega))
  have hc0 : (putL (m : Int) ++ bs).getD 0 0 = (m : Int) := by rw [putL_1 (by omega) (by omega)]; rfl
  obtain ⟨g3, rfl, hg31, hg32, _, hcell, _⟩ := o3.block (by omega)
  have cp := hcell 0 (by omega)
  rw [hc0] at cp
  clear hcell hc0 b3 o3 e2 hp1 hg31 hg32
  have i0 : (0 : Int) < (q : Int) := by omega
  have i1 : ((q : Int) != (m : Int) + 1) = false := by rw [bne_eq_false_iff_eq]; omega
  have i2 : IntKind.i64.wrap (m : Int) = (m : Int) := IntWalk.i64_in _ (by omega)
  go_wp2_with fail
  refine (new_any _ q c3 (putL (m : Int) ++ bs) w3 HPL.out e3.out.op.rd (by omega) (fun h => by cases h) HPB.out).mono ?_
  rintro e w4 ⟨p4, A4, c4, rfl, h4, b4, z4, _⟩
  have H4 := Lib.hid h4
  have e4 := Lib.hid (e3.out.later b4)
  have z4' := Nat.le_trans e3.out.bel.size z4
  clear h4 b4 e3 z4
  go_wp2_with fail
  refine (bytesB r H4.out HY1.out).mono ?_
  rintro e w5 ⟨A5, c5, rfl, h5, g5⟩
  have H5 := Lib.hid h5
  have e5 := Lib.hid (e4.out.rdr H4.out z4' g5)
  clear h5 g5 H4 e4
  go_wp2_with fail
  refine (bad_any H5.out).mono ?_
  rintro e w' ⟨rfl, rfl⟩
  go_wp2_with fail
  refine (at_any H5.out).mono ?_
  rintro e w' ⟨rfl, rfl⟩
  go_wp2_with fail
  refine (left_any H5.out).mono ?_
  rintro e w' ⟨rfl, k6, rfl⟩
  rw [HPL.out, Nat.sub_zero]
  have H6 := Lib.hid (H5.out.drewN k6)
  have e6 := Lib.hid (e5.out.drewN k6)
  clear H5 e5
  go_wp2_with fail
  refine (numberB H6.out).mono ?_
  rintro e w7 ⟨rfl, h7, g7⟩
  have H7 := Lib.hid h7
  have e7 := Lib.hid (e6.out.rdr H6.out z4' g7)
  clear h7 g7 H6 e6
  go_wp2_with fail
  refine (byteB H7.out).mono ?_
  rintro e w8 ⟨rfl, h8, g8⟩
  have H8 := Lib.hid h8
  have e8 := Lib.hid (e7.out.rdr H7.out z4' g8)
  clear h8 g8 H7 e7
  go_wp2_with fail
  refine (bytesB 99 H8.out (bytT_bad _ _ _)).mono ?_
  rintro e w9 ⟨A9, c9, rfl, h9, g9⟩
  have H9 := Lib.hid h9
  have e9 := Lib.hid (e8.out.rdr H8.out z4' g9)
  clear h9 g9 H8 e8
  go_wp2_with fail
  refine (at_any H9.out).mono ?_
  rintro e w' ⟨rfl, rfl⟩
  clear H9 z4'
  go_wp2_with fail
  refine (new_any _ q c3 (putL (m : Int) ++ bs) w9 HPL.out e9.out.op.rd (by omega) (fun h => by cases h) HPB.out).mono ?_
  rintro e w10 ⟨p5, B5, d5, rfl, h10, b10, z10, _⟩
  have H10 := Lib.hid h10
  have e10 := Lib.hid (e9.out.later b10)
  have z10' := Nat.le_trans e9.out.bel.size z10
  clear h10 b10 e9 z10
  go_wp2_with fail
  have hbx := bytesX_any (m : Int) H10.out
  rw [HY2.out] at hbx
  simp only [HBL.out] at hbx
  refine hbx.mono ?_
  rintro e w11 ⟨A11, c11, rfl, o11, h11, g11⟩
  have H11 := Lib.hid h11
  have e11 := Lib.hid (e10.out.rdr H10.out z10' g11)
  have O11 := Lib.hid o11
  clear hbx h11 g11 H10 e10 o11
  go_wp2_with fail
  refine (same_true bs HBL.out HBL.out O11.out.rd e11.out.ob.rd (by rw [HBL.out]; unfold maxLen; omega)).mono ?_
  rintro e w' ⟨rfl, k12, rfl⟩
  have H12 := Lib.hid (H11.out.drewN k12)
  have e12 := Lib.hid (e11.out.drewN k12)
  clear H11 e11 O11
  go_wp2_with fail
  refine (bad_any H12.out).mono ?_
  rintro e w' ⟨rfl, rfl⟩
  go_wp2_with fail
  refine (left_any H12.out).mono ?_
  rw [HPL.out, show q - (m + 1) = 0 by omega]
  rintro e w' ⟨rfl, k13, rfl⟩
  have e13 := Lib.hid (e12.out.drewN k13)
  clear H12 e12
  obtain ⟨w13, hw13⟩ : ∃ w13, (w11.drewN k12).drewN k13 = w13 := ⟨_, rfl⟩
  rw [hw13] at e13 ⊢
  clear hw13
  have i3 : IntKind.i64.wrap ((q : Int) - 1) = (m : Int) := by rw [IntWalk.i64_in _ (by omega)]; omega
  have i4 : (q : Int) - 1 = (m : Int) := by omega
  have i5 : (m : Int) ≤ (c3 : Int) := by have := e13.out.op.cap; omega
  go_wp2_with fail
  have htk : (putL (m : Int) ++ bs).take m = putL (m : Int) ++ bs.take (m - 1) := by
    obtain ⟨k', hk'⟩ : ∃ k', m = k' + 1 := ⟨m - 1, by omega⟩
    subst hk'
    rw [putL_1 (by omega) (by omega)]
    rfl
  have hl' : (putL (m : Int) ++ bs.take (m - 1)).length = m := by rw [← htk, List.length_take, HPL.out]; omega
  have hT : bytT (putL (m : Int) ++ bs.take (m - 1)) 0 false 99 = ([], 0, true) := bytT_short m _ 99 hm64 (by rw [List.length_take]; omega)
  have hrt := e13.out.op.rd.take m
  have hbt : ∀ x ∈ (putL (m : Int) ++ bs).take m, 0 ≤ x ∧ x < 256 := fun x hx => HPB.out x (List.mem_of_mem_take hx)
  rw [htk] at hrt hbt
  have HT := Lib.hid hT
  refine (new_any _ m c3 _ w13 hl' hrt (by omega) (fun h => by cases h) hbt).mono ?_
  clear htk hrt hbt hT hl'
  obtain ⟨ts, hts⟩ : ∃ ts, putL (m : Int) ++ bs.take (m - 1) = ts := ⟨_, rfl⟩
  rw [hts] at HT ⊢
  clear hts
  rintro e w14 ⟨q1, D1, f1, rfl, k1, b14, z1, y1⟩
  have K1 := Lib.hid k1
  have B14 := Lib.hid (e13.out.bel.trans (b14.mono e13.out.bel.size))
  have Z1 := Nat.le_trans e13.out.bel.size z1
  clear k1 b14 e13 z1 i0 i1 i2 i3 i4 i5 cp HPB HPL HY1 HY2 HN1 HBL HBY HA
  go_wp2_with fail
  have hr64 : Rd .u8 (w14.alloc (.cells #[.int .u8 64] 5)) (some ⟨w14.heap.size, 0, none⟩) [64] := rd_one _ _ _ _
  refine (new_any _ 1 1 [64] _ rfl hr64 (by omega) (fun h => by cases h) (by decide)).mono ?_
  rintro e w15 ⟨q2, D2, f2, rfl, k2, b15, z2, y2⟩
  simp only [World.size_alloc] at z2
  have b15' := ((Below.refl w14.heap.size w14).alloc (Nat.le_refl _) (.cells #[.int .u8 64] 5)).trans (b15.mono (by simp))
  have K1' := Lib.hid (K1.out.later b15')
  have K2 := Lib.hid k2
  have s15 := b15'.size
  have B15 := Lib.hid (B14.out.trans (b15'.mono B14.out.size))
  have s14 := B14.out.size
  clear k2 b15 b15' K1 B14 hr64
  go_wp2_with fail
  have hr5 : Rd .u8 (w15.alloc (.cells #[.int .u8 64, .int .u8 5] 5)) (some ⟨w15.heap.size, 0, none⟩) [64, 5] := by
    have := Rd.new w15 [64, 5] 5
    simpa [bts] using this
  refine (new_any _ 2 2 [64, 5] _ rfl hr5 (by omega) (fun h => by cases h) (by decide)).mono ?_
  rintro e w16 ⟨q3, D3, f3, rfl, k3, b16, z3, y3⟩
  simp only [World.size_alloc] at z3
  have b16' := ((Below.refl w15.heap.size w15).alloc (Nat.le_refl _) (.cells #[.int .u8 64, .int .u8 5] 5)).trans (b16.mono (by simp))
  have K1 := Lib.hid (K1'.out.later b16')
  have K2' := Lib.hid (K2.out.later b16')
  have K3 := Lib.hid k3
  have s16 := b16'.size
  have B16 := Lib.hid (B15.out.trans (b16'.mono B15.out.size))
  clear k3 b16 b16' K1' K2 B15 hr5
  go_wp2_with fail
  refine (new_any none 0 0 [] w16 rfl (.inl rfl) (by omega) (fun _ => ⟨rfl, rfl⟩) (by simp)).mono ?_
  rintro e w17 ⟨q4, D4, f4, rfl, k4, b17, z4, y4⟩
  have K1' := Lib.hid (K1.out.later b17)
  have K2 := Lib.hid (K2'.out.later b17)
  have K3' := Lib.hid (K3.out.later b17)
  have K4 := Lib.hid k4
  have B17 := Lib.hid (B16.out.trans (b17.mono B16.out.size))
  have q12 : q2 ≠ q1 := by omega
  have q13 : q3 ≠ q1 := by omega
  have q14 : q4 ≠ q1 := by omega
  have q23 : q3 ≠ q2 := by omega
  have q24 : q4 ≠ q2 := by omega
  have q34 : q4 ≠ q3 := by omega
  have x2 : w.heap.size ≤ q2 := by omega
  have x3 : w.heap.size ≤ q3 := by omega
  have x4 : w.heap.size ≤ q4 := by omega
  clear k4 b17 K1 K2' K3 B16 y1 y2 y3 y4 z2 z3 z4 s14 s15 s16
  go_wp2_with fail
  refine (bytesB 99 K1'.out HT.out).mono ?_
  rintro e w18 ⟨_, _, rfl, h18, g18⟩
  have K1 := Lib.hid h18
  have K2' := Lib.hid (K2.out.other K1'.out q12 g18)
  have K3 := Lib.hid (K3'.out.other K1'.out q13 g18)
  have K4' := Lib.hid (K4.out.other K1'.out q14 g18)
  have B18 := Lib.hid (bel_rdr B17.out B17.out.size Z1 g18)
  clear h18 g18 K1' K2 K3' K4 B17
  go_wp2_with fail
  refine (bad_any K1.out).mono ?_
  rintro e w' ⟨rfl, rfl⟩
  go_wp2_with fail
  refine (numberN K2'.out (by decide)).mono ?_
  rintro e w19 ⟨rfl, h19, g19⟩
  have K2 := Lib.hid h19
  have K3' := Lib.hid (K3.out.other K2'.out q23 g19)
  have K4 := Lib.hid (K4'.out.other K2'.out q24 g19)
  have B19 := Lib.hid (bel_rdr B18.out B18.out.size x2 g19)
  clear h19 g19 K1 K2' K3 K4' B18
  go_wp2_with fail
  refine (bad_any K2.out).mono ?_
  rintro e w' ⟨rfl, rfl⟩
  go_wp2_with fail
  refine (numberN K3'.out (by decide)).mono ?_
  rintro e w20 ⟨rfl, h20, g20⟩
  have K3 := Lib.hid h20
  have K4' := Lib.hid (K4.out.other K3'.out q34 g20)
  have B20 := Lib.hid (bel_rdr B19.out B19.out.size x3 g20)
  clear h20 g20 K2 K3' K4 B19
  go_wp2_with fail
  refine (bad_any K3.out).mono ?_
  rintro e w' ⟨rfl, rfl⟩
  go_wp2_with fail
  refine (bad_any K4'.out).mono ?_
  rintro e w' ⟨rfl, rfl⟩
  go_wp2_with fail
  have hbx := byteX_any K4'.out
  rw [oneT_end] at hbx
  refine hbx.mono ?_
  rintro e w21 ⟨rfl, h21, g21⟩
  have K4 := Lib.hid h21
  have B21 := Lib.hid (bel_rdr B20.out B20.out.size x4 g21)
  clear h21 g21 K4' B20 hbx K3
  go_wp2_with fail
  refine (bad_any K4.out).mono ?_
  rintro e w' ⟨rfl, rfl⟩
  go_wp2_with fail
  refine (wakes_any _).mono ?_
  rintro e w22 ⟨rfl, b22⟩
  go_wp2_with fail
  go_ret
  exact ⟨rfl, B21.out.trans (b22.mono B21.out.size)⟩
end Go.Proofs.Ytheecfgehfhimaa

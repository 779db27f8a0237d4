/-
  What the statements' help Event makes of an event: some event, of the call's own. A contract over the program.
-/
import Derived.Test.YtbjneoeiognahaaPlayEvMath
import Derived.Test.YtbjneoeiognahaaPlayPacket
import Derived.Test.YtbjneoeiognahaaRefEvent
namespace Go.Proofs.Ytbjneoeiognahaa
open Go.RowKit

set_option maxRecDepth 10000 in
theorem app7 {L : List Int} (h : ∀ x ∈ L, 0 ≤ x ∧ x < 256) : ∀ x ∈ L ++ [7], 0 ≤ x ∧ x < 256 := by
  intro x hx
  rcases List.mem_append.1 hx with h9 | h9
  · exact h x h9
  · simp at h9
    omega

set_option maxRecDepth 10000 in
theorem own7 {w : World} {B0 : Nat} {D : Option Addr} {L : List Int} {dd : Nat} (h : Own .u8 5 w B0 (.slice D (L.length + 1) dd) (L ++ [7])) : Own .u8 5 w B0 (.slice D (L ++ [(7 : Int)]).length dd) (L ++ [7]) := by simpa using h
set_option maxRecDepth 10000 in
theorem len7 {L : List Int} (h : L.length ≤ 90) : (L ++ [(7 : Int)]).length ≤ 4096 := by simp; omega

set_option maxRecDepth 100000 in
set_option maxHeartbeats 4000000 in
theorem playEvent_any (e0 : Ev) (how : Int) (A : Option Addr) (c : Nat) (B : Option Addr) (d : Nat) (w : World) (hp : EvAt w e0 A c B d) (hh : -9223372036854775808 ≤ how ∧ how ≤ 9223372036854775807) :
    Calls Try.prog 63 #[e0.val A c B d, .int .i64 how] w fun x w' => ∃ ev A' c' B' d', x = .returned (ev.val A' c' B' d') ∧ EvB ev ∧ Own .u8 5 w' w.heap.size (.slice A' ev.da.length c') ev.da ∧
      Own .u8 5 w' w.heap.size (.slice B' ev.pk.da.length d') ev.pk.da ∧ Below w.heap.size w w' := by
  have hin := EvIn.new w e0 A c B d 60
  have hr0 := EvV.new (w.alloc (.cells (e0.cs A c B d).toArray 60)) Ev.zero none 0 none 0
  have hin2 := hin.later ((Below.refl _ _).alloc (Nat.le_refl _) (.cells (Ev.zero.cs none 0 none 0).toArray 60))
  have hbl : Below w.heap.size w ((w.alloc (.cells (e0.cs A c B d).toArray 60)).alloc (.cells (Ev.zero.cs none 0 none 0).toArray 60)) :=
    have h1 := (Below.refl w.heap.size w).alloc (Nat.le_refl _) (.cells (e0.cs A c B d).toArray 60)
    h1.alloc h1.size _
  have hsz : ((w.alloc (.cells (e0.cs A c B d).toArray 60)).alloc (.cells (Ev.zero.cs none 0 none 0).toArray 60)).heap.size = w.heap.size + 2 := by simp
  rw [World.size_alloc] at hr0
  have HP := Lib.hid hp
  have hcap := hp.cap
  have hreach := hp.reach
  have HCAP := Lib.hid hcap
  have HREACH := Lib.hid hreach
  have HH := Lib.hid hh
  have hq0 : IntKind.i64.wrap (how.tdiv 40) = how.tdiv 40 := by
    rw [IntKind.wrap_i64]
    have h1 : -9223372036854775808 ≤ how.tdiv 40 ∧ how.tdiv 40 ≤ 9223372036854775807 := by
      rcases Int.lt_or_le how 0 with h | h
      · have e : how = -(-how) := by omega
        rw [e, Int.neg_tdiv]
        have := Int.tdiv_le_self 40 (show 0 ≤ -how by omega)
        have := Int.tdiv_nonneg (show 0 ≤ -how by omega) (show (0 : Int) ≤ 40 by omega)
        omega
      · have := Int.tdiv_le_self 40 h
        have := Int.tdiv_nonneg h (show (0 : Int) ≤ 40 by omega)
        omega
    omega
  have HQ0 := Lib.hid hq0
  clear hp hin hcap hreach hh hq0
  unfold Ev.cs at hin2 hr0 hbl hsz
  unfold Ev.val
  go_enter Try.func63, Try.ntmps63
  go_upto_region 2 with (fail)
  change EvV ((w.alloc (.cells #[.int .i64 e0.k, .int .i64 e0.n, .slice A e0.da.length c, .int .i64 e0.pk.k, .int .i64 e0.pk.pa, .int .i64 e0.pk.nu, .int .i64 e0.pk.ofn, .int .i64 e0.pk.fr, .slice B e0.pk.da.length d, .bool e0.pk.fin, .int .i64 e0.pk.se, .int .i64 e0.pk.li] 60)).alloc (.cells #[.int .i64 0, .int .i64 0, .slice none 0 0, .int .i64 0, .int .i64 0, .int .i64 0, .int .i64 0, .int .i64 0, .slice none 0 0, .bool false, .int .i64 0, .int .i64 0] 60)) (w.heap.size + 1) Ev.zero none 0 none 0 at hr0
  change EvIn ((w.alloc (.cells #[.int .i64 e0.k, .int .i64 e0.n, .slice A e0.da.length c, .int .i64 e0.pk.k, .int .i64 e0.pk.pa, .int .i64 e0.pk.nu, .int .i64 e0.pk.ofn, .int .i64 e0.pk.fr, .slice B e0.pk.da.length d, .bool e0.pk.fin, .int .i64 e0.pk.se, .int .i64 e0.pk.li] 60)).alloc (.cells #[.int .i64 0, .int .i64 0, .slice none 0 0, .int .i64 0, .int .i64 0, .int .i64 0, .int .i64 0, .int .i64 0, .slice none 0 0, .bool false, .int .i64 0, .int .i64 0] 60)) w.heap.size 0 e0 A c B d at hin2
  change Below w.heap.size w ((w.alloc (.cells #[.int .i64 e0.k, .int .i64 e0.n, .slice A e0.da.length c, .int .i64 e0.pk.k, .int .i64 e0.pk.pa, .int .i64 e0.pk.nu, .int .i64 e0.pk.ofn, .int .i64 e0.pk.fr, .slice B e0.pk.da.length d, .bool e0.pk.fin, .int .i64 e0.pk.se, .int .i64 e0.pk.li] 60)).alloc (.cells #[.int .i64 0, .int .i64 0, .slice none 0 0, .int .i64 0, .int .i64 0, .int .i64 0, .int .i64 0, .int .i64 0, .slice none 0 0, .bool false, .int .i64 0, .int .i64 0] 60)) at hbl
  change ((w.alloc (.cells #[.int .i64 e0.k, .int .i64 e0.n, .slice A e0.da.length c, .int .i64 e0.pk.k, .int .i64 e0.pk.pa, .int .i64 e0.pk.nu, .int .i64 e0.pk.ofn, .int .i64 e0.pk.fr, .slice B e0.pk.da.length d, .bool e0.pk.fin, .int .i64 e0.pk.se, .int .i64 e0.pk.li] 60)).alloc (.cells #[.int .i64 0, .int .i64 0, .slice none 0 0, .int .i64 0, .int .i64 0, .int .i64 0, .int .i64 0, .int .i64 0, .slice none 0 0, .bool false, .int .i64 0, .int .i64 0] 60)).heap.size = w.heap.size + 2 at hsz
  obtain ⟨W, hW⟩ : ∃ W, (w.alloc (.cells #[.int .i64 e0.k, .int .i64 e0.n, .slice A e0.da.length c, .int .i64 e0.pk.k, .int .i64 e0.pk.pa, .int .i64 e0.pk.nu, .int .i64 e0.pk.ofn, .int .i64 e0.pk.fr, .slice B e0.pk.da.length d, .bool e0.pk.fin, .int .i64 e0.pk.se, .int .i64 e0.pk.li] 60)).alloc (.cells #[.int .i64 0, .int .i64 0, .slice none 0 0, .int .i64 0, .int .i64 0, .int .i64 0, .int .i64 0, .int .i64 0, .slice none 0 0, .bool false, .int .i64 0, .int .i64 0] 60) = W := ⟨_, rfl⟩
  rw [hW] at hr0 hin2 hbl hsz ⊢
  clear hW
  obtain ⟨b, hb⟩ : ∃ b, w.heap.size = b := ⟨_, rfl⟩
  obtain ⟨z, hz⟩ : ∃ z, w.heap.size + 1 = z := ⟨_, rfl⟩
  have HBB := Lib.hid hb
  have HZ := Lib.hid (show z = b + 1 by omega)
  have HSZ := Lib.hid (show W.heap.size = b + 2 by omega)
  rw [hz] at hr0 ⊢
  rw [hb] at hin2 ⊢
  have HI := Lib.hid hin2
  have HR0 := Lib.hid hr0
  have HBL := Lib.hid hbl
  clear hb hz hr0 hin2 hbl hsz
  have p0 := HI.out.c0
  obtain ⟨kk, hkk⟩ : ∃ x, e0.k % 8 = x := ⟨_, rfl⟩
  have kb : 0 ≤ kk ∧ kk < 8 := by omega
  have HKK := Lib.hid hkk
  have hwr : wrap64 (1 + kk) = 1 + kk := by unfold wrap64; omega
  have hwr2 : IntKind.i64.wrap (1 + kk) = 1 + kk := by rw [IntKind.wrap_i64]; omega
  clear hkk
  go_wp2_with fail
  refine (within_any e0.k 8 _ (by omega) (by omega)).mono ?_
  rw [HKK.out]
  rintro e w' ⟨rfl, rfl⟩
  have T0 : EE w (W.alloc (.cells ((⟨1 + kk, 0, [], Pkt.zero⟩ : Ev).cs none 0 none 0).toArray 60)) b z W.heap.size e0 A c B d ⟨1 + kk, 0, [], Pkt.zero⟩ none 0 none 0 :=
    have hb1 := (Below.refl W.heap.size W).alloc (Nat.le_refl _) (.cells ((⟨1 + kk, 0, [], Pkt.zero⟩ : Ev).cs none 0 none 0).toArray 60)
    ⟨HI.out.later hb1, HP.out, HR0.out.later hb1, EvV.new W _ none 0 none 0, Own.nil _ _ _ _, Own.nil _ _ _ _, ⟨by intro x hx; simp at hx, by simp, by simp; omega, by simp, PkB.zero⟩, HBL.out.trans (hb1.mono HBL.out.size), HBB.out, by rw [HSZ.out, HZ.out]; omega, by rw [HSZ.out]; omega, by rw [HZ.out]; omega⟩
  unfold Ev.cs at T0
  change EE w (W.alloc (.cells #[.int .i64 (1 + kk), .int .i64 0, .slice none 0 0, .int .i64 0, .int .i64 0, .int .i64 0, .int .i64 0, .int .i64 0, .slice none 0 0, .bool false, .int .i64 0, .int .i64 0] 60)) b z W.heap.size e0 A c B d ⟨1 + kk, 0, [], Pkt.zero⟩ none 0 none 0 at T0
  have HT := Lib.hid T0
  clear T0 p0
  go_upto_block 0 with (fail)
  obtain ⟨W2, hW2⟩ : ∃ V, W.alloc (.cells #[.int .i64 (1 + kk), .int .i64 0, .slice none 0 0, .int .i64 0, .int .i64 0, .int .i64 0, .int .i64 0, .int .i64 0, .slice none 0 0, .bool false, .int .i64 0, .int .i64 0] 60) = V := ⟨_, rfl⟩
  obtain ⟨q, hq⟩ : ∃ q, W.heap.size = q := ⟨_, rfl⟩
  rw [hW2, hq] at HT ⊢
  clear hW2 hq HI HR0 HBL HSZ
  go_cut [] (fun wx => ∃ ev A' c' B' d', Hid (EE w wx b z q e0 A c B d ev A' c' B' d'))
  case first =>
    have hk8 : kk = 0 ∨ kk = 1 ∨ kk = 2 ∨ kk = 3 ∨ kk = 4 ∨ kk = 5 ∨ kk = 6 ∨ kk = 7 := by omega
    rcases hk8 with rfl | rfl | rfl | rfl | rfl | rfl | rfl | rfl
    · have hpar := HT.out.par
      obtain ⟨y0, y1, y2, y3, y4, y5, y6, y7, y8, y9, y10, y11⟩ := hpar
      simp only [Nat.zero_add] at y0 y1 y2 y3 y4 y5 y6 y7 y8 y9 y10 y11
      have f0 := HT.out.v.fr
      have hvc := HT.out.v.cells
      obtain ⟨d0, d1, d2, d3, d4, d5, d6, d7, d8, d9, d10, d11⟩ := hvc
      simp only [Nat.zero_add] at d0 d1 d2 d3 d4 d5 d6 d7 d8 d9 d10 d11
      have hcut9 := cut_any A e0.da.length c 90 e0.da W2 rfl HCAP.out HT.out.pat.rd (by have := HREACH.out; omega) (by omega) (by omega)
      obtain ⟨L, hL⟩ : ∃ L, e0.da.take (90 : Int).toNat = L := ⟨_, rfl⟩
      rw [hL] at hcut9
      have HLB := Lib.hid (show ∀ x ∈ L, 0 ≤ x ∧ x < 256 by rw [← hL]; exact fun x hx => HT.out.p0.byt x (List.mem_of_mem_take hx))
      have HLL := Lib.hid (show L.length ≤ 90 by rw [← hL]; simp; omega)
      clear hL
      go_wp2_with fail
      refine hcut9.mono ?_
      rintro e w5 ⟨C, cc, rfl, hoc, hbc⟩
      have T9 := Lib.hid (HT.out.later hbc)
      have HNE := Lib.hid (show ∀ g, (Value.slice C L.length cc).ownBlock = some g → w.heap.size ≤ g ∧ b ≠ g ∧ z ≠ g ∧ q ≠ g from fun g hg => by
        have h1 := (hoc.lt g hg).1
        have h2 := HT.out.v.lt
        have h3 := HT.out.zq
        have h4 := HT.out.bz
        have h5 := HT.out.bel.size
        omega)
      have OC := Lib.hid (hoc.less (B' := w.heap.size) HT.out.bel.size)
      clear hoc hbc hcut9
      clear y0 y1 y2 y3 y4 y5 y6 y7 y8 y9 y10 y11 d0 d1 d2 d3 d4 d5 d6 d7 d8 d9 d10 d11 f0
      have hb6 := (Below.refl w5.heap.size w5).alloc (Nat.le_refl _) (.cells #[.int .u8 7] 5)
      have T8 := Lib.hid (T9.out.later hb6)
      have O8 := Lib.hid (OC.out.later hb6)
      have R8 := Lib.hid (Rd.one w5 7 5)
      clear T9 OC hb6
      have hll := HLL.out
      go_wp2_with (at_builtin; refine wpList_app _ .u8 rfl (.tmp 20) (.tmp 21) 23 rfl 5 (.int .u8 0) 1 Try.underlying23 info_byte rfl w.heap.size (.slice C L.length cc) L rfl O8.out _ 1 1 rfl [7] rfl R8.out (by unfold maxLen; omega) (by omega) T8.out.bel.size ?_; intro D dd w6 hd hg6; have T9 := Lib.hid (T8.out.grow hg6 HNE.out (Own.nil _ _ _ _) (Own.nil _ _ _ _)); have f0 := T9.out.v.fr 2; have hvc := T9.out.v.cells.c2; simp only [Nat.zero_add] at hvc; have OD := Lib.hid (own7 hd); have T := Lib.hid (T9.out.store (setCell_one _ q 2 _) (T9.out.v.dat (L ++ [7]) D dd) OD.out T9.out.o2 (T9.out.bd.dat (app7 HLB.out) (len7 HLL.out))); clear hd hg6 OD)
      go_meet
      simp only [List.length_append, List.length_singleton] at T
      exact ⟨_, _, _, _, _, T⟩
    · have hpar := HT.out.par
      obtain ⟨y0, y1, y2, y3, y4, y5, y6, y7, y8, y9, y10, y11⟩ := hpar
      simp only [Nat.zero_add] at y0 y1 y2 y3 y4 y5 y6 y7 y8 y9 y10 y11
      have f0 := HT.out.v.fr
      have hvc := HT.out.v.cells
      obtain ⟨d0, d1, d2, d3, d4, d5, d6, d7, d8, d9, d10, d11⟩ := hvc
      simp only [Nat.zero_add] at d0 d1 d2 d3 d4 d5 d6 d7 d8 d9 d10 d11
      have hcut9 := cut_any A e0.da.length c 90 e0.da W2 rfl HCAP.out HT.out.pat.rd (by have := HREACH.out; omega) (by omega) (by omega)
      obtain ⟨L, hL⟩ : ∃ L, e0.da.take (90 : Int).toNat = L := ⟨_, rfl⟩
      rw [hL] at hcut9
      have HLB := Lib.hid (show ∀ x ∈ L, 0 ≤ x ∧ x < 256 by rw [← hL]; exact fun x hx => HT.out.p0.byt x (List.mem_of_mem_take hx))
      have HLL := Lib.hid (show L.length ≤ 90 by rw [← hL]; simp; omega)
      clear hL
      go_wp2_with fail
      refine hcut9.mono ?_
      rintro e w5 ⟨C, cc, rfl, hoc, hbc⟩
      have T9 := Lib.hid (HT.out.later hbc)
      have HNE := Lib.hid (show ∀ g, (Value.slice C L.length cc).ownBlock = some g → w.heap.size ≤ g ∧ b ≠ g ∧ z ≠ g ∧ q ≠ g from fun g hg => by
        have h1 := (hoc.lt g hg).1
        have h2 := HT.out.v.lt
        have h3 := HT.out.zq
        have h4 := HT.out.bz
        have h5 := HT.out.bel.size
        omega)
      have OC := Lib.hid (hoc.less (B' := w.heap.size) HT.out.bel.size)
      clear hoc hbc hcut9
      clear y0 y1 y2 y3 y4 y5 y6 y7 y8 y9 y10 y11 d0 d1 d2 d3 d4 d5 d6 d7 d8 d9 d10 d11 f0
      have hb6 := (Below.refl w5.heap.size w5).alloc (Nat.le_refl _) (.cells #[.int .u8 7] 5)
      have T8 := Lib.hid (T9.out.later hb6)
      have O8 := Lib.hid (OC.out.later hb6)
      have R8 := Lib.hid (Rd.one w5 7 5)
      clear T9 OC hb6
      have hll := HLL.out
      go_wp2_with (at_builtin; refine wpList_app _ .u8 rfl (.tmp 20) (.tmp 21) 23 rfl 5 (.int .u8 0) 1 Try.underlying23 info_byte rfl w.heap.size (.slice C L.length cc) L rfl O8.out _ 1 1 rfl [7] rfl R8.out (by unfold maxLen; omega) (by omega) T8.out.bel.size ?_; intro D dd w6 hd hg6; have T9 := Lib.hid (T8.out.grow hg6 HNE.out (Own.nil _ _ _ _) (Own.nil _ _ _ _)); have f0 := T9.out.v.fr 2; have hvc := T9.out.v.cells.c2; simp only [Nat.zero_add] at hvc; have OD := Lib.hid (own7 hd); have T := Lib.hid (T9.out.store (setCell_one _ q 2 _) (T9.out.v.dat (L ++ [7]) D dd) OD.out T9.out.o2 (T9.out.bd.dat (app7 HLB.out) (len7 HLL.out))); clear hd hg6 OD)
      go_meet
      simp only [List.length_append, List.length_singleton] at T
      exact ⟨_, _, _, _, _, T⟩
    · have hpar := HT.out.par
      obtain ⟨y0, y1, y2, y3, y4, y5, y6, y7, y8, y9, y10, y11⟩ := hpar
      simp only [Nat.zero_add] at y0 y1 y2 y3 y4 y5 y6 y7 y8 y9 y10 y11
      have f0 := HT.out.v.fr
      have hvc := HT.out.v.cells
      obtain ⟨d0, d1, d2, d3, d4, d5, d6, d7, d8, d9, d10, d11⟩ := hvc
      simp only [Nat.zero_add] at d0 d1 d2 d3 d4 d5 d6 d7 d8 d9 d10 d11
      have hw9 : wrap64 (1 + e0.n % 100000) = 1 + e0.n % 100000 := by unfold wrap64; omega
      have hw8 : IntKind.i64.wrap (1 + e0.n % 100000) = 1 + e0.n % 100000 := by rw [IntKind.wrap_i64]; omega
      go_wp2_with fail
      refine (within_any e0.n 100000 _ (by omega) (by omega)).mono ?_
      rintro e w' ⟨rfl, rfl⟩
      have T := Lib.hid (HT.out.store (setCell_one _ q 1 _) (HT.out.v.nin (1 + e0.n % 100000)) HT.out.o1 HT.out.o2 (HT.out.bd.nin (by omega)))
      go_wp2_with fail
      go_meet
      exact ⟨_, _, _, _, _, T⟩
    · have hpar := HT.out.par
      obtain ⟨y0, y1, y2, y3, y4, y5, y6, y7, y8, y9, y10, y11⟩ := hpar
      simp only [Nat.zero_add] at y0 y1 y2 y3 y4 y5 y6 y7 y8 y9 y10 y11
      have f0 := HT.out.v.fr
      have hvc := HT.out.v.cells
      obtain ⟨d0, d1, d2, d3, d4, d5, d6, d7, d8, d9, d10, d11⟩ := hvc
      simp only [Nat.zero_add] at d0 d1 d2 d3 d4 d5 d6 d7 d8 d9 d10 d11
      have hq9 := HQ0.out
      go_wp2_with fail
      refine (playPacket_any e0.pk (how.tdiv 40) B d _ HT.out.pat.pk).mono ?_
      rintro e w5 ⟨PK, C, cc, rfl, hbd, hoc, hbc⟩
      have T9 := Lib.hid (HT.out.later hbc)
      have OC := Lib.hid (hoc.less (B' := w.heap.size) HT.out.bel.size)
      have HBD := Lib.hid hbd
      clear hbd
      clear hoc hbc
      clear y0 y1 y2 y3 y4 y5 y6 y7 y8 y9 y10 y11 d0 d1 d2 d3 d4 d5 d6 d7 d8 d9 d10 d11 f0
      have f0 := T9.out.v.fr
      have hvc := T9.out.v.cells
      obtain ⟨d0, d1, d2, d3, d4, d5, d6, d7, d8, d9, d10, d11⟩ := hvc
      simp only [Nat.zero_add] at d0 d1 d2 d3 d4 d5 d6 d7 d8 d9 d10 d11
      have T := Lib.hid (T9.out.store (setCells_one q (PK.cs C cc) 3 w5) (T9.out.v.pkt PK C cc) T9.out.o1 OC.out (T9.out.bd.pkt HBD.out))
      unfold Pkt.val
      go_wp2_with fail
      go_meet
      exact ⟨_, _, _, _, _, T⟩
    · have hpar := HT.out.par
      obtain ⟨y0, y1, y2, y3, y4, y5, y6, y7, y8, y9, y10, y11⟩ := hpar
      simp only [Nat.zero_add] at y0 y1 y2 y3 y4 y5 y6 y7 y8 y9 y10 y11
      have f0 := HT.out.v.fr
      have hvc := HT.out.v.cells
      obtain ⟨d0, d1, d2, d3, d4, d5, d6, d7, d8, d9, d10, d11⟩ := hvc
      simp only [Nat.zero_add] at d0 d1 d2 d3 d4 d5 d6 d7 d8 d9 d10 d11
      have hq9 := HQ0.out
      go_wp2_with fail
      refine (playPacket_any e0.pk (how.tdiv 40) B d _ HT.out.pat.pk).mono ?_
      rintro e w5 ⟨PK, C, cc, rfl, hbd, hoc, hbc⟩
      have T9 := Lib.hid (HT.out.later hbc)
      have OC := Lib.hid (hoc.less (B' := w.heap.size) HT.out.bel.size)
      have HBD := Lib.hid hbd
      clear hbd
      clear hoc hbc
      clear y0 y1 y2 y3 y4 y5 y6 y7 y8 y9 y10 y11 d0 d1 d2 d3 d4 d5 d6 d7 d8 d9 d10 d11 f0
      have f0 := T9.out.v.fr
      have hvc := T9.out.v.cells
      obtain ⟨d0, d1, d2, d3, d4, d5, d6, d7, d8, d9, d10, d11⟩ := hvc
      simp only [Nat.zero_add] at d0 d1 d2 d3 d4 d5 d6 d7 d8 d9 d10 d11
      have T := Lib.hid (T9.out.store (setCells_one q (PK.cs C cc) 3 w5) (T9.out.v.pkt PK C cc) T9.out.o1 OC.out (T9.out.bd.pkt HBD.out))
      unfold Pkt.val
      go_wp2_with fail
      go_meet
      exact ⟨_, _, _, _, _, T⟩
    · go_wp2_with fail
      go_meet
      exact ⟨_, _, _, _, _, HT⟩
    · have hpar := HT.out.par
      obtain ⟨y0, y1, y2, y3, y4, y5, y6, y7, y8, y9, y10, y11⟩ := hpar
      simp only [Nat.zero_add] at y0 y1 y2 y3 y4 y5 y6 y7 y8 y9 y10 y11
      have f0 := HT.out.v.fr
      have hvc := HT.out.v.cells
      obtain ⟨d0, d1, d2, d3, d4, d5, d6, d7, d8, d9, d10, d11⟩ := hvc
      simp only [Nat.zero_add] at d0 d1 d2 d3 d4 d5 d6 d7 d8 d9 d10 d11
      go_wp2_with fail
      refine (within_any e0.n 3 _ (by omega) (by omega)).mono ?_
      rintro e w' ⟨rfl, rfl⟩
      have T := Lib.hid (HT.out.store (setCell_one _ q 1 _) (HT.out.v.nin (e0.n % 3)) HT.out.o1 HT.out.o2 (HT.out.bd.nin (by omega)))
      go_wp2_with fail
      go_meet
      exact ⟨_, _, _, _, _, T⟩
    · have hpar := HT.out.par
      obtain ⟨y0, y1, y2, y3, y4, y5, y6, y7, y8, y9, y10, y11⟩ := hpar
      simp only [Nat.zero_add] at y0 y1 y2 y3 y4 y5 y6 y7 y8 y9 y10 y11
      have f0 := HT.out.v.fr
      have hvc := HT.out.v.cells
      obtain ⟨d0, d1, d2, d3, d4, d5, d6, d7, d8, d9, d10, d11⟩ := hvc
      simp only [Nat.zero_add] at d0 d1 d2 d3 d4 d5 d6 d7 d8 d9 d10 d11
      go_wp2_with fail
      refine (within_any e0.n 3 _ (by omega) (by omega)).mono ?_
      rintro e w' ⟨rfl, rfl⟩
      have T := Lib.hid (HT.out.store (setCell_one _ q 1 _) (HT.out.v.nin (e0.n % 3)) HT.out.o1 HT.out.o2 (HT.out.bd.nin (by omega)))
      go_wp2_with fail
      go_meet
      exact ⟨_, _, _, _, _, T⟩
  case rest =>
  obtain ⟨ev, A1, c1, B1, d1, HT⟩ := hcut
  go_wp2_with fail
  refine (within_any how 40 _ (by omega) (by omega)).mono ?_
  rintro e w' ⟨rfl, rfl⟩
  obtain ⟨x, hx⟩ : ∃ x, how % 40 = x := ⟨_, rfl⟩
  have hx0 : 0 ≤ x ∧ x < 40 := by omega
  rw [hx]
  clear hx
  go_upto_block 1 with (fail)
  go_cut [] (fun wx => ∃ ev A' c' B' d', Hid (EE w wx b z q e0 A c B d ev A' c' B' d'))
  case first =>
    have hx2 : x = 35 ∨ x = 36 ∨ x = 37 ∨ x = 38 ∨ x = 39 ∨ x < 35 := by omega
    rcases hx2 with rfl | rfl | rfl | rfl | rfl | hx2
    · have hpar := HT.out.par
      obtain ⟨y0, y1, y2, y3, y4, y5, y6, y7, y8, y9, y10, y11⟩ := hpar
      simp only [Nat.zero_add] at y0 y1 y2 y3 y4 y5 y6 y7 y8 y9 y10 y11
      have f0 := HT.out.v.fr
      have hvc := HT.out.v.cells
      obtain ⟨d0, d1, d2, d3, d4, d5, d6, d7, d8, d9, d10, d11⟩ := hvc
      simp only [Nat.zero_add] at d0 d1 d2 d3 d4 d5 d6 d7 d8 d9 d10 d11
      have T := Lib.hid (HT.out.store (setCell_one _ q 0 _) (HT.out.v.kin e0.k) HT.out.o1 HT.out.o2 (HT.out.bd.kin HT.out.p0.bk))
      go_wp2_with fail
      go_meet
      exact ⟨_, _, _, _, _, T⟩
    · have hpar := HT.out.par
      obtain ⟨y0, y1, y2, y3, y4, y5, y6, y7, y8, y9, y10, y11⟩ := hpar
      simp only [Nat.zero_add] at y0 y1 y2 y3 y4 y5 y6 y7 y8 y9 y10 y11
      have f0 := HT.out.v.fr
      have hvc := HT.out.v.cells
      obtain ⟨d0, d1, d2, d3, d4, d5, d6, d7, d8, d9, d10, d11⟩ := hvc
      simp only [Nat.zero_add] at d0 d1 d2 d3 d4 d5 d6 d7 d8 d9 d10 d11
      have T := Lib.hid (HT.out.store (setCell_one _ q 1 _) (HT.out.v.nin e0.n) HT.out.o1 HT.out.o2 (HT.out.bd.nin HT.out.p0.bn))
      go_wp2_with fail
      go_meet
      exact ⟨_, _, _, _, _, T⟩
    · have hpar := HT.out.par
      obtain ⟨y0, y1, y2, y3, y4, y5, y6, y7, y8, y9, y10, y11⟩ := hpar
      simp only [Nat.zero_add] at y0 y1 y2 y3 y4 y5 y6 y7 y8 y9 y10 y11
      have f0 := HT.out.v.fr
      have hvc := HT.out.v.cells
      obtain ⟨d0, d1, d2, d3, d4, d5, d6, d7, d8, d9, d10, d11⟩ := hvc
      simp only [Nat.zero_add] at d0 d1 d2 d3 d4 d5 d6 d7 d8 d9 d10 d11
      have hcut9 := cut_any A e0.da.length c 90 e0.da wc rfl HCAP.out HT.out.pat.rd (by have := HREACH.out; omega) (by omega) (by omega)
      obtain ⟨L, hL⟩ : ∃ L, e0.da.take (90 : Int).toNat = L := ⟨_, rfl⟩
      rw [hL] at hcut9
      have HLB := Lib.hid (show ∀ x ∈ L, 0 ≤ x ∧ x < 256 by rw [← hL]; exact fun x hx => HT.out.p0.byt x (List.mem_of_mem_take hx))
      have HLL := Lib.hid (show L.length ≤ 90 by rw [← hL]; simp; omega)
      clear hL
      go_wp2_with fail
      refine hcut9.mono ?_
      rintro e w5 ⟨C, cc, rfl, hoc, hbc⟩
      have T9 := Lib.hid (HT.out.later hbc)
      have HNE := Lib.hid (show ∀ g, (Value.slice C L.length cc).ownBlock = some g → w.heap.size ≤ g ∧ b ≠ g ∧ z ≠ g ∧ q ≠ g from fun g hg => by
        have h1 := (hoc.lt g hg).1
        have h2 := HT.out.v.lt
        have h3 := HT.out.zq
        have h4 := HT.out.bz
        have h5 := HT.out.bel.size
        omega)
      have OC := Lib.hid (hoc.less (B' := w.heap.size) HT.out.bel.size)
      clear hoc hbc hcut9
      clear y0 y1 y2 y3 y4 y5 y6 y7 y8 y9 y10 y11 d0 d1 d2 d3 d4 d5 d6 d7 d8 d9 d10 d11 f0
      have f0 := T9.out.v.fr
      have hvc := T9.out.v.cells
      obtain ⟨d0, d1, d2, d3, d4, d5, d6, d7, d8, d9, d10, d11⟩ := hvc
      simp only [Nat.zero_add] at d0 d1 d2 d3 d4 d5 d6 d7 d8 d9 d10 d11
      have T := Lib.hid (T9.out.store (setCell_one _ q 2 _) (T9.out.v.dat L C cc) OC.out T9.out.o2 (T9.out.bd.dat HLB.out (by have := HLL.out; omega)))
      go_wp2_with fail
      go_meet
      exact ⟨_, _, _, _, _, T⟩
    · have hpar := HT.out.par
      obtain ⟨y0, y1, y2, y3, y4, y5, y6, y7, y8, y9, y10, y11⟩ := hpar
      simp only [Nat.zero_add] at y0 y1 y2 y3 y4 y5 y6 y7 y8 y9 y10 y11
      have f0 := HT.out.v.fr
      have hvc := HT.out.v.cells
      obtain ⟨d0, d1, d2, d3, d4, d5, d6, d7, d8, d9, d10, d11⟩ := hvc
      simp only [Nat.zero_add] at d0 d1 d2 d3 d4 d5 d6 d7 d8 d9 d10 d11
      go_wp2_with fail
      refine (playCut_any e0.pk B d _ HT.out.pat.pk).mono ?_
      rintro e w5 ⟨L, C, cc, rfl, hlb, hll, hoc, hbc⟩
      have T9 := Lib.hid (HT.out.later hbc)
      have OC := Lib.hid (hoc.less (B' := w.heap.size) HT.out.bel.size)
      obtain ⟨PK, hPK⟩ : ∃ PK : Pkt, { e0.pk with da := L } = PK := ⟨_, rfl⟩
      have HBD := Lib.hid (show PkB PK by rw [← hPK]; exact ⟨hlb, hll, HP.out.pk.bk, HP.out.pk.bp, HP.out.pk.bn, HP.out.pk.bo, HP.out.pk.bf, HP.out.pk.bs, HP.out.pk.bl⟩)
      have HPK := Lib.hid hPK
      rw [show L = PK.da by rw [← hPK]] at OC
      rw [hPK]
      clear hlb hll hPK
      clear hoc hbc
      clear y0 y1 y2 y3 y4 y5 y6 y7 y8 y9 y10 y11 d0 d1 d2 d3 d4 d5 d6 d7 d8 d9 d10 d11 f0
      have f0 := T9.out.v.fr
      have hvc := T9.out.v.cells
      obtain ⟨d0, d1, d2, d3, d4, d5, d6, d7, d8, d9, d10, d11⟩ := hvc
      simp only [Nat.zero_add] at d0 d1 d2 d3 d4 d5 d6 d7 d8 d9 d10 d11
      have T := Lib.hid (T9.out.store (setCells_one q (PK.cs C cc) 3 w5) (T9.out.v.pkt PK C cc) T9.out.o1 OC.out (T9.out.bd.pkt HBD.out))
      unfold Pkt.val
      go_wp2_with fail
      go_meet
      exact ⟨_, _, _, _, _, T⟩
    · go_wp2_with fail
      refine wp_region_held_drew (S := fun wi => EvIn wi b 0 e0 A c B d) (by kernel_rfl) (HT.out.later ((Below.refl _ _).drew)).par (fun hHeld => ?_)
      have T := Lib.hid (HT.out.later ((Below.refl _ _).drew))
      clear HT
      obtain ⟨v0, hv9⟩ : ∃ v, wc.drew = v := ⟨_, rfl⟩
      rw [hv9] at hHeld T ⊢
      clear hv9
      refine wpAnyH_take (i := 0) (v := ?_) rfl (by kernel_rfl) (by kernel_rfl) (by kernel_rfl) (fun _ _ _ h => h) (Or.inl ⟨by rfl, ?_⟩) (by assumption) ?_
      rotate_left
      · intro w hSw
        (try dsimp only at hSw)
        go_simp
        try (with_reducible rfl)
      try simp only [Act.put, List.getElem_toArray, List.getElem_cons_zero, List.setIfInBounds_toArray, List.set_cons_zero, List.set_cons_succ]
      refine wpAnyH_take (i := 1) (v := ?_) rfl (by kernel_rfl) (by kernel_rfl) (by kernel_rfl) (fun _ _ _ h => h) (Or.inl ⟨by rfl, ?_⟩) (by assumption) ?_
      rotate_left
      · intro w hSw
        (try dsimp only at hSw)
        have c9 := hSw.c0
        clear hSw
        go_simp
        try (with_reducible rfl)
      try simp only [Act.put, List.getElem_toArray, List.getElem_cons_zero, List.getElem_cons_succ, List.setIfInBounds_toArray, List.set_cons_zero, List.set_cons_succ]
      refine wpAnyH_take (i := 2) (v := ?_) rfl (by kernel_rfl) (by kernel_rfl) (by kernel_rfl) (fun _ _ _ h => h) (Or.inl ⟨by rfl, ?_⟩) (by assumption) ?_
      rotate_left
      · intro w hSw
        (try dsimp only at hSw)
        go_simp
        try (with_reducible rfl)
      try simp only [Act.put, List.getElem_toArray, List.getElem_cons_zero, List.getElem_cons_succ, List.setIfInBounds_toArray, List.set_cons_zero, List.set_cons_succ]
      refine wpAnyH_take (i := 3) (v := ?_) rfl (by kernel_rfl) (by kernel_rfl) (by kernel_rfl) (fun _ _ _ h => h) (Or.inl ⟨by rfl, ?_⟩) (by assumption) ?_
      rotate_left
      · intro w hSw
        (try dsimp only at hSw)
        have c9 := hSw.q1
        clear hSw
        go_simp
        try (with_reducible rfl)
      try simp only [Act.put, List.getElem_toArray, List.getElem_cons_zero, List.getElem_cons_succ, List.setIfInBounds_toArray, List.set_cons_zero, List.set_cons_succ]
      refine wpAnyH_take (i := 4) (v := ?_) rfl (by kernel_rfl) (by kernel_rfl) (by kernel_rfl) (fun _ _ _ h => h) (Or.inl ⟨by rfl, ?_⟩) (by assumption) ?_
      rotate_left
      · intro w hSw
        (try dsimp only at hSw)
        go_simp
        try (with_reducible rfl)
      try simp only [Act.put, List.getElem_toArray, List.getElem_cons_zero, List.getElem_cons_succ, List.setIfInBounds_toArray, List.set_cons_zero, List.set_cons_succ]
      refine wpAnyH_take (i := 5) (v := ?_) rfl (by kernel_rfl) (by kernel_rfl) (by kernel_rfl) (fun _ _ _ h => h) (Or.inl ⟨by rfl, ?_⟩) (by assumption) ?_
      rotate_left
      · intro w hSw
        (try dsimp only at hSw)
        have c9 := hSw.q2
        clear hSw
        go_simp
        try (with_reducible rfl)
      try simp only [Act.put, List.getElem_toArray, List.getElem_cons_zero, List.getElem_cons_succ, List.setIfInBounds_toArray, List.set_cons_zero, List.set_cons_succ]
      refine wpAnyH_take (i := 7) (v := ?_) rfl (by kernel_rfl) (by kernel_rfl) (by kernel_rfl) (fun _ _ _ h => h) (Or.inl ⟨by rfl, ?_⟩) (by assumption) ?_
      rotate_left
      · intro w hSw
        (try dsimp only at hSw)
        go_simp
        try (with_reducible rfl)
      try simp only [Act.put, List.getElem_toArray, List.getElem_cons_zero, List.getElem_cons_succ, List.setIfInBounds_toArray, List.set_cons_zero, List.set_cons_succ]
      refine wpAnyH_take (i := 8) (v := .agg (e0.pk.cs B d).toArray) rfl (by kernel_rfl) (by kernel_rfl) (by kernel_rfl) (fun _ _ _ h => h) (yieldsIf_load_mid (by rfl) 58 (.tmp 83) rfl _ _ rfl (e0.pk.cs B d) _ (fun w' h' => h'.pkRange) Try.underlying58 rfl (by kernel_rfl)) (by assumption) ?_
      try simp only [Act.put, List.getElem_toArray, List.getElem_cons_zero, List.getElem_cons_succ, List.setIfInBounds_toArray, List.set_cons_zero, List.set_cons_succ]
      refine wpAnyH_ready (rs := [6]) (by kernel_rfl) (by simp) ?_
      refine AllReadyH.cons rfl (fun K hK => ?_) AllReadyH.nil
      go_simp
      have hcut9 := cut_any A e0.da.length c 90 e0.da v0 rfl HCAP.out T.out.pat.rd (by have := HREACH.out; omega) (by omega) (by omega)
      obtain ⟨L, hL⟩ : ∃ L, e0.da.take (90 : Int).toNat = L := ⟨_, rfl⟩
      rw [hL] at hcut9
      have HLB := Lib.hid (show ∀ x ∈ L, 0 ≤ x ∧ x < 256 by rw [← hL]; exact fun x hx => T.out.p0.byt x (List.mem_of_mem_take hx))
      have HLL := Lib.hid (show L.length ≤ 90 by rw [← hL]; simp; omega)
      clear hL
      refine hcut9.mono ?_
      rintro e v1 ⟨C1, cc1, rfl, hoc, hbc⟩
      have OC1 := Lib.hid (hoc.less (B' := w.heap.size) T.out.bel.size)
      have T9 := Lib.hid (T.out.later hbc)
      clear hoc hbc hcut9 T
      have T := T9
      clear T9
      refine hK.out _ _ T.out.par (fun hHeld2 => ?_)
      clear hK K hHeld
      have hHeld := hHeld2
      clear hHeld2
      try simp only [Act.put, List.getElem_toArray, List.getElem_cons_zero, List.getElem_cons_succ, List.setIfInBounds_toArray, List.set_cons_zero, List.set_cons_succ]
      refine wpAnyH_ready (rs := [9]) (by kernel_rfl) (by simp) ?_
      refine AllReadyH.cons rfl (fun K hK => ?_) AllReadyH.nil
      go_simp
      refine (playCut_any e0.pk B d v1 T.out.pat.pk).mono ?_
      rintro e v2 ⟨L2, C, cc, rfl, hlb, hll, hoc, hbc⟩
      have OC := Lib.hid (hoc.less (B' := w.heap.size) T.out.bel.size)
      have T9 := Lib.hid (T.out.later hbc)
      have OC9 := Lib.hid (OC1.out.later hbc)
      obtain ⟨PK, hPK⟩ : ∃ PK : Pkt, { e0.pk with da := L2 } = PK := ⟨_, rfl⟩
      have HBD := Lib.hid (show PkB PK by rw [← hPK]; exact ⟨hlb, hll, HP.out.pk.bk, HP.out.pk.bp, HP.out.pk.bn, HP.out.pk.bo, HP.out.pk.bf, HP.out.pk.bs, HP.out.pk.bl⟩)
      rw [show L2 = PK.da by rw [← hPK]] at OC
      rw [hPK]
      clear hlb hll hPK hoc hbc T OC1
      have T := T9
      have OC1 := OC9
      clear T9 OC9
      unfold Pkt.val
      refine hK.out _ _ T.out.par (fun hHeld2 => ?_)
      clear hK K hHeld
      have hHeld := hHeld2
      clear hHeld2
      try simp only [Act.put, List.getElem_toArray, List.getElem_cons_zero, List.getElem_cons_succ, List.setIfInBounds_toArray, List.set_cons_zero, List.set_cons_succ]
      refine wpAnyH_take (i := 10) (v := ?_) rfl (by kernel_rfl) (by kernel_rfl) (by kernel_rfl) (fun _ _ _ h => h) (Or.inl ⟨by rfl, ?_⟩) (by assumption) ?_
      rotate_left
      · intro w hSw
        (try dsimp only at hSw)
        go_simp
        try (with_reducible rfl)
      try simp only [Act.put, List.getElem_toArray, List.getElem_cons_zero, List.getElem_cons_succ, List.setIfInBounds_toArray, List.set_cons_zero, List.set_cons_succ]
      have f0 := T.out.v.fr
      have hvc := T.out.v.cells
      obtain ⟨d0, d1, d2, d3, d4, d5, d6, d7, d8, d9, d10, d11⟩ := hvc
      simp only [Nat.zero_add] at d0 d1 d2 d3 d4 d5 d6 d7 d8 d9 d10 d11
      refine wpAnyH_ready (rs := [11]) (by kernel_rfl) (by simp) ?_
      refine AllReadyH.cons rfl (fun K hK => ?_) AllReadyH.nil
      go_simp
      have T9 := Lib.hid (T.out.store (setCells_one q ((⟨e0.k, e0.n, L, PK⟩ : Ev).cs C1 cc1 C cc) 0 v2) (T.out.v.all ⟨e0.k, e0.n, L, PK⟩ C1 cc1 C cc) OC1.out OC.out ⟨HLB.out, by have := HLL.out; simp only; omega, HP.out.bk, HP.out.bn, HBD.out⟩)
      change K _ (v2.setCells q 0 ((⟨e0.k, e0.n, L, PK⟩ : Ev).cs C1 cc1 C cc))
      clear T d0 d1 d2 d3 d4 d5 d6 d7 d8 d9 d10 d11 f0
      have T := T9
      clear T9
      obtain ⟨v3, hv3⟩ : ∃ V, v2.setCells q 0 ((⟨e0.k, e0.n, L, PK⟩ : Ev).cs C1 cc1 C cc) = V := ⟨_, rfl⟩
      rw [hv3] at T ⊢
      clear hv3
      refine hK.out _ _ T.out.par (fun hHeld2 => ?_)
      clear hK K hHeld
      have hHeld := hHeld2
      clear hHeld2
      try simp only [Act.put, List.getElem_toArray, List.getElem_cons_zero, List.getElem_cons_succ, List.setIfInBounds_toArray, List.set_cons_zero, List.set_cons_succ]
      refine wpAnyH_done (by kernel_rfl) ?_ _
      go_wp2_with fail
      go_meet
      exact ⟨_, _, _, _, _, T⟩
    · have n35 : (x == 35) = false := by simp; omega
      have n36 : (x == 36) = false := by simp; omega
      have n37 : (x == 37) = false := by simp; omega
      have n38 : (x == 38) = false := by simp; omega
      have n39 : (x == 39) = false := by simp; omega
      go_wp2_with fail
      go_meet
      exact ⟨_, _, _, _, _, HT⟩
  case rest =>
  obtain ⟨ev2, A2, c2, B2, d2, HT⟩ := hcut
  have hvc := HT.out.v.cells
  obtain ⟨y0, y1, y2, y3, y4, y5, y6, y7, y8, y9, y10, y11⟩ := hvc
  simp only [Nat.zero_add] at y0 y1 y2 y3 y4 y5 y6 y7 y8 y9 y10 y11
  have hzc := HT.out.zr.cells
  obtain ⟨x0, x1, x2, x3, x4, x5, x6, x7, x8, x9, x10, x11⟩ := hzc
  simp only [Nat.zero_add] at x0 x1 x2 x3 x4 x5 x6 x7 x8 x9 x10 x11
  have f0 := HT.out.zr.fr
  go_wp2_with fail
  change bodyPost _ _ _ _ _ (wc.setCells z 0 (ev2.cs A2 c2 B2 d2))
  obtain ⟨r1, r2, r3⟩ := HT.out.put (ev2.cs A2 c2 B2 d2)
  have h9 := HT.out.zr.res ev2 A2 c2 B2 d2
  refine bodyPost_ret (v := ev2.val A2 c2 B2 d2) ?_ rfl ⟨ev2, A2, c2, B2, d2, rfl, HT.out.bd, r1, r2, r3⟩
  clear y0 y1 y2 y3 y4 y5 y6 y7 y8 y9 y10 y11 x0 x1 x2 x3 x4 x5 x6 x7 x8 x9 x10 x11 f0
  simp [results, Try.results63, asAddr, h9]
end Go.Proofs.Ytbjneoeiognahaa

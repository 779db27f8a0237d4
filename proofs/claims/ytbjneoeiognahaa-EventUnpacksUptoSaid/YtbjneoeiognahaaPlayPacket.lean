/-
  What the statements' help Packet makes of a packet: some packet, of the call's own. A contract over the program.
-/
import Derived.Test.YtbjneoeiognahaaPlayMath
import Derived.Test.YtbjneoeiognahaaBase
import Derived.Deep.CutBlock
import Derived.Deep.DeepCutAuto
import Derived.Deep.RegionHeld3
namespace Go.Proofs.Ytbjneoeiognahaa
open Go.RowKit

set_option maxRecDepth 10000 in
/-- Cut of a packet's bytes. -/
theorem playCut_any (p : Pkt) (A : Option Addr) (c : Nat) (w : World) (hp : PktAt w p A c) :
    Calls Try.prog 84 #[p.val A c] w fun e w' => ∃ L B d, e = .returned (({ p with da := L } : Pkt).val B d) ∧ (∀ x ∈ L, 0 ≤ x ∧ x < 256) ∧ L.length ≤ 80 ∧ Own .u8 5 w' w.heap.size (.slice B L.length d) L ∧ Below w.heap.size w w' := by
  have hin := PkV.new w p A c
  have hr0 := PkV.new (w.alloc (.cells (p.cs A c).toArray 58)) Pkt.zero none 0
  have hin2 := hin.later ((Below.refl _ _).alloc (Nat.le_refl _) (.cells (Pkt.zero.cs none 0).toArray 58))
  have hbl : Below w.heap.size w ((w.alloc (.cells (p.cs A c).toArray 58)).alloc (.cells (Pkt.zero.cs none 0).toArray 58)) :=
    have h1 := (Below.refl w.heap.size w).alloc (Nat.le_refl _) (.cells (p.cs A c).toArray 58)
    h1.alloc h1.size _
  rw [World.size_alloc] at hr0
  have hca := fun W (h : Rd .u8 W A p.da) => cut_any A p.da.length c 80 p.da W rfl hp.cap h (by have := hp.reach; omega) (by omega) (by omega)
  obtain ⟨L, hL⟩ : ∃ L, p.da.take (80 : Int).toNat = L := ⟨_, rfl⟩
  simp only [hL] at hca
  have hlb : ∀ x ∈ L, 0 ≤ x ∧ x < 256 := by rw [← hL]; exact fun x hx => hp.byt x (List.mem_of_mem_take hx)
  have hll : L.length ≤ 80 := by rw [← hL]; simp; omega
  have HP := Lib.hid hp
  have HCA := Lib.hid hca
  have HLB := Lib.hid hlb
  have HLL := Lib.hid hll
  clear hL hca hlb hp hin hll
  unfold Pkt.cs at hr0 hin2 hbl
  change PkV ((w.alloc (.cells #[.int .i64 p.k, .int .i64 p.pa, .int .i64 p.nu, .int .i64 p.ofn, .int .i64 p.fr, .slice A p.da.length c, .bool p.fin, .int .i64 p.se, .int .i64 p.li] 58)).alloc (.cells #[.int .i64 0, .int .i64 0, .int .i64 0, .int .i64 0, .int .i64 0, .slice none 0 0, .bool false, .int .i64 0, .int .i64 0] 58)) (w.heap.size + 1) Pkt.zero none 0 at hr0
  change PkV ((w.alloc (.cells #[.int .i64 p.k, .int .i64 p.pa, .int .i64 p.nu, .int .i64 p.ofn, .int .i64 p.fr, .slice A p.da.length c, .bool p.fin, .int .i64 p.se, .int .i64 p.li] 58)).alloc (.cells #[.int .i64 0, .int .i64 0, .int .i64 0, .int .i64 0, .int .i64 0, .slice none 0 0, .bool false, .int .i64 0, .int .i64 0] 58)) w.heap.size p A c at hin2
  change Below w.heap.size w ((w.alloc (.cells #[.int .i64 p.k, .int .i64 p.pa, .int .i64 p.nu, .int .i64 p.ofn, .int .i64 p.fr, .slice A p.da.length c, .bool p.fin, .int .i64 p.se, .int .i64 p.li] 58)).alloc (.cells #[.int .i64 0, .int .i64 0, .int .i64 0, .int .i64 0, .int .i64 0, .slice none 0 0, .bool false, .int .i64 0, .int .i64 0] 58)) at hbl
  have H0 := Lib.hid hr0
  have H1 := Lib.hid hin2
  have HB := Lib.hid hbl
  clear hr0 hin2 hbl
  unfold Pkt.val
  go_enter Try.func84, Try.ntmps84
  go_wp2_with fail
  refine (HCA.out _ (HP.out.rd.later (HB.out.mono (Nat.le_refl _)))).mono ?_
  rintro e w1 ⟨B, d, rfl, ho, hb⟩
  have Z1 := Lib.hid (H0.out.later hb)
  have V1 := Lib.hid (H1.out.later hb)
  have OC := Lib.hid (ho.less (B' := w.heap.size) HB.out.size)
  have B1 := Lib.hid (HB.out.trans (hb.mono HB.out.size))
  clear ho hb H0 H1 HB HCA
  have f9 := V1.out.fr 5
  obtain ⟨c0, c1, c2, c3, c4, c5, c6, c7, c8⟩ := V1.out.cells
  have f0 := Z1.out.fr
  obtain ⟨x0, x1, x2, x3, x4, x5, x6, x7, x8⟩ := Z1.out.cells
  go_wp2_with fail
  change bodyPost _ _ _ _ _ ((w1.setCell ⟨w.heap.size, 5, none⟩ (.slice B L.length d)).setCells (w.heap.size + 1) 0 (({ p with da := L } : Pkt).cs B d))
  have hg1 := setCell_one w1 w.heap.size 5 (.slice B L.length d)
  have Z2 := Z1.out.kept hg1 (by omega)
  have O2 := OC.out.kept hg1 (own_not_row OC.out (by decide) V1.out)
  have B2 := B1.out.grown hg1 B1.out.size (by intro g e; simp at e; omega)
  have hg2 := setCells_one (w.heap.size + 1) (({ p with da := L } : Pkt).cs B d) 0 (w1.setCell ⟨w.heap.size, 5, none⟩ (.slice B L.length d))
  have h9 := Z2.res { p with da := L } B d
  refine bodyPost_ret (v := ({ p with da := L } : Pkt).val B d) ?_ rfl ⟨L, B, d, rfl, HLB.out, HLL.out, O2.kept hg2 (own_not_row O2 (by decide) Z2), B2.grown hg2 B2.size (by intro g e; simp at e; omega)⟩
  clear c0 c1 c2 c3 c4 c5 c6 c7 c8 x0 x1 x2 x3 x4 x5 x6 x7 x8 f0 f9
  simp [results, Try.results84, asAddr, h9]

set_option maxRecDepth 100000 in
set_option maxHeartbeats 4000000 in
theorem playPacket_any (p : Pkt) (how : Int) (A : Option Addr) (c : Nat) (w : World) (hp : PktAt w p A c) :
    Calls Try.prog 83 #[p.val A c, .int .i64 how] w fun e w' => ∃ pk B d, e = .returned (pk.val B d) ∧ PkB pk ∧ Own .u8 5 w' w.heap.size (.slice B pk.da.length d) pk.da ∧ Below w.heap.size w w' := by
  have hin := PktIn.new w p A c 58
  have hr0 := PkV.new (w.alloc (.cells (p.cs A c).toArray 58)) Pkt.zero none 0
  have hin2 := hin.below ((Below.refl _ _).alloc (Nat.le_refl _) (.cells (Pkt.zero.cs none 0).toArray 58)) (by simp)
  have hbl : Below w.heap.size w ((w.alloc (.cells (p.cs A c).toArray 58)).alloc (.cells (Pkt.zero.cs none 0).toArray 58)) :=
    have h1 := (Below.refl w.heap.size w).alloc (Nat.le_refl _) (.cells (p.cs A c).toArray 58)
    h1.alloc h1.size _
  have hsz : ((w.alloc (.cells (p.cs A c).toArray 58)).alloc (.cells (Pkt.zero.cs none 0).toArray 58)).heap.size = w.heap.size + 2 := by simp
  rw [World.size_alloc] at hr0
  have HP := Lib.hid hp
  have pk1 := hp.bk
  have pk2 := hp.bp
  have pk3 := hp.bn
  have pk4 := hp.bo
  have pk5 := hp.bf
  have pk6 := hp.bs
  have pk7 := hp.bl
  have PB := Lib.hid (And.intro pk1 (And.intro pk2 (And.intro pk3 (And.intro pk4 (And.intro pk5 (And.intro pk6 pk7))))))
  have hcap := hp.cap
  have hreach := hp.reach
  clear hp hin pk1 pk2 pk3 pk4 pk5 pk6 pk7
  unfold Pkt.cs at hin2 hr0 hbl hsz
  unfold Pkt.val
  go_enter Try.func83, Try.ntmps83
  go_upto_region 2 with (fail)
  obtain ⟨W, hW⟩ : ∃ W, (w.alloc (.cells #[.int .i64 p.k, .int .i64 p.pa, .int .i64 p.nu, .int .i64 p.ofn, .int .i64 p.fr, .slice A p.da.length c, .bool p.fin, .int .i64 p.se, .int .i64 p.li] 58)).alloc (.cells #[.int .i64 0, .int .i64 0, .int .i64 0, .int .i64 0, .int .i64 0, .slice none 0 0, .bool false, .int .i64 0, .int .i64 0] 58) = W := ⟨_, rfl⟩
  change PkV ((w.alloc (.cells #[.int .i64 p.k, .int .i64 p.pa, .int .i64 p.nu, .int .i64 p.ofn, .int .i64 p.fr, .slice A p.da.length c, .bool p.fin, .int .i64 p.se, .int .i64 p.li] 58)).alloc (.cells #[.int .i64 0, .int .i64 0, .int .i64 0, .int .i64 0, .int .i64 0, .slice none 0 0, .bool false, .int .i64 0, .int .i64 0] 58)) (w.heap.size + 1) Pkt.zero none 0 at hr0
  change PktIn ((w.alloc (.cells #[.int .i64 p.k, .int .i64 p.pa, .int .i64 p.nu, .int .i64 p.ofn, .int .i64 p.fr, .slice A p.da.length c, .bool p.fin, .int .i64 p.se, .int .i64 p.li] 58)).alloc (.cells #[.int .i64 0, .int .i64 0, .int .i64 0, .int .i64 0, .int .i64 0, .slice none 0 0, .bool false, .int .i64 0, .int .i64 0] 58)) w.heap.size p A c at hin2
  change Below w.heap.size w ((w.alloc (.cells #[.int .i64 p.k, .int .i64 p.pa, .int .i64 p.nu, .int .i64 p.ofn, .int .i64 p.fr, .slice A p.da.length c, .bool p.fin, .int .i64 p.se, .int .i64 p.li] 58)).alloc (.cells #[.int .i64 0, .int .i64 0, .int .i64 0, .int .i64 0, .int .i64 0, .slice none 0 0, .bool false, .int .i64 0, .int .i64 0] 58)) at hbl
  change ((w.alloc (.cells #[.int .i64 p.k, .int .i64 p.pa, .int .i64 p.nu, .int .i64 p.ofn, .int .i64 p.fr, .slice A p.da.length c, .bool p.fin, .int .i64 p.se, .int .i64 p.li] 58)).alloc (.cells #[.int .i64 0, .int .i64 0, .int .i64 0, .int .i64 0, .int .i64 0, .slice none 0 0, .bool false, .int .i64 0, .int .i64 0] 58)).heap.size = w.heap.size + 2 at hsz
  rw [hW] at hr0 hin2 hbl hsz ⊢
  clear hW
  obtain ⟨b, hb⟩ : ∃ b, w.heap.size = b := ⟨_, rfl⟩
  obtain ⟨z, hz⟩ : ∃ z, w.heap.size + 1 = z := ⟨_, rfl⟩
  have HBB := Lib.hid hb
  have HZ := Lib.hid (show z = b + 1 by omega)
  have HSZ := Lib.hid (show W.heap.size = b + 2 by omega)
  rw [hz] at hr0 ⊢
  rw [hb] at hin2 ⊢
  have HI := Lib.hid hin2
  have HR0 := Lib.hid hr0
  have HBL := Lib.hid hbl
  clear hb hz hr0 hin2 hbl hsz
  go_cut [6] (fun s6 wx => ∃ q kk pp nn, s6 = .pointer (some ⟨q, 0, none⟩) ∧ 0 ≤ kk ∧ kk < 4 ∧ Hid (PP w wx b z q p A c ⟨1 + kk, pp, nn, 0, 0, [], false, 0, 0⟩ none 0))
  case first =>
    obtain ⟨kk, hkk⟩ : ∃ x, p.k % 4 = x := ⟨_, rfl⟩
    have kb : 0 ≤ kk ∧ kk < 4 := by omega
    have HKK := Lib.hid hkk
    have hwr : wrap64 (1 + kk) = 1 + kk := by unfold wrap64; omega
    have hwr2 : IntKind.i64.wrap (1 + kk) = 1 + kk := by rw [IntKind.wrap_i64]; omega
    clear hkk
    refine wp_region_held_drew (S := fun wi => PktIn wi b p A c ∧ Below W.heap.size W wi) (by kernel_rfl) ⟨HI.out.below ((Below.refl W.heap.size W).drew) (by rw [HSZ.out]; omega), (Below.refl _ _).drew⟩ (fun hHeld => ?_)
    have hr1 := HR0.out.later ((Below.refl W.heap.size W).drew)
    have hs1 : W.drew.heap.size = b + 2 := HSZ.out
    obtain ⟨v0, hv9⟩ : ∃ v, W.drew = v := ⟨_, rfl⟩
    rw [hv9] at hHeld hr1 hs1 ⊢
    have HR1 := Lib.hid hr1
    have HS1 := Lib.hid hs1
    clear hv9 hr1 hs1
    refine wpAnyH_take (i := 0) (v := ?_) rfl (by kernel_rfl) (by kernel_rfl) (by kernel_rfl) (fun _ _ _ h => h) (Or.inl ⟨by rfl, ?_⟩) (by assumption) ?_
    rotate_left
    · intro w hSw
      (try dsimp only at hSw)
      go_simp
      try (with_reducible rfl)
    try simp only [Act.put, List.getElem_toArray, List.getElem_cons_zero, List.setIfInBounds_toArray, List.set_cons_zero, List.set_cons_succ]
    refine wpAnyH_take (i := 1) (v := ?_) rfl (by kernel_rfl) (by kernel_rfl) (by kernel_rfl) (fun _ _ _ h => h) (Or.inl ⟨by rfl, ?_⟩) (by assumption) ?_
    rotate_left
    · intro w hSw
      (try dsimp only at hSw)
      go_simp
      try (with_reducible rfl)
    try simp only [Act.put, List.getElem_toArray, List.getElem_cons_zero, List.getElem_cons_succ, List.setIfInBounds_toArray, List.set_cons_zero, List.set_cons_succ]
    refine wpAnyH_take (i := 2) (v := ?_) rfl (by kernel_rfl) (by kernel_rfl) (by kernel_rfl) (fun _ _ _ h => h) (Or.inl ⟨by rfl, ?_⟩) (by assumption) ?_
    rotate_left
    · intro w hSw
      (try dsimp only at hSw)
      have c9 := hSw.1.c0
      clear hSw
      go_simp
      try (with_reducible rfl)
    try simp only [Act.put, List.getElem_toArray, List.getElem_cons_zero, List.getElem_cons_succ, List.setIfInBounds_toArray, List.set_cons_zero, List.set_cons_succ]
    refine wpAnyH_take (i := 5) (v := ?_) rfl (by kernel_rfl) (by kernel_rfl) (by kernel_rfl) (fun _ _ _ h => h) (Or.inl ⟨by rfl, ?_⟩) (by assumption) ?_
    rotate_left
    · intro w hSw
      (try dsimp only at hSw)
      go_simp
      try (with_reducible rfl)
    try simp only [Act.put, List.getElem_toArray, List.getElem_cons_zero, List.getElem_cons_succ, List.setIfInBounds_toArray, List.set_cons_zero, List.set_cons_succ]
    refine wpAnyH_take (i := 6) (v := ?_) rfl (by kernel_rfl) (by kernel_rfl) (by kernel_rfl) (fun _ _ _ h => h) (Or.inl ⟨by rfl, ?_⟩) (by assumption) ?_
    rotate_left
    · intro w hSw
      (try dsimp only at hSw)
      go_simp
      try (with_reducible rfl)
    try simp only [Act.put, List.getElem_toArray, List.getElem_cons_zero, List.getElem_cons_succ, List.setIfInBounds_toArray, List.set_cons_zero, List.set_cons_succ]
    refine wpAnyH_take (i := 7) (v := ?_) rfl (by kernel_rfl) (by kernel_rfl) (by kernel_rfl) (fun _ _ _ h => h) (Or.inl ⟨by rfl, ?_⟩) (by assumption) ?_
    rotate_left
    · intro w hSw
      (try dsimp only at hSw)
      have c9 := hSw.1.c1
      clear hSw
      go_simp
      try (with_reducible rfl)
    try simp only [Act.put, List.getElem_toArray, List.getElem_cons_zero, List.getElem_cons_succ, List.setIfInBounds_toArray, List.set_cons_zero, List.set_cons_succ]
    refine wpAnyH_take (i := 9) (v := ?_) rfl (by kernel_rfl) (by kernel_rfl) (by kernel_rfl) (fun _ _ _ h => h) (Or.inl ⟨by rfl, ?_⟩) (by assumption) ?_
    rotate_left
    · intro w hSw
      (try dsimp only at hSw)
      go_simp
      try (with_reducible rfl)
    try simp only [Act.put, List.getElem_toArray, List.getElem_cons_zero, List.getElem_cons_succ, List.setIfInBounds_toArray, List.set_cons_zero, List.set_cons_succ]
    refine wpAnyH_take (i := 10) (v := ?_) rfl (by kernel_rfl) (by kernel_rfl) (by kernel_rfl) (fun _ _ _ h => h) (Or.inl ⟨by rfl, ?_⟩) (by assumption) ?_
    rotate_left
    · intro w hSw
      (try dsimp only at hSw)
      go_simp
      try (with_reducible rfl)
    try simp only [Act.put, List.getElem_toArray, List.getElem_cons_zero, List.getElem_cons_succ, List.setIfInBounds_toArray, List.set_cons_zero, List.set_cons_succ]
    refine wpAnyH_take (i := 11) (v := ?_) rfl (by kernel_rfl) (by kernel_rfl) (by kernel_rfl) (fun _ _ _ h => h) (Or.inl ⟨by rfl, ?_⟩) (by assumption) ?_
    rotate_left
    · intro w hSw
      (try dsimp only at hSw)
      have c9 := hSw.1.c2
      clear hSw
      go_simp
      try (with_reducible rfl)
    try simp only [Act.put, List.getElem_toArray, List.getElem_cons_zero, List.getElem_cons_succ, List.setIfInBounds_toArray, List.set_cons_zero, List.set_cons_succ]
    refine wpAnyH_ready (rs := [3, 14]) (by kernel_rfl) (by simp) ?_
    refine AllReadyH.cons rfl (fun K hK => ?_) (AllReadyH.cons rfl (fun K hK => ?_) AllReadyH.nil)
    · go_simp
      refine (within_any p.k 4 _ (by omega) (by omega)).mono ?_
      rintro e w' ⟨rfl, rfl⟩
      rw [HKK.out]
      refine hK.out _ _ hHeld (fun hHeld2 => ?_)
      clear hK K hHeld
      have hHeld := hHeld2
      clear hHeld2
      try simp only [Act.put, List.getElem_toArray, List.getElem_cons_zero, List.getElem_cons_succ, List.setIfInBounds_toArray, List.set_cons_zero, List.set_cons_succ]
      refine wpAnyH_take (i := 4) (v := ?_) rfl (by kernel_rfl) (by kernel_rfl) (by kernel_rfl) (fun _ _ _ h => h) (Or.inl ⟨by rfl, ?_⟩) (by assumption) ?_
      rotate_left
      · intro w hSw
        (try dsimp only at hSw)
        go_simp
        try (with_reducible rfl)
      try simp only [Act.put, List.getElem_toArray, List.getElem_cons_zero, List.getElem_cons_succ, List.setIfInBounds_toArray, List.set_cons_zero, List.set_cons_succ]
      refine wpAnyH_ready (rs := [8, 14]) (by kernel_rfl) (by simp) ?_
      refine AllReadyH.cons rfl (fun K hK => ?_) (AllReadyH.cons rfl (fun K hK => ?_) AllReadyH.nil)
      · go_simp
        refine (within_any p.pa 3 _ (by omega) (by omega)).mono ?_
        rintro e w' ⟨rfl, rfl⟩
        refine hK.out _ _ hHeld (fun hHeld2 => ?_)
        clear hK K hHeld
        have hHeld := hHeld2
        clear hHeld2
        try simp only [Act.put, List.getElem_toArray, List.getElem_cons_zero, List.getElem_cons_succ, List.setIfInBounds_toArray, List.set_cons_zero, List.set_cons_succ]
        refine wpAnyH_ready (rs := [12, 14]) (by kernel_rfl) (by simp) ?_
        refine AllReadyH.cons rfl (fun K hK => ?_) (AllReadyH.cons rfl (fun K hK => ?_) AllReadyH.nil)
        · go_simp
          refine (within_any p.nu 300 _ (by omega) (by omega)).mono ?_
          rintro e w' ⟨rfl, rfl⟩
          refine hK.out _ _ hHeld (fun hHeld2 => ?_)
          clear hK K hHeld
          have hHeld := hHeld2
          clear hHeld2
          try simp only [Act.put, List.getElem_toArray, List.getElem_cons_zero, List.getElem_cons_succ, List.setIfInBounds_toArray, List.set_cons_zero, List.set_cons_succ]
          refine wpAnyH_take (i := 13) (v := ?_) rfl (by kernel_rfl) (by kernel_rfl) (by kernel_rfl) (fun _ _ _ h => h) (Or.inl ⟨by rfl, ?_⟩) (by assumption) ?_
          rotate_left
          · intro w hSw
            (try dsimp only at hSw)
            go_simp
            try (with_reducible rfl)
          try simp only [Act.put, List.getElem_toArray, List.getElem_cons_zero, List.getElem_cons_succ, List.setIfInBounds_toArray, List.set_cons_zero, List.set_cons_succ]
          refine wpAnyH_ready (rs := [14]) (by kernel_rfl) (by simp) ?_
          refine AllReadyH.cons rfl (fun K hK => ?_) AllReadyH.nil
          go_simp
          have T := Lib.hid (show PP w (v0.alloc (.cells (Pkt.zero.cs none 0).toArray 58)) b z v0.heap.size p A c Pkt.zero none 0 from ⟨hHeld.1.below ((Below.refl v0.heap.size v0).alloc (Nat.le_refl _) _) (by rw [HS1.out]; omega), HP.out, (HR1.out.later ((Below.refl v0.heap.size v0).alloc (Nat.le_refl _) _)), PkV.new v0 Pkt.zero none 0, Own.nil _ _ _ _, PkB.zero, HBL.out.trans ((hHeld.2.alloc hHeld.2.size _).mono HBL.out.size), HBB.out, by rw [HS1.out, HZ.out]; omega, by rw [HS1.out]; omega, by rw [HZ.out]; omega⟩)
          have hbx : Below W.heap.size W (v0.alloc (.cells (Pkt.zero.cs none 0).toArray 58)) := hHeld.2.alloc hHeld.2.size _
          unfold Pkt.cs at T hbx
          change Hid (PP w (v0.alloc (.cells #[.int .i64 0, .int .i64 0, .int .i64 0, .int .i64 0, .int .i64 0, .slice none 0 0, .bool false, .int .i64 0, .int .i64 0] 58)) b z v0.heap.size p A c Pkt.zero none 0) at T
          change Below W.heap.size W (v0.alloc (.cells #[.int .i64 0, .int .i64 0, .int .i64 0, .int .i64 0, .int .i64 0, .slice none 0 0, .bool false, .int .i64 0, .int .i64 0] 58)) at hbx
          have hqb : W.heap.size ≤ v0.heap.size := hHeld.2.size
          obtain ⟨q, hq⟩ : ∃ q, v0.heap.size = q := ⟨_, rfl⟩
          obtain ⟨W1, hW1⟩ : ∃ V, v0.alloc (.cells #[.int .i64 0, .int .i64 0, .int .i64 0, .int .i64 0, .int .i64 0, .slice none 0 0, .bool false, .int .i64 0, .int .i64 0] 58) = V := ⟨_, rfl⟩
          rw [hW1] at T hbx ⊢
          rw [hq] at T hqb ⊢
          clear hW1
          have hS2 : PktIn W1 b p A c ∧ Below W.heap.size W W1 := ⟨T.out.par, hbx⟩
          refine hK.out _ _ hS2 (fun hHeld2 => ?_)
          clear hK K hHeld hS2 hbx
          have hHeld := hHeld2
          clear hHeld2
          try simp only [Act.put, List.getElem_toArray, List.getElem_cons_zero, List.getElem_cons_succ, List.setIfInBounds_toArray, List.set_cons_zero, List.set_cons_succ]
          have f0 := T.out.v.fr
          obtain ⟨d0, d1, d2, d3, d4, d5, d6, d7, d8⟩ := T.out.v.cells
          refine wpAnyH_ready (rs := [15]) (by kernel_rfl) (by simp) ?_
          refine AllReadyH.cons rfl (fun K hK => ?_) AllReadyH.nil
          go_simp
          have T2 := T.out.all ⟨1 + kk, p.pa % 3, p.nu % 300, 0, 0, [], false, 0, 0⟩ none 0 (Own.nil _ _ _ _) ⟨by intro x hx; simp at hx, by simp, by simp; omega, by simp; omega, by simp; omega, by simp, by simp, by simp, by simp⟩
          change PP w (((((((((W1.setCell ⟨q, 0, none⟩ (.int .i64 (1 + kk))).setCell ⟨q, 1, none⟩ (.int .i64 (p.pa % 3))).setCell ⟨q, 2, none⟩ (.int .i64 (p.nu % 300))).setCell ⟨q, 3, none⟩ (.int .i64 0)).setCell ⟨q, 4, none⟩ (.int .i64 0)).setCell ⟨q, 5, none⟩ (.slice none 0 0)).setCell ⟨q, 6, none⟩ (.bool false)).setCell ⟨q, 7, none⟩ (.int .i64 0)).setCell ⟨q, 8, none⟩ (.int .i64 0)) b z q p A c ⟨1 + kk, p.pa % 3, p.nu % 300, 0, 0, [], false, 0, 0⟩ none 0 at T2
          have hbx : Below W.heap.size W (W1.setCells q 0 ((⟨1 + kk, p.pa % 3, p.nu % 300, 0, 0, [], false, 0, 0⟩ : Pkt).cs none 0)) := hHeld.2.grown (setCells_one q _ 0 W1) hHeld.2.size (by intro g e; simp at e; omega)
          have hS2 : PktIn (W1.setCells q 0 ((⟨1 + kk, p.pa % 3, p.nu % 300, 0, 0, [], false, 0, 0⟩ : Pkt).cs none 0)) b p A c ∧ Below W.heap.size W (W1.setCells q 0 ((⟨1 + kk, p.pa % 3, p.nu % 300, 0, 0, [], false, 0, 0⟩ : Pkt).cs none 0)) := ⟨T2.par, hbx⟩
          change PktIn (((((((((W1.setCell ⟨q, 0, none⟩ (.int .i64 (1 + kk))).setCell ⟨q, 1, none⟩ (.int .i64 (p.pa % 3))).setCell ⟨q, 2, none⟩ (.int .i64 (p.nu % 300))).setCell ⟨q, 3, none⟩ (.int .i64 0)).setCell ⟨q, 4, none⟩ (.int .i64 0)).setCell ⟨q, 5, none⟩ (.slice none 0 0)).setCell ⟨q, 6, none⟩ (.bool false)).setCell ⟨q, 7, none⟩ (.int .i64 0)).setCell ⟨q, 8, none⟩ (.int .i64 0)) b p A c ∧ Below W.heap.size W (((((((((W1.setCell ⟨q, 0, none⟩ (.int .i64 (1 + kk))).setCell ⟨q, 1, none⟩ (.int .i64 (p.pa % 3))).setCell ⟨q, 2, none⟩ (.int .i64 (p.nu % 300))).setCell ⟨q, 3, none⟩ (.int .i64 0)).setCell ⟨q, 4, none⟩ (.int .i64 0)).setCell ⟨q, 5, none⟩ (.slice none 0 0)).setCell ⟨q, 6, none⟩ (.bool false)).setCell ⟨q, 7, none⟩ (.int .i64 0)).setCell ⟨q, 8, none⟩ (.int .i64 0)) at hS2
          have TT := Lib.hid T2
          clear T2 T hbx d0 d1 d2 d3 d4 d5 d6 d7 d8 f0
          obtain ⟨W2, hW2⟩ : ∃ V, (((((((((W1.setCell ⟨q, 0, none⟩ (.int .i64 (1 + kk))).setCell ⟨q, 1, none⟩ (.int .i64 (p.pa % 3))).setCell ⟨q, 2, none⟩ (.int .i64 (p.nu % 300))).setCell ⟨q, 3, none⟩ (.int .i64 0)).setCell ⟨q, 4, none⟩ (.int .i64 0)).setCell ⟨q, 5, none⟩ (.slice none 0 0)).setCell ⟨q, 6, none⟩ (.bool false)).setCell ⟨q, 7, none⟩ (.int .i64 0)).setCell ⟨q, 8, none⟩ (.int .i64 0)) = V := ⟨_, rfl⟩
          rw [hW2] at TT hS2 ⊢
          clear hW2
          refine hK.out _ _ hS2 (fun hHeld2 => ?_)
          clear hK K hHeld hS2 hHeld2
          try simp only [Act.put, List.getElem_toArray, List.getElem_cons_zero, List.getElem_cons_succ, List.setIfInBounds_toArray, List.set_cons_zero, List.set_cons_succ]
          refine wpAnyH_done (by kernel_rfl) ?_ _
          go_step
          go_step
          go_meet
          exact ⟨q, kk, _, _, rfl, kb.1, kb.2, TT⟩
        · go_simp
          have T := Lib.hid (show PP w (v0.alloc (.cells (Pkt.zero.cs none 0).toArray 58)) b z v0.heap.size p A c Pkt.zero none 0 from ⟨hHeld.1.below ((Below.refl v0.heap.size v0).alloc (Nat.le_refl _) _) (by rw [HS1.out]; omega), HP.out, (HR1.out.later ((Below.refl v0.heap.size v0).alloc (Nat.le_refl _) _)), PkV.new v0 Pkt.zero none 0, Own.nil _ _ _ _, PkB.zero, HBL.out.trans ((hHeld.2.alloc hHeld.2.size _).mono HBL.out.size), HBB.out, by rw [HS1.out, HZ.out]; omega, by rw [HS1.out]; omega, by rw [HZ.out]; omega⟩)
          have hbx : Below W.heap.size W (v0.alloc (.cells (Pkt.zero.cs none 0).toArray 58)) := hHeld.2.alloc hHeld.2.size _
          unfold Pkt.cs at T hbx
          change Hid (PP w (v0.alloc (.cells #[.int .i64 0, .int .i64 0, .int .i64 0, .int .i64 0, .int .i64 0, .slice none 0 0, .bool false, .int .i64 0, .int .i64 0] 58)) b z v0.heap.size p A c Pkt.zero none 0) at T
          change Below W.heap.size W (v0.alloc (.cells #[.int .i64 0, .int .i64 0, .int .i64 0, .int .i64 0, .int .i64 0, .slice none 0 0, .bool false, .int .i64 0, .int .i64 0] 58)) at hbx
          have hqb : W.heap.size ≤ v0.heap.size := hHeld.2.size
          obtain ⟨q, hq⟩ : ∃ q, v0.heap.size = q := ⟨_, rfl⟩
          obtain ⟨W1, hW1⟩ : ∃ V, v0.alloc (.cells #[.int .i64 0, .int .i64 0, .int .i64 0, .int .i64 0, .int .i64 0, .slice none 0 0, .bool false, .int .i64 0, .int .i64 0] 58) = V := ⟨_, rfl⟩
          rw [hW1] at T hbx ⊢
          rw [hq] at T hqb ⊢
          clear hW1
          have hS2 : PktIn W1 b p A c ∧ Below W.heap.size W W1 := ⟨T.out.par, hbx⟩
          refine hK.out _ _ hS2 (fun hHeld2 => ?_)
          clear hK K hHeld hS2 hbx
          have hHeld := hHeld2
          clear hHeld2
          try simp only [Act.put, List.getElem_toArray, List.getElem_cons_zero, List.getElem_cons_succ, List.setIfInBounds_toArray, List.set_cons_zero, List.set_cons_succ]
          refine wpAnyH_ready (rs := [12]) (by kernel_rfl) (by simp) ?_
          refine AllReadyH.cons rfl (fun K hK => ?_) AllReadyH.nil
          go_simp
          refine (within_any p.nu 300 _ (by omega) (by omega)).mono ?_
          rintro e w' ⟨rfl, rfl⟩
          refine hK.out _ _ hHeld (fun hHeld2 => ?_)
          clear hK K hHeld
          have hHeld := hHeld2
          clear hHeld2
          try simp only [Act.put, List.getElem_toArray, List.getElem_cons_zero, List.getElem_cons_succ, List.setIfInBounds_toArray, List.set_cons_zero, List.set_cons_succ]
          refine wpAnyH_take (i := 13) (v := ?_) rfl (by kernel_rfl) (by kernel_rfl) (by kernel_rfl) (fun _ _ _ h => h) (Or.inl ⟨by rfl, ?_⟩) (by assumption) ?_
          rotate_left
          · intro w hSw
            (try dsimp only at hSw)
            go_simp
            try (with_reducible rfl)
          try simp only [Act.put, List.getElem_toArray, List.getElem_cons_zero, List.getElem_cons_succ, List.setIfInBounds_toArray, List.set_cons_zero, List.set_cons_succ]
          have f0 := T.out.v.fr
          obtain ⟨d0, d1, d2, d3, d4, d5, d6, d7, d8⟩ := T.out.v.cells
          refine wpAnyH_ready (rs := [15]) (by kernel_rfl) (by simp) ?_
          refine AllReadyH.cons rfl (fun K hK => ?_) AllReadyH.nil
          go_simp
          have T2 := T.out.all ⟨1 + kk, p.pa % 3, p.nu % 300, 0, 0, [], false, 0, 0⟩ none 0 (Own.nil _ _ _ _) ⟨by intro x hx; simp at hx, by simp, by simp; omega, by simp; omega, by simp; omega, by simp, by simp, by simp, by simp⟩
          change PP w (((((((((W1.setCell ⟨q, 0, none⟩ (.int .i64 (1 + kk))).setCell ⟨q, 1, none⟩ (.int .i64 (p.pa % 3))).setCell ⟨q, 2, none⟩ (.int .i64 (p.nu % 300))).setCell ⟨q, 3, none⟩ (.int .i64 0)).setCell ⟨q, 4, none⟩ (.int .i64 0)).setCell ⟨q, 5, none⟩ (.slice none 0 0)).setCell ⟨q, 6, none⟩ (.bool false)).setCell ⟨q, 7, none⟩ (.int .i64 0)).setCell ⟨q, 8, none⟩ (.int .i64 0)) b z q p A c ⟨1 + kk, p.pa % 3, p.nu % 300, 0, 0, [], false, 0, 0⟩ none 0 at T2
          have hbx : Below W.heap.size W (W1.setCells q 0 ((⟨1 + kk, p.pa % 3, p.nu % 300, 0, 0, [], false, 0, 0⟩ : Pkt).cs none 0)) := hHeld.2.grown (setCells_one q _ 0 W1) hHeld.2.size (by intro g e; simp at e; omega)
          have hS2 : PktIn (W1.setCells q 0 ((⟨1 + kk, p.pa % 3, p.nu % 300, 0, 0, [], false, 0, 0⟩ : Pkt).cs none 0)) b p A c ∧ Below W.heap.size W (W1.setCells q 0 ((⟨1 + kk, p.pa % 3, p.nu % 300, 0, 0, [], false, 0, 0⟩ : Pkt).cs none 0)) := ⟨T2.par, hbx⟩
          change PktIn (((((((((W1.setCell ⟨q, 0, none⟩ (.int .i64 (1 + kk))).setCell ⟨q, 1, none⟩ (.int .i64 (p.pa % 3))).setCell ⟨q, 2, none⟩ (.int .i64 (p.nu % 300))).setCell ⟨q, 3, none⟩ (.int .i64 0)).setCell ⟨q, 4, none⟩ (.int .i64 0)).setCell ⟨q, 5, none⟩ (.slice none 0 0)).setCell ⟨q, 6, none⟩ (.bool false)).setCell ⟨q, 7, none⟩ (.int .i64 0)).setCell ⟨q, 8, none⟩ (.int .i64 0)) b p A c ∧ Below W.heap.size W (((((((((W1.setCell ⟨q, 0, none⟩ (.int .i64 (1 + kk))).setCell ⟨q, 1, none⟩ (.int .i64 (p.pa % 3))).setCell ⟨q, 2, none⟩ (.int .i64 (p.nu % 300))).setCell ⟨q, 3, none⟩ (.int .i64 0)).setCell ⟨q, 4, none⟩ (.int .i64 0)).setCell ⟨q, 5, none⟩ (.slice none 0 0)).setCell ⟨q, 6, none⟩ (.bool false)).setCell ⟨q, 7, none⟩ (.int .i64 0)).setCell ⟨q, 8, none⟩ (.int .i64 0)) at hS2
          have TT := Lib.hid T2
          clear T2 T hbx d0 d1 d2 d3 d4 d5 d6 d7 d8 f0
          obtain ⟨W2, hW2⟩ : ∃ V, (((((((((W1.setCell ⟨q, 0, none⟩ (.int .i64 (1 + kk))).setCell ⟨q, 1, none⟩ (.int .i64 (p.pa % 3))).setCell ⟨q, 2, none⟩ (.int .i64 (p.nu % 300))).setCell ⟨q, 3, none⟩ (.int .i64 0)).setCell ⟨q, 4, none⟩ (.int .i64 0)).setCell ⟨q, 5, none⟩ (.slice none 0 0)).setCell ⟨q, 6, none⟩ (.bool false)).setCell ⟨q, 7, none⟩ (.int .i64 0)).setCell ⟨q, 8, none⟩ (.int .i64 0)) = V := ⟨_, rfl⟩
          rw [hW2] at TT hS2 ⊢
          clear hW2
          refine hK.out _ _ hS2 (fun hHeld2 => ?_)
          clear hK K hHeld hS2 hHeld2
          try simp only [Act.put, List.getElem_toArray, List.getElem_cons_zero, List.getElem_cons_succ, List.setIfInBounds_toArray, List.set_cons_zero, List.set_cons_succ]
          refine wpAnyH_done (by kernel_rfl) ?_ _
          go_step
          go_step
          go_meet
          exact ⟨q, kk, _, _, rfl, kb.1, kb.2, TT⟩
      · go_simp
        have T := Lib.hid (show PP w (v0.alloc (.cells (Pkt.zero.cs none 0).toArray 58)) b z v0.heap.size p A c Pkt.zero none 0 from ⟨hHeld.1.below ((Below.refl v0.heap.size v0).alloc (Nat.le_refl _) _) (by rw [HS1.out]; omega), HP.out, (HR1.out.later ((Below.refl v0.heap.size v0).alloc (Nat.le_refl _) _)), PkV.new v0 Pkt.zero none 0, Own.nil _ _ _ _, PkB.zero, HBL.out.trans ((hHeld.2.alloc hHeld.2.size _).mono HBL.out.size), HBB.out, by rw [HS1.out, HZ.out]; omega, by rw [HS1.out]; omega, by rw [HZ.out]; omega⟩)
        have hbx : Below W.heap.size W (v0.alloc (.cells (Pkt.zero.cs none 0).toArray 58)) := hHeld.2.alloc hHeld.2.size _
        unfold Pkt.cs at T hbx
        change Hid (PP w (v0.alloc (.cells #[.int .i64 0, .int .i64 0, .int .i64 0, .int .i64 0, .int .i64 0, .slice none 0 0, .bool false, .int .i64 0, .int .i64 0] 58)) b z v0.heap.size p A c Pkt.zero none 0) at T
        change Below W.heap.size W (v0.alloc (.cells #[.int .i64 0, .int .i64 0, .int .i64 0, .int .i64 0, .int .i64 0, .slice none 0 0, .bool false, .int .i64 0, .int .i64 0] 58)) at hbx
        have hqb : W.heap.size ≤ v0.heap.size := hHeld.2.size
        obtain ⟨q, hq⟩ : ∃ q, v0.heap.size = q := ⟨_, rfl⟩
        obtain ⟨W1, hW1⟩ : ∃ V, v0.alloc (.cells #[.int .i64 0, .int .i64 0, .int .i64 0, .int .i64 0, .int .i64 0, .slice none 0 0, .bool false, .int .i64 0, .int .i64 0] 58) = V := ⟨_, rfl⟩
        rw [hW1] at T hbx ⊢
        rw [hq] at T hqb ⊢
        clear hW1
        have hS2 : PktIn W1 b p A c ∧ Below W.heap.size W W1 := ⟨T.out.par, hbx⟩
        refine hK.out _ _ hS2 (fun hHeld2 => ?_)
        clear hK K hHeld hS2 hbx
        have hHeld := hHeld2
        clear hHeld2
        try simp only [Act.put, List.getElem_toArray, List.getElem_cons_zero, List.getElem_cons_succ, List.setIfInBounds_toArray, List.set_cons_zero, List.set_cons_succ]
        refine wpAnyH_ready (rs := [8]) (by kernel_rfl) (by simp) ?_
        refine AllReadyH.cons rfl (fun K hK => ?_) AllReadyH.nil
        go_simp
        refine (within_any p.pa 3 _ (by omega) (by omega)).mono ?_
        rintro e w' ⟨rfl, rfl⟩
        refine hK.out _ _ hHeld (fun hHeld2 => ?_)
        clear hK K hHeld
        have hHeld := hHeld2
        clear hHeld2
        try simp only [Act.put, List.getElem_toArray, List.getElem_cons_zero, List.getElem_cons_succ, List.setIfInBounds_toArray, List.set_cons_zero, List.set_cons_succ]
        refine wpAnyH_ready (rs := [12]) (by kernel_rfl) (by simp) ?_
        refine AllReadyH.cons rfl (fun K hK => ?_) AllReadyH.nil
        go_simp
        refine (within_any p.nu 300 _ (by omega) (by omega)).mono ?_
        rintro e w' ⟨rfl, rfl⟩
        refine hK.out _ _ hHeld (fun hHeld2 => ?_)
        clear hK K hHeld
        have hHeld := hHeld2
        clear hHeld2
        try simp only [Act.put, List.getElem_toArray, List.getElem_cons_zero, List.getElem_cons_succ, List.setIfInBounds_toArray, List.set_cons_zero, List.set_cons_succ]
        refine wpAnyH_take (i := 13) (v := ?_) rfl (by kernel_rfl) (by kernel_rfl) (by kernel_rfl) (fun _ _ _ h => h) (Or.inl ⟨by rfl, ?_⟩) (by assumption) ?_
        rotate_left
        · intro w hSw
          (try dsimp only at hSw)
          go_simp
          try (with_reducible rfl)
        try simp only [Act.put, List.getElem_toArray, List.getElem_cons_zero, List.getElem_cons_succ, List.setIfInBounds_toArray, List.set_cons_zero, List.set_cons_succ]
        have f0 := T.out.v.fr
        obtain ⟨d0, d1, d2, d3, d4, d5, d6, d7, d8⟩ := T.out.v.cells
        refine wpAnyH_ready (rs := [15]) (by kernel_rfl) (by simp) ?_
        refine AllReadyH.cons rfl (fun K hK => ?_) AllReadyH.nil
        go_simp
        have T2 := T.out.all ⟨1 + kk, p.pa % 3, p.nu % 300, 0, 0, [], false, 0, 0⟩ none 0 (Own.nil _ _ _ _) ⟨by intro x hx; simp at hx, by simp, by simp; omega, by simp; omega, by simp; omega, by simp, by simp, by simp, by simp⟩
        change PP w (((((((((W1.setCell ⟨q, 0, none⟩ (.int .i64 (1 + kk))).setCell ⟨q, 1, none⟩ (.int .i64 (p.pa % 3))).setCell ⟨q, 2, none⟩ (.int .i64 (p.nu % 300))).setCell ⟨q, 3, none⟩ (.int .i64 0)).setCell ⟨q, 4, none⟩ (.int .i64 0)).setCell ⟨q, 5, none⟩ (.slice none 0 0)).setCell ⟨q, 6, none⟩ (.bool false)).setCell ⟨q, 7, none⟩ (.int .i64 0)).setCell ⟨q, 8, none⟩ (.int .i64 0)) b z q p A c ⟨1 + kk, p.pa % 3, p.nu % 300, 0, 0, [], false, 0, 0⟩ none 0 at T2
        have hbx : Below W.heap.size W (W1.setCells q 0 ((⟨1 + kk, p.pa % 3, p.nu % 300, 0, 0, [], false, 0, 0⟩ : Pkt).cs none 0)) := hHeld.2.grown (setCells_one q _ 0 W1) hHeld.2.size (by intro g e; simp at e; omega)
        have hS2 : PktIn (W1.setCells q 0 ((⟨1 + kk, p.pa % 3, p.nu % 300, 0, 0, [], false, 0, 0⟩ : Pkt).cs none 0)) b p A c ∧ Below W.heap.size W (W1.setCells q 0 ((⟨1 + kk, p.pa % 3, p.nu % 300, 0, 0, [], false, 0, 0⟩ : Pkt).cs none 0)) := ⟨T2.par, hbx⟩
        change PktIn (((((((((W1.setCell ⟨q, 0, none⟩ (.int .i64 (1 + kk))).setCell ⟨q, 1, none⟩ (.int .i64 (p.pa % 3))).setCell ⟨q, 2, none⟩ (.int .i64 (p.nu % 300))).setCell ⟨q, 3, none⟩ (.int .i64 0)).setCell ⟨q, 4, none⟩ (.int .i64 0)).setCell ⟨q, 5, none⟩ (.slice none 0 0)).setCell ⟨q, 6, none⟩ (.bool false)).setCell ⟨q, 7, none⟩ (.int .i64 0)).setCell ⟨q, 8, none⟩ (.int .i64 0)) b p A c ∧ Below W.heap.size W (((((((((W1.setCell ⟨q, 0, none⟩ (.int .i64 (1 + kk))).setCell ⟨q, 1, none⟩ (.int .i64 (p.pa % 3))).setCell ⟨q, 2, none⟩ (.int .i64 (p.nu % 300))).setCell ⟨q, 3, none⟩ (.int .i64 0)).setCell ⟨q, 4, none⟩ (.int .i64 0)).setCell ⟨q, 5, none⟩ (.slice none 0 0)).setCell ⟨q, 6, none⟩ (.bool false)).setCell ⟨q, 7, none⟩ (.int .i64 0)).setCell ⟨q, 8, none⟩ (.int .i64 0)) at hS2
        have TT := Lib.hid T2
        clear T2 T hbx d0 d1 d2 d3 d4 d5 d6 d7 d8 f0
        obtain ⟨W2, hW2⟩ : ∃ V, (((((((((W1.setCell ⟨q, 0, none⟩ (.int .i64 (1 + kk))).setCell ⟨q, 1, none⟩ (.int .i64 (p.pa % 3))).setCell ⟨q, 2, none⟩ (.int .i64 (p.nu % 300))).setCell ⟨q, 3, none⟩ (.int .i64 0)).setCell ⟨q, 4, none⟩ (.int .i64 0)).setCell ⟨q, 5, none⟩ (.slice none 0 0)).setCell ⟨q, 6, none⟩ (.bool false)).setCell ⟨q, 7, none⟩ (.int .i64 0)).setCell ⟨q, 8, none⟩ (.int .i64 0)) = V := ⟨_, rfl⟩
        rw [hW2] at TT hS2 ⊢
        clear hW2
        refine hK.out _ _ hS2 (fun hHeld2 => ?_)
        clear hK K hHeld hS2 hHeld2
        try simp only [Act.put, List.getElem_toArray, List.getElem_cons_zero, List.getElem_cons_succ, List.setIfInBounds_toArray, List.set_cons_zero, List.set_cons_succ]
        refine wpAnyH_done (by kernel_rfl) ?_ _
        go_step
        go_step
        go_meet
        exact ⟨q, kk, _, _, rfl, kb.1, kb.2, TT⟩
    · go_simp
      have T := Lib.hid (show PP w (v0.alloc (.cells (Pkt.zero.cs none 0).toArray 58)) b z v0.heap.size p A c Pkt.zero none 0 from ⟨hHeld.1.below ((Below.refl v0.heap.size v0).alloc (Nat.le_refl _) _) (by rw [HS1.out]; omega), HP.out, (HR1.out.later ((Below.refl v0.heap.size v0).alloc (Nat.le_refl _) _)), PkV.new v0 Pkt.zero none 0, Own.nil _ _ _ _, PkB.zero, HBL.out.trans ((hHeld.2.alloc hHeld.2.size _).mono HBL.out.size), HBB.out, by rw [HS1.out, HZ.out]; omega, by rw [HS1.out]; omega, by rw [HZ.out]; omega⟩)
      have hbx : Below W.heap.size W (v0.alloc (.cells (Pkt.zero.cs none 0).toArray 58)) := hHeld.2.alloc hHeld.2.size _
      unfold Pkt.cs at T hbx
      change Hid (PP w (v0.alloc (.cells #[.int .i64 0, .int .i64 0, .int .i64 0, .int .i64 0, .int .i64 0, .slice none 0 0, .bool false, .int .i64 0, .int .i64 0] 58)) b z v0.heap.size p A c Pkt.zero none 0) at T
      change Below W.heap.size W (v0.alloc (.cells #[.int .i64 0, .int .i64 0, .int .i64 0, .int .i64 0, .int .i64 0, .slice none 0 0, .bool false, .int .i64 0, .int .i64 0] 58)) at hbx
      have hqb : W.heap.size ≤ v0.heap.size := hHeld.2.size
      obtain ⟨q, hq⟩ : ∃ q, v0.heap.size = q := ⟨_, rfl⟩
      obtain ⟨W1, hW1⟩ : ∃ V, v0.alloc (.cells #[.int .i64 0, .int .i64 0, .int .i64 0, .int .i64 0, .int .i64 0, .slice none 0 0, .bool false, .int .i64 0, .int .i64 0] 58) = V := ⟨_, rfl⟩
      rw [hW1] at T hbx ⊢
      rw [hq] at T hqb ⊢
      clear hW1
      have hS2 : PktIn W1 b p A c ∧ Below W.heap.size W W1 := ⟨T.out.par, hbx⟩
      refine hK.out _ _ hS2 (fun hHeld2 => ?_)
      clear hK K hHeld hS2 hbx
      have hHeld := hHeld2
      clear hHeld2
      try simp only [Act.put, List.getElem_toArray, List.getElem_cons_zero, List.getElem_cons_succ, List.setIfInBounds_toArray, List.set_cons_zero, List.set_cons_succ]
      refine wpAnyH_ready (rs := [3]) (by kernel_rfl) (by simp) ?_
      refine AllReadyH.cons rfl (fun K hK => ?_) AllReadyH.nil
      go_simp
      refine (within_any p.k 4 _ (by omega) (by omega)).mono ?_
      rintro e w' ⟨rfl, rfl⟩
      rw [HKK.out]
      refine hK.out _ _ hHeld (fun hHeld2 => ?_)
      clear hK K hHeld
      have hHeld := hHeld2
      clear hHeld2
      try simp only [Act.put, List.getElem_toArray, List.getElem_cons_zero, List.getElem_cons_succ, List.setIfInBounds_toArray, List.set_cons_zero, List.set_cons_succ]
      refine wpAnyH_take (i := 4) (v := ?_) rfl (by kernel_rfl) (by kernel_rfl) (by kernel_rfl) (fun _ _ _ h => h) (Or.inl ⟨by rfl, ?_⟩) (by assumption) ?_
      rotate_left
      · intro w hSw
        (try dsimp only at hSw)
        go_simp
        try (with_reducible rfl)
      try simp only [Act.put, List.getElem_toArray, List.getElem_cons_zero, List.getElem_cons_succ, List.setIfInBounds_toArray, List.set_cons_zero, List.set_cons_succ]
      refine wpAnyH_ready (rs := [8]) (by kernel_rfl) (by simp) ?_
      refine AllReadyH.cons rfl (fun K hK => ?_) AllReadyH.nil
      go_simp
      refine (within_any p.pa 3 _ (by omega) (by omega)).mono ?_
      rintro e w' ⟨rfl, rfl⟩
      refine hK.out _ _ hHeld (fun hHeld2 => ?_)
      clear hK K hHeld
      have hHeld := hHeld2
      clear hHeld2
      try simp only [Act.put, List.getElem_toArray, List.getElem_cons_zero, List.getElem_cons_succ, List.setIfInBounds_toArray, List.set_cons_zero, List.set_cons_succ]
      refine wpAnyH_ready (rs := [12]) (by kernel_rfl) (by simp) ?_
      refine AllReadyH.cons rfl (fun K hK => ?_) AllReadyH.nil
      go_simp
      refine (within_any p.nu 300 _ (by omega) (by omega)).mono ?_
      rintro e w' ⟨rfl, rfl⟩
      refine hK.out _ _ hHeld (fun hHeld2 => ?_)
      clear hK K hHeld
      have hHeld := hHeld2
      clear hHeld2
      try simp only [Act.put, List.getElem_toArray, List.getElem_cons_zero, List.getElem_cons_succ, List.setIfInBounds_toArray, List.set_cons_zero, List.set_cons_succ]
      refine wpAnyH_take (i := 13) (v := ?_) rfl (by kernel_rfl) (by kernel_rfl) (by kernel_rfl) (fun _ _ _ h => h) (Or.inl ⟨by rfl, ?_⟩) (by assumption) ?_
      rotate_left
      · intro w hSw
        (try dsimp only at hSw)
        go_simp
        try (with_reducible rfl)
      try simp only [Act.put, List.getElem_toArray, List.getElem_cons_zero, List.getElem_cons_succ, List.setIfInBounds_toArray, List.set_cons_zero, List.set_cons_succ]
      have f0 := T.out.v.fr
      obtain ⟨d0, d1, d2, d3, d4, d5, d6, d7, d8⟩ := T.out.v.cells
      refine wpAnyH_ready (rs := [15]) (by kernel_rfl) (by simp) ?_
      refine AllReadyH.cons rfl (fun K hK => ?_) AllReadyH.nil
      go_simp
      have T2 := T.out.all ⟨1 + kk, p.pa % 3, p.nu % 300, 0, 0, [], false, 0, 0⟩ none 0 (Own.nil _ _ _ _) ⟨by intro x hx; simp at hx, by simp, by simp; omega, by simp; omega, by simp; omega, by simp, by simp, by simp, by simp⟩
      change PP w (((((((((W1.setCell ⟨q, 0, none⟩ (.int .i64 (1 + kk))).setCell ⟨q, 1, none⟩ (.int .i64 (p.pa % 3))).setCell ⟨q, 2, none⟩ (.int .i64 (p.nu % 300))).setCell ⟨q, 3, none⟩ (.int .i64 0)).setCell ⟨q, 4, none⟩ (.int .i64 0)).setCell ⟨q, 5, none⟩ (.slice none 0 0)).setCell ⟨q, 6, none⟩ (.bool false)).setCell ⟨q, 7, none⟩ (.int .i64 0)).setCell ⟨q, 8, none⟩ (.int .i64 0)) b z q p A c ⟨1 + kk, p.pa % 3, p.nu % 300, 0, 0, [], false, 0, 0⟩ none 0 at T2
      have hbx : Below W.heap.size W (W1.setCells q 0 ((⟨1 + kk, p.pa % 3, p.nu % 300, 0, 0, [], false, 0, 0⟩ : Pkt).cs none 0)) := hHeld.2.grown (setCells_one q _ 0 W1) hHeld.2.size (by intro g e; simp at e; omega)
      have hS2 : PktIn (W1.setCells q 0 ((⟨1 + kk, p.pa % 3, p.nu % 300, 0, 0, [], false, 0, 0⟩ : Pkt).cs none 0)) b p A c ∧ Below W.heap.size W (W1.setCells q 0 ((⟨1 + kk, p.pa % 3, p.nu % 300, 0, 0, [], false, 0, 0⟩ : Pkt).cs none 0)) := ⟨T2.par, hbx⟩
      change PktIn (((((((((W1.setCell ⟨q, 0, none⟩ (.int .i64 (1 + kk))).setCell ⟨q, 1, none⟩ (.int .i64 (p.pa % 3))).setCell ⟨q, 2, none⟩ (.int .i64 (p.nu % 300))).setCell ⟨q, 3, none⟩ (.int .i64 0)).setCell ⟨q, 4, none⟩ (.int .i64 0)).setCell ⟨q, 5, none⟩ (.slice none 0 0)).setCell ⟨q, 6, none⟩ (.bool false)).setCell ⟨q, 7, none⟩ (.int .i64 0)).setCell ⟨q, 8, none⟩ (.int .i64 0)) b p A c ∧ Below W.heap.size W (((((((((W1.setCell ⟨q, 0, none⟩ (.int .i64 (1 + kk))).setCell ⟨q, 1, none⟩ (.int .i64 (p.pa % 3))).setCell ⟨q, 2, none⟩ (.int .i64 (p.nu % 300))).setCell ⟨q, 3, none⟩ (.int .i64 0)).setCell ⟨q, 4, none⟩ (.int .i64 0)).setCell ⟨q, 5, none⟩ (.slice none 0 0)).setCell ⟨q, 6, none⟩ (.bool false)).setCell ⟨q, 7, none⟩ (.int .i64 0)).setCell ⟨q, 8, none⟩ (.int .i64 0)) at hS2
      have TT := Lib.hid T2
      clear T2 T hbx d0 d1 d2 d3 d4 d5 d6 d7 d8 f0
      obtain ⟨W2, hW2⟩ : ∃ V, (((((((((W1.setCell ⟨q, 0, none⟩ (.int .i64 (1 + kk))).setCell ⟨q, 1, none⟩ (.int .i64 (p.pa % 3))).setCell ⟨q, 2, none⟩ (.int .i64 (p.nu % 300))).setCell ⟨q, 3, none⟩ (.int .i64 0)).setCell ⟨q, 4, none⟩ (.int .i64 0)).setCell ⟨q, 5, none⟩ (.slice none 0 0)).setCell ⟨q, 6, none⟩ (.bool false)).setCell ⟨q, 7, none⟩ (.int .i64 0)).setCell ⟨q, 8, none⟩ (.int .i64 0)) = V := ⟨_, rfl⟩
      rw [hW2] at TT hS2 ⊢
      clear hW2
      refine hK.out _ _ hS2 (fun hHeld2 => ?_)
      clear hK K hHeld hS2 hHeld2
      try simp only [Act.put, List.getElem_toArray, List.getElem_cons_zero, List.getElem_cons_succ, List.setIfInBounds_toArray, List.set_cons_zero, List.set_cons_succ]
      refine wpAnyH_done (by kernel_rfl) ?_ _
      go_step
      go_step
      go_meet
      exact ⟨q, kk, _, _, rfl, kb.1, kb.2, TT⟩
  case rest =>
  obtain ⟨q, kk, pp, nn, rfl, k0, k1, HT⟩ := hcut
  clear HI HR0 HBL HSZ
  have HCAP := Lib.hid hcap
  have HREACH := Lib.hid hreach
  clear hcap hreach
  have c0 := HT.out.v.cells.c0
  simp only at c0
  go_upto_block 0 with (fail)
  go_cut [] (fun wx => ∃ pk B d, Hid (PP w wx b z q p A c pk B d))
  case first =>
    have hk4 : kk = 0 ∨ kk = 1 ∨ kk = 2 ∨ kk = 3 := by omega
    rcases hk4 with rfl | rfl | rfl | rfl
    · go_wp2_with fail
      go_meet
      exact ⟨_, _, _, HT⟩
    · obtain ⟨y0, y1, y2, y3, y4, y5, y6, y7, y8⟩ := HT.out.par
      have f9 := HT.out.v.fr 3
      have d9 := HT.out.v.cells.c3
      go_wp2_with fail
      refine (within_any p.ofn 300 _ (by omega) (by omega)).mono ?_
      rintro e w' ⟨rfl, rfl⟩
      have T := Lib.hid (HT.out.store (HT.out.v.ofn (p.ofn % 300)) HT.out.own (HT.out.bd.ofn (mod_bd p.ofn 300 (by omega) (by omega))))
      go_wp2_with fail
      go_meet
      exact ⟨_, _, _, T⟩
    · have d0 := HT.out.par
      go_wp2_with fail
      refine wp_region_held_drew (S := fun wi => PktIn wi b p A c) (by kernel_rfl) HT.out.drew.par (fun hHeld => ?_)
      have T := Lib.hid HT.out.drew
      clear HT
      obtain ⟨v0, hv9⟩ : ∃ v, wc.drew = v := ⟨_, rfl⟩
      rw [hv9] at hHeld T ⊢
      clear hv9
      refine wpAnyH_take (i := 0) (v := ?_) rfl (by kernel_rfl) (by kernel_rfl) (by kernel_rfl) (fun _ _ _ h => h) (Or.inl ⟨by rfl, ?_⟩) (by assumption) ?_
      rotate_left
      · intro w hSw
        (try dsimp only at hSw)
        go_simp
        try (with_reducible rfl)
      try simp only [Act.put, List.getElem_toArray, List.getElem_cons_zero, List.setIfInBounds_toArray, List.set_cons_zero, List.set_cons_succ]
      refine wpAnyH_take (i := 1) (v := ?_) rfl (by kernel_rfl) (by kernel_rfl) (by kernel_rfl) (fun _ _ _ h => h) (Or.inl ⟨by rfl, ?_⟩) (by assumption) ?_
      rotate_left
      · intro w hSw
        (try dsimp only at hSw)
        go_simp
        try (with_reducible rfl)
      try simp only [Act.put, List.getElem_toArray, List.getElem_cons_zero, List.getElem_cons_succ, List.setIfInBounds_toArray, List.set_cons_zero, List.set_cons_succ]
      refine wpAnyH_take (i := 2) (v := ?_) rfl (by kernel_rfl) (by kernel_rfl) (by kernel_rfl) (fun _ _ _ h => h) (Or.inl ⟨by rfl, ?_⟩) (by assumption) ?_
      rotate_left
      · intro w hSw
        (try dsimp only at hSw)
        have c9 := hSw.c4
        clear hSw
        go_simp
        try (with_reducible rfl)
      try simp only [Act.put, List.getElem_toArray, List.getElem_cons_zero, List.getElem_cons_succ, List.setIfInBounds_toArray, List.set_cons_zero, List.set_cons_succ]
      refine wpAnyH_take (i := 4) (v := ?_) rfl (by kernel_rfl) (by kernel_rfl) (by kernel_rfl) (fun _ _ _ h => h) (Or.inl ⟨by rfl, ?_⟩) (by assumption) ?_
      rotate_left
      · intro w hSw
        (try dsimp only at hSw)
        go_simp
        try (with_reducible rfl)
      try simp only [Act.put, List.getElem_toArray, List.getElem_cons_zero, List.getElem_cons_succ, List.setIfInBounds_toArray, List.set_cons_zero, List.set_cons_succ]
      refine wpAnyH_take (i := 5) (v := ?_) rfl (by kernel_rfl) (by kernel_rfl) (by kernel_rfl) (fun _ _ _ h => h) (Or.inl ⟨by rfl, ?_⟩) (by assumption) ?_
      rotate_left
      · intro w hSw
        (try dsimp only at hSw)
        have c9 := hSw.c5
        clear hSw
        go_simp
        try (with_reducible rfl)
      try simp only [Act.put, List.getElem_toArray, List.getElem_cons_zero, List.getElem_cons_succ, List.setIfInBounds_toArray, List.set_cons_zero, List.set_cons_succ]
      refine wpAnyH_take (i := 7) (v := ?_) rfl (by kernel_rfl) (by kernel_rfl) (by kernel_rfl) (fun _ _ _ h => h) (Or.inl ⟨by rfl, ?_⟩) (by assumption) ?_
      rotate_left
      · intro w hSw
        (try dsimp only at hSw)
        go_simp
        try (with_reducible rfl)
      try simp only [Act.put, List.getElem_toArray, List.getElem_cons_zero, List.getElem_cons_succ, List.setIfInBounds_toArray, List.set_cons_zero, List.set_cons_succ]
      refine wpAnyH_take (i := 8) (v := ?_) rfl (by kernel_rfl) (by kernel_rfl) (by kernel_rfl) (fun _ _ _ h => h) (Or.inl ⟨by rfl, ?_⟩) (by assumption) ?_
      rotate_left
      · intro w hSw
        (try dsimp only at hSw)
        have c9 := hSw.c6
        clear hSw
        go_simp
        try (with_reducible rfl)
      try simp only [Act.put, List.getElem_toArray, List.getElem_cons_zero, List.getElem_cons_succ, List.setIfInBounds_toArray, List.set_cons_zero, List.set_cons_succ]
      refine wpAnyH_ready (rs := [3]) (by kernel_rfl) (by simp) ?_
      refine AllReadyH.cons rfl (fun K hK => ?_) AllReadyH.nil
      go_simp
      refine (within_any p.fr 200 _ (by omega) (by omega)).mono ?_
      rintro e w' ⟨rfl, rfl⟩
      refine hK.out _ _ hHeld (fun hHeld2 => ?_)
      clear hK K hHeld
      have hHeld := hHeld2
      clear hHeld2
      try simp only [Act.put, List.getElem_toArray, List.getElem_cons_zero, List.getElem_cons_succ, List.setIfInBounds_toArray, List.set_cons_zero, List.set_cons_succ]
      refine wpAnyH_take (i := 9) (v := ?_) rfl (by kernel_rfl) (by kernel_rfl) (by kernel_rfl) (fun _ _ _ h => h) (Or.inl ⟨by rfl, ?_⟩) (by assumption) ?_
      rotate_left
      · intro w hSw
        (try dsimp only at hSw)
        go_simp
        try (with_reducible rfl)
      try simp only [Act.put, List.getElem_toArray, List.getElem_cons_zero, List.getElem_cons_succ, List.setIfInBounds_toArray, List.set_cons_zero, List.set_cons_succ]
      refine wpAnyH_ready (rs := [6]) (by kernel_rfl) (by simp) ?_
      refine AllReadyH.cons rfl (fun K hK => ?_) AllReadyH.nil
      go_simp
      have hcut9 := cut_any A p.da.length c 20 p.da _ rfl HCAP.out T.out.pat.rd (by have := HREACH.out; omega) (by omega) (by omega)
      obtain ⟨L, hL⟩ : ∃ L, p.da.take (20 : Int).toNat = L := ⟨_, rfl⟩
      rw [hL] at hcut9
      have HLB := Lib.hid (show ∀ x ∈ L, 0 ≤ x ∧ x < 256 by rw [← hL]; exact fun x hx => T.out.p0.byt x (List.mem_of_mem_take hx))
      have HLL := Lib.hid (show L.length ≤ 80 by rw [← hL]; simp; omega)
      clear hL
      refine hcut9.mono ?_
      rintro e v1 ⟨C, cc, rfl, hoc, hbc⟩
      have OC := Lib.hid (hoc.less (B' := w.heap.size) T.out.bel.size)
      have T9 := Lib.hid (T.out.later hbc)
      clear hoc hbc T hcut9
      have T := T9
      clear T9
      refine hK.out _ _ T.out.par (fun hHeld2 => ?_)
      clear hK K hHeld
      have hHeld := hHeld2
      clear hHeld2
      try simp only [Act.put, List.getElem_toArray, List.getElem_cons_zero, List.getElem_cons_succ, List.setIfInBounds_toArray, List.set_cons_zero, List.set_cons_succ]
      have f9 := T.out.v.fr 4
      have d9 := T.out.v.cells.c4
      refine wpAnyH_ready (rs := [10]) (by kernel_rfl) (by simp) ?_
      refine AllReadyH.cons rfl (fun K hK => ?_) AllReadyH.nil
      go_simp
      have T9 := Lib.hid (T.out.store (T.out.v.frm (p.fr % 200)) T.out.own (T.out.bd.frm (mod_bd p.fr 200 (by omega) (by omega))))
      have OC9 := Lib.hid (T.out.row (i := 4) (v := .int .i64 (p.fr % 200)) OC.out)
      obtain ⟨v2, hu⟩ : ∃ V, v1.setCell ⟨q, 4, none⟩ (.int .i64 (p.fr % 200)) = V := ⟨_, rfl⟩
      rw [hu] at T9 OC9 ⊢
      clear hu f9 d9 T OC
      have T := T9
      clear T9
      have OC := OC9
      clear OC9
      refine hK.out _ _ T.out.par (fun hHeld2 => ?_)
      clear hK K hHeld
      have hHeld := hHeld2
      clear hHeld2
      try simp only [Act.put, List.getElem_toArray, List.getElem_cons_zero, List.getElem_cons_succ, List.setIfInBounds_toArray, List.set_cons_zero, List.set_cons_succ]
      refine wpAnyH_take (i := 11) (v := ?_) rfl (by kernel_rfl) (by kernel_rfl) (by kernel_rfl) (fun _ _ _ h => h) (Or.inl ⟨by rfl, ?_⟩) (by assumption) ?_
      rotate_left
      · intro w hSw
        (try dsimp only at hSw)
        go_simp
        try (with_reducible rfl)
      try simp only [Act.put, List.getElem_toArray, List.getElem_cons_zero, List.getElem_cons_succ, List.setIfInBounds_toArray, List.set_cons_zero, List.set_cons_succ]
      have f9 := T.out.v.fr 5
      have d9 := T.out.v.cells.c5
      refine wpAnyH_ready (rs := [12]) (by kernel_rfl) (by simp) ?_
      refine AllReadyH.cons rfl (fun K hK => ?_) AllReadyH.nil
      go_simp
      have T9 := Lib.hid (T.out.store (T.out.v.dat L C cc) OC.out (T.out.bd.dat HLB.out HLL.out))
      obtain ⟨v3, hu⟩ : ∃ V, v2.setCell ⟨q, 5, none⟩ (.slice C L.length cc) = V := ⟨_, rfl⟩
      rw [hu] at T9 ⊢
      clear hu f9 d9 T
      have T := T9
      clear T9
      refine hK.out _ _ T.out.par (fun hHeld2 => ?_)
      clear hK K hHeld
      have hHeld := hHeld2
      clear hHeld2
      try simp only [Act.put, List.getElem_toArray, List.getElem_cons_zero, List.getElem_cons_succ, List.setIfInBounds_toArray, List.set_cons_zero, List.set_cons_succ]
      refine wpAnyH_take (i := 13) (v := ?_) rfl (by kernel_rfl) (by kernel_rfl) (by kernel_rfl) (fun _ _ _ h => h) (Or.inl ⟨by rfl, ?_⟩) (by assumption) ?_
      rotate_left
      · intro w hSw
        (try dsimp only at hSw)
        go_simp
        try (with_reducible rfl)
      try simp only [Act.put, List.getElem_toArray, List.getElem_cons_zero, List.getElem_cons_succ, List.setIfInBounds_toArray, List.set_cons_zero, List.set_cons_succ]
      have f9 := T.out.v.fr 6
      have d9 := T.out.v.cells.c6
      refine wpAnyH_ready (rs := [14]) (by kernel_rfl) (by simp) ?_
      refine AllReadyH.cons rfl (fun K hK => ?_) AllReadyH.nil
      go_simp
      have T9 := Lib.hid (T.out.store (T.out.v.fin p.fin) T.out.own (T.out.bd.fin p.fin))
      obtain ⟨v4, hu⟩ : ∃ V, v3.setCell ⟨q, 6, none⟩ (.bool p.fin) = V := ⟨_, rfl⟩
      rw [hu] at T9 ⊢
      clear hu f9 d9 T
      have T := T9
      clear T9
      refine hK.out _ _ T.out.par (fun hHeld2 => ?_)
      clear hK K hHeld
      have hHeld := hHeld2
      clear hHeld2
      try simp only [Act.put, List.getElem_toArray, List.getElem_cons_zero, List.getElem_cons_succ, List.setIfInBounds_toArray, List.set_cons_zero, List.set_cons_succ]
      refine wpAnyH_done (by kernel_rfl) ?_ _
      go_wp2_with fail
      go_meet
      exact ⟨_, _, _, T⟩
    · have d0 := HT.out.par
      go_wp2_with fail
      refine wp_region_held_drew (S := fun wi => PktIn wi b p A c) (by kernel_rfl) HT.out.drew.par (fun hHeld => ?_)
      have T := Lib.hid HT.out.drew
      clear HT
      obtain ⟨v0, hv9⟩ : ∃ v, wc.drew = v := ⟨_, rfl⟩
      rw [hv9] at hHeld T ⊢
      clear hv9
      refine wpAnyH_take (i := 0) (v := ?_) rfl (by kernel_rfl) (by kernel_rfl) (by kernel_rfl) (fun _ _ _ h => h) (Or.inl ⟨by rfl, ?_⟩) (by assumption) ?_
      rotate_left
      · intro w hSw
        (try dsimp only at hSw)
        go_simp
        try (with_reducible rfl)
      try simp only [Act.put, List.getElem_toArray, List.getElem_cons_zero, List.setIfInBounds_toArray, List.set_cons_zero, List.set_cons_succ]
      refine wpAnyH_take (i := 1) (v := ?_) rfl (by kernel_rfl) (by kernel_rfl) (by kernel_rfl) (fun _ _ _ h => h) (Or.inl ⟨by rfl, ?_⟩) (by assumption) ?_
      rotate_left
      · intro w hSw
        (try dsimp only at hSw)
        go_simp
        try (with_reducible rfl)
      try simp only [Act.put, List.getElem_toArray, List.getElem_cons_zero, List.getElem_cons_succ, List.setIfInBounds_toArray, List.set_cons_zero, List.set_cons_succ]
      refine wpAnyH_take (i := 2) (v := ?_) rfl (by kernel_rfl) (by kernel_rfl) (by kernel_rfl) (fun _ _ _ h => h) (Or.inl ⟨by rfl, ?_⟩) (by assumption) ?_
      rotate_left
      · intro w hSw
        (try dsimp only at hSw)
        have c9 := hSw.c3
        clear hSw
        go_simp
        try (with_reducible rfl)
      try simp only [Act.put, List.getElem_toArray, List.getElem_cons_zero, List.getElem_cons_succ, List.setIfInBounds_toArray, List.set_cons_zero, List.set_cons_succ]
      refine wpAnyH_take (i := 4) (v := ?_) rfl (by kernel_rfl) (by kernel_rfl) (by kernel_rfl) (fun _ _ _ h => h) (Or.inl ⟨by rfl, ?_⟩) (by assumption) ?_
      rotate_left
      · intro w hSw
        (try dsimp only at hSw)
        go_simp
        try (with_reducible rfl)
      try simp only [Act.put, List.getElem_toArray, List.getElem_cons_zero, List.getElem_cons_succ, List.setIfInBounds_toArray, List.set_cons_zero, List.set_cons_succ]
      refine wpAnyH_take (i := 5) (v := ?_) rfl (by kernel_rfl) (by kernel_rfl) (by kernel_rfl) (fun _ _ _ h => h) (Or.inl ⟨by rfl, ?_⟩) (by assumption) ?_
      rotate_left
      · intro w hSw
        (try dsimp only at hSw)
        go_simp
        try (with_reducible rfl)
      try simp only [Act.put, List.getElem_toArray, List.getElem_cons_zero, List.getElem_cons_succ, List.setIfInBounds_toArray, List.set_cons_zero, List.set_cons_succ]
      refine wpAnyH_take (i := 6) (v := ?_) rfl (by kernel_rfl) (by kernel_rfl) (by kernel_rfl) (fun _ _ _ h => h) (Or.inl ⟨by rfl, ?_⟩) (by assumption) ?_
      rotate_left
      · intro w hSw
        (try dsimp only at hSw)
        have c9 := hSw.c7
        clear hSw
        go_simp
        try (with_reducible rfl)
      try simp only [Act.put, List.getElem_toArray, List.getElem_cons_zero, List.getElem_cons_succ, List.setIfInBounds_toArray, List.set_cons_zero, List.set_cons_succ]
      refine wpAnyH_take (i := 8) (v := ?_) rfl (by kernel_rfl) (by kernel_rfl) (by kernel_rfl) (fun _ _ _ h => h) (Or.inl ⟨by rfl, ?_⟩) (by assumption) ?_
      rotate_left
      · intro w hSw
        (try dsimp only at hSw)
        go_simp
        try (with_reducible rfl)
      try simp only [Act.put, List.getElem_toArray, List.getElem_cons_zero, List.getElem_cons_succ, List.setIfInBounds_toArray, List.set_cons_zero, List.set_cons_succ]
      refine wpAnyH_take (i := 9) (v := ?_) rfl (by kernel_rfl) (by kernel_rfl) (by kernel_rfl) (fun _ _ _ h => h) (Or.inl ⟨by rfl, ?_⟩) (by assumption) ?_
      rotate_left
      · intro w hSw
        (try dsimp only at hSw)
        go_simp
        try (with_reducible rfl)
      try simp only [Act.put, List.getElem_toArray, List.getElem_cons_zero, List.getElem_cons_succ, List.setIfInBounds_toArray, List.set_cons_zero, List.set_cons_succ]
      refine wpAnyH_take (i := 10) (v := ?_) rfl (by kernel_rfl) (by kernel_rfl) (by kernel_rfl) (fun _ _ _ h => h) (Or.inl ⟨by rfl, ?_⟩) (by assumption) ?_
      rotate_left
      · intro w hSw
        (try dsimp only at hSw)
        have c9 := hSw.c8
        clear hSw
        go_simp
        try (with_reducible rfl)
      try simp only [Act.put, List.getElem_toArray, List.getElem_cons_zero, List.getElem_cons_succ, List.setIfInBounds_toArray, List.set_cons_zero, List.set_cons_succ]
      refine wpAnyH_ready (rs := [3]) (by kernel_rfl) (by simp) ?_
      refine AllReadyH.cons rfl (fun K hK => ?_) AllReadyH.nil
      go_simp
      refine (within_any p.ofn 300 _ (by omega) (by omega)).mono ?_
      rintro e w' ⟨rfl, rfl⟩
      refine hK.out _ _ hHeld (fun hHeld2 => ?_)
      clear hK K hHeld
      have hHeld := hHeld2
      clear hHeld2
      try simp only [Act.put, List.getElem_toArray, List.getElem_cons_zero, List.getElem_cons_succ, List.setIfInBounds_toArray, List.set_cons_zero, List.set_cons_succ]
      refine wpAnyH_take (i := 12) (v := ?_) rfl (by kernel_rfl) (by kernel_rfl) (by kernel_rfl) (fun _ _ _ h => h) (Or.inl ⟨by rfl, ?_⟩) (by assumption) ?_
      rotate_left
      · intro w hSw
        (try dsimp only at hSw)
        go_simp
        try (with_reducible rfl)
      try simp only [Act.put, List.getElem_toArray, List.getElem_cons_zero, List.getElem_cons_succ, List.setIfInBounds_toArray, List.set_cons_zero, List.set_cons_succ]
      refine wpAnyH_ready (rs := [7]) (by kernel_rfl) (by simp) ?_
      refine AllReadyH.cons rfl (fun K hK => ?_) AllReadyH.nil
      go_simp
      refine (within_any p.se 300 _ (by omega) (by omega)).mono ?_
      rintro e w' ⟨rfl, rfl⟩
      refine hK.out _ _ hHeld (fun hHeld2 => ?_)
      clear hK K hHeld
      have hHeld := hHeld2
      clear hHeld2
      try simp only [Act.put, List.getElem_toArray, List.getElem_cons_zero, List.getElem_cons_succ, List.setIfInBounds_toArray, List.set_cons_zero, List.set_cons_succ]
      refine wpAnyH_ready (rs := [11]) (by kernel_rfl) (by simp) ?_
      refine AllReadyH.cons rfl (fun K hK => ?_) AllReadyH.nil
      go_simp
      refine (within_any p.li 400 _ (by omega) (by omega)).mono ?_
      rintro e w' ⟨rfl, rfl⟩
      refine hK.out _ _ hHeld (fun hHeld2 => ?_)
      clear hK K hHeld
      have hHeld := hHeld2
      clear hHeld2
      try simp only [Act.put, List.getElem_toArray, List.getElem_cons_zero, List.getElem_cons_succ, List.setIfInBounds_toArray, List.set_cons_zero, List.set_cons_succ]
      have f9 := T.out.v.fr 3
      have d9 := T.out.v.cells.c3
      refine wpAnyH_ready (rs := [13]) (by kernel_rfl) (by simp) ?_
      refine AllReadyH.cons rfl (fun K hK => ?_) AllReadyH.nil
      go_simp
      have T9 := Lib.hid (T.out.store (T.out.v.ofn (p.ofn % 300)) T.out.own (T.out.bd.ofn (mod_bd p.ofn 300 (by omega) (by omega))))
      obtain ⟨v1, hu⟩ : ∃ V, v0.setCell ⟨q, 3, none⟩ (.int .i64 (p.ofn % 300)) = V := ⟨_, rfl⟩
      rw [hu] at T9 ⊢
      clear hu f9 d9 T
      have T := T9
      clear T9
      refine hK.out _ _ T.out.par (fun hHeld2 => ?_)
      clear hK K hHeld
      have hHeld := hHeld2
      clear hHeld2
      try simp only [Act.put, List.getElem_toArray, List.getElem_cons_zero, List.getElem_cons_succ, List.setIfInBounds_toArray, List.set_cons_zero, List.set_cons_succ]
      refine wpAnyH_take (i := 14) (v := ?_) rfl (by kernel_rfl) (by kernel_rfl) (by kernel_rfl) (fun _ _ _ h => h) (Or.inl ⟨by rfl, ?_⟩) (by assumption) ?_
      rotate_left
      · intro w hSw
        (try dsimp only at hSw)
        go_simp
        try (with_reducible rfl)
      try simp only [Act.put, List.getElem_toArray, List.getElem_cons_zero, List.getElem_cons_succ, List.setIfInBounds_toArray, List.set_cons_zero, List.set_cons_succ]
      have f9 := T.out.v.fr 7
      have d9 := T.out.v.cells.c7
      refine wpAnyH_ready (rs := [15]) (by kernel_rfl) (by simp) ?_
      refine AllReadyH.cons rfl (fun K hK => ?_) AllReadyH.nil
      go_simp
      have T9 := Lib.hid (T.out.store (T.out.v.se (p.se % 300)) T.out.own (T.out.bd.se (mod_bd p.se 300 (by omega) (by omega))))
      obtain ⟨v2, hu⟩ : ∃ V, v1.setCell ⟨q, 7, none⟩ (.int .i64 (p.se % 300)) = V := ⟨_, rfl⟩
      rw [hu] at T9 ⊢
      clear hu f9 d9 T
      have T := T9
      clear T9
      refine hK.out _ _ T.out.par (fun hHeld2 => ?_)
      clear hK K hHeld
      have hHeld := hHeld2
      clear hHeld2
      try simp only [Act.put, List.getElem_toArray, List.getElem_cons_zero, List.getElem_cons_succ, List.setIfInBounds_toArray, List.set_cons_zero, List.set_cons_succ]
      refine wpAnyH_take (i := 16) (v := ?_) rfl (by kernel_rfl) (by kernel_rfl) (by kernel_rfl) (fun _ _ _ h => h) (Or.inl ⟨by rfl, ?_⟩) (by assumption) ?_
      rotate_left
      · intro w hSw
        (try dsimp only at hSw)
        go_simp
        try (with_reducible rfl)
      try simp only [Act.put, List.getElem_toArray, List.getElem_cons_zero, List.getElem_cons_succ, List.setIfInBounds_toArray, List.set_cons_zero, List.set_cons_succ]
      have f9 := T.out.v.fr 8
      have d9 := T.out.v.cells.c8
      refine wpAnyH_ready (rs := [17]) (by kernel_rfl) (by simp) ?_
      refine AllReadyH.cons rfl (fun K hK => ?_) AllReadyH.nil
      go_simp
      have T9 := Lib.hid (T.out.store (T.out.v.li (p.li % 400)) T.out.own (T.out.bd.li (mod_bd p.li 400 (by omega) (by omega))))
      obtain ⟨v3, hu⟩ : ∃ V, v2.setCell ⟨q, 8, none⟩ (.int .i64 (p.li % 400)) = V := ⟨_, rfl⟩
      rw [hu] at T9 ⊢
      clear hu f9 d9 T
      have T := T9
      clear T9
      refine hK.out _ _ T.out.par (fun hHeld2 => ?_)
      clear hK K hHeld
      have hHeld := hHeld2
      clear hHeld2
      try simp only [Act.put, List.getElem_toArray, List.getElem_cons_zero, List.getElem_cons_succ, List.setIfInBounds_toArray, List.set_cons_zero, List.set_cons_succ]
      refine wpAnyH_done (by kernel_rfl) ?_ _
      go_wp2_with fail
      go_meet
      exact ⟨_, _, _, T⟩
  case rest =>
  obtain ⟨pk, B, d, HT⟩ := hcut
  clear c0
  go_wp2_with fail
  refine (within_any how 40 _ (by omega) (by omega)).mono ?_
  rintro e w' ⟨rfl, rfl⟩
  obtain ⟨x, hx⟩ : ∃ x, how % 40 = x := ⟨_, rfl⟩
  have hx0 : 0 ≤ x ∧ x < 40 := by omega
  rw [hx]
  clear hx
  go_upto_block 1 with (fail)
  go_cut [] (fun wx => ∃ pk B d, Hid (PP w wx b z q p A c pk B d))
  case first =>
    have hx2 : x = 29 ∨ x = 30 ∨ x = 31 ∨ x = 32 ∨ x = 33 ∨ x = 34 ∨ x = 35 ∨ x = 36 ∨ x = 37 ∨ x = 38 ∨ x = 39 ∨ x < 29 := by omega
    rcases hx2 with rfl | rfl | rfl | rfl | rfl | rfl | rfl | rfl | rfl | rfl | rfl | hx2
    · obtain ⟨y0, y1, y2, y3, y4, y5, y6, y7, y8⟩ := HT.out.par
      go_wp2_with fail
      refine (playCut_any p A c wc HT.out.pat).mono ?_
      rintro e w2 ⟨L, C, cc, rfl, hlb, hll, hoc, hbc⟩
      have T := Lib.hid (HT.out.later hbc)
      have OC := Lib.hid (hoc.less (B' := w.heap.size) HT.out.bel.size)
      have HLB := Lib.hid hlb
      have HLL := Lib.hid hll
      clear hoc hbc HT y0 y1 y2 y3 y4 y5 y6 y7 y8 hlb hll
      have f0 := T.out.zr.fr
      obtain ⟨x0, x1, x2, x3, x4, x5, x6, x7, x8⟩ := T.out.zr.cells
      unfold Pkt.val
      go_wp2_with fail
      change bodyPost _ _ _ _ _ (w2.setCells z 0 (({ p with da := L } : Pkt).cs C cc))
      obtain ⟨r1, r2⟩ := T.out.put (({ p with da := L } : Pkt).cs C cc) OC.out
      have h9 := T.out.zr.res { p with da := L } C cc
      refine bodyPost_ret (v := ({ p with da := L } : Pkt).val C cc) ?_ rfl ⟨{ p with da := L }, C, cc, rfl, ⟨HLB.out, HLL.out, PB.out.1, PB.out.2.1, PB.out.2.2.1, PB.out.2.2.2.1, PB.out.2.2.2.2.1, PB.out.2.2.2.2.2.1, PB.out.2.2.2.2.2.2⟩, r1, r2⟩
      clear x0 x1 x2 x3 x4 x5 x6 x7 x8 f0
      simp [results, Try.results83, asAddr, h9]
    · obtain ⟨y0, y1, y2, y3, y4, y5, y6, y7, y8⟩ := HT.out.par
      have f9 := HT.out.v.fr 0
      have d9 := HT.out.v.cells.c0
      have T := Lib.hid (HT.out.store (HT.out.v.kin p.k) HT.out.own (HT.out.bd.kin PB.out.1))
      go_wp2_with fail
      go_meet
      exact ⟨_, _, _, T⟩
    · obtain ⟨y0, y1, y2, y3, y4, y5, y6, y7, y8⟩ := HT.out.par
      have f9 := HT.out.v.fr 1
      have d9 := HT.out.v.cells.c1
      have T := Lib.hid (HT.out.store (HT.out.v.pa p.pa) HT.out.own (HT.out.bd.pa PB.out.2.1))
      go_wp2_with fail
      go_meet
      exact ⟨_, _, _, T⟩
    · obtain ⟨y0, y1, y2, y3, y4, y5, y6, y7, y8⟩ := HT.out.par
      have f9 := HT.out.v.fr 2
      have d9 := HT.out.v.cells.c2
      have T := Lib.hid (HT.out.store (HT.out.v.nu p.nu) HT.out.own (HT.out.bd.nu PB.out.2.2.1))
      go_wp2_with fail
      go_meet
      exact ⟨_, _, _, T⟩
    · obtain ⟨y0, y1, y2, y3, y4, y5, y6, y7, y8⟩ := HT.out.par
      have f9 := HT.out.v.fr 3
      have d9 := HT.out.v.cells.c3
      have T := Lib.hid (HT.out.store (HT.out.v.ofn p.ofn) HT.out.own (HT.out.bd.ofn PB.out.2.2.2.1))
      go_wp2_with fail
      go_meet
      exact ⟨_, _, _, T⟩
    · obtain ⟨y0, y1, y2, y3, y4, y5, y6, y7, y8⟩ := HT.out.par
      have f9 := HT.out.v.fr 4
      have d9 := HT.out.v.cells.c4
      have T := Lib.hid (HT.out.store (HT.out.v.frm p.fr) HT.out.own (HT.out.bd.frm PB.out.2.2.2.2.1))
      go_wp2_with fail
      go_meet
      exact ⟨_, _, _, T⟩
    · obtain ⟨y0, y1, y2, y3, y4, y5, y6, y7, y8⟩ := HT.out.par
      go_wp2_with fail
      have hcut9 := cut_any A p.da.length c 70 p.da wc rfl HCAP.out HT.out.pat.rd (by have := HREACH.out; omega) (by omega) (by omega)
      obtain ⟨L, hL⟩ : ∃ L, p.da.take (70 : Int).toNat = L := ⟨_, rfl⟩
      rw [hL] at hcut9
      have HLB := Lib.hid (show ∀ x ∈ L, 0 ≤ x ∧ x < 256 by rw [← hL]; exact fun x hx => HT.out.p0.byt x (List.mem_of_mem_take hx))
      have HLL := Lib.hid (show L.length ≤ 80 by rw [← hL]; simp; omega)
      clear hL
      refine hcut9.mono ?_
      rintro e w2 ⟨C, cc, rfl, hoc, hbc⟩
      have T9 := Lib.hid (HT.out.later hbc)
      have OC := Lib.hid (hoc.less (B' := w.heap.size) HT.out.bel.size)
      clear hoc hbc HT y0 y1 y2 y3 y4 y5 y6 y7 y8
      have f9 := T9.out.v.fr 5
      have d9 := T9.out.v.cells.c5
      have T := Lib.hid (T9.out.store (T9.out.v.dat L C cc) OC.out (T9.out.bd.dat HLB.out HLL.out))
      go_wp2_with fail
      go_meet
      exact ⟨_, _, _, T⟩
    · obtain ⟨y0, y1, y2, y3, y4, y5, y6, y7, y8⟩ := HT.out.par
      have f9 := HT.out.v.fr 6
      have d9 := HT.out.v.cells.c6
      have T := Lib.hid (HT.out.store (HT.out.v.fin true) HT.out.own (HT.out.bd.fin true))
      go_wp2_with fail
      go_meet
      exact ⟨_, _, _, T⟩
    · obtain ⟨y0, y1, y2, y3, y4, y5, y6, y7, y8⟩ := HT.out.par
      have f9 := HT.out.v.fr 7
      have d9 := HT.out.v.cells.c7
      have T := Lib.hid (HT.out.store (HT.out.v.se p.se) HT.out.own (HT.out.bd.se PB.out.2.2.2.2.2.1))
      go_wp2_with fail
      go_meet
      exact ⟨_, _, _, T⟩
    · obtain ⟨y0, y1, y2, y3, y4, y5, y6, y7, y8⟩ := HT.out.par
      have f9 := HT.out.v.fr 8
      have d9 := HT.out.v.cells.c8
      have T := Lib.hid (HT.out.store (HT.out.v.li p.li) HT.out.own (HT.out.bd.li PB.out.2.2.2.2.2.2))
      go_wp2_with fail
      go_meet
      exact ⟨_, _, _, T⟩
    · have d0 := HT.out.par
      go_wp2_with fail
      refine wp_region_held_drew (S := fun wi => PktIn wi b p A c) (by kernel_rfl) HT.out.drew.par (fun hHeld => ?_)
      have T := Lib.hid HT.out.drew
      clear HT
      obtain ⟨v0, hv9⟩ : ∃ v, wc.drew = v := ⟨_, rfl⟩
      rw [hv9] at hHeld T ⊢
      clear hv9
      refine wpAnyH_take (i := 0) (v := ?_) rfl (by kernel_rfl) (by kernel_rfl) (by kernel_rfl) (fun _ _ _ h => h) (Or.inl ⟨by rfl, ?_⟩) (by assumption) ?_
      rotate_left
      · intro w hSw
        (try dsimp only at hSw)
        go_simp
        try (with_reducible rfl)
      try simp only [Act.put, List.getElem_toArray, List.getElem_cons_zero, List.setIfInBounds_toArray, List.set_cons_zero, List.set_cons_succ]
      refine wpAnyH_take (i := 1) (v := ?_) rfl (by kernel_rfl) (by kernel_rfl) (by kernel_rfl) (fun _ _ _ h => h) (Or.inl ⟨by rfl, ?_⟩) (by assumption) ?_
      rotate_left
      · intro w hSw
        (try dsimp only at hSw)
        go_simp
        try (with_reducible rfl)
      try simp only [Act.put, List.getElem_toArray, List.getElem_cons_zero, List.getElem_cons_succ, List.setIfInBounds_toArray, List.set_cons_zero, List.set_cons_succ]
      refine wpAnyH_take (i := 2) (v := ?_) rfl (by kernel_rfl) (by kernel_rfl) (by kernel_rfl) (fun _ _ _ h => h) (Or.inl ⟨by rfl, ?_⟩) (by assumption) ?_
      rotate_left
      · intro w hSw
        (try dsimp only at hSw)
        have c9 := hSw.c4
        clear hSw
        go_simp
        try (with_reducible rfl)
      try simp only [Act.put, List.getElem_toArray, List.getElem_cons_zero, List.getElem_cons_succ, List.setIfInBounds_toArray, List.set_cons_zero, List.set_cons_succ]
      refine wpAnyH_take (i := 4) (v := ?_) rfl (by kernel_rfl) (by kernel_rfl) (by kernel_rfl) (fun _ _ _ h => h) (Or.inl ⟨by rfl, ?_⟩) (by assumption) ?_
      rotate_left
      · intro w hSw
        (try dsimp only at hSw)
        go_simp
        try (with_reducible rfl)
      try simp only [Act.put, List.getElem_toArray, List.getElem_cons_zero, List.getElem_cons_succ, List.setIfInBounds_toArray, List.set_cons_zero, List.set_cons_succ]
      refine wpAnyH_take (i := 5) (v := ?_) rfl (by kernel_rfl) (by kernel_rfl) (by kernel_rfl) (fun _ _ _ h => h) (Or.inl ⟨by rfl, ?_⟩) (by assumption) ?_
      rotate_left
      · intro w hSw
        (try dsimp only at hSw)
        go_simp
        try (with_reducible rfl)
      try simp only [Act.put, List.getElem_toArray, List.getElem_cons_zero, List.getElem_cons_succ, List.setIfInBounds_toArray, List.set_cons_zero, List.set_cons_succ]
      refine wpAnyH_take (i := 6) (v := ?_) rfl (by kernel_rfl) (by kernel_rfl) (by kernel_rfl) (fun _ _ _ h => h) (Or.inl ⟨by rfl, ?_⟩) (by assumption) ?_
      rotate_left
      · intro w hSw
        (try dsimp only at hSw)
        have c9 := hSw.c2
        clear hSw
        go_simp
        try (with_reducible rfl)
      try simp only [Act.put, List.getElem_toArray, List.getElem_cons_zero, List.getElem_cons_succ, List.setIfInBounds_toArray, List.set_cons_zero, List.set_cons_succ]
      refine wpAnyH_ready (rs := [3]) (by kernel_rfl) (by simp) ?_
      refine AllReadyH.cons rfl (fun K hK => ?_) AllReadyH.nil
      go_simp
      refine (within_any p.fr 4098 _ (by omega) (by omega)).mono ?_
      rintro e w' ⟨rfl, rfl⟩
      refine hK.out _ _ hHeld (fun hHeld2 => ?_)
      clear hK K hHeld
      have hHeld := hHeld2
      clear hHeld2
      try simp only [Act.put, List.getElem_toArray, List.getElem_cons_zero, List.getElem_cons_succ, List.setIfInBounds_toArray, List.set_cons_zero, List.set_cons_succ]
      refine wpAnyH_take (i := 8) (v := ?_) rfl (by kernel_rfl) (by kernel_rfl) (by kernel_rfl) (fun _ _ _ h => h) (Or.inl ⟨by rfl, ?_⟩) (by assumption) ?_
      rotate_left
      · intro w hSw
        (try dsimp only at hSw)
        go_simp
        try (with_reducible rfl)
      try simp only [Act.put, List.getElem_toArray, List.getElem_cons_zero, List.getElem_cons_succ, List.setIfInBounds_toArray, List.set_cons_zero, List.set_cons_succ]
      refine wpAnyH_ready (rs := [7]) (by kernel_rfl) (by simp) ?_
      refine AllReadyH.cons rfl (fun K hK => ?_) AllReadyH.nil
      go_simp
      refine (within_any p.nu 65537 _ (by omega) (by omega)).mono ?_
      rintro e w' ⟨rfl, rfl⟩
      refine hK.out _ _ hHeld (fun hHeld2 => ?_)
      clear hK K hHeld
      have hHeld := hHeld2
      clear hHeld2
      try simp only [Act.put, List.getElem_toArray, List.getElem_cons_zero, List.getElem_cons_succ, List.setIfInBounds_toArray, List.set_cons_zero, List.set_cons_succ]
      have f9 := T.out.v.fr 4
      have d9 := T.out.v.cells.c4
      refine wpAnyH_ready (rs := [9]) (by kernel_rfl) (by simp) ?_
      refine AllReadyH.cons rfl (fun K hK => ?_) AllReadyH.nil
      go_simp
      have T9 := Lib.hid (T.out.store (T.out.v.frm (p.fr % 4098)) T.out.own (T.out.bd.frm (mod_bd p.fr 4098 (by omega) (by omega))))
      obtain ⟨v1, hu⟩ : ∃ V, v0.setCell ⟨q, 4, none⟩ (.int .i64 (p.fr % 4098)) = V := ⟨_, rfl⟩
      rw [hu] at T9 ⊢
      clear hu f9 d9 T
      have T := T9
      clear T9
      refine hK.out _ _ T.out.par (fun hHeld2 => ?_)
      clear hK K hHeld
      have hHeld := hHeld2
      clear hHeld2
      try simp only [Act.put, List.getElem_toArray, List.getElem_cons_zero, List.getElem_cons_succ, List.setIfInBounds_toArray, List.set_cons_zero, List.set_cons_succ]
      refine wpAnyH_take (i := 10) (v := ?_) rfl (by kernel_rfl) (by kernel_rfl) (by kernel_rfl) (fun _ _ _ h => h) (Or.inl ⟨by rfl, ?_⟩) (by assumption) ?_
      rotate_left
      · intro w hSw
        (try dsimp only at hSw)
        go_simp
        try (with_reducible rfl)
      try simp only [Act.put, List.getElem_toArray, List.getElem_cons_zero, List.getElem_cons_succ, List.setIfInBounds_toArray, List.set_cons_zero, List.set_cons_succ]
      have f9 := T.out.v.fr 2
      have d9 := T.out.v.cells.c2
      refine wpAnyH_ready (rs := [11]) (by kernel_rfl) (by simp) ?_
      refine AllReadyH.cons rfl (fun K hK => ?_) AllReadyH.nil
      go_simp
      have T9 := Lib.hid (T.out.store (T.out.v.nu (p.nu % 65537)) T.out.own (T.out.bd.nu (mod_bd p.nu 65537 (by omega) (by omega))))
      obtain ⟨v2, hu⟩ : ∃ V, v1.setCell ⟨q, 2, none⟩ (.int .i64 (p.nu % 65537)) = V := ⟨_, rfl⟩
      rw [hu] at T9 ⊢
      clear hu f9 d9 T
      have T := T9
      clear T9
      refine hK.out _ _ T.out.par (fun hHeld2 => ?_)
      clear hK K hHeld
      have hHeld := hHeld2
      clear hHeld2
      try simp only [Act.put, List.getElem_toArray, List.getElem_cons_zero, List.getElem_cons_succ, List.setIfInBounds_toArray, List.set_cons_zero, List.set_cons_succ]
      refine wpAnyH_done (by kernel_rfl) ?_ _
      go_wp2_with fail
      go_meet
      exact ⟨_, _, _, T⟩
    · have n29 : (x == 29) = false := by simp; omega
      have n30 : (x == 30) = false := by simp; omega
      have n31 : (x == 31) = false := by simp; omega
      have n32 : (x == 32) = false := by simp; omega
      have n33 : (x == 33) = false := by simp; omega
      have n34 : (x == 34) = false := by simp; omega
      have n35 : (x == 35) = false := by simp; omega
      have n36 : (x == 36) = false := by simp; omega
      have n37 : (x == 37) = false := by simp; omega
      have n38 : (x == 38) = false := by simp; omega
      have n39 : (x == 39) = false := by simp; omega
      go_wp2_with fail
      go_meet
      exact ⟨_, _, _, HT⟩
  case rest =>
  obtain ⟨pk, B, d, HT⟩ := hcut
  obtain ⟨c0, c1, c2, c3, c4, c5, c6, c7, c8⟩ := HT.out.v.cells
  obtain ⟨x0, x1, x2, x3, x4, x5, x6, x7, x8⟩ := HT.out.zr.cells
  have f0 := HT.out.zr.fr
  go_wp2_with fail
  change bodyPost _ _ _ _ _ (wc.setCells z 0 (pk.cs B d))
  obtain ⟨r1, r2⟩ := HT.out.put (pk.cs B d) HT.out.own
  have h9 := HT.out.zr.res pk B d
  refine bodyPost_ret (v := pk.val B d) ?_ rfl ⟨pk, B, d, rfl, HT.out.bd, r1, r2⟩
  clear c0 c1 c2 c3 c4 c5 c6 c7 c8 x0 x1 x2 x3 x4 x5 x6 x7 x8 f0
  simp [results, Try.results83, asAddr, h9]
end Go.Proofs.Ytbjneoeiognahaa

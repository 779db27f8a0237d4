/-
  What package packet's Plain makes of a packet: a contract over the program.
-/
import Derived.Test.YtbjneoeiognahaaPktFields
namespace Go.Proofs.Ytbjneoeiognahaa
open Go.RowKit

/-- A packet as bytes. -/
def Pkt.plainL (p : Pkt) : List Int := ([p.k] ++ putL p.pa ++ putL p.nu) ++ p.fieldsL
/-- The same, or nothing. -/
def Pkt.plainO (p : Pkt) : List Int := if p.ok then p.plainL else []
set_option maxRecDepth 10000 in
theorem Pkt.fields_len (p : Pkt) (h : p.ok = true) : p.fieldsL.length ≤ 100 := by
  unfold Pkt.ok at h
  simp only [Bool.and_eq_true] at h
  have hb : p.da.length ≤ 64 := by
    have := h.2
    unfold Pkt.bounded at this
    simp only [Bool.and_eq_true, decide_eq_true_eq] at this
    omega
  have h1 := putL_len p.ofn
  have h2 := putL_len p.fr
  have h3 := putL_len p.se
  have h4 := putL_len p.li
  have h5 := putL_len p.da.length
  unfold Pkt.fieldsL
  split
  · omega
  · split
    · simp only [List.length_append, List.length_singleton]; omega
    · split
      · simp only [List.length_append]; omega
      · simp
set_option maxRecDepth 10000 in
theorem Pkt.ok_len {p : Pkt} (h : p.ok = true) : p.da.length ≤ 64 := by
  unfold Pkt.ok at h
  simp only [Bool.and_eq_true] at h
  have := h.2
  unfold Pkt.bounded at this
  simp only [Bool.and_eq_true, decide_eq_true_eq] at this
  omega
set_option maxRecDepth 10000 in
theorem Pkt.ok_kind {p : Pkt} (h : p.ok = true) : 1 ≤ p.k ∧ p.k ≤ 4 := by
  unfold Pkt.ok Pkt.known at h
  simp only [Bool.and_eq_true, decide_eq_true_eq] at h
  exact h.1.1.1.1

set_option maxRecDepth 10000 in
set_option maxHeartbeats 1000000 in
theorem plain_any (p : Pkt) (A : Option Addr) (c : Nat) (w : World) (hp : PktAt w p A c) :
    Calls Try.prog 107 #[p.val A c] w fun e w' => ∃ A' c', e = .returned (.tuple #[.slice A' p.plainO.length c', .int .i64 (if p.ok then 0 else 1)]) ∧
      Own .u8 5 w' w.heap.size (.slice A' p.plainO.length c') p.plainO ∧ Below w.heap.size w w' := by
  have hch := fun W (h : PktAt W p A c) => checkP_any p A c W h
  have hin := PktIn.new w p A c 58
  have hrg := Pkt.range w p A c 58
  have hvv := Lib.hid (show p.val A c = .agg (p.cs A c).toArray from rfl)
  have HP := Lib.hid hp
  have HI := Lib.hid hin
  have HRG := Lib.hid hrg
  have hlt : w.heap.size < (w.alloc (.cells (p.cs A c).toArray 58)).heap.size := by simp
  have hb1 : Below w.heap.size w (w.alloc (.cells (p.cs A c).toArray 58)) := (Below.refl _ _).alloc (Nat.le_refl _) _
  have HL := Lib.hid hlt
  have HB := Lib.hid hb1
  clear hp hin hlt hb1 hrg
  unfold Pkt.plainO
  have hv : p.val A c = .agg #[.int .i64 p.k, .int .i64 p.pa, .int .i64 p.nu, .int .i64 p.ofn, .int .i64 p.fr, .slice A p.da.length c, .bool p.fin, .int .i64 p.se, .int .i64 p.li] := rfl
  have HV := Lib.hid hv
  cases hok : p.ok
  · simp only [hok, Bool.false_eq_true, if_false, List.length_nil] at hch ⊢
    have HC := Lib.hid hch
    clear hch hok
    rw [HV.out] at HC ⊢
    clear hv
    go_enter Try.func107, Try.ntmps107
    go_wp2_with fail
    refine (HC.out _ (HP.out.later (HB.out.mono (Nat.le_refl _)))).mono ?_
    rintro e w1 ⟨rfl, hb⟩
    go_wp2
    go_ret2
    exact ⟨none, 0, rfl, Own.nil _ _ _ _, HB.out.trans (hb.mono HB.out.size)⟩
  · simp only [hok, if_true] at hch ⊢
    have hk := Pkt.ok_kind hok
    have hlen := Pkt.fields_len p hok
    have hfi := fun W (h : PktAt W p A c) => fields_any p A c W h (by have := Pkt.ok_len hok; omega)
    unfold Pkt.plainL
    have hp1 := fun W => put_own p.pa W
    have hp2 := fun W => put_own p.nu W
    obtain ⟨l1, hl1⟩ : ∃ l, putL p.pa = l := ⟨_, rfl⟩
    have le1 : l1.length ≤ 8 := by rw [← hl1]; exact putL_len _
    obtain ⟨l2, hl2⟩ : ∃ l, putL p.nu = l := ⟨_, rfl⟩
    have le2 : l2.length ≤ 8 := by rw [← hl2]; exact putL_len _
    obtain ⟨l3, hl3⟩ : ∃ l, p.fieldsL = l := ⟨_, rfl⟩
    simp only [hl1] at hp1
    simp only [hl2] at hp2
    simp only [hl3] at hfi hlen
    simp only [hl1, hl2, hl3]
    have hw8 : IntKind.u8.wrap p.k = p.k := by rw [IntKind.wrap_u8]; omega
    have hln : (([p.k] ++ l1 ++ l2) ++ l3).length = 1 + l1.length + l2.length + l3.length := by simp; omega
    rw [hln]
    have HC := Lib.hid hch
    have HF := Lib.hid hfi
    have HP1 := Lib.hid hp1
    have HP2 := Lib.hid hp2
    clear hch hfi hp1 hp2 hl1 hl2 hl3 hln hk hok
    rw [HV.out] at HC HF ⊢
    clear hv
    go_enter Try.func107, Try.ntmps107
    go_wp2_with fail
    refine (HC.out _ (HP.out.later (HB.out.mono (Nat.le_refl _)))).mono ?_
    rintro e W ⟨rfl, hb⟩
    have HI2 := Lib.hid (HI.out.below hb HL.out)
    have HR2 := Lib.hid (rangeAt_later HRG.out hb HL.out)
    have HB2 := Lib.hid (HB.out.trans (hb.mono HB.out.size))
    have RD := Lib.hid (HP.out.later (HB2.out.mono (Nat.le_refl _)))
    have HL2 := Lib.hid (Nat.lt_of_lt_of_le HL.out hb.size)
    clear hb HI HB HRG HL HC
    go_wp2_with fail
    obtain ⟨b, hb9⟩ : ∃ b, w.heap.size = b := ⟨_, rfl⟩
    have HBB := Lib.hid hb9
    rw [hb9] at HI2 HR2 HL2 ⊢
    clear hb9
    refine wp_region_held_drew (S := fun wi => Below W.heap.size W wi) (by kernel_rfl) (Below.refl _ _).drew (fun hHeld => ?_)
    have RD9 := Lib.hid (RD.out.drew)
    clear RD
    have RD := RD9
    clear RD9
    obtain ⟨v0, hv9⟩ : ∃ v, W.drew = v := ⟨_, rfl⟩
    rw [hv9] at hHeld RD ⊢
    clear hv9
    refine wpAnyH_take (i := 0) (v := ?_) rfl (by kernel_rfl) (by kernel_rfl) (by kernel_rfl) (fun _ _ _ h => h) (Or.inl ⟨by rfl, ?_⟩) (by assumption) ?_
    rotate_left
    · intro w hSw
      (try dsimp only at hSw)
      go_simp
      try (with_reducible rfl)
    try simp only [Act.put, List.getElem_toArray, List.getElem_cons_zero, List.setIfInBounds_toArray, List.set_cons_zero, List.set_cons_succ]
    refine wpAnyH_take (i := 1) (v := ?_) rfl (by kernel_rfl) (by kernel_rfl) (by kernel_rfl) (fun _ _ _ h => h) (Or.inl ⟨by rfl, ?_⟩) (by assumption) ?_
    rotate_left
    · intro w hSw
      (try dsimp only at hSw)
      have c9 := (HI2.out.below hSw HL2.out).c0
      clear hSw
      go_simp
      try (with_reducible rfl)
    try simp only [Act.put, List.getElem_toArray, List.getElem_cons_zero, List.getElem_cons_succ, List.setIfInBounds_toArray, List.set_cons_zero, List.set_cons_succ]
    refine wpAnyH_take (i := 2) (v := ?_) rfl (by kernel_rfl) (by kernel_rfl) (by kernel_rfl) (fun _ _ _ h => h) (Or.inl ⟨by rfl, ?_⟩) (by assumption) ?_
    rotate_left
    · intro w hSw
      (try dsimp only at hSw)
      go_simp
      try (with_reducible rfl)
    try simp only [Act.put, List.getElem_toArray, List.getElem_cons_zero, List.getElem_cons_succ, List.setIfInBounds_toArray, List.set_cons_zero, List.set_cons_succ]
    refine wpAnyH_take (i := 4) (v := ?_) rfl (by kernel_rfl) (by kernel_rfl) (by kernel_rfl) (fun _ _ _ h => h) (Or.inl ⟨by rfl, ?_⟩) (by assumption) ?_
    rotate_left
    · intro w hSw
      (try dsimp only at hSw)
      go_simp
      try (with_reducible rfl)
    try simp only [Act.put, List.getElem_toArray, List.getElem_cons_zero, List.getElem_cons_succ, List.setIfInBounds_toArray, List.set_cons_zero, List.set_cons_succ]
    refine wpAnyH_take (i := 5) (v := ?_) rfl (by kernel_rfl) (by kernel_rfl) (by kernel_rfl) (fun _ _ _ h => h) (Or.inl ⟨by rfl, ?_⟩) (by assumption) ?_
    rotate_left
    · intro w hSw
      (try dsimp only at hSw)
      have c9 := (HI2.out.below hSw HL2.out).c1
      clear hSw
      go_simp
      try (with_reducible rfl)
    try simp only [Act.put, List.getElem_toArray, List.getElem_cons_zero, List.getElem_cons_succ, List.setIfInBounds_toArray, List.set_cons_zero, List.set_cons_succ]
    refine wpAnyH_take (i := 7) (v := ?_) rfl (by kernel_rfl) (by kernel_rfl) (by kernel_rfl) (fun _ _ _ h => h) (Or.inl ⟨by rfl, ?_⟩) (by assumption) ?_
    rotate_left
    · intro w hSw
      (try dsimp only at hSw)
      go_simp
      try (with_reducible rfl)
    try simp only [Act.put, List.getElem_toArray, List.getElem_cons_zero, List.getElem_cons_succ, List.setIfInBounds_toArray, List.set_cons_zero, List.set_cons_succ]
    refine wpAnyH_take (i := 8) (v := ?_) rfl (by kernel_rfl) (by kernel_rfl) (by kernel_rfl) (fun _ _ _ h => h) (Or.inl ⟨by rfl, ?_⟩) (by assumption) ?_
    rotate_left
    · intro w hSw
      (try dsimp only at hSw)
      have c9 := (HI2.out.below hSw HL2.out).c2
      clear hSw
      go_simp
      try (with_reducible rfl)
    try simp only [Act.put, List.getElem_toArray, List.getElem_cons_zero, List.getElem_cons_succ, List.setIfInBounds_toArray, List.set_cons_zero, List.set_cons_succ]
    refine wpAnyH_ready (rs := [3, 6]) (by kernel_rfl) (by simp) ?_
    refine AllReadyH.cons rfl (fun K hK => ?_) (AllReadyH.cons rfl (fun K hK => ?_) AllReadyH.nil)
    · go_simp
      have RL := Lib.hid (Rd.one v0 p.k 5)
      have HX := Lib.hid ((Below.refl v0.heap.size v0).alloc (Nat.le_refl _) (.cells #[.int .u8 p.k] 5))
      obtain ⟨q1, hq9⟩ : ∃ q, v0.heap.size = q := ⟨_, rfl⟩
      obtain ⟨v1, hw9⟩ : ∃ V, v0.alloc (.cells #[.int .u8 p.k] 5) = V := ⟨_, rfl⟩
      rw [hw9] at RL HX ⊢
      rw [hq9] at RL ⊢
      clear hw9 hq9
      have RD9 := Lib.hid (RD.out.later HX.out)
      clear RD
      have RD := RD9
      clear RD9
      have hb2 : Below W.heap.size W v1 := Below.trans hHeld (HX.out.mono hHeld.size)
      refine hK.out _ _ hb2 (fun hHeld2 => ?_)
      clear hK K hHeld hb2 HX
      have hHeld := hHeld2
      clear hHeld2
      try simp only [Act.put, List.getElem_toArray, List.getElem_cons_zero, List.getElem_cons_succ, List.setIfInBounds_toArray, List.set_cons_zero, List.set_cons_succ]
      refine wpAnyH_ready (rs := [6]) (by kernel_rfl) (by simp) ?_
      refine AllReadyH.cons rfl (fun K hK => ?_) AllReadyH.nil
      go_simp
      refine (HP1.out _).mono ?_
      rintro e v2 ⟨B1, d1, rfl, ho, hb⟩
      have HX := Lib.hid hb
      clear hb
      have R1 := Lib.hid ho.rd
      clear ho
      have RD9 := Lib.hid (RD.out.later HX.out)
      clear RD
      have RD := RD9
      clear RD9
      have RL9 := Lib.hid (RL.out.later HX.out)
      clear RL
      have RL := RL9
      clear RL9
      have hb2 : Below W.heap.size W v2 := Below.trans hHeld (HX.out.mono hHeld.size)
      try go_wp2_with fail
      refine hK.out _ _ hb2 (fun hHeld2 => ?_)
      clear hK K hHeld hb2 HX
      have hHeld := hHeld2
      clear hHeld2
      try simp only [Act.put, List.getElem_toArray, List.getElem_cons_zero, List.getElem_cons_succ, List.setIfInBounds_toArray, List.set_cons_zero, List.set_cons_succ]
      refine wpAnyH_ready (rs := [9]) (by kernel_rfl) (by simp) ?_
      refine AllReadyH.cons rfl (fun K hK => ?_) AllReadyH.nil
      go_simp
      refine (HP2.out _).mono ?_
      rintro e v3 ⟨B2, d2, rfl, ho, hb⟩
      have HX := Lib.hid hb
      clear hb
      have R2 := Lib.hid ho.rd
      clear ho
      have RD9 := Lib.hid (RD.out.later HX.out)
      clear RD
      have RD := RD9
      clear RD9
      have RL9 := Lib.hid (RL.out.later HX.out)
      clear RL
      have RL := RL9
      clear RL9
      have R19 := Lib.hid (R1.out.later HX.out)
      clear R1
      have R1 := R19
      clear R19
      have hb2 : Below W.heap.size W v3 := Below.trans hHeld (HX.out.mono hHeld.size)
      try go_wp2_with fail
      refine hK.out _ _ hb2 (fun hHeld2 => ?_)
      clear hK K hHeld hb2 HX
      have hHeld := hHeld2
      clear hHeld2
      try simp only [Act.put, List.getElem_toArray, List.getElem_cons_zero, List.getElem_cons_succ, List.setIfInBounds_toArray, List.set_cons_zero, List.set_cons_succ]
      refine wpAnyH_ready (rs := [10]) (by kernel_rfl) (by simp) ?_
      refine AllReadyH.cons rfl (fun K hK => ?_) AllReadyH.nil
      go_simp
      have T := Lib.hid (Three.new v3 (.slice (some ⟨q1, 0, none⟩) 1 1) (.slice B1 l1.length d1) (.slice B2 l2.length d2) 23)
      have HX := Lib.hid ((Below.refl v3.heap.size v3).alloc (Nat.le_refl _) (.cells #[.slice (some ⟨q1, 0, none⟩) 1 1, .slice B1 l1.length d1, .slice B2 l2.length d2] 23))
      obtain ⟨q4, hq9⟩ : ∃ q, v3.heap.size = q := ⟨_, rfl⟩
      obtain ⟨v4, hw9⟩ : ∃ V, v3.alloc (.cells #[.slice (some ⟨q1, 0, none⟩) 1 1, .slice B1 l1.length d1, .slice B2 l2.length d2] 23) = V := ⟨_, rfl⟩
      rw [hw9] at T HX ⊢
      rw [hq9] at T ⊢
      clear hw9 hq9
      have RD9 := Lib.hid (RD.out.later HX.out)
      clear RD
      have RD := RD9
      clear RD9
      have RL9 := Lib.hid (RL.out.later HX.out)
      clear RL
      have RL := RL9
      clear RL9
      have R19 := Lib.hid (R1.out.later HX.out)
      clear R1
      have R1 := R19
      clear R19
      have R29 := Lib.hid (R2.out.later HX.out)
      clear R2
      have R2 := R29
      clear R29
      have hb2 : Below W.heap.size W v4 := Below.trans hHeld (HX.out.mono hHeld.size)
      refine hK.out _ _ hb2 (fun hHeld2 => ?_)
      clear hK K hHeld hb2 HX
      have hHeld := hHeld2
      clear hHeld2
      try simp only [Act.put, List.getElem_toArray, List.getElem_cons_zero, List.getElem_cons_succ, List.setIfInBounds_toArray, List.set_cons_zero, List.set_cons_succ]
      refine wpAnyH_ready (rs := [11]) (by kernel_rfl) (by simp) ?_
      refine AllReadyH.cons rfl (fun K hK => ?_) AllReadyH.nil
      go_simp
      refine (concat3_any q4 (some ⟨q1, 0, none⟩) 1 1 [p.k] B1 l1.length d1 l1 B2 l2.length d2 l2 _ T.out.c0 T.out.c1 T.out.c2 rfl rfl rfl RL.out R1.out R2.out (by omega)).mono ?_
      rintro e v5 ⟨B3, d3, rfl, ho, hb⟩
      have HX := Lib.hid hb
      clear hb
      have RH := Lib.hid ho.rd
      clear ho
      have RD9 := Lib.hid (RD.out.later HX.out)
      clear RD
      have RD := RD9
      clear RD9
      have RL9 := Lib.hid (RL.out.later HX.out)
      clear RL
      have RL := RL9
      clear RL9
      have R19 := Lib.hid (R1.out.later HX.out)
      clear R1
      have R1 := R19
      clear R19
      have R29 := Lib.hid (R2.out.later HX.out)
      clear R2
      have R2 := R29
      clear R29
      have T9 := Lib.hid (T.out.later HX.out)
      clear T
      have T := T9
      clear T9
      have hb2 : Below W.heap.size W v5 := Below.trans hHeld (HX.out.mono hHeld.size)
      try go_wp2_with fail
      refine hK.out _ _ hb2 (fun hHeld2 => ?_)
      clear hK K hHeld hb2 HX
      have hHeld := hHeld2
      clear hHeld2
      try simp only [Act.put, List.getElem_toArray, List.getElem_cons_zero, List.getElem_cons_succ, List.setIfInBounds_toArray, List.set_cons_zero, List.set_cons_succ]
      refine wpAnyH_take (i := 12) (v := ?_) rfl (by kernel_rfl) (by kernel_rfl) (by kernel_rfl) (fun _ _ _ h => h) (Or.inl ⟨by rfl, ?_⟩) (by assumption) ?_
      rotate_left
      · intro w hSw
        (try dsimp only at hSw)
        go_simp
        try (with_reducible rfl)
      try simp only [Act.put, List.getElem_toArray, List.getElem_cons_zero, List.getElem_cons_succ, List.setIfInBounds_toArray, List.set_cons_zero, List.set_cons_succ]
      refine wpAnyH_done (by kernel_rfl) ?_ _
      have HF9 := Lib.hid hHeld
      clear hHeld RL R1 R2 T
      obtain ⟨c0, c1, c2, c3, c4, c5, c6, c7, c8⟩ := HI2.out.below HF9.out HL2.out
      go_wp2_with fail
      refine (HF.out _ RD.out).mono ?_
      rintro e u1 ⟨B4, d4, rfl, ho, hb⟩
      have OH := Lib.hid (RH.out.later hb)
      have OF := Lib.hid ho.rd
      have HF8 := Lib.hid (HB2.out.trans ((HF9.out.mono HB2.out.size).trans (hb.mono (Nat.le_trans HB2.out.size HF9.out.size))))
      clear ho hb c0 c1 c2 c3 c4 c5 c6 c7 c8 RD RH HF9
      go_wp2_with fail
      have TT := Two2.new u1 (.slice B3 (1 + l1.length + l2.length) d3) (.slice B4 l3.length d4) 23
      refine (concat2_any _ B3 (1 + l1.length + l2.length) d3 ([p.k] ++ l1 ++ l2) B4 l3.length d4 l3 _ TT.c0 TT.c1 (by simp; omega) rfl (OH.out.alloc _) (OF.out.alloc _) (by omega)).mono ?_
      rintro e u2 ⟨B5, d5, rfl, ho, hb⟩
      have HO9 := Lib.hid ho
      have HB9 := Lib.hid hb
      clear ho hb TT
      go_wp2_with fail
      go_ret2
      exact ⟨_, _, rfl, HO9.out.less (by have := HF8.out.size; simp; omega), HF8.out.trans ((((Below.refl _ _).alloc (Nat.le_refl _) _).trans (HB9.out.mono (by simp))).mono HF8.out.size)⟩
    · go_simp
      refine (HP1.out _).mono ?_
      rintro e v1 ⟨B1, d1, rfl, ho, hb⟩
      have HX := Lib.hid hb
      clear hb
      have R1 := Lib.hid ho.rd
      clear ho
      have RD9 := Lib.hid (RD.out.later HX.out)
      clear RD
      have RD := RD9
      clear RD9
      have hb2 : Below W.heap.size W v1 := Below.trans hHeld (HX.out.mono hHeld.size)
      try go_wp2_with fail
      refine hK.out _ _ hb2 (fun hHeld2 => ?_)
      clear hK K hHeld hb2 HX
      have hHeld := hHeld2
      clear hHeld2
      try simp only [Act.put, List.getElem_toArray, List.getElem_cons_zero, List.getElem_cons_succ, List.setIfInBounds_toArray, List.set_cons_zero, List.set_cons_succ]
      refine wpAnyH_ready (rs := [3, 9]) (by kernel_rfl) (by simp) ?_
      refine AllReadyH.cons rfl (fun K hK => ?_) (AllReadyH.cons rfl (fun K hK => ?_) AllReadyH.nil)
      · go_simp
        have RL := Lib.hid (Rd.one v1 p.k 5)
        have HX := Lib.hid ((Below.refl v1.heap.size v1).alloc (Nat.le_refl _) (.cells #[.int .u8 p.k] 5))
        obtain ⟨q2, hq9⟩ : ∃ q, v1.heap.size = q := ⟨_, rfl⟩
        obtain ⟨v2, hw9⟩ : ∃ V, v1.alloc (.cells #[.int .u8 p.k] 5) = V := ⟨_, rfl⟩
        rw [hw9] at RL HX ⊢
        rw [hq9] at RL ⊢
        clear hw9 hq9
        have RD9 := Lib.hid (RD.out.later HX.out)
        clear RD
        have RD := RD9
        clear RD9
        have R19 := Lib.hid (R1.out.later HX.out)
        clear R1
        have R1 := R19
        clear R19
        have hb2 : Below W.heap.size W v2 := Below.trans hHeld (HX.out.mono hHeld.size)
        refine hK.out _ _ hb2 (fun hHeld2 => ?_)
        clear hK K hHeld hb2 HX
        have hHeld := hHeld2
        clear hHeld2
        try simp only [Act.put, List.getElem_toArray, List.getElem_cons_zero, List.getElem_cons_succ, List.setIfInBounds_toArray, List.set_cons_zero, List.set_cons_succ]
        refine wpAnyH_ready (rs := [9]) (by kernel_rfl) (by simp) ?_
        refine AllReadyH.cons rfl (fun K hK => ?_) AllReadyH.nil
        go_simp
        refine (HP2.out _).mono ?_
        rintro e v3 ⟨B2, d2, rfl, ho, hb⟩
        have HX := Lib.hid hb
        clear hb
        have R2 := Lib.hid ho.rd
        clear ho
        have RD9 := Lib.hid (RD.out.later HX.out)
        clear RD
        have RD := RD9
        clear RD9
        have R19 := Lib.hid (R1.out.later HX.out)
        clear R1
        have R1 := R19
        clear R19
        have RL9 := Lib.hid (RL.out.later HX.out)
        clear RL
        have RL := RL9
        clear RL9
        have hb2 : Below W.heap.size W v3 := Below.trans hHeld (HX.out.mono hHeld.size)
        try go_wp2_with fail
        refine hK.out _ _ hb2 (fun hHeld2 => ?_)
        clear hK K hHeld hb2 HX
        have hHeld := hHeld2
        clear hHeld2
        try simp only [Act.put, List.getElem_toArray, List.getElem_cons_zero, List.getElem_cons_succ, List.setIfInBounds_toArray, List.set_cons_zero, List.set_cons_succ]
        refine wpAnyH_ready (rs := [10]) (by kernel_rfl) (by simp) ?_
        refine AllReadyH.cons rfl (fun K hK => ?_) AllReadyH.nil
        go_simp
        have T := Lib.hid (Three.new v3 (.slice (some ⟨q2, 0, none⟩) 1 1) (.slice B1 l1.length d1) (.slice B2 l2.length d2) 23)
        have HX := Lib.hid ((Below.refl v3.heap.size v3).alloc (Nat.le_refl _) (.cells #[.slice (some ⟨q2, 0, none⟩) 1 1, .slice B1 l1.length d1, .slice B2 l2.length d2] 23))
        obtain ⟨q4, hq9⟩ : ∃ q, v3.heap.size = q := ⟨_, rfl⟩
        obtain ⟨v4, hw9⟩ : ∃ V, v3.alloc (.cells #[.slice (some ⟨q2, 0, none⟩) 1 1, .slice B1 l1.length d1, .slice B2 l2.length d2] 23) = V := ⟨_, rfl⟩
        rw [hw9] at T HX ⊢
        rw [hq9] at T ⊢
        clear hw9 hq9
        have RD9 := Lib.hid (RD.out.later HX.out)
        clear RD
        have RD := RD9
        clear RD9
        have R19 := Lib.hid (R1.out.later HX.out)
        clear R1
        have R1 := R19
        clear R19
        have RL9 := Lib.hid (RL.out.later HX.out)
        clear RL
        have RL := RL9
        clear RL9
        have R29 := Lib.hid (R2.out.later HX.out)
        clear R2
        have R2 := R29
        clear R29
        have hb2 : Below W.heap.size W v4 := Below.trans hHeld (HX.out.mono hHeld.size)
        refine hK.out _ _ hb2 (fun hHeld2 => ?_)
        clear hK K hHeld hb2 HX
        have hHeld := hHeld2
        clear hHeld2
        try simp only [Act.put, List.getElem_toArray, List.getElem_cons_zero, List.getElem_cons_succ, List.setIfInBounds_toArray, List.set_cons_zero, List.set_cons_succ]
        refine wpAnyH_ready (rs := [11]) (by kernel_rfl) (by simp) ?_
        refine AllReadyH.cons rfl (fun K hK => ?_) AllReadyH.nil
        go_simp
        refine (concat3_any q4 (some ⟨q2, 0, none⟩) 1 1 [p.k] B1 l1.length d1 l1 B2 l2.length d2 l2 _ T.out.c0 T.out.c1 T.out.c2 rfl rfl rfl RL.out R1.out R2.out (by omega)).mono ?_
        rintro e v5 ⟨B3, d3, rfl, ho, hb⟩
        have HX := Lib.hid hb
        clear hb
        have RH := Lib.hid ho.rd
        clear ho
        have RD9 := Lib.hid (RD.out.later HX.out)
        clear RD
        have RD := RD9
        clear RD9
        have R19 := Lib.hid (R1.out.later HX.out)
        clear R1
        have R1 := R19
        clear R19
        have RL9 := Lib.hid (RL.out.later HX.out)
        clear RL
        have RL := RL9
        clear RL9
        have R29 := Lib.hid (R2.out.later HX.out)
        clear R2
        have R2 := R29
        clear R29
        have T9 := Lib.hid (T.out.later HX.out)
        clear T
        have T := T9
        clear T9
        have hb2 : Below W.heap.size W v5 := Below.trans hHeld (HX.out.mono hHeld.size)
        try go_wp2_with fail
        refine hK.out _ _ hb2 (fun hHeld2 => ?_)
        clear hK K hHeld hb2 HX
        have hHeld := hHeld2
        clear hHeld2
        try simp only [Act.put, List.getElem_toArray, List.getElem_cons_zero, List.getElem_cons_succ, List.setIfInBounds_toArray, List.set_cons_zero, List.set_cons_succ]
        refine wpAnyH_take (i := 12) (v := ?_) rfl (by kernel_rfl) (by kernel_rfl) (by kernel_rfl) (fun _ _ _ h => h) (Or.inl ⟨by rfl, ?_⟩) (by assumption) ?_
        rotate_left
        · intro w hSw
          (try dsimp only at hSw)
          go_simp
          try (with_reducible rfl)
        try simp only [Act.put, List.getElem_toArray, List.getElem_cons_zero, List.getElem_cons_succ, List.setIfInBounds_toArray, List.set_cons_zero, List.set_cons_succ]
        refine wpAnyH_done (by kernel_rfl) ?_ _
        have HF9 := Lib.hid hHeld
        clear hHeld RL R1 R2 T
        obtain ⟨c0, c1, c2, c3, c4, c5, c6, c7, c8⟩ := HI2.out.below HF9.out HL2.out
        go_wp2_with fail
        refine (HF.out _ RD.out).mono ?_
        rintro e u1 ⟨B4, d4, rfl, ho, hb⟩
        have OH := Lib.hid (RH.out.later hb)
        have OF := Lib.hid ho.rd
        have HF8 := Lib.hid (HB2.out.trans ((HF9.out.mono HB2.out.size).trans (hb.mono (Nat.le_trans HB2.out.size HF9.out.size))))
        clear ho hb c0 c1 c2 c3 c4 c5 c6 c7 c8 RD RH HF9
        go_wp2_with fail
        have TT := Two2.new u1 (.slice B3 (1 + l1.length + l2.length) d3) (.slice B4 l3.length d4) 23
        refine (concat2_any _ B3 (1 + l1.length + l2.length) d3 ([p.k] ++ l1 ++ l2) B4 l3.length d4 l3 _ TT.c0 TT.c1 (by simp; omega) rfl (OH.out.alloc _) (OF.out.alloc _) (by omega)).mono ?_
        rintro e u2 ⟨B5, d5, rfl, ho, hb⟩
        have HO9 := Lib.hid ho
        have HB9 := Lib.hid hb
        clear ho hb TT
        go_wp2_with fail
        go_ret2
        exact ⟨_, _, rfl, HO9.out.less (by have := HF8.out.size; simp; omega), HF8.out.trans ((((Below.refl _ _).alloc (Nat.le_refl _) _).trans (HB9.out.mono (by simp))).mono HF8.out.size)⟩
      · go_simp
        refine (HP2.out _).mono ?_
        rintro e v2 ⟨B2, d2, rfl, ho, hb⟩
        have HX := Lib.hid hb
        clear hb
        have R2 := Lib.hid ho.rd
        clear ho
        have RD9 := Lib.hid (RD.out.later HX.out)
        clear RD
        have RD := RD9
        clear RD9
        have R19 := Lib.hid (R1.out.later HX.out)
        clear R1
        have R1 := R19
        clear R19
        have hb2 : Below W.heap.size W v2 := Below.trans hHeld (HX.out.mono hHeld.size)
        try go_wp2_with fail
        refine hK.out _ _ hb2 (fun hHeld2 => ?_)
        clear hK K hHeld hb2 HX
        have hHeld := hHeld2
        clear hHeld2
        try simp only [Act.put, List.getElem_toArray, List.getElem_cons_zero, List.getElem_cons_succ, List.setIfInBounds_toArray, List.set_cons_zero, List.set_cons_succ]
        refine wpAnyH_ready (rs := [3]) (by kernel_rfl) (by simp) ?_
        refine AllReadyH.cons rfl (fun K hK => ?_) AllReadyH.nil
        go_simp
        have RL := Lib.hid (Rd.one v2 p.k 5)
        have HX := Lib.hid ((Below.refl v2.heap.size v2).alloc (Nat.le_refl _) (.cells #[.int .u8 p.k] 5))
        obtain ⟨q3, hq9⟩ : ∃ q, v2.heap.size = q := ⟨_, rfl⟩
        obtain ⟨v3, hw9⟩ : ∃ V, v2.alloc (.cells #[.int .u8 p.k] 5) = V := ⟨_, rfl⟩
        rw [hw9] at RL HX ⊢
        rw [hq9] at RL ⊢
        clear hw9 hq9
        have RD9 := Lib.hid (RD.out.later HX.out)
        clear RD
        have RD := RD9
        clear RD9
        have R19 := Lib.hid (R1.out.later HX.out)
        clear R1
        have R1 := R19
        clear R19
        have R29 := Lib.hid (R2.out.later HX.out)
        clear R2
        have R2 := R29
        clear R29
        have hb2 : Below W.heap.size W v3 := Below.trans hHeld (HX.out.mono hHeld.size)
        refine hK.out _ _ hb2 (fun hHeld2 => ?_)
        clear hK K hHeld hb2 HX
        have hHeld := hHeld2
        clear hHeld2
        try simp only [Act.put, List.getElem_toArray, List.getElem_cons_zero, List.getElem_cons_succ, List.setIfInBounds_toArray, List.set_cons_zero, List.set_cons_succ]
        refine wpAnyH_ready (rs := [10]) (by kernel_rfl) (by simp) ?_
        refine AllReadyH.cons rfl (fun K hK => ?_) AllReadyH.nil
        go_simp
        have T := Lib.hid (Three.new v3 (.slice (some ⟨q3, 0, none⟩) 1 1) (.slice B1 l1.length d1) (.slice B2 l2.length d2) 23)
        have HX := Lib.hid ((Below.refl v3.heap.size v3).alloc (Nat.le_refl _) (.cells #[.slice (some ⟨q3, 0, none⟩) 1 1, .slice B1 l1.length d1, .slice B2 l2.length d2] 23))
        obtain ⟨q4, hq9⟩ : ∃ q, v3.heap.size = q := ⟨_, rfl⟩
        obtain ⟨v4, hw9⟩ : ∃ V, v3.alloc (.cells #[.slice (some ⟨q3, 0, none⟩) 1 1, .slice B1 l1.length d1, .slice B2 l2.length d2] 23) = V := ⟨_, rfl⟩
        rw [hw9] at T HX ⊢
        rw [hq9] at T ⊢
        clear hw9 hq9
        have RD9 := Lib.hid (RD.out.later HX.out)
        clear RD
        have RD := RD9
        clear RD9
        have R19 := Lib.hid (R1.out.later HX.out)
        clear R1
        have R1 := R19
        clear R19
        have R29 := Lib.hid (R2.out.later HX.out)
        clear R2
        have R2 := R29
        clear R29
        have RL9 := Lib.hid (RL.out.later HX.out)
        clear RL
        have RL := RL9
        clear RL9
        have hb2 : Below W.heap.size W v4 := Below.trans hHeld (HX.out.mono hHeld.size)
        refine hK.out _ _ hb2 (fun hHeld2 => ?_)
        clear hK K hHeld hb2 HX
        have hHeld := hHeld2
        clear hHeld2
        try simp only [Act.put, List.getElem_toArray, List.getElem_cons_zero, List.getElem_cons_succ, List.setIfInBounds_toArray, List.set_cons_zero, List.set_cons_succ]
        refine wpAnyH_ready (rs := [11]) (by kernel_rfl) (by simp) ?_
        refine AllReadyH.cons rfl (fun K hK => ?_) AllReadyH.nil
        go_simp
        refine (concat3_any q4 (some ⟨q3, 0, none⟩) 1 1 [p.k] B1 l1.length d1 l1 B2 l2.length d2 l2 _ T.out.c0 T.out.c1 T.out.c2 rfl rfl rfl RL.out R1.out R2.out (by omega)).mono ?_
        rintro e v5 ⟨B3, d3, rfl, ho, hb⟩
        have HX := Lib.hid hb
        clear hb
        have RH := Lib.hid ho.rd
        clear ho
        have RD9 := Lib.hid (RD.out.later HX.out)
        clear RD
        have RD := RD9
        clear RD9
        have R19 := Lib.hid (R1.out.later HX.out)
        clear R1
        have R1 := R19
        clear R19
        have R29 := Lib.hid (R2.out.later HX.out)
        clear R2
        have R2 := R29
        clear R29
        have RL9 := Lib.hid (RL.out.later HX.out)
        clear RL
        have RL := RL9
        clear RL9
        have T9 := Lib.hid (T.out.later HX.out)
        clear T
        have T := T9
        clear T9
        have hb2 : Below W.heap.size W v5 := Below.trans hHeld (HX.out.mono hHeld.size)
        try go_wp2_with fail
        refine hK.out _ _ hb2 (fun hHeld2 => ?_)
        clear hK K hHeld hb2 HX
        have hHeld := hHeld2
        clear hHeld2
        try simp only [Act.put, List.getElem_toArray, List.getElem_cons_zero, List.getElem_cons_succ, List.setIfInBounds_toArray, List.set_cons_zero, List.set_cons_succ]
        refine wpAnyH_take (i := 12) (v := ?_) rfl (by kernel_rfl) (by kernel_rfl) (by kernel_rfl) (fun _ _ _ h => h) (Or.inl ⟨by rfl, ?_⟩) (by assumption) ?_
        rotate_left
        · intro w hSw
          (try dsimp only at hSw)
          go_simp
          try (with_reducible rfl)
        try simp only [Act.put, List.getElem_toArray, List.getElem_cons_zero, List.getElem_cons_succ, List.setIfInBounds_toArray, List.set_cons_zero, List.set_cons_succ]
        refine wpAnyH_done (by kernel_rfl) ?_ _
        have HF9 := Lib.hid hHeld
        clear hHeld RL R1 R2 T
        obtain ⟨c0, c1, c2, c3, c4, c5, c6, c7, c8⟩ := HI2.out.below HF9.out HL2.out
        go_wp2_with fail
        refine (HF.out _ RD.out).mono ?_
        rintro e u1 ⟨B4, d4, rfl, ho, hb⟩
        have OH := Lib.hid (RH.out.later hb)
        have OF := Lib.hid ho.rd
        have HF8 := Lib.hid (HB2.out.trans ((HF9.out.mono HB2.out.size).trans (hb.mono (Nat.le_trans HB2.out.size HF9.out.size))))
        clear ho hb c0 c1 c2 c3 c4 c5 c6 c7 c8 RD RH HF9
        go_wp2_with fail
        have TT := Two2.new u1 (.slice B3 (1 + l1.length + l2.length) d3) (.slice B4 l3.length d4) 23
        refine (concat2_any _ B3 (1 + l1.length + l2.length) d3 ([p.k] ++ l1 ++ l2) B4 l3.length d4 l3 _ TT.c0 TT.c1 (by simp; omega) rfl (OH.out.alloc _) (OF.out.alloc _) (by omega)).mono ?_
        rintro e u2 ⟨B5, d5, rfl, ho, hb⟩
        have HO9 := Lib.hid ho
        have HB9 := Lib.hid hb
        clear ho hb TT
        go_wp2_with fail
        go_ret2
        exact ⟨_, _, rfl, HO9.out.less (by have := HF8.out.size; simp; omega), HF8.out.trans ((((Below.refl _ _).alloc (Nat.le_refl _) _).trans (HB9.out.mono (by simp))).mono HF8.out.size)⟩
end Go.Proofs.Ytbjneoeiognahaa

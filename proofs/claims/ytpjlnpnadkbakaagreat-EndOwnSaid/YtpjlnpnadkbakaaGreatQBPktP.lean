/-
  PktP · PktCheckM.
-/
import Derived.Test.YtpjlnpnadkbakaaGreatQBCountMath
import Derived.Test.YtpjlnpnadkbakaaGreatQBPrEn10
import Derived.Deep.RegionHeld3
import Derived.Test.YtpjlnpnadkbakaaGreatQBMem
namespace Go.Proofs.YtpjlnpnadkbakaaGreat
set_option maxRecDepth 10000
open Go.RowKit
theorem withinP_any (n g : Int) (w : World) : Calls Tryz.prog 261 #[.int .i64 n, .int .i64 g] w fun e w' => e = .returned (.bool (inB n g)) ∧ w = w' := by
  unfold inB
  by_cases h : 0 ≤ n
  · have d1 : decide (n ≥ 0) = true := by simp; omega
    go_enter Tryz.func261, Tryz.ntmps261
    go_wp2
    go_ret
    exact ⟨ret_b (by simp; omega), rfl⟩
  · have d1 : decide (n ≥ 0) = false := by simp; omega
    go_enter Tryz.func261, Tryz.ntmps261
    go_wp2
    go_ret
    exact ⟨ret_b (by simp), rfl⟩
theorem known_any (p : Pkt) (A : Option Addr) (c : Nat) (w : World) : Calls Tryz.prog 226 #[p.val A c] w fun e w' => e = .returned (.bool p.known) ∧ Below w.heap.size w w' := by
  unfold Pkt.val Pkt.known
  have hb : ∀ o, Below w.heap.size w (w.alloc o) := fun o => (Below.refl _ _).alloc (Nat.le_refl _) _
  go_enter Tryz.func226, Tryz.ntmps226
  go_wp2_with fail
  · refine (withinP_any p.pa 2 _).mono ?_
    rintro e w' ⟨rfl, rfl⟩
    cases e1 : inB p.pa 2
    · go_wp2
      go_ret
      exact ⟨ret_b (by simp [*]), hb _⟩
    · go_wp2_with fail
      refine (withinP_any p.nu 65535 _).mono ?_
      rintro e w' ⟨rfl, rfl⟩
      go_wp2
      go_ret
      exact ⟨ret_b (by simp [*]), hb _⟩
  · go_ret
    exact ⟨ret_b (by simp; intros; omega), hb _⟩
  · go_ret
    exact ⟨ret_b (by simp; intros; omega), hb _⟩
theorem bounded_any (p : Pkt) (A : Option Addr) (c : Nat) (w : World) (hp : PktAt w p A c) : Calls Tryz.prog 229 #[p.val A c] w fun e w' => e = .returned (.bool p.bounded) ∧ Below w.heap.size w w' := by
  unfold Pkt.val Pkt.bounded
  have hl := hp.reach
  clear hp
  obtain ⟨n, hn⟩ : ∃ n, p.da.length = n := ⟨_, rfl⟩
  rw [hn] at hl ⊢
  clear hn
  have hb : ∀ o, Below w.heap.size w (w.alloc o) := fun o => (Below.refl _ _).alloc (Nat.le_refl _) _
  have hi : inB p.fr 4096 = true → 0 ≤ p.fr ∧ p.fr ≤ 4096 := by unfold inB; simp
  go_enter Tryz.func229, Tryz.ntmps229
  go_wp2_with fail
  refine (withinP_any p.ofn 65535 _).mono ?_
  rintro e w' ⟨rfl, rfl⟩
  cases h1 : inB p.ofn 65535
  · go_wp2
    go_ret
    exact ⟨ret_b (by simp [*]), hb _⟩
  · go_wp2_with fail
    refine (withinP_any p.fr 4096 _).mono ?_
    rintro e w' ⟨rfl, rfl⟩
    cases h2 : inB p.fr 4096
    · go_wp2
      go_ret
      exact ⟨ret_b (by simp [*]), hb _⟩
    · obtain ⟨f1, f2⟩ := hi h2
      clear hi
      by_cases e1 : n ≤ 64
      · have e1' : decide ((n : Int) ≤ 64) = true := by simp; omega
        go_wp2_with fail
        · refine (withinP_any p.se 4097 _).mono ?_
          rintro e w' ⟨rfl, rfl⟩
          cases h3 : inB p.se 4097
          · go_wp2
            go_ret
            exact ⟨ret_b (by simp [*]), hb _⟩
          · go_wp2_with fail
            refine (withinP_any p.li 4496 _).mono ?_
            rintro e w' ⟨rfl, rfl⟩
            go_wp2
            go_ret
            exact ⟨ret_b (by simp [*]), hb _⟩
        · go_ret
          exact ⟨ret_b (by simp; intros; omega), hb _⟩
      · have e1' : decide ((n : Int) ≤ 64) = false := by simp; omega
        go_wp2
        go_ret
        exact ⟨ret_b (by simp; intros; omega), hb _⟩
theorem bel3 (w : World) (a b c : Obj) : Below w.heap.size w (((w.alloc a).alloc b).alloc c) :=
  have h1 := (Below.refl w.heap.size w).alloc (Nat.le_refl _) a
  have h2 := h1.alloc h1.size b
  h2.alloc h2.size c
set_option maxHeartbeats 1000000 in
theorem bare_any (p : Pkt) (A : Option Addr) (c : Nat) (w : World) : Calls Tryz.prog 228 #[p.val A c] w fun e w' =>
    e = .returned (p.bare.val (if p.k = 3 then A else none) (if p.k = 3 then c else 0)) ∧ Below w.heap.size w w' := by
  obtain ⟨k, pa, nu, o, fr, da, fin, se, li⟩ := p
  unfold Pkt.val Pkt.bare
  simp only
  by_cases h2 : k = 2
  · subst h2
    simp only [if_pos, if_neg (show ¬ (2 : Int) = 3 by omega), List.length_nil]
    go_enter Tryz.func228, Tryz.ntmps228
    go_wp2
    refine bodyPost_ret (v := .agg #[.int .i64 2, .int .i64 pa, .int .i64 nu, .int .i64 o, .int .i64 0, .slice none 0 0, .bool false, .int .i64 0, .int .i64 0]) (by simp [results, Tryz.results228, go_sem]) rfl ⟨rfl, bel3 _ _ _ _⟩
  · by_cases h3 : k = 3
    · subst h3
      simp only [if_pos, if_neg (show ¬ (3 : Int) = 2 by omega)]
      go_enter Tryz.func228, Tryz.ntmps228
      go_wp2
      go_region
      go_wp2
      exact bodyPost_ret (v := .agg #[.int .i64 3, .int .i64 pa, .int .i64 nu, .int .i64 0, .int .i64 fr, .slice A da.length c, .bool fin, .int .i64 0, .int .i64 0]) (by simp [results, Tryz.results228, go_sem]) rfl ⟨rfl, (bel3 _ _ _ _).drew⟩
    · by_cases h4 : k = 4
      · subst h4
        simp only [if_pos, if_neg (show ¬ (4 : Int) = 2 by omega), if_neg (show ¬ (4 : Int) = 3 by omega), List.length_nil]
        go_enter Tryz.func228, Tryz.ntmps228
        go_wp2_with fail
        go_region
        go_wp2
        exact bodyPost_ret (v := .agg #[.int .i64 4, .int .i64 pa, .int .i64 nu, .int .i64 o, .int .i64 0, .slice none 0 0, .bool false, .int .i64 se, .int .i64 li]) (by simp [results, Tryz.results228, go_sem]) rfl ⟨rfl, (bel3 _ _ _ _).drew⟩
      · simp only [if_neg h2, if_neg h3, if_neg h4, List.length_nil]
        have b2 : (k == 2) = false := by simp [h2]
        have b3 : (k == 3) = false := by simp [h3]
        have b4 : (k == 4) = false := by simp [h4]
        go_enter Tryz.func228, Tryz.ntmps228
        go_wp2
        refine bodyPost_ret (v := .agg #[.int .i64 k, .int .i64 pa, .int .i64 nu, .int .i64 0, .int .i64 0, .slice none 0 0, .bool false, .int .i64 0, .int .i64 0]) (by simp [results, Tryz.results228, go_sem]) rfl ⟨rfl, bel3 _ _ _ _⟩
set_option maxHeartbeats 1000000 in
theorem sameP_any (p q : Pkt) (A B : Option Addr) (c d : Nat) (w : World) (hp : PktAt w p A c) (hq : PktAt w q B d) :
    Calls Tryz.prog 227 #[p.val A c, q.val B d] w fun e w' => e = .returned (.bool (p.same q)) ∧ Below w.heap.size w w' := by
  have hbel : ∀ a b, Below w.heap.size w ((w.alloc a).alloc b) := fun a b =>
    have h1 := (Below.refl w.heap.size w).alloc (Nat.le_refl _) a
    h1.alloc h1.size b
  have hE := fun W (hr1 : Rd .u8 W A p.da) (hr2 : Rd .u8 W B q.da) => bytesEqual_any (c := c) (d := d) p.da q.da rfl rfl hr1 hr2 hp.byt hq.byt
  have r1 := hp.rd
  have r2 := hq.rd
  clear hp hq
  obtain ⟨k, pa, nu, o, fr, da, fin, se, li⟩ := p
  obtain ⟨k', pa', nu', o', fr', da', fin', se', li'⟩ := q
  unfold Pkt.val Pkt.same
  simp only at hE r1 r2 ⊢
  obtain ⟨n, hn⟩ : ∃ n, da.length = n := ⟨_, rfl⟩
  obtain ⟨m, hm⟩ : ∃ m, da'.length = m := ⟨_, rfl⟩
  rw [hn, hm] at hE ⊢
  clear hn hm
  have HE := Lib.hid hE
  have R1 := Lib.hid r1
  have R2 := Lib.hid r2
  clear hE r1 r2
  go_enter Tryz.func227, Tryz.ntmps227
  go_wp2_with fail
  · refine (HE.out _ ((R1.out.alloc _).alloc _) ((R2.out.alloc _).alloc _)).mono ?_
    rintro e w' ⟨rfl, rfl⟩
    by_cases hd : da = da'
    · have hd' : decide (da = da') = true := decide_eq_true hd
      rw [hd']
      go_wp2_with fail
      · go_ret
        exact ⟨ret_b (by rw [Bool.eq_iff_iff]; simp [*]), hbel _ _⟩
      all_goals (go_ret; exact ⟨ret_b (by simp [*]), hbel _ _⟩)
    · have hd' : decide (da = da') = false := decide_eq_false hd
      rw [hd']
      go_wp2_with fail
      all_goals (go_ret; exact ⟨ret_b (by simp [*]), hbel _ _⟩)
  all_goals (go_ret; exact ⟨ret_b (by simp [*]), hbel _ _⟩)
end Go.Proofs.YtpjlnpnadkbakaaGreat
namespace Go.Proofs.YtpjlnpnadkbakaaGreat
set_option maxRecDepth 10000
open Go.RowKit
theorem PktAt.bare {w : World} {p : Pkt} {A : Option Addr} {c : Nat} (h : PktAt w p A c) : PktAt w p.bare (if p.k = 3 then A else none) (if p.k = 3 then c else 0) := by
  obtain ⟨k, pa, nu, o, fr, da, fin, se, li⟩ := p
  obtain ⟨rd, reach, cap, nil, byt, bk, bp, bn, bo, bf, bs, bl⟩ := h
  simp only at rd reach cap nil byt bk bp bn bo bf bs bl
  unfold Pkt.bare
  simp only
  by_cases h2 : k = 2
  · subst h2
    simp only [if_pos, if_neg (show ¬ (2 : Int) = 3 by omega)]
    exact ⟨.inl rfl, by simp, by simp, fun _ => rfl, by simp, bk, bp, bn, bo, by simp, by simp, by simp⟩
  · by_cases h3 : k = 3
    · subst h3
      simp only [if_pos, if_neg (show ¬ (3 : Int) = 2 by omega)]
      exact ⟨rd, reach, cap, nil, byt, bk, bp, bn, by simp, bf, by simp, by simp⟩
    · by_cases h4 : k = 4
      · subst h4
        simp only [if_pos, if_neg (show ¬ (4 : Int) = 2 by omega), if_neg (show ¬ (4 : Int) = 3 by omega)]
        exact ⟨.inl rfl, by simp, by simp, fun _ => rfl, by simp, bk, bp, bn, bo, by simp, bs, bl⟩
      · simp only [if_neg h2, if_neg h3, if_neg h4]
        exact ⟨.inl rfl, by simp, by simp, fun _ => rfl, by simp, bk, bp, bn, by simp, by simp, by simp, by simp⟩
set_option maxHeartbeats 1000000 in
theorem checkP_any (p : Pkt) (A : Option Addr) (c : Nat) (w : World) (hp : PktAt w p A c) :
    Calls Tryz.prog 146 #[p.val A c] w fun e w' => e = .returned (.int .i64 (if p.ok then 0 else 1)) ∧ Below w.heap.size w w' := by
  have hv : p.val A c = .agg (p.cs A c).toArray := rfl
  have HV := Lib.hid hv
  have HP := Lib.hid hp
  have hba := fun W => bare_any p A c W
  have hpb := fun (W : World) (h : PktAt W p A c) => h.bare
  obtain ⟨A2, hA2⟩ : ∃ A2, (if p.k = 3 then A else none) = A2 := ⟨_, rfl⟩
  obtain ⟨c2, hc2⟩ : ∃ c2, (if p.k = 3 then c else 0) = c2 := ⟨_, rfl⟩
  rw [hA2, hc2] at hpb
  simp only [hA2, hc2] at hba
  have HBA := Lib.hid hba
  have HPB := Lib.hid hpb
  obtain ⟨r, hr⟩ : ∃ r : Int, (if p.ok then 0 else 1) = r := ⟨_, rfl⟩
  rw [hr]
  have HO := Lib.hid (show (if p.known && p.same p.bare && p.bounded then 0 else 1) = r from hr)
  rw [hv]
  clear hv hp hba hpb hA2 hc2 hr
  go_enter Tryz.func146, Tryz.ntmps146
  go_wp2_with fail
  have hr := Pkt.range w p A c 32
  have hlt : w.heap.size < (w.alloc (.cells (p.cs A c).toArray 32)).heap.size := by simp
  have hb1 : Below w.heap.size w (w.alloc (.cells (p.cs A c).toArray 32)) := (Below.refl _ _).alloc (Nat.le_refl _) _
  obtain ⟨W, hW⟩ : ∃ W, w.alloc (.cells (p.cs A c).toArray 32) = W := ⟨_, rfl⟩
  rw [hW] at hr hlt hb1 ⊢
  clear hW
  have HR := Lib.hid hr
  have HL := Lib.hid hlt
  have HB := Lib.hid hb1
  clear hr hlt hb1
  refine wp_region_held_drew (S := fun wi => Below W.heap.size W wi) (by kernel_rfl) (Below.refl _ _).drew (fun hHeld => ?_)
  cases hk : p.known
  · refine wpAnyH_take (i := 0) (v := .agg (p.cs A c).toArray) rfl (by kernel_rfl) (by kernel_rfl) (by kernel_rfl) (fun _ _ _ h => h) (yieldsIf_load_mid (by rfl) 32 (.tmp 1) rfl _ _ rfl (p.cs A c) _ (fun w' h' => rangeAt_later HR.out h' HL.out) Tryz.underlying32 rfl (by kernel_rfl)) (by assumption) ?_
    try simp only [Act.put, List.getElem_toArray, List.getElem_cons_zero, List.setIfInBounds_toArray, List.set_cons_zero, List.set_cons_succ]
    refine wpAnyH_ready (rs := [1]) (by kernel_rfl) (by simp) ?_
    refine AllReadyH.cons rfl (fun K hK => ?_) AllReadyH.nil
    go_simp
    try rw [← HV.out]
    refine (known_any p A c _).mono ?_
    rw [hk]
    rintro e w1 ⟨rfl, hb⟩
    have hb2 : Below W.heap.size W w1 := Below.trans hHeld (hb.mono hHeld.size)
    clear hb
    try go_wp2_with fail
    refine hK.out _ _ hb2 (fun hHeld2 => ?_)
    clear hK K hHeld
    have hHeld := hHeld2
    clear hHeld2
    try simp only [Act.put, List.getElem_toArray, List.getElem_cons_zero, List.getElem_cons_succ, List.setIfInBounds_toArray, List.set_cons_zero, List.set_cons_succ]
    refine tkH 2 ?_
    refine tkH 3 ?_
    refine wpAnyH_take (i := 4) (v := undef) rfl (by kernel_rfl) (by kernel_rfl) (by kernel_rfl) (fun _ _ _ h => h) (Or.inr ⟨by rfl, rfl⟩) (by assumption) ?_
    try simp only [Act.put, List.getElem_toArray, List.getElem_cons_zero, List.getElem_cons_succ, List.setIfInBounds_toArray, List.set_cons_zero, List.set_cons_succ]
    refine wpAnyH_take (i := 5) (v := undef) rfl (by kernel_rfl) (by kernel_rfl) (by kernel_rfl) (fun _ _ _ h => h) (Or.inr ⟨by rfl, rfl⟩) (by assumption) ?_
    try simp only [Act.put, List.getElem_toArray, List.getElem_cons_zero, List.getElem_cons_succ, List.setIfInBounds_toArray, List.set_cons_zero, List.set_cons_succ]
    refine wpAnyH_take (i := 6) (v := undef) rfl (by kernel_rfl) (by kernel_rfl) (by kernel_rfl) (fun _ _ _ h => h) (Or.inr ⟨by rfl, rfl⟩) (by assumption) ?_
    try simp only [Act.put, List.getElem_toArray, List.getElem_cons_zero, List.getElem_cons_succ, List.setIfInBounds_toArray, List.set_cons_zero, List.set_cons_succ]
    refine wpAnyH_take (i := 7) (v := undef) rfl (by kernel_rfl) (by kernel_rfl) (by kernel_rfl) (fun _ _ _ h => h) (Or.inr ⟨by rfl, rfl⟩) (by assumption) ?_
    try simp only [Act.put, List.getElem_toArray, List.getElem_cons_zero, List.getElem_cons_succ, List.setIfInBounds_toArray, List.set_cons_zero, List.set_cons_succ]
    refine wpAnyH_take (i := 8) (v := undef) rfl (by kernel_rfl) (by kernel_rfl) (by kernel_rfl) (fun _ _ _ h => h) (Or.inr ⟨by rfl, rfl⟩) (by assumption) ?_
    try simp only [Act.put, List.getElem_toArray, List.getElem_cons_zero, List.getElem_cons_succ, List.setIfInBounds_toArray, List.set_cons_zero, List.set_cons_succ]
    refine tkH 9 ?_
    refine tkH 10 ?_
    refine wpAnyH_take (i := 11) (v := undef) rfl (by kernel_rfl) (by kernel_rfl) (by kernel_rfl) (fun _ _ _ h => h) (Or.inr ⟨by rfl, rfl⟩) (by assumption) ?_
    try simp only [Act.put, List.getElem_toArray, List.getElem_cons_zero, List.getElem_cons_succ, List.setIfInBounds_toArray, List.set_cons_zero, List.set_cons_succ]
    refine wpAnyH_take (i := 12) (v := undef) rfl (by kernel_rfl) (by kernel_rfl) (by kernel_rfl) (fun _ _ _ h => h) (Or.inr ⟨by rfl, rfl⟩) (by assumption) ?_
    try simp only [Act.put, List.getElem_toArray, List.getElem_cons_zero, List.getElem_cons_succ, List.setIfInBounds_toArray, List.set_cons_zero, List.set_cons_succ]
    refine wpAnyH_take (i := 13) (v := undef) rfl (by kernel_rfl) (by kernel_rfl) (by kernel_rfl) (fun _ _ _ h => h) (Or.inr ⟨by rfl, rfl⟩) (by assumption) ?_
    try simp only [Act.put, List.getElem_toArray, List.getElem_cons_zero, List.getElem_cons_succ, List.setIfInBounds_toArray, List.set_cons_zero, List.set_cons_succ]
    refine tkH 14 ?_
    refine wpAnyH_done (by kernel_rfl) ?_ _
    go_wp2_with fail
    go_ret
    exact ⟨ret_i (by rw [← HO.out]; simp [hk]), HB.out.trans (hHeld.mono HB.out.size)⟩
  · cases hs : p.same p.bare
    · refine wpAnyH_take (i := 0) (v := .agg (p.cs A c).toArray) rfl (by kernel_rfl) (by kernel_rfl) (by kernel_rfl) (fun _ _ _ h => h) (yieldsIf_load_mid (by rfl) 32 (.tmp 1) rfl _ _ rfl (p.cs A c) _ (fun w' h' => rangeAt_later HR.out h' HL.out) Tryz.underlying32 rfl (by kernel_rfl)) (by assumption) ?_
      try simp only [Act.put, List.getElem_toArray, List.getElem_cons_zero, List.setIfInBounds_toArray, List.set_cons_zero, List.set_cons_succ]
      refine wpAnyH_ready (rs := [1]) (by kernel_rfl) (by simp) ?_
      refine AllReadyH.cons rfl (fun K hK => ?_) AllReadyH.nil
      go_simp
      try rw [← HV.out]
      refine (known_any p A c _).mono ?_
      rw [hk]
      rintro e w1 ⟨rfl, hb⟩
      have hb2 : Below W.heap.size W w1 := Below.trans hHeld (hb.mono hHeld.size)
      clear hb
      try go_wp2_with fail
      refine hK.out _ _ hb2 (fun hHeld2 => ?_)
      clear hK K hHeld
      have hHeld := hHeld2
      clear hHeld2
      try simp only [Act.put, List.getElem_toArray, List.getElem_cons_zero, List.getElem_cons_succ, List.setIfInBounds_toArray, List.set_cons_zero, List.set_cons_succ]
      refine tkH 2 ?_
      refine tkH 3 ?_
      refine wpAnyH_take (i := 4) (v := .agg (p.cs A c).toArray) rfl (by kernel_rfl) (by kernel_rfl) (by kernel_rfl) (fun _ _ _ h => h) (yieldsIf_load_mid (by rfl) 32 (.tmp 1) rfl _ _ rfl (p.cs A c) _ (fun w' h' => rangeAt_later HR.out h' HL.out) Tryz.underlying32 rfl (by kernel_rfl)) (by assumption) ?_
      try simp only [Act.put, List.getElem_toArray, List.getElem_cons_zero, List.getElem_cons_succ, List.setIfInBounds_toArray, List.set_cons_zero, List.set_cons_succ]
      refine wpAnyH_take (i := 5) (v := .agg (p.cs A c).toArray) rfl (by kernel_rfl) (by kernel_rfl) (by kernel_rfl) (fun _ _ _ h => h) (yieldsIf_load_mid (by rfl) 32 (.tmp 1) rfl _ _ rfl (p.cs A c) _ (fun w' h' => rangeAt_later HR.out h' HL.out) Tryz.underlying32 rfl (by kernel_rfl)) (by assumption) ?_
      try simp only [Act.put, List.getElem_toArray, List.getElem_cons_zero, List.getElem_cons_succ, List.setIfInBounds_toArray, List.set_cons_zero, List.set_cons_succ]
      refine wpAnyH_ready (rs := [6]) (by kernel_rfl) (by simp) ?_
      refine AllReadyH.cons rfl (fun K hK => ?_) AllReadyH.nil
      go_simp
      try rw [← HV.out]
      refine (HBA.out _).mono ?_
      rintro e w2 ⟨rfl, hb⟩
      have hb2 : Below W.heap.size W w2 := Below.trans hHeld (hb.mono hHeld.size)
      clear hb
      try go_wp2_with fail
      refine hK.out _ _ hb2 (fun hHeld2 => ?_)
      clear hK K hHeld
      have hHeld := hHeld2
      clear hHeld2
      try simp only [Act.put, List.getElem_toArray, List.getElem_cons_zero, List.getElem_cons_succ, List.setIfInBounds_toArray, List.set_cons_zero, List.set_cons_succ]
      refine wpAnyH_ready (rs := [7]) (by kernel_rfl) (by simp) ?_
      refine AllReadyH.cons rfl (fun K hK => ?_) AllReadyH.nil
      go_simp
      try rw [← HV.out]
      have hp9 := PktAt.later (w' := w2) HP.out (HB.out.trans (hHeld.mono HB.out.size))
      refine (sameP_any p p.bare A A2 c c2 _ hp9 (HPB.out _ hp9)).mono ?_
      rw [hs]
      rintro e w3 ⟨rfl, hb⟩
      have hb2 : Below W.heap.size W w3 := Below.trans hHeld (hb.mono hHeld.size)
      clear hb hp9
      try go_wp2_with fail
      refine hK.out _ _ hb2 (fun hHeld2 => ?_)
      clear hK K hHeld
      have hHeld := hHeld2
      clear hHeld2
      try simp only [Act.put, List.getElem_toArray, List.getElem_cons_zero, List.getElem_cons_succ, List.setIfInBounds_toArray, List.set_cons_zero, List.set_cons_succ]
      refine tkH 8 ?_
      refine tkH 9 ?_
      refine tkH 10 ?_
      refine wpAnyH_take (i := 11) (v := undef) rfl (by kernel_rfl) (by kernel_rfl) (by kernel_rfl) (fun _ _ _ h => h) (Or.inr ⟨by rfl, rfl⟩) (by assumption) ?_
      try simp only [Act.put, List.getElem_toArray, List.getElem_cons_zero, List.getElem_cons_succ, List.setIfInBounds_toArray, List.set_cons_zero, List.set_cons_succ]
      refine wpAnyH_take (i := 12) (v := undef) rfl (by kernel_rfl) (by kernel_rfl) (by kernel_rfl) (fun _ _ _ h => h) (Or.inr ⟨by rfl, rfl⟩) (by assumption) ?_
      try simp only [Act.put, List.getElem_toArray, List.getElem_cons_zero, List.getElem_cons_succ, List.setIfInBounds_toArray, List.set_cons_zero, List.set_cons_succ]
      refine wpAnyH_take (i := 13) (v := undef) rfl (by kernel_rfl) (by kernel_rfl) (by kernel_rfl) (fun _ _ _ h => h) (Or.inr ⟨by rfl, rfl⟩) (by assumption) ?_
      try simp only [Act.put, List.getElem_toArray, List.getElem_cons_zero, List.getElem_cons_succ, List.setIfInBounds_toArray, List.set_cons_zero, List.set_cons_succ]
      refine tkH 14 ?_
      refine wpAnyH_done (by kernel_rfl) ?_ _
      go_wp2_with fail
      go_ret
      exact ⟨ret_i (by rw [← HO.out]; simp [hk, hs]), HB.out.trans (hHeld.mono HB.out.size)⟩
    · cases hd : p.bounded
      · refine wpAnyH_take (i := 0) (v := .agg (p.cs A c).toArray) rfl (by kernel_rfl) (by kernel_rfl) (by kernel_rfl) (fun _ _ _ h => h) (yieldsIf_load_mid (by rfl) 32 (.tmp 1) rfl _ _ rfl (p.cs A c) _ (fun w' h' => rangeAt_later HR.out h' HL.out) Tryz.underlying32 rfl (by kernel_rfl)) (by assumption) ?_
        try simp only [Act.put, List.getElem_toArray, List.getElem_cons_zero, List.setIfInBounds_toArray, List.set_cons_zero, List.set_cons_succ]
        refine wpAnyH_ready (rs := [1]) (by kernel_rfl) (by simp) ?_
        refine AllReadyH.cons rfl (fun K hK => ?_) AllReadyH.nil
        go_simp
        try rw [← HV.out]
        refine (known_any p A c _).mono ?_
        rw [hk]
        rintro e w1 ⟨rfl, hb⟩
        have hb2 : Below W.heap.size W w1 := Below.trans hHeld (hb.mono hHeld.size)
        clear hb
        try go_wp2_with fail
        refine hK.out _ _ hb2 (fun hHeld2 => ?_)
        clear hK K hHeld
        have hHeld := hHeld2
        clear hHeld2
        try simp only [Act.put, List.getElem_toArray, List.getElem_cons_zero, List.getElem_cons_succ, List.setIfInBounds_toArray, List.set_cons_zero, List.set_cons_succ]
        refine tkH 2 ?_
        refine tkH 3 ?_
        refine wpAnyH_take (i := 4) (v := .agg (p.cs A c).toArray) rfl (by kernel_rfl) (by kernel_rfl) (by kernel_rfl) (fun _ _ _ h => h) (yieldsIf_load_mid (by rfl) 32 (.tmp 1) rfl _ _ rfl (p.cs A c) _ (fun w' h' => rangeAt_later HR.out h' HL.out) Tryz.underlying32 rfl (by kernel_rfl)) (by assumption) ?_
        try simp only [Act.put, List.getElem_toArray, List.getElem_cons_zero, List.getElem_cons_succ, List.setIfInBounds_toArray, List.set_cons_zero, List.set_cons_succ]
        refine wpAnyH_take (i := 5) (v := .agg (p.cs A c).toArray) rfl (by kernel_rfl) (by kernel_rfl) (by kernel_rfl) (fun _ _ _ h => h) (yieldsIf_load_mid (by rfl) 32 (.tmp 1) rfl _ _ rfl (p.cs A c) _ (fun w' h' => rangeAt_later HR.out h' HL.out) Tryz.underlying32 rfl (by kernel_rfl)) (by assumption) ?_
        try simp only [Act.put, List.getElem_toArray, List.getElem_cons_zero, List.getElem_cons_succ, List.setIfInBounds_toArray, List.set_cons_zero, List.set_cons_succ]
        refine wpAnyH_ready (rs := [6]) (by kernel_rfl) (by simp) ?_
        refine AllReadyH.cons rfl (fun K hK => ?_) AllReadyH.nil
        go_simp
        try rw [← HV.out]
        refine (HBA.out _).mono ?_
        rintro e w2 ⟨rfl, hb⟩
        have hb2 : Below W.heap.size W w2 := Below.trans hHeld (hb.mono hHeld.size)
        clear hb
        try go_wp2_with fail
        refine hK.out _ _ hb2 (fun hHeld2 => ?_)
        clear hK K hHeld
        have hHeld := hHeld2
        clear hHeld2
        try simp only [Act.put, List.getElem_toArray, List.getElem_cons_zero, List.getElem_cons_succ, List.setIfInBounds_toArray, List.set_cons_zero, List.set_cons_succ]
        refine wpAnyH_ready (rs := [7]) (by kernel_rfl) (by simp) ?_
        refine AllReadyH.cons rfl (fun K hK => ?_) AllReadyH.nil
        go_simp
        try rw [← HV.out]
        have hp9 := PktAt.later (w' := w2) HP.out (HB.out.trans (hHeld.mono HB.out.size))
        refine (sameP_any p p.bare A A2 c c2 _ hp9 (HPB.out _ hp9)).mono ?_
        rw [hs]
        rintro e w3 ⟨rfl, hb⟩
        have hb2 : Below W.heap.size W w3 := Below.trans hHeld (hb.mono hHeld.size)
        clear hb hp9
        try go_wp2_with fail
        refine hK.out _ _ hb2 (fun hHeld2 => ?_)
        clear hK K hHeld
        have hHeld := hHeld2
        clear hHeld2
        try simp only [Act.put, List.getElem_toArray, List.getElem_cons_zero, List.getElem_cons_succ, List.setIfInBounds_toArray, List.set_cons_zero, List.set_cons_succ]
        refine tkH 8 ?_
        refine tkH 9 ?_
        refine tkH 10 ?_
        refine wpAnyH_take (i := 11) (v := .agg (p.cs A c).toArray) rfl (by kernel_rfl) (by kernel_rfl) (by kernel_rfl) (fun _ _ _ h => h) (yieldsIf_load_mid (by rfl) 32 (.tmp 1) rfl _ _ rfl (p.cs A c) _ (fun w' h' => rangeAt_later HR.out h' HL.out) Tryz.underlying32 rfl (by kernel_rfl)) (by assumption) ?_
        try simp only [Act.put, List.getElem_toArray, List.getElem_cons_zero, List.getElem_cons_succ, List.setIfInBounds_toArray, List.set_cons_zero, List.set_cons_succ]
        refine wpAnyH_ready (rs := [12]) (by kernel_rfl) (by simp) ?_
        refine AllReadyH.cons rfl (fun K hK => ?_) AllReadyH.nil
        go_simp
        try rw [← HV.out]
        have hp9 := PktAt.later (w' := w3) HP.out (HB.out.trans (hHeld.mono HB.out.size))
        refine (bounded_any p A c _ hp9).mono ?_
        rw [hd]
        rintro e w4 ⟨rfl, hb⟩
        have hb2 : Below W.heap.size W w4 := Below.trans hHeld (hb.mono hHeld.size)
        clear hb hp9
        try go_wp2_with fail
        refine hK.out _ _ hb2 (fun hHeld2 => ?_)
        clear hK K hHeld
        have hHeld := hHeld2
        clear hHeld2
        try simp only [Act.put, List.getElem_toArray, List.getElem_cons_zero, List.getElem_cons_succ, List.setIfInBounds_toArray, List.set_cons_zero, List.set_cons_succ]
        refine tkH 13 ?_
        refine tkH 14 ?_
        refine wpAnyH_done (by kernel_rfl) ?_ _
        go_wp2_with fail
        go_ret
        exact ⟨ret_i (by rw [← HO.out]; simp [hk, hs, hd]), HB.out.trans (hHeld.mono HB.out.size)⟩
      · refine wpAnyH_take (i := 0) (v := .agg (p.cs A c).toArray) rfl (by kernel_rfl) (by kernel_rfl) (by kernel_rfl) (fun _ _ _ h => h) (yieldsIf_load_mid (by rfl) 32 (.tmp 1) rfl _ _ rfl (p.cs A c) _ (fun w' h' => rangeAt_later HR.out h' HL.out) Tryz.underlying32 rfl (by kernel_rfl)) (by assumption) ?_
        try simp only [Act.put, List.getElem_toArray, List.getElem_cons_zero, List.setIfInBounds_toArray, List.set_cons_zero, List.set_cons_succ]
        refine wpAnyH_ready (rs := [1]) (by kernel_rfl) (by simp) ?_
        refine AllReadyH.cons rfl (fun K hK => ?_) AllReadyH.nil
        go_simp
        try rw [← HV.out]
        refine (known_any p A c _).mono ?_
        rw [hk]
        rintro e w1 ⟨rfl, hb⟩
        have hb2 : Below W.heap.size W w1 := Below.trans hHeld (hb.mono hHeld.size)
        clear hb
        try go_wp2_with fail
        refine hK.out _ _ hb2 (fun hHeld2 => ?_)
        clear hK K hHeld
        have hHeld := hHeld2
        clear hHeld2
        try simp only [Act.put, List.getElem_toArray, List.getElem_cons_zero, List.getElem_cons_succ, List.setIfInBounds_toArray, List.set_cons_zero, List.set_cons_succ]
        refine tkH 2 ?_
        refine tkH 3 ?_
        refine wpAnyH_take (i := 4) (v := .agg (p.cs A c).toArray) rfl (by kernel_rfl) (by kernel_rfl) (by kernel_rfl) (fun _ _ _ h => h) (yieldsIf_load_mid (by rfl) 32 (.tmp 1) rfl _ _ rfl (p.cs A c) _ (fun w' h' => rangeAt_later HR.out h' HL.out) Tryz.underlying32 rfl (by kernel_rfl)) (by assumption) ?_
        try simp only [Act.put, List.getElem_toArray, List.getElem_cons_zero, List.getElem_cons_succ, List.setIfInBounds_toArray, List.set_cons_zero, List.set_cons_succ]
        refine wpAnyH_take (i := 5) (v := .agg (p.cs A c).toArray) rfl (by kernel_rfl) (by kernel_rfl) (by kernel_rfl) (fun _ _ _ h => h) (yieldsIf_load_mid (by rfl) 32 (.tmp 1) rfl _ _ rfl (p.cs A c) _ (fun w' h' => rangeAt_later HR.out h' HL.out) Tryz.underlying32 rfl (by kernel_rfl)) (by assumption) ?_
        try simp only [Act.put, List.getElem_toArray, List.getElem_cons_zero, List.getElem_cons_succ, List.setIfInBounds_toArray, List.set_cons_zero, List.set_cons_succ]
        refine wpAnyH_ready (rs := [6]) (by kernel_rfl) (by simp) ?_
        refine AllReadyH.cons rfl (fun K hK => ?_) AllReadyH.nil
        go_simp
        try rw [← HV.out]
        refine (HBA.out _).mono ?_
        rintro e w2 ⟨rfl, hb⟩
        have hb2 : Below W.heap.size W w2 := Below.trans hHeld (hb.mono hHeld.size)
        clear hb
        try go_wp2_with fail
        refine hK.out _ _ hb2 (fun hHeld2 => ?_)
        clear hK K hHeld
        have hHeld := hHeld2
        clear hHeld2
        try simp only [Act.put, List.getElem_toArray, List.getElem_cons_zero, List.getElem_cons_succ, List.setIfInBounds_toArray, List.set_cons_zero, List.set_cons_succ]
        refine wpAnyH_ready (rs := [7]) (by kernel_rfl) (by simp) ?_
        refine AllReadyH.cons rfl (fun K hK => ?_) AllReadyH.nil
        go_simp
        try rw [← HV.out]
        have hp9 := PktAt.later (w' := w2) HP.out (HB.out.trans (hHeld.mono HB.out.size))
        refine (sameP_any p p.bare A A2 c c2 _ hp9 (HPB.out _ hp9)).mono ?_
        rw [hs]
        rintro e w3 ⟨rfl, hb⟩
        have hb2 : Below W.heap.size W w3 := Below.trans hHeld (hb.mono hHeld.size)
        clear hb hp9
        try go_wp2_with fail
        refine hK.out _ _ hb2 (fun hHeld2 => ?_)
        clear hK K hHeld
        have hHeld := hHeld2
        clear hHeld2
        try simp only [Act.put, List.getElem_toArray, List.getElem_cons_zero, List.getElem_cons_succ, List.setIfInBounds_toArray, List.set_cons_zero, List.set_cons_succ]
        refine tkH 8 ?_
        refine tkH 9 ?_
        refine tkH 10 ?_
        refine wpAnyH_take (i := 11) (v := .agg (p.cs A c).toArray) rfl (by kernel_rfl) (by kernel_rfl) (by kernel_rfl) (fun _ _ _ h => h) (yieldsIf_load_mid (by rfl) 32 (.tmp 1) rfl _ _ rfl (p.cs A c) _ (fun w' h' => rangeAt_later HR.out h' HL.out) Tryz.underlying32 rfl (by kernel_rfl)) (by assumption) ?_
        try simp only [Act.put, List.getElem_toArray, List.getElem_cons_zero, List.getElem_cons_succ, List.setIfInBounds_toArray, List.set_cons_zero, List.set_cons_succ]
        refine wpAnyH_ready (rs := [12]) (by kernel_rfl) (by simp) ?_
        refine AllReadyH.cons rfl (fun K hK => ?_) AllReadyH.nil
        go_simp
        try rw [← HV.out]
        have hp9 := PktAt.later (w' := w3) HP.out (HB.out.trans (hHeld.mono HB.out.size))
        refine (bounded_any p A c _ hp9).mono ?_
        rw [hd]
        rintro e w4 ⟨rfl, hb⟩
        have hb2 : Below W.heap.size W w4 := Below.trans hHeld (hb.mono hHeld.size)
        clear hb hp9
        try go_wp2_with fail
        refine hK.out _ _ hb2 (fun hHeld2 => ?_)
        clear hK K hHeld
        have hHeld := hHeld2
        clear hHeld2
        try simp only [Act.put, List.getElem_toArray, List.getElem_cons_zero, List.getElem_cons_succ, List.setIfInBounds_toArray, List.set_cons_zero, List.set_cons_succ]
        refine tkH 13 ?_
        refine tkH 14 ?_
        refine wpAnyH_done (by kernel_rfl) ?_ _
        go_wp2_with fail
        go_ret
        exact ⟨ret_i (by rw [← HO.out]; simp [hk, hs, hd]), HB.out.trans (hHeld.mono HB.out.size)⟩
end Go.Proofs.YtpjlnpnadkbakaaGreat

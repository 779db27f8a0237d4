/-
  What the document's Plain makes of a packet: a contract over the program.
-/
import Derived.Test.YtbjneoeiognahaaPktPlain
import Derived.Test.YtbjneoeiognahaaRefPut
import Derived.Test.YtbjneoeiognahaaRefSpan
import Derived.Test.YtbjneoeiognahaaRefRight
import Derived.Deep.DeepCutAuto
namespace Go.Proofs.Ytbjneoeiognahaa
open Go.RowKit

set_option maxRecDepth 10000 in
/-- A small block that the row is longer than is not the row's: it stays behind an append. -/
theorem small_kept {w w' : World} {B n c b : Nat} {A : Option Addr} {xs : List Int} {C : Array Value} {t : TypeId} {fr : Nat × Nat} (ho : Own .u8 5 w B (.slice A n c) xs) (hl : C.size < xs.length) (hg : w.grownBy w' (Value.slice A n c).ownBlock)
    (h : w.heap[b]? = some (.cells C t fr)) : w'.heap[b]? = some (.cells C t fr) := by
  have hn : 0 < n := by
    obtain ⟨A', c', hv⟩ := ho.form
    injection hv with _ h2 _
    omega
  obtain ⟨g, rfl, _, _, hxn, hcell, _⟩ := ho.block hn
  have hne : b ≠ g := by
    intro e
    subst e
    have h9 := hcell C.size (by omega)
    rw [World.cell?, h] at h9
    simp at h9
  rw [← h]
  refine hg.block b ?_ (by simp [Value.ownBlock]; exact hne)
  rcases Nat.lt_or_ge b w.heap.size with h9 | h9
  · exact h9
  · rw [Array.getElem?_eq_none h9] at h; cases h
set_option maxRecDepth 10000 in
theorem rd_block {w : World} {b : Nat} {xs : List Int} {t : TypeId} {fr : Nat × Nat} (h : w.heap[b]? = some (.cells (bts xs) t fr)) : Rd .u8 w (some ⟨b, 0, none⟩) xs := by
  refine .inr ⟨b, 0, rfl, fun i hi => ?_⟩
  have h2 := World.rangeAt_of_block h 0 xs.length
  have h3 := h2 i (.int .u8 (xs.getD i 0)) (by
    simp [bts, List.getD, hi, List.take_of_length_le])
  simpa using h3
set_option maxRecDepth 10000 in
theorem block_later {w w' : World} {b : Nat} {o : Obj} (h : w.heap[b]? = some o) (hb : Below w.heap.size w w') : w'.heap[b]? = some o := by
  rw [← h]
  refine hb.block b ?_
  rcases Nat.lt_or_ge b w.heap.size with h9 | h9
  · exact h9
  · rw [Array.getElem?_eq_none h9] at h; cases h

set_option maxRecDepth 10000 in
theorem ok_pos {p : Pkt} (h : p.ok = true) : 0 < (putL p.pa).length ∧ 0 < (putL p.nu).length := by
  unfold Pkt.ok Pkt.known at h
  simp only [Bool.and_eq_true, decide_eq_true_eq, inB] at h
  obtain ⟨⟨⟨⟨_, h1⟩, h2⟩, _⟩, _⟩ := h
  exact ⟨putL_pos (by omega) (by omega), putL_pos (by omega) (by omega)⟩

set_option maxRecDepth 100000 in
set_option maxHeartbeats 4000000 in
theorem refPlain_any (p : Pkt) (A : Option Addr) (c : Nat) (w : World) (hp : PktAt w p A c) :
    Calls Try.prog 69 #[p.val A c] w fun e w' => ∃ A' c', e = .returned (.tuple #[.slice A' p.plainO.length c', .bool p.ok]) ∧
      Own .u8 5 w' w.heap.size (.slice A' p.plainO.length c') p.plainO ∧ Below w.heap.size w w' := by
  have hch := fun W => right_any p A c W hp.reach
  have hin := PktIn.new w p A c 58
  have hrg := Pkt.range w p A c 58
  have hv : p.val A c = .agg #[.int .i64 p.k, .int .i64 p.pa, .int .i64 p.nu, .int .i64 p.ofn, .int .i64 p.fr, .slice A p.da.length c, .bool p.fin, .int .i64 p.se, .int .i64 p.li] := rfl
  have HV := Lib.hid hv
  have hb1 : Below w.heap.size w (w.alloc (.cells (p.cs A c).toArray 58)) := (Below.refl _ _).alloc (Nat.le_refl _) _
  have HPW := Lib.hid (hp.later hb1)
  have HB1 := Lib.hid hb1
  have HI := Lib.hid hin
  have HL := Lib.hid (show w.heap.size < (w.alloc (.cells (p.cs A c).toArray 58)).heap.size by simp)
  clear hp hin hrg hb1
  unfold Pkt.plainO
  cases hok : p.ok
  · simp only [hok, Bool.false_eq_true, if_false, List.length_nil] at hch ⊢
    have HC := Lib.hid hch
    clear hch hok HI HL HPW
    rw [HV.out] at HC ⊢
    clear hv
    go_enter Try.func69, Try.ntmps69
    go_wp2_with fail
    refine (HC.out _).mono ?_
    rintro e w1 ⟨rfl, hb⟩
    have HB2 := Lib.hid (HB1.out.trans (hb.mono HB1.out.size))
    clear hb
    go_wp2
    go_ret2
    exact ⟨none, 0, rfl, Own.nil _ _ _ _, HB2.out⟩
  · simp only [hok, if_true] at hch ⊢
    have hk := Pkt.ok_kind hok
    have hlen := Pkt.fields_len p hok
    have hdl := Pkt.ok_len hok
    have hpp := ok_pos hok
    have hw8 : IntKind.u8.wrap p.k = p.k := by rw [IntKind.wrap_u8]; omega
    have HC := Lib.hid hch
    have HK := Lib.hid hk
    have HDL := Lib.hid hdl
    have HPP := Lib.hid hpp
    have HFL := Lib.hid hlen
    clear hch hok hk hdl hpp hlen
    rw [HV.out] at HC ⊢
    clear hv
    go_enter Try.func69, Try.ntmps69
    go_wp2_with fail
    refine (HC.out _).mono ?_
    rintro e W ⟨rfl, hb⟩
    obtain ⟨b, hb9⟩ : ∃ b, w.heap.size = b := ⟨_, rfl⟩
    rw [hb9] at HI HL ⊢
    have hW : w.alloc (.cells #[.int .i64 p.k, .int .i64 p.pa, .int .i64 p.nu, .int .i64 p.ofn, .int .i64 p.fr, .slice A p.da.length c, .bool p.fin, .int .i64 p.se, .int .i64 p.li] 58) = w.alloc (.cells (p.cs A c).toArray 58) := rfl
    rw [hW] at hb
    clear hW
    obtain ⟨W0, hW0⟩ : ∃ W0, w.alloc (.cells (p.cs A c).toArray 58) = W0 := ⟨_, rfl⟩
    rw [hW0] at hb HI HL HPW HB1
    have HBB := Lib.hid hb9
    have BW := Lib.hid hb
    clear hW0 hb9 hb HC
    obtain ⟨l1, hl1⟩ : ∃ l, putL p.pa = l := ⟨_, rfl⟩
    have le1 : l1.length ≤ 8 := by rw [← hl1]; exact putL_len _
    obtain ⟨l2, hl2⟩ : ∃ l, putL p.nu = l := ⟨_, rfl⟩
    have le2 : l2.length ≤ 8 := by rw [← hl2]; exact putL_len _
    have HL1 := Lib.hid hl1
    have HL2 := Lib.hid hl2
    have lp1 : 0 < l1.length := by rw [← hl1]; exact HPP.out.1
    clear hl1 hl2
    go_upto_region 3 with fail
    go_cut [4] (fun va wx => ∃ (R : Option Addr) (rc : Nat), va = .slice R (1 + l1.length + l2.length) rc ∧ Hid (Own .u8 5 wx W0.heap.size (.slice R (1 + l1.length + l2.length) rc) (([p.k] ++ l1) ++ l2)) ∧ Hid (Below W0.heap.size W0 wx))
    case first =>
      refine wp_region_held_drew (S := fun wi => Below W0.heap.size W0 wi) (by kernel_rfl) BW.out.drew (fun hHeld => ?_)
      obtain ⟨v0, hv9⟩ : ∃ v, W.drew = v := ⟨_, rfl⟩
      rw [hv9] at hHeld ⊢
      clear hv9 BW
      refine wpAnyH_take (i := 0) (v := ?_) rfl (by kernel_rfl) (by kernel_rfl) (by kernel_rfl) (fun _ _ _ h => h) (Or.inl ⟨by rfl, ?_⟩) (by assumption) ?_
      rotate_left
      · intro w hSw
        (try dsimp only at hSw)
        go_simp
        try (with_reducible rfl)
      try simp only [Act.put, List.getElem_toArray, List.getElem_cons_zero, List.setIfInBounds_toArray, List.set_cons_zero, List.set_cons_succ]
      refine wpAnyH_take (i := 1) (v := ?_) rfl (by kernel_rfl) (by kernel_rfl) (by kernel_rfl) (fun _ _ _ h => h) (Or.inl ⟨by rfl, ?_⟩) (by assumption) ?_
      rotate_left
      · intro w hSw
        (try dsimp only at hSw)
        have c9 := (HI.out.below hSw HL.out).c0
        clear hSw
        go_simp
        try (with_reducible rfl)
      try simp only [Act.put, List.getElem_toArray, List.getElem_cons_zero, List.getElem_cons_succ, List.setIfInBounds_toArray, List.set_cons_zero, List.set_cons_succ]
      refine wpAnyH_take (i := 2) (v := ?_) rfl (by kernel_rfl) (by kernel_rfl) (by kernel_rfl) (fun _ _ _ h => h) (Or.inl ⟨by rfl, ?_⟩) (by assumption) ?_
      rotate_left
      · intro w hSw
        (try dsimp only at hSw)
        go_simp
        try (with_reducible rfl)
      try simp only [Act.put, List.getElem_toArray, List.getElem_cons_zero, List.getElem_cons_succ, List.setIfInBounds_toArray, List.set_cons_zero, List.set_cons_succ]
      refine wpAnyH_take (i := 4) (v := ?_) rfl (by kernel_rfl) (by kernel_rfl) (by kernel_rfl) (fun _ _ _ h => h) (Or.inl ⟨by rfl, ?_⟩) (by assumption) ?_
      rotate_left
      · intro w hSw
        (try dsimp only at hSw)
        go_simp
        try (with_reducible rfl)
      try simp only [Act.put, List.getElem_toArray, List.getElem_cons_zero, List.getElem_cons_succ, List.setIfInBounds_toArray, List.set_cons_zero, List.set_cons_succ]
      refine wpAnyH_take (i := 5) (v := ?_) rfl (by kernel_rfl) (by kernel_rfl) (by kernel_rfl) (fun _ _ _ h => h) (Or.inl ⟨by rfl, ?_⟩) (by assumption) ?_
      rotate_left
      · intro w hSw
        (try dsimp only at hSw)
        have c9 := (HI.out.below hSw HL.out).c1
        clear hSw
        go_simp
        try (with_reducible rfl)
      try simp only [Act.put, List.getElem_toArray, List.getElem_cons_zero, List.getElem_cons_succ, List.setIfInBounds_toArray, List.set_cons_zero, List.set_cons_succ]
      refine wpAnyH_take (i := 8) (v := ?_) rfl (by kernel_rfl) (by kernel_rfl) (by kernel_rfl) (fun _ _ _ h => h) (Or.inl ⟨by rfl, ?_⟩) (by assumption) ?_
      rotate_left
      · intro w hSw
        (try dsimp only at hSw)
        go_simp
        try (with_reducible rfl)
      try simp only [Act.put, List.getElem_toArray, List.getElem_cons_zero, List.getElem_cons_succ, List.setIfInBounds_toArray, List.set_cons_zero, List.set_cons_succ]
      refine wpAnyH_take (i := 9) (v := ?_) rfl (by kernel_rfl) (by kernel_rfl) (by kernel_rfl) (fun _ _ _ h => h) (Or.inl ⟨by rfl, ?_⟩) (by assumption) ?_
      rotate_left
      · intro w hSw
        (try dsimp only at hSw)
        have c9 := (HI.out.below hSw HL.out).c2
        clear hSw
        go_simp
        try (with_reducible rfl)
      try simp only [Act.put, List.getElem_toArray, List.getElem_cons_zero, List.getElem_cons_succ, List.setIfInBounds_toArray, List.set_cons_zero, List.set_cons_succ]
      refine wpAnyH_ready (rs := [3, 6]) (by kernel_rfl) (by simp) ?_
      refine AllReadyH.cons rfl (fun K hK => ?_) (AllReadyH.cons rfl (fun K hK => ?_) AllReadyH.nil)
      · go_simp
        have RO := Lib.hid ((Own.new v0 [p.k] 5 (by simp [maxLen])).less hHeld.size)
        have HX := Lib.hid ((Below.refl v0.heap.size v0).alloc (Nat.le_refl _) (.cells (bts [p.k]) 5))
        obtain ⟨v1, hw9⟩ : ∃ V, v0.alloc (.cells (bts [p.k]) 5) = V := ⟨_, rfl⟩
        have hw8' : v0.alloc (.cells #[.int .u8 p.k] 5) = v1 := hw9
        rw [hw9] at RO HX
        rw [hw8']
        clear hw9 hw8'
        obtain ⟨q1, hq9⟩ : ∃ q, v0.heap.size = q := ⟨_, rfl⟩
        rw [hq9] at RO ⊢
        clear hq9
        have hb2 := Below.trans hHeld (HX.out.mono hHeld.size)
        clear HX
        refine hK.out _ _ (hb2) (fun hHeld2 => ?_)
        clear hK K hHeld
        have hHeld := hHeld2
        clear hHeld2
        try simp only [Act.put, List.getElem_toArray, List.getElem_cons_zero, List.getElem_cons_succ, List.setIfInBounds_toArray, List.set_cons_zero, List.set_cons_succ]
        refine wpAnyH_ready (rs := [6]) (by kernel_rfl) (by simp) ?_
        refine AllReadyH.cons rfl (fun K hK => ?_) AllReadyH.nil
        go_simp
        refine (refPut_own p.pa _).mono ?_
        rintro e v2 ⟨eB, ed, rfl, ho, hb⟩
        have HX := Lib.hid hb
        have PR := Lib.hid ho
        clear hb ho
        have RO9 := Lib.hid (RO.out.later HX.out)
        clear RO
        have RO := RO9
        clear RO9
        try go_wp2_with fail
        have hb2 := Below.trans hHeld (HX.out.mono hHeld.size)
        clear HX
        refine hK.out _ _ (hb2) (fun hHeld2 => ?_)
        clear hK K hHeld
        have hHeld := hHeld2
        clear hHeld2
        try simp only [Act.put, List.getElem_toArray, List.getElem_cons_zero, List.getElem_cons_succ, List.setIfInBounds_toArray, List.set_cons_zero, List.set_cons_succ]
        rw [HL1.out] at PR ⊢
        refine wpAnyH_ready (rs := [7]) (by kernel_rfl) (by simp) ?_
        refine AllReadyH.cons rfl (fun K hK => ?_) AllReadyH.nil
        refine step_app _ .u8 (by kernel_rfl) (.tmp 12) (.tmp 15) 23 rfl 5 (.int .u8 0) 1 Try.underlying23 info_byte rfl W0.heap.size (.slice _ (1) _) [p.k] (1) rfl rfl RO.out _ _ _ rfl l1 rfl PR.out.rd (by unfold maxLen; omega) (by omega) hHeld.size ?_
        intro eA ec v3 ho hg hb9
        have hb2 := Below.trans hHeld (hb9.mono (Nat.le_refl _))
        have RO9 := Lib.hid ho
        clear RO ho hg hb9
        have RO := RO9
        clear RO9
        refine hK.out _ _ (hb2) (fun hHeld2 => ?_)
        clear hK K hHeld
        have hHeld := hHeld2
        clear hHeld2
        try simp only [Act.put, List.getElem_toArray, List.getElem_cons_zero, List.getElem_cons_succ, List.setIfInBounds_toArray, List.set_cons_zero, List.set_cons_succ]
        clear PR
        refine wpAnyH_ready (rs := [10]) (by kernel_rfl) (by simp) ?_
        refine AllReadyH.cons rfl (fun K hK => ?_) AllReadyH.nil
        go_simp
        refine (refPut_own p.nu _).mono ?_
        rintro e v4 ⟨eB, ed, rfl, ho, hb⟩
        have HX := Lib.hid hb
        have PR := Lib.hid ho
        clear hb ho
        have RO9 := Lib.hid (RO.out.later HX.out)
        clear RO
        have RO := RO9
        clear RO9
        try go_wp2_with fail
        have hb2 := Below.trans hHeld (HX.out.mono hHeld.size)
        clear HX
        refine hK.out _ _ (hb2) (fun hHeld2 => ?_)
        clear hK K hHeld
        have hHeld := hHeld2
        clear hHeld2
        try simp only [Act.put, List.getElem_toArray, List.getElem_cons_zero, List.getElem_cons_succ, List.setIfInBounds_toArray, List.set_cons_zero, List.set_cons_succ]
        rw [HL2.out] at PR ⊢
        refine wpAnyH_ready (rs := [11]) (by kernel_rfl) (by simp) ?_
        refine AllReadyH.cons rfl (fun K hK => ?_) AllReadyH.nil
        refine step_app _ .u8 (by kernel_rfl) (.tmp 16) (.tmp 19) 23 rfl 5 (.int .u8 0) 1 Try.underlying23 info_byte rfl W0.heap.size (.slice eA (1 + l1.length) ec) ([p.k] ++ l1) (1 + l1.length) (by simp; omega) rfl RO.out _ _ _ rfl l2 rfl PR.out.rd (by unfold maxLen; omega) (by omega) hHeld.size ?_
        intro fA fc v5 ho hg hb9
        have hb2 := Below.trans hHeld (hb9.mono (Nat.le_refl _))
        have RO9 := Lib.hid ho
        clear RO ho hg hb9
        have RO := RO9
        clear RO9
        refine hK.out _ _ (hb2) (fun hHeld2 => ?_)
        clear hK K hHeld
        have hHeld := hHeld2
        clear hHeld2
        try simp only [Act.put, List.getElem_toArray, List.getElem_cons_zero, List.getElem_cons_succ, List.setIfInBounds_toArray, List.set_cons_zero, List.set_cons_succ]
        clear PR
        refine wpAnyH_take (i := 12) (v := ?_) rfl (by kernel_rfl) (by kernel_rfl) (by kernel_rfl) (fun _ _ _ h => h) (Or.inl ⟨by rfl, ?_⟩) (by assumption) ?_
        rotate_left
        · intro w hSw
          (try dsimp only at hSw)
          go_simp
          try (with_reducible rfl)
        try simp only [Act.put, List.getElem_toArray, List.getElem_cons_zero, List.getElem_cons_succ, List.setIfInBounds_toArray, List.set_cons_zero, List.set_cons_succ]
        refine wpAnyH_done (by kernel_rfl) ?_ _
        go_wp2_with fail
        go_meet
        exact ⟨fA, fc, rfl, RO, Lib.hid hHeld⟩
      · skip
        go_simp
        refine (refPut_own p.pa _).mono ?_
        rintro e v6 ⟨eB, ed, rfl, ho, hb⟩
        have HX := Lib.hid hb
        have PR := Lib.hid ho
        clear hb ho
        try go_wp2_with fail
        have hb2 := Below.trans hHeld (HX.out.mono hHeld.size)
        clear HX
        refine hK.out _ _ (hb2) (fun hHeld2 => ?_)
        clear hK K hHeld
        have hHeld := hHeld2
        clear hHeld2
        try simp only [Act.put, List.getElem_toArray, List.getElem_cons_zero, List.getElem_cons_succ, List.setIfInBounds_toArray, List.set_cons_zero, List.set_cons_succ]
        rw [HL1.out] at PR ⊢
        refine wpAnyH_ready (rs := [3]) (by kernel_rfl) (by simp) ?_
        refine AllReadyH.cons rfl (fun K hK => ?_) AllReadyH.nil
        go_simp
        have RO := Lib.hid ((Own.new v6 [p.k] 5 (by simp [maxLen])).less hHeld.size)
        have HX := Lib.hid ((Below.refl v6.heap.size v6).alloc (Nat.le_refl _) (.cells (bts [p.k]) 5))
        obtain ⟨v7, hw9⟩ : ∃ V, v6.alloc (.cells (bts [p.k]) 5) = V := ⟨_, rfl⟩
        have hw8' : v6.alloc (.cells #[.int .u8 p.k] 5) = v7 := hw9
        rw [hw9] at RO HX
        rw [hw8']
        clear hw9 hw8'
        obtain ⟨q1, hq9⟩ : ∃ q, v6.heap.size = q := ⟨_, rfl⟩
        rw [hq9] at RO ⊢
        clear hq9
        have hb2 := Below.trans hHeld (HX.out.mono hHeld.size)
        have PR9 := Lib.hid (PR.out.later HX.out)
        clear PR
        have PR := PR9
        clear PR9
        clear HX
        refine hK.out _ _ (hb2) (fun hHeld2 => ?_)
        clear hK K hHeld
        have hHeld := hHeld2
        clear hHeld2
        try simp only [Act.put, List.getElem_toArray, List.getElem_cons_zero, List.getElem_cons_succ, List.setIfInBounds_toArray, List.set_cons_zero, List.set_cons_succ]
        refine wpAnyH_ready (rs := [7]) (by kernel_rfl) (by simp) ?_
        refine AllReadyH.cons rfl (fun K hK => ?_) AllReadyH.nil
        refine step_app _ .u8 (by kernel_rfl) (.tmp 12) (.tmp 15) 23 rfl 5 (.int .u8 0) 1 Try.underlying23 info_byte rfl W0.heap.size (.slice _ (1) _) [p.k] (1) rfl rfl RO.out _ _ _ rfl l1 rfl PR.out.rd (by unfold maxLen; omega) (by omega) hHeld.size ?_
        intro eA ec v8 ho hg hb9
        have hb2 := Below.trans hHeld (hb9.mono (Nat.le_refl _))
        have RO9 := Lib.hid ho
        clear RO ho hg hb9
        have RO := RO9
        clear RO9
        refine hK.out _ _ (hb2) (fun hHeld2 => ?_)
        clear hK K hHeld
        have hHeld := hHeld2
        clear hHeld2
        try simp only [Act.put, List.getElem_toArray, List.getElem_cons_zero, List.getElem_cons_succ, List.setIfInBounds_toArray, List.set_cons_zero, List.set_cons_succ]
        clear PR
        refine wpAnyH_ready (rs := [10]) (by kernel_rfl) (by simp) ?_
        refine AllReadyH.cons rfl (fun K hK => ?_) AllReadyH.nil
        go_simp
        refine (refPut_own p.nu _).mono ?_
        rintro e v9 ⟨eB, ed, rfl, ho, hb⟩
        have HX := Lib.hid hb
        have PR := Lib.hid ho
        clear hb ho
        have RO9 := Lib.hid (RO.out.later HX.out)
        clear RO
        have RO := RO9
        clear RO9
        try go_wp2_with fail
        have hb2 := Below.trans hHeld (HX.out.mono hHeld.size)
        clear HX
        refine hK.out _ _ (hb2) (fun hHeld2 => ?_)
        clear hK K hHeld
        have hHeld := hHeld2
        clear hHeld2
        try simp only [Act.put, List.getElem_toArray, List.getElem_cons_zero, List.getElem_cons_succ, List.setIfInBounds_toArray, List.set_cons_zero, List.set_cons_succ]
        rw [HL2.out] at PR ⊢
        refine wpAnyH_ready (rs := [11]) (by kernel_rfl) (by simp) ?_
        refine AllReadyH.cons rfl (fun K hK => ?_) AllReadyH.nil
        refine step_app _ .u8 (by kernel_rfl) (.tmp 16) (.tmp 19) 23 rfl 5 (.int .u8 0) 1 Try.underlying23 info_byte rfl W0.heap.size (.slice eA (1 + l1.length) ec) ([p.k] ++ l1) (1 + l1.length) (by simp; omega) rfl RO.out _ _ _ rfl l2 rfl PR.out.rd (by unfold maxLen; omega) (by omega) hHeld.size ?_
        intro fA fc v10 ho hg hb9
        have hb2 := Below.trans hHeld (hb9.mono (Nat.le_refl _))
        have RO9 := Lib.hid ho
        clear RO ho hg hb9
        have RO := RO9
        clear RO9
        refine hK.out _ _ (hb2) (fun hHeld2 => ?_)
        clear hK K hHeld
        have hHeld := hHeld2
        clear hHeld2
        try simp only [Act.put, List.getElem_toArray, List.getElem_cons_zero, List.getElem_cons_succ, List.setIfInBounds_toArray, List.set_cons_zero, List.set_cons_succ]
        clear PR
        refine wpAnyH_take (i := 12) (v := ?_) rfl (by kernel_rfl) (by kernel_rfl) (by kernel_rfl) (fun _ _ _ h => h) (Or.inl ⟨by rfl, ?_⟩) (by assumption) ?_
        rotate_left
        · intro w hSw
          (try dsimp only at hSw)
          go_simp
          try (with_reducible rfl)
        try simp only [Act.put, List.getElem_toArray, List.getElem_cons_zero, List.getElem_cons_succ, List.setIfInBounds_toArray, List.set_cons_zero, List.set_cons_succ]
        refine wpAnyH_done (by kernel_rfl) ?_ _
        go_wp2_with fail
        go_meet
        exact ⟨fA, fc, rfl, RO, Lib.hid hHeld⟩
    case rest =>
    obtain ⟨R, rc, rfl, RO, BW⟩ := hcut
    have hpl : p.plainL = (([p.k] ++ l1) ++ l2) ++ p.fieldsL := by unfold Pkt.plainL; rw [HL1.out, HL2.out]
    have HPL := Lib.hid hpl
    have lfr := putL_len p.fr
    have lof := putL_len p.ofn
    have lse := putL_len p.se
    have lli := putL_len p.li
    have ldl := putL_len (p.da.length : Int)
    have hdl := HDL.out
    clear hpl
    obtain ⟨c0, c1, c2, c3, c4, c5, c6, c7, c8⟩ := HI.out.below BW.out HL.out
    have hk4 : p.k = 1 ∨ p.k = 2 ∨ p.k = 3 ∨ p.k = 4 := by have := HK.out; omega
    rcases hk4 with hk1 | hk1 | hk1 | hk1
    · clear c1 c2 c3 c4 c5 c6 c7 c8
      go_wp2_with fail
      go_ret2
      have hfl : p.plainL = ((([p.k] ++ l1) ++ l2)) := by rw [HPL.out]; unfold Pkt.fieldsL; simp [hk1]
      have hll : p.plainL.length = 1 + l1.length + l2.length := by rw [hfl]; simp; omega
      rw [hll, hfl]
      exact ⟨_, _, rfl, RO.out.less (by rw [HBB.out]; exact Nat.le_of_lt HL.out), HB1.out.trans (BW.out.mono HB1.out.size)⟩
    · clear c1 c2 c4 c5 c6 c7 c8
      go_wp2_with fail
      refine (refPut_own p.ofn _).mono ?_
      rintro e w1 ⟨B1, d1, rfl, ho, hb⟩
      have RO1 := Lib.hid (RO.out.later hb)
      have BW1 := Lib.hid (Below.trans BW.out (hb.mono BW.out.size))
      have hrd := ho.rd
      have hl9 : (([p.k] ++ l1) ++ l2).length + (putL p.ofn).length = 1 + l1.length + l2.length + (putL p.ofn).length := by simp; omega
      have HL9 := Lib.hid hl9
      clear ho hb RO BW hl9
      go_wp2_with (at_builtin; refine wpList_app _ .u8 rfl (.tmp 25) (.tmp 28) 23 rfl 5 (.int .u8 0) 1 Try.underlying23 info_byte rfl W0.heap.size (.slice R (1 + l1.length + l2.length) rc) (([p.k] ++ l1) ++ l2) rfl RO1.out _ _ _ rfl (putL p.ofn) rfl hrd (by simp; unfold maxLen; omega) (by simp; omega) BW1.out.size ?_; intro R2 rc2 w2 ho2 hg2; rw [HL9.out] at ho2; rw [HL9.out]; have RO := Lib.hid ho2; have BW := Lib.hid (BW1.out.grown hg2 BW1.out.size (fun g hg => (RO1.out.lt g hg).1)); clear ho2 hg2 hrd RO1 BW1)
      go_ret2
      have hfl : p.plainL = ((([p.k] ++ l1) ++ l2) ++ putL p.ofn) := by rw [HPL.out]; unfold Pkt.fieldsL; simp [hk1]
      have hll : p.plainL.length = 1 + l1.length + l2.length + (putL p.ofn).length := by rw [hfl]; simp; omega
      rw [hll, hfl]
      exact ⟨_, _, rfl, RO.out.less (by rw [HBB.out]; exact Nat.le_of_lt HL.out), HB1.out.trans (BW.out.mono HB1.out.size)⟩
    · clear c1 c2 c3 c7 c8
      obtain ⟨bf, hbf⟩ : ∃ x, p.fin = x := ⟨_, rfl⟩
      have c9 := c6
      rw [hbf] at c9
      have HBF := Lib.hid hbf
      clear c6 hbf
      go_upto_if 33 with (fail)
      go_cut [5] (fun v wx => v = .int .u8 (markV p.fin) ∧ wx = wc)
      case first =>
        cases bf
        · go_wp2_with fail
          go_meet
          exact ⟨by simp [markV, HBF.out], rfl⟩
        · go_wp2_with fail
          go_meet
          exact ⟨by simp [markV, HBF.out], rfl⟩
      case rest =>
      obtain ⟨rfl, rfl⟩ := hcut
      obtain ⟨f, hf⟩ : ∃ f, markV p.fin = f := ⟨_, rfl⟩
      rw [hf]
      have HF := Lib.hid hf
      clear c0 c4 c5 c9 hf
      go_upto_region 11 with (fail)
      refine wp_region_held_drew (S := fun wi => Below W0.heap.size W0 wi) (by kernel_rfl) BW.out.drew (fun hHeld => ?_)
      have RO9 := Lib.hid (RO.out.drewN 1)
      clear RO
      have RO := RO9
      clear RO9
      obtain ⟨v0, hv9⟩ : ∃ v, wc.drew = v := ⟨_, rfl⟩
      have hv8 : wc.drewN 1 = v0 := hv9
      rw [hv8] at RO
      rw [hv9] at hHeld ⊢
      clear hv9 hv8 BW
      refine wpAnyH_take (i := 0) (v := ?_) rfl (by kernel_rfl) (by kernel_rfl) (by kernel_rfl) (fun _ _ _ h => h) (Or.inl ⟨by rfl, ?_⟩) (by assumption) ?_
      rotate_left
      · intro w hSw
        (try dsimp only at hSw)
        go_simp
        try (with_reducible rfl)
      try simp only [Act.put, List.getElem_toArray, List.getElem_cons_zero, List.setIfInBounds_toArray, List.set_cons_zero, List.set_cons_succ]
      refine wpAnyH_take (i := 1) (v := ?_) rfl (by kernel_rfl) (by kernel_rfl) (by kernel_rfl) (fun _ _ _ h => h) (Or.inl ⟨by rfl, ?_⟩) (by assumption) ?_
      rotate_left
      · intro w hSw
        (try dsimp only at hSw)
        go_simp
        try (with_reducible rfl)
      try simp only [Act.put, List.getElem_toArray, List.getElem_cons_zero, List.getElem_cons_succ, List.setIfInBounds_toArray, List.set_cons_zero, List.set_cons_succ]
      refine wpAnyH_take (i := 2) (v := ?_) rfl (by kernel_rfl) (by kernel_rfl) (by kernel_rfl) (fun _ _ _ h => h) (Or.inl ⟨by rfl, ?_⟩) (by assumption) ?_
      rotate_left
      · intro w hSw
        (try dsimp only at hSw)
        have c9 := (HI.out.below hSw HL.out).c4
        clear hSw
        go_simp
        try (with_reducible rfl)
      try simp only [Act.put, List.getElem_toArray, List.getElem_cons_zero, List.getElem_cons_succ, List.setIfInBounds_toArray, List.set_cons_zero, List.set_cons_succ]
      refine wpAnyH_take (i := 5) (v := ?_) rfl (by kernel_rfl) (by kernel_rfl) (by kernel_rfl) (fun _ _ _ h => h) (Or.inl ⟨by rfl, ?_⟩) (by assumption) ?_
      rotate_left
      · intro w hSw
        (try dsimp only at hSw)
        go_simp
        try (with_reducible rfl)
      try simp only [Act.put, List.getElem_toArray, List.getElem_cons_zero, List.getElem_cons_succ, List.setIfInBounds_toArray, List.set_cons_zero, List.set_cons_succ]
      refine wpAnyH_take (i := 6) (v := ?_) rfl (by kernel_rfl) (by kernel_rfl) (by kernel_rfl) (fun _ _ _ h => h) (Or.inl ⟨by rfl, ?_⟩) (by assumption) ?_
      rotate_left
      · intro w hSw
        (try dsimp only at hSw)
        have c9 := (HI.out.below hSw HL.out).c5
        clear hSw
        go_simp
        try (with_reducible rfl)
      try simp only [Act.put, List.getElem_toArray, List.getElem_cons_zero, List.getElem_cons_succ, List.setIfInBounds_toArray, List.set_cons_zero, List.set_cons_succ]
      refine wpAnyH_take (i := 9) (v := ?_) rfl (by kernel_rfl) (by kernel_rfl) (by kernel_rfl) (fun _ _ _ h => h) (Or.inl ⟨by rfl, ?_⟩) (by assumption) ?_
      rotate_left
      · intro w hSw
        (try dsimp only at hSw)
        go_simp
        try (with_reducible rfl)
      try simp only [Act.put, List.getElem_toArray, List.getElem_cons_zero, List.getElem_cons_succ, List.setIfInBounds_toArray, List.set_cons_zero, List.set_cons_succ]
      refine wpAnyH_ready (rs := [3, 10]) (by kernel_rfl) (by simp) ?_
      refine AllReadyH.cons rfl (fun K hK => ?_) (AllReadyH.cons rfl (fun K hK => ?_) AllReadyH.nil)
      · skip
        go_simp
        refine (refPut_own p.fr _).mono ?_
        rintro e v1 ⟨eB, ed, rfl, ho, hb⟩
        have HX := Lib.hid hb
        have PR := Lib.hid ho
        clear hb ho
        have RO9 := Lib.hid (RO.out.later HX.out)
        clear RO
        have RO := RO9
        clear RO9
        try go_wp2_with fail
        have hb2 := Below.trans hHeld (HX.out.mono hHeld.size)
        clear HX
        refine hK.out _ _ (hb2) (fun hHeld2 => ?_)
        clear hK K hHeld
        have hHeld := hHeld2
        clear hHeld2
        try simp only [Act.put, List.getElem_toArray, List.getElem_cons_zero, List.getElem_cons_succ, List.setIfInBounds_toArray, List.set_cons_zero, List.set_cons_succ]
        refine wpAnyH_ready (rs := [4, 10]) (by kernel_rfl) (by simp) ?_
        refine AllReadyH.cons rfl (fun K hK => ?_) (AllReadyH.cons rfl (fun K hK => ?_) AllReadyH.nil)
        · skip
          refine step_app _ .u8 (by kernel_rfl) (.tmp 34) (.tmp 37) 23 rfl 5 (.int .u8 0) 1 Try.underlying23 info_byte rfl W0.heap.size (.slice R (1 + l1.length + l2.length) rc) (([p.k] ++ l1) ++ l2) (1 + l1.length + l2.length) (by simp; omega) rfl RO.out _ _ _ rfl (putL p.fr) rfl PR.out.rd (by unfold maxLen; omega) (by omega) hHeld.size ?_
          intro eA ec v2 ho hg hb9
          have hb2 := Below.trans hHeld (hb9.mono (Nat.le_refl _))
          have RO9 := Lib.hid ho
          clear RO ho hg hb9
          have RO := RO9
          clear RO9
          refine hK.out _ _ (hb2) (fun hHeld2 => ?_)
          clear hK K hHeld
          have hHeld := hHeld2
          clear hHeld2
          try simp only [Act.put, List.getElem_toArray, List.getElem_cons_zero, List.getElem_cons_succ, List.setIfInBounds_toArray, List.set_cons_zero, List.set_cons_succ]
          clear PR
          refine wpAnyH_ready (rs := [7, 10]) (by kernel_rfl) (by simp) ?_
          refine AllReadyH.cons rfl (fun K hK => ?_) (AllReadyH.cons rfl (fun K hK => ?_) AllReadyH.nil)
          · skip
            go_simp
            refine (wrap_any A p.da.length c p.da _ rfl (HPW.out.later hHeld).rd (by omega)).mono ?_
            rintro e v3 ⟨eB, ed, rfl, ho, hb⟩
            have HX := Lib.hid hb
            have PR := Lib.hid ho
            clear hb ho
            have RO9 := Lib.hid (RO.out.later HX.out)
            clear RO
            have RO := RO9
            clear RO9
            try go_wp2_with fail
            have hb2 := Below.trans hHeld (HX.out.mono hHeld.size)
            clear HX
            refine hK.out _ _ (hb2) (fun hHeld2 => ?_)
            clear hK K hHeld
            have hHeld := hHeld2
            clear hHeld2
            try simp only [Act.put, List.getElem_toArray, List.getElem_cons_zero, List.getElem_cons_succ, List.setIfInBounds_toArray, List.set_cons_zero, List.set_cons_succ]
            refine wpAnyH_ready (rs := [8, 10]) (by kernel_rfl) (by simp) ?_
            refine AllReadyH.cons rfl (fun K hK => ?_) (AllReadyH.cons rfl (fun K hK => ?_) AllReadyH.nil)
            · skip
              refine step_app _ .u8 (by kernel_rfl) (.tmp 38) (.tmp 41) 23 rfl 5 (.int .u8 0) 1 Try.underlying23 info_byte rfl W0.heap.size (.slice eA (1 + l1.length + l2.length + (putL p.fr).length) ec) ((([p.k] ++ l1) ++ l2) ++ putL p.fr) (1 + l1.length + l2.length + (putL p.fr).length) (by simp; omega) rfl RO.out _ _ _ rfl (putL (p.da.length : Int) ++ p.da) (by simp) PR.out.rd (by unfold maxLen; omega) (by omega) hHeld.size ?_
              intro fA fc v4 ho hg hb9
              have hb2 := Below.trans hHeld (hb9.mono (Nat.le_refl _))
              have RO9 := Lib.hid ho
              clear RO ho hg hb9
              have RO := RO9
              clear RO9
              refine hK.out _ _ (hb2) (fun hHeld2 => ?_)
              clear hK K hHeld
              have hHeld := hHeld2
              clear hHeld2
              try simp only [Act.put, List.getElem_toArray, List.getElem_cons_zero, List.getElem_cons_succ, List.setIfInBounds_toArray, List.set_cons_zero, List.set_cons_succ]
              clear PR
              refine wpAnyH_ready (rs := [10]) (by kernel_rfl) (by simp) ?_
              refine AllReadyH.cons rfl (fun K hK => ?_) AllReadyH.nil
              go_simp
              have LT := Lib.hid (heap_alloc_new v4 (.cells (bts [f]) 5))
              have HX := Lib.hid ((Below.refl v4.heap.size v4).alloc (Nat.le_refl _) (.cells (bts [f]) 5))
              obtain ⟨v5, hw9⟩ : ∃ V, v4.alloc (.cells (bts [f]) 5) = V := ⟨_, rfl⟩
              have hw8' : v4.alloc (.cells #[.int .u8 f] 5) = v5 := hw9
              rw [hw9] at LT HX
              rw [hw8']
              clear hw9 hw8'
              obtain ⟨q1, hq9⟩ : ∃ q, v4.heap.size = q := ⟨_, rfl⟩
              rw [hq9] at LT ⊢
              clear hq9
              have RO9 := Lib.hid (RO.out.later HX.out)
              clear RO
              have RO := RO9
              clear RO9
              have hb2 := Below.trans hHeld (HX.out.mono hHeld.size)
              clear HX
              refine hK.out _ _ (hb2) (fun hHeld2 => ?_)
              clear hK K hHeld
              have hHeld := hHeld2
              clear hHeld2
              try simp only [Act.put, List.getElem_toArray, List.getElem_cons_zero, List.getElem_cons_succ, List.setIfInBounds_toArray, List.set_cons_zero, List.set_cons_succ]
              refine wpAnyH_ready (rs := [11]) (by kernel_rfl) (by simp) ?_
              refine AllReadyH.cons rfl (fun K hK => ?_) AllReadyH.nil
              refine step_app _ .u8 (by kernel_rfl) (.tmp 42) (.tmp 44) 23 rfl 5 (.int .u8 0) 1 Try.underlying23 info_byte rfl W0.heap.size (.slice fA (1 + l1.length + l2.length + (putL p.fr).length + ((putL (p.da.length : Int)).length + p.da.length)) fc) (((([p.k] ++ l1) ++ l2) ++ putL p.fr) ++ (putL (p.da.length : Int) ++ p.da)) (1 + l1.length + l2.length + (putL p.fr).length + ((putL (p.da.length : Int)).length + p.da.length)) (by simp; omega) rfl RO.out _ _ _ rfl [f] rfl (rd_block LT.out) (by unfold maxLen; omega) (by omega) hHeld.size ?_
              intro gA gc v6 ho hg hb9
              have hb2 := Below.trans hHeld (hb9.mono (Nat.le_refl _))
              have RO9 := Lib.hid ho
              clear RO ho hg hb9
              have RO := RO9
              clear RO9
              refine hK.out _ _ (hb2) (fun hHeld2 => ?_)
              clear hK K hHeld
              have hHeld := hHeld2
              clear hHeld2
              try simp only [Act.put, List.getElem_toArray, List.getElem_cons_zero, List.getElem_cons_succ, List.setIfInBounds_toArray, List.set_cons_zero, List.set_cons_succ]
              clear LT
              refine wpAnyH_take (i := 12) (v := ?_) rfl (by kernel_rfl) (by kernel_rfl) (by kernel_rfl) (fun _ _ _ h => h) (Or.inl ⟨by rfl, ?_⟩) (by assumption) ?_
              rotate_left
              · intro w hSw
                (try dsimp only at hSw)
                go_simp
                try (with_reducible rfl)
              try simp only [Act.put, List.getElem_toArray, List.getElem_cons_zero, List.getElem_cons_succ, List.setIfInBounds_toArray, List.set_cons_zero, List.set_cons_succ]
              refine wpAnyH_done (by kernel_rfl) ?_ _
              have BW := Lib.hid hHeld
              go_wp2_with fail
              go_ret2
              have hfl : p.plainL = (((([p.k] ++ l1) ++ l2) ++ putL p.fr) ++ (putL (p.da.length : Int) ++ p.da)) ++ [f] := by rw [HPL.out]; unfold Pkt.fieldsL; simp [hk1, HF.out]
              have hll : p.plainL.length = 1 + l1.length + l2.length + (putL p.fr).length + ((putL (p.da.length : Int)).length + p.da.length) + 1 := by rw [hfl]; simp; omega
              rw [hll, hfl]
              exact ⟨_, _, rfl, RO.out.less (by rw [HBB.out]; exact Nat.le_of_lt HL.out), HB1.out.trans (BW.out.mono HB1.out.size)⟩
            · skip
              go_simp
              have LT := Lib.hid (heap_alloc_new v3 (.cells (bts [f]) 5))
              have HX := Lib.hid ((Below.refl v3.heap.size v3).alloc (Nat.le_refl _) (.cells (bts [f]) 5))
              obtain ⟨v7, hw9⟩ : ∃ V, v3.alloc (.cells (bts [f]) 5) = V := ⟨_, rfl⟩
              have hw8' : v3.alloc (.cells #[.int .u8 f] 5) = v7 := hw9
              rw [hw9] at LT HX
              rw [hw8']
              clear hw9 hw8'
              obtain ⟨q1, hq9⟩ : ∃ q, v3.heap.size = q := ⟨_, rfl⟩
              rw [hq9] at LT ⊢
              clear hq9
              have RO9 := Lib.hid (RO.out.later HX.out)
              clear RO
              have RO := RO9
              clear RO9
              have PR9 := Lib.hid (PR.out.later HX.out)
              clear PR
              have PR := PR9
              clear PR9
              have hb2 := Below.trans hHeld (HX.out.mono hHeld.size)
              clear HX
              refine hK.out _ _ (hb2) (fun hHeld2 => ?_)
              clear hK K hHeld
              have hHeld := hHeld2
              clear hHeld2
              try simp only [Act.put, List.getElem_toArray, List.getElem_cons_zero, List.getElem_cons_succ, List.setIfInBounds_toArray, List.set_cons_zero, List.set_cons_succ]
              refine wpAnyH_ready (rs := [8]) (by kernel_rfl) (by simp) ?_
              refine AllReadyH.cons rfl (fun K hK => ?_) AllReadyH.nil
              refine step_app _ .u8 (by kernel_rfl) (.tmp 38) (.tmp 41) 23 rfl 5 (.int .u8 0) 1 Try.underlying23 info_byte rfl W0.heap.size (.slice eA (1 + l1.length + l2.length + (putL p.fr).length) ec) ((([p.k] ++ l1) ++ l2) ++ putL p.fr) (1 + l1.length + l2.length + (putL p.fr).length) (by simp; omega) rfl RO.out _ _ _ rfl (putL (p.da.length : Int) ++ p.da) (by simp) PR.out.rd (by unfold maxLen; omega) (by omega) hHeld.size ?_
              intro fA fc v8 ho hg hb9
              have LT9 := Lib.hid (small_kept RO.out (by simp [bts]; omega) hg LT.out)
              clear LT
              have LT := LT9
              clear LT9
              have hb2 := Below.trans hHeld (hb9.mono (Nat.le_refl _))
              have RO9 := Lib.hid ho
              clear RO ho hg hb9
              have RO := RO9
              clear RO9
              refine hK.out _ _ (hb2) (fun hHeld2 => ?_)
              clear hK K hHeld
              have hHeld := hHeld2
              clear hHeld2
              try simp only [Act.put, List.getElem_toArray, List.getElem_cons_zero, List.getElem_cons_succ, List.setIfInBounds_toArray, List.set_cons_zero, List.set_cons_succ]
              clear PR
              refine wpAnyH_ready (rs := [11]) (by kernel_rfl) (by simp) ?_
              refine AllReadyH.cons rfl (fun K hK => ?_) AllReadyH.nil
              refine step_app _ .u8 (by kernel_rfl) (.tmp 42) (.tmp 44) 23 rfl 5 (.int .u8 0) 1 Try.underlying23 info_byte rfl W0.heap.size (.slice fA (1 + l1.length + l2.length + (putL p.fr).length + ((putL (p.da.length : Int)).length + p.da.length)) fc) (((([p.k] ++ l1) ++ l2) ++ putL p.fr) ++ (putL (p.da.length : Int) ++ p.da)) (1 + l1.length + l2.length + (putL p.fr).length + ((putL (p.da.length : Int)).length + p.da.length)) (by simp; omega) rfl RO.out _ _ _ rfl [f] rfl (rd_block LT.out) (by unfold maxLen; omega) (by omega) hHeld.size ?_
              intro gA gc v9 ho hg hb9
              have hb2 := Below.trans hHeld (hb9.mono (Nat.le_refl _))
              have RO9 := Lib.hid ho
              clear RO ho hg hb9
              have RO := RO9
              clear RO9
              refine hK.out _ _ (hb2) (fun hHeld2 => ?_)
              clear hK K hHeld
              have hHeld := hHeld2
              clear hHeld2
              try simp only [Act.put, List.getElem_toArray, List.getElem_cons_zero, List.getElem_cons_succ, List.setIfInBounds_toArray, List.set_cons_zero, List.set_cons_succ]
              clear LT
              refine wpAnyH_take (i := 12) (v := ?_) rfl (by kernel_rfl) (by kernel_rfl) (by kernel_rfl) (fun _ _ _ h => h) (Or.inl ⟨by rfl, ?_⟩) (by assumption) ?_
              rotate_left
              · intro w hSw
                (try dsimp only at hSw)
                go_simp
                try (with_reducible rfl)
              try simp only [Act.put, List.getElem_toArray, List.getElem_cons_zero, List.getElem_cons_succ, List.setIfInBounds_toArray, List.set_cons_zero, List.set_cons_succ]
              refine wpAnyH_done (by kernel_rfl) ?_ _
              have BW := Lib.hid hHeld
              go_wp2_with fail
              go_ret2
              have hfl : p.plainL = (((([p.k] ++ l1) ++ l2) ++ putL p.fr) ++ (putL (p.da.length : Int) ++ p.da)) ++ [f] := by rw [HPL.out]; unfold Pkt.fieldsL; simp [hk1, HF.out]
              have hll : p.plainL.length = 1 + l1.length + l2.length + (putL p.fr).length + ((putL (p.da.length : Int)).length + p.da.length) + 1 := by rw [hfl]; simp; omega
              rw [hll, hfl]
              exact ⟨_, _, rfl, RO.out.less (by rw [HBB.out]; exact Nat.le_of_lt HL.out), HB1.out.trans (BW.out.mono HB1.out.size)⟩
          · skip
            go_simp
            have LT := Lib.hid (heap_alloc_new v2 (.cells (bts [f]) 5))
            have HX := Lib.hid ((Below.refl v2.heap.size v2).alloc (Nat.le_refl _) (.cells (bts [f]) 5))
            obtain ⟨v10, hw9⟩ : ∃ V, v2.alloc (.cells (bts [f]) 5) = V := ⟨_, rfl⟩
            have hw8' : v2.alloc (.cells #[.int .u8 f] 5) = v10 := hw9
            rw [hw9] at LT HX
            rw [hw8']
            clear hw9 hw8'
            obtain ⟨q1, hq9⟩ : ∃ q, v2.heap.size = q := ⟨_, rfl⟩
            rw [hq9] at LT ⊢
            clear hq9
            have RO9 := Lib.hid (RO.out.later HX.out)
            clear RO
            have RO := RO9
            clear RO9
            have hb2 := Below.trans hHeld (HX.out.mono hHeld.size)
            clear HX
            refine hK.out _ _ (hb2) (fun hHeld2 => ?_)
            clear hK K hHeld
            have hHeld := hHeld2
            clear hHeld2
            try simp only [Act.put, List.getElem_toArray, List.getElem_cons_zero, List.getElem_cons_succ, List.setIfInBounds_toArray, List.set_cons_zero, List.set_cons_succ]
            refine wpAnyH_ready (rs := [7]) (by kernel_rfl) (by simp) ?_
            refine AllReadyH.cons rfl (fun K hK => ?_) AllReadyH.nil
            go_simp
            refine (wrap_any A p.da.length c p.da _ rfl (HPW.out.later hHeld).rd (by omega)).mono ?_
            rintro e v11 ⟨eB, ed, rfl, ho, hb⟩
            have HX := Lib.hid hb
            have PR := Lib.hid ho
            clear hb ho
            have RO9 := Lib.hid (RO.out.later HX.out)
            clear RO
            have RO := RO9
            clear RO9
            have LT9 := Lib.hid (block_later LT.out HX.out)
            clear LT
            have LT := LT9
            clear LT9
            try go_wp2_with fail
            have hb2 := Below.trans hHeld (HX.out.mono hHeld.size)
            clear HX
            refine hK.out _ _ (hb2) (fun hHeld2 => ?_)
            clear hK K hHeld
            have hHeld := hHeld2
            clear hHeld2
            try simp only [Act.put, List.getElem_toArray, List.getElem_cons_zero, List.getElem_cons_succ, List.setIfInBounds_toArray, List.set_cons_zero, List.set_cons_succ]
            refine wpAnyH_ready (rs := [8]) (by kernel_rfl) (by simp) ?_
            refine AllReadyH.cons rfl (fun K hK => ?_) AllReadyH.nil
            refine step_app _ .u8 (by kernel_rfl) (.tmp 38) (.tmp 41) 23 rfl 5 (.int .u8 0) 1 Try.underlying23 info_byte rfl W0.heap.size (.slice eA (1 + l1.length + l2.length + (putL p.fr).length) ec) ((([p.k] ++ l1) ++ l2) ++ putL p.fr) (1 + l1.length + l2.length + (putL p.fr).length) (by simp; omega) rfl RO.out _ _ _ rfl (putL (p.da.length : Int) ++ p.da) (by simp) PR.out.rd (by unfold maxLen; omega) (by omega) hHeld.size ?_
            intro fA fc v12 ho hg hb9
            have LT9 := Lib.hid (small_kept RO.out (by simp [bts]; omega) hg LT.out)
            clear LT
            have LT := LT9
            clear LT9
            have hb2 := Below.trans hHeld (hb9.mono (Nat.le_refl _))
            have RO9 := Lib.hid ho
            clear RO ho hg hb9
            have RO := RO9
            clear RO9
            refine hK.out _ _ (hb2) (fun hHeld2 => ?_)
            clear hK K hHeld
            have hHeld := hHeld2
            clear hHeld2
            try simp only [Act.put, List.getElem_toArray, List.getElem_cons_zero, List.getElem_cons_succ, List.setIfInBounds_toArray, List.set_cons_zero, List.set_cons_succ]
            clear PR
            refine wpAnyH_ready (rs := [11]) (by kernel_rfl) (by simp) ?_
            refine AllReadyH.cons rfl (fun K hK => ?_) AllReadyH.nil
            refine step_app _ .u8 (by kernel_rfl) (.tmp 42) (.tmp 44) 23 rfl 5 (.int .u8 0) 1 Try.underlying23 info_byte rfl W0.heap.size (.slice fA (1 + l1.length + l2.length + (putL p.fr).length + ((putL (p.da.length : Int)).length + p.da.length)) fc) (((([p.k] ++ l1) ++ l2) ++ putL p.fr) ++ (putL (p.da.length : Int) ++ p.da)) (1 + l1.length + l2.length + (putL p.fr).length + ((putL (p.da.length : Int)).length + p.da.length)) (by simp; omega) rfl RO.out _ _ _ rfl [f] rfl (rd_block LT.out) (by unfold maxLen; omega) (by omega) hHeld.size ?_
            intro gA gc v13 ho hg hb9
            have hb2 := Below.trans hHeld (hb9.mono (Nat.le_refl _))
            have RO9 := Lib.hid ho
            clear RO ho hg hb9
            have RO := RO9
            clear RO9
            refine hK.out _ _ (hb2) (fun hHeld2 => ?_)
            clear hK K hHeld
            have hHeld := hHeld2
            clear hHeld2
            try simp only [Act.put, List.getElem_toArray, List.getElem_cons_zero, List.getElem_cons_succ, List.setIfInBounds_toArray, List.set_cons_zero, List.set_cons_succ]
            clear LT
            refine wpAnyH_take (i := 12) (v := ?_) rfl (by kernel_rfl) (by kernel_rfl) (by kernel_rfl) (fun _ _ _ h => h) (Or.inl ⟨by rfl, ?_⟩) (by assumption) ?_
            rotate_left
            · intro w hSw
              (try dsimp only at hSw)
              go_simp
              try (with_reducible rfl)
            try simp only [Act.put, List.getElem_toArray, List.getElem_cons_zero, List.getElem_cons_succ, List.setIfInBounds_toArray, List.set_cons_zero, List.set_cons_succ]
            refine wpAnyH_done (by kernel_rfl) ?_ _
            have BW := Lib.hid hHeld
            go_wp2_with fail
            go_ret2
            have hfl : p.plainL = (((([p.k] ++ l1) ++ l2) ++ putL p.fr) ++ (putL (p.da.length : Int) ++ p.da)) ++ [f] := by rw [HPL.out]; unfold Pkt.fieldsL; simp [hk1, HF.out]
            have hll : p.plainL.length = 1 + l1.length + l2.length + (putL p.fr).length + ((putL (p.da.length : Int)).length + p.da.length) + 1 := by rw [hfl]; simp; omega
            rw [hll, hfl]
            exact ⟨_, _, rfl, RO.out.less (by rw [HBB.out]; exact Nat.le_of_lt HL.out), HB1.out.trans (BW.out.mono HB1.out.size)⟩
        · skip
          go_simp
          have LT := Lib.hid (heap_alloc_new v1 (.cells (bts [f]) 5))
          have HX := Lib.hid ((Below.refl v1.heap.size v1).alloc (Nat.le_refl _) (.cells (bts [f]) 5))
          obtain ⟨v14, hw9⟩ : ∃ V, v1.alloc (.cells (bts [f]) 5) = V := ⟨_, rfl⟩
          have hw8' : v1.alloc (.cells #[.int .u8 f] 5) = v14 := hw9
          rw [hw9] at LT HX
          rw [hw8']
          clear hw9 hw8'
          obtain ⟨q1, hq9⟩ : ∃ q, v1.heap.size = q := ⟨_, rfl⟩
          rw [hq9] at LT ⊢
          clear hq9
          have RO9 := Lib.hid (RO.out.later HX.out)
          clear RO
          have RO := RO9
          clear RO9
          have PR9 := Lib.hid (PR.out.later HX.out)
          clear PR
          have PR := PR9
          clear PR9
          have hb2 := Below.trans hHeld (HX.out.mono hHeld.size)
          clear HX
          refine hK.out _ _ (hb2) (fun hHeld2 => ?_)
          clear hK K hHeld
          have hHeld := hHeld2
          clear hHeld2
          try simp only [Act.put, List.getElem_toArray, List.getElem_cons_zero, List.getElem_cons_succ, List.setIfInBounds_toArray, List.set_cons_zero, List.set_cons_succ]
          refine wpAnyH_ready (rs := [4]) (by kernel_rfl) (by simp) ?_
          refine AllReadyH.cons rfl (fun K hK => ?_) AllReadyH.nil
          refine step_app _ .u8 (by kernel_rfl) (.tmp 34) (.tmp 37) 23 rfl 5 (.int .u8 0) 1 Try.underlying23 info_byte rfl W0.heap.size (.slice R (1 + l1.length + l2.length) rc) (([p.k] ++ l1) ++ l2) (1 + l1.length + l2.length) (by simp; omega) rfl RO.out _ _ _ rfl (putL p.fr) rfl PR.out.rd (by unfold maxLen; omega) (by omega) hHeld.size ?_
          intro eA ec v15 ho hg hb9
          have LT9 := Lib.hid (small_kept RO.out (by simp [bts]; omega) hg LT.out)
          clear LT
          have LT := LT9
          clear LT9
          have hb2 := Below.trans hHeld (hb9.mono (Nat.le_refl _))
          have RO9 := Lib.hid ho
          clear RO ho hg hb9
          have RO := RO9
          clear RO9
          refine hK.out _ _ (hb2) (fun hHeld2 => ?_)
          clear hK K hHeld
          have hHeld := hHeld2
          clear hHeld2
          try simp only [Act.put, List.getElem_toArray, List.getElem_cons_zero, List.getElem_cons_succ, List.setIfInBounds_toArray, List.set_cons_zero, List.set_cons_succ]
          clear PR
          refine wpAnyH_ready (rs := [7]) (by kernel_rfl) (by simp) ?_
          refine AllReadyH.cons rfl (fun K hK => ?_) AllReadyH.nil
          go_simp
          refine (wrap_any A p.da.length c p.da _ rfl (HPW.out.later hHeld).rd (by omega)).mono ?_
          rintro e v16 ⟨eB, ed, rfl, ho, hb⟩
          have HX := Lib.hid hb
          have PR := Lib.hid ho
          clear hb ho
          have RO9 := Lib.hid (RO.out.later HX.out)
          clear RO
          have RO := RO9
          clear RO9
          have LT9 := Lib.hid (block_later LT.out HX.out)
          clear LT
          have LT := LT9
          clear LT9
          try go_wp2_with fail
          have hb2 := Below.trans hHeld (HX.out.mono hHeld.size)
          clear HX
          refine hK.out _ _ (hb2) (fun hHeld2 => ?_)
          clear hK K hHeld
          have hHeld := hHeld2
          clear hHeld2
          try simp only [Act.put, List.getElem_toArray, List.getElem_cons_zero, List.getElem_cons_succ, List.setIfInBounds_toArray, List.set_cons_zero, List.set_cons_succ]
          refine wpAnyH_ready (rs := [8]) (by kernel_rfl) (by simp) ?_
          refine AllReadyH.cons rfl (fun K hK => ?_) AllReadyH.nil
          refine step_app _ .u8 (by kernel_rfl) (.tmp 38) (.tmp 41) 23 rfl 5 (.int .u8 0) 1 Try.underlying23 info_byte rfl W0.heap.size (.slice eA (1 + l1.length + l2.length + (putL p.fr).length) ec) ((([p.k] ++ l1) ++ l2) ++ putL p.fr) (1 + l1.length + l2.length + (putL p.fr).length) (by simp; omega) rfl RO.out _ _ _ rfl (putL (p.da.length : Int) ++ p.da) (by simp) PR.out.rd (by unfold maxLen; omega) (by omega) hHeld.size ?_
          intro fA fc v17 ho hg hb9
          have LT9 := Lib.hid (small_kept RO.out (by simp [bts]; omega) hg LT.out)
          clear LT
          have LT := LT9
          clear LT9
          have hb2 := Below.trans hHeld (hb9.mono (Nat.le_refl _))
          have RO9 := Lib.hid ho
          clear RO ho hg hb9
          have RO := RO9
          clear RO9
          refine hK.out _ _ (hb2) (fun hHeld2 => ?_)
          clear hK K hHeld
          have hHeld := hHeld2
          clear hHeld2
          try simp only [Act.put, List.getElem_toArray, List.getElem_cons_zero, List.getElem_cons_succ, List.setIfInBounds_toArray, List.set_cons_zero, List.set_cons_succ]
          clear PR
          refine wpAnyH_ready (rs := [11]) (by kernel_rfl) (by simp) ?_
          refine AllReadyH.cons rfl (fun K hK => ?_) AllReadyH.nil
          refine step_app _ .u8 (by kernel_rfl) (.tmp 42) (.tmp 44) 23 rfl 5 (.int .u8 0) 1 Try.underlying23 info_byte rfl W0.heap.size (.slice fA (1 + l1.length + l2.length + (putL p.fr).length + ((putL (p.da.length : Int)).length + p.da.length)) fc) (((([p.k] ++ l1) ++ l2) ++ putL p.fr) ++ (putL (p.da.length : Int) ++ p.da)) (1 + l1.length + l2.length + (putL p.fr).length + ((putL (p.da.length : Int)).length + p.da.length)) (by simp; omega) rfl RO.out _ _ _ rfl [f] rfl (rd_block LT.out) (by unfold maxLen; omega) (by omega) hHeld.size ?_
          intro gA gc v18 ho hg hb9
          have hb2 := Below.trans hHeld (hb9.mono (Nat.le_refl _))
          have RO9 := Lib.hid ho
          clear RO ho hg hb9
          have RO := RO9
          clear RO9
          refine hK.out _ _ (hb2) (fun hHeld2 => ?_)
          clear hK K hHeld
          have hHeld := hHeld2
          clear hHeld2
          try simp only [Act.put, List.getElem_toArray, List.getElem_cons_zero, List.getElem_cons_succ, List.setIfInBounds_toArray, List.set_cons_zero, List.set_cons_succ]
          clear LT
          refine wpAnyH_take (i := 12) (v := ?_) rfl (by kernel_rfl) (by kernel_rfl) (by kernel_rfl) (fun _ _ _ h => h) (Or.inl ⟨by rfl, ?_⟩) (by assumption) ?_
          rotate_left
          · intro w hSw
            (try dsimp only at hSw)
            go_simp
            try (with_reducible rfl)
          try simp only [Act.put, List.getElem_toArray, List.getElem_cons_zero, List.getElem_cons_succ, List.setIfInBounds_toArray, List.set_cons_zero, List.set_cons_succ]
          refine wpAnyH_done (by kernel_rfl) ?_ _
          have BW := Lib.hid hHeld
          go_wp2_with fail
          go_ret2
          have hfl : p.plainL = (((([p.k] ++ l1) ++ l2) ++ putL p.fr) ++ (putL (p.da.length : Int) ++ p.da)) ++ [f] := by rw [HPL.out]; unfold Pkt.fieldsL; simp [hk1, HF.out]
          have hll : p.plainL.length = 1 + l1.length + l2.length + (putL p.fr).length + ((putL (p.da.length : Int)).length + p.da.length) + 1 := by rw [hfl]; simp; omega
          rw [hll, hfl]
          exact ⟨_, _, rfl, RO.out.less (by rw [HBB.out]; exact Nat.le_of_lt HL.out), HB1.out.trans (BW.out.mono HB1.out.size)⟩
      · skip
        go_simp
        have LT := Lib.hid (heap_alloc_new v0 (.cells (bts [f]) 5))
        have HX := Lib.hid ((Below.refl v0.heap.size v0).alloc (Nat.le_refl _) (.cells (bts [f]) 5))
        obtain ⟨v19, hw9⟩ : ∃ V, v0.alloc (.cells (bts [f]) 5) = V := ⟨_, rfl⟩
        have hw8' : v0.alloc (.cells #[.int .u8 f] 5) = v19 := hw9
        rw [hw9] at LT HX
        rw [hw8']
        clear hw9 hw8'
        obtain ⟨q1, hq9⟩ : ∃ q, v0.heap.size = q := ⟨_, rfl⟩
        rw [hq9] at LT ⊢
        clear hq9
        have RO9 := Lib.hid (RO.out.later HX.out)
        clear RO
        have RO := RO9
        clear RO9
        have hb2 := Below.trans hHeld (HX.out.mono hHeld.size)
        clear HX
        refine hK.out _ _ (hb2) (fun hHeld2 => ?_)
        clear hK K hHeld
        have hHeld := hHeld2
        clear hHeld2
        try simp only [Act.put, List.getElem_toArray, List.getElem_cons_zero, List.getElem_cons_succ, List.setIfInBounds_toArray, List.set_cons_zero, List.set_cons_succ]
        refine wpAnyH_ready (rs := [3]) (by kernel_rfl) (by simp) ?_
        refine AllReadyH.cons rfl (fun K hK => ?_) AllReadyH.nil
        go_simp
        refine (refPut_own p.fr _).mono ?_
        rintro e v20 ⟨eB, ed, rfl, ho, hb⟩
        have HX := Lib.hid hb
        have PR := Lib.hid ho
        clear hb ho
        have RO9 := Lib.hid (RO.out.later HX.out)
        clear RO
        have RO := RO9
        clear RO9
        have LT9 := Lib.hid (block_later LT.out HX.out)
        clear LT
        have LT := LT9
        clear LT9
        try go_wp2_with fail
        have hb2 := Below.trans hHeld (HX.out.mono hHeld.size)
        clear HX
        refine hK.out _ _ (hb2) (fun hHeld2 => ?_)
        clear hK K hHeld
        have hHeld := hHeld2
        clear hHeld2
        try simp only [Act.put, List.getElem_toArray, List.getElem_cons_zero, List.getElem_cons_succ, List.setIfInBounds_toArray, List.set_cons_zero, List.set_cons_succ]
        refine wpAnyH_ready (rs := [4]) (by kernel_rfl) (by simp) ?_
        refine AllReadyH.cons rfl (fun K hK => ?_) AllReadyH.nil
        refine step_app _ .u8 (by kernel_rfl) (.tmp 34) (.tmp 37) 23 rfl 5 (.int .u8 0) 1 Try.underlying23 info_byte rfl W0.heap.size (.slice R (1 + l1.length + l2.length) rc) (([p.k] ++ l1) ++ l2) (1 + l1.length + l2.length) (by simp; omega) rfl RO.out _ _ _ rfl (putL p.fr) rfl PR.out.rd (by unfold maxLen; omega) (by omega) hHeld.size ?_
        intro eA ec v21 ho hg hb9
        have LT9 := Lib.hid (small_kept RO.out (by simp [bts]; omega) hg LT.out)
        clear LT
        have LT := LT9
        clear LT9
        have hb2 := Below.trans hHeld (hb9.mono (Nat.le_refl _))
        have RO9 := Lib.hid ho
        clear RO ho hg hb9
        have RO := RO9
        clear RO9
        refine hK.out _ _ (hb2) (fun hHeld2 => ?_)
        clear hK K hHeld
        have hHeld := hHeld2
        clear hHeld2
        try simp only [Act.put, List.getElem_toArray, List.getElem_cons_zero, List.getElem_cons_succ, List.setIfInBounds_toArray, List.set_cons_zero, List.set_cons_succ]
        clear PR
        refine wpAnyH_ready (rs := [7]) (by kernel_rfl) (by simp) ?_
        refine AllReadyH.cons rfl (fun K hK => ?_) AllReadyH.nil
        go_simp
        refine (wrap_any A p.da.length c p.da _ rfl (HPW.out.later hHeld).rd (by omega)).mono ?_
        rintro e v22 ⟨eB, ed, rfl, ho, hb⟩
        have HX := Lib.hid hb
        have PR := Lib.hid ho
        clear hb ho
        have RO9 := Lib.hid (RO.out.later HX.out)
        clear RO
        have RO := RO9
        clear RO9
        have LT9 := Lib.hid (block_later LT.out HX.out)
        clear LT
        have LT := LT9
        clear LT9
        try go_wp2_with fail
        have hb2 := Below.trans hHeld (HX.out.mono hHeld.size)
        clear HX
        refine hK.out _ _ (hb2) (fun hHeld2 => ?_)
        clear hK K hHeld
        have hHeld := hHeld2
        clear hHeld2
        try simp only [Act.put, List.getElem_toArray, List.getElem_cons_zero, List.getElem_cons_succ, List.setIfInBounds_toArray, List.set_cons_zero, List.set_cons_succ]
        refine wpAnyH_ready (rs := [8]) (by kernel_rfl) (by simp) ?_
        refine AllReadyH.cons rfl (fun K hK => ?_) AllReadyH.nil
        refine step_app _ .u8 (by kernel_rfl) (.tmp 38) (.tmp 41) 23 rfl 5 (.int .u8 0) 1 Try.underlying23 info_byte rfl W0.heap.size (.slice eA (1 + l1.length + l2.length + (putL p.fr).length) ec) ((([p.k] ++ l1) ++ l2) ++ putL p.fr) (1 + l1.length + l2.length + (putL p.fr).length) (by simp; omega) rfl RO.out _ _ _ rfl (putL (p.da.length : Int) ++ p.da) (by simp) PR.out.rd (by unfold maxLen; omega) (by omega) hHeld.size ?_
        intro fA fc v23 ho hg hb9
        have LT9 := Lib.hid (small_kept RO.out (by simp [bts]; omega) hg LT.out)
        clear LT
        have LT := LT9
        clear LT9
        have hb2 := Below.trans hHeld (hb9.mono (Nat.le_refl _))
        have RO9 := Lib.hid ho
        clear RO ho hg hb9
        have RO := RO9
        clear RO9
        refine hK.out _ _ (hb2) (fun hHeld2 => ?_)
        clear hK K hHeld
        have hHeld := hHeld2
        clear hHeld2
        try simp only [Act.put, List.getElem_toArray, List.getElem_cons_zero, List.getElem_cons_succ, List.setIfInBounds_toArray, List.set_cons_zero, List.set_cons_succ]
        clear PR
        refine wpAnyH_ready (rs := [11]) (by kernel_rfl) (by simp) ?_
        refine AllReadyH.cons rfl (fun K hK => ?_) AllReadyH.nil
        refine step_app _ .u8 (by kernel_rfl) (.tmp 42) (.tmp 44) 23 rfl 5 (.int .u8 0) 1 Try.underlying23 info_byte rfl W0.heap.size (.slice fA (1 + l1.length + l2.length + (putL p.fr).length + ((putL (p.da.length : Int)).length + p.da.length)) fc) (((([p.k] ++ l1) ++ l2) ++ putL p.fr) ++ (putL (p.da.length : Int) ++ p.da)) (1 + l1.length + l2.length + (putL p.fr).length + ((putL (p.da.length : Int)).length + p.da.length)) (by simp; omega) rfl RO.out _ _ _ rfl [f] rfl (rd_block LT.out) (by unfold maxLen; omega) (by omega) hHeld.size ?_
        intro gA gc v24 ho hg hb9
        have hb2 := Below.trans hHeld (hb9.mono (Nat.le_refl _))
        have RO9 := Lib.hid ho
        clear RO ho hg hb9
        have RO := RO9
        clear RO9
        refine hK.out _ _ (hb2) (fun hHeld2 => ?_)
        clear hK K hHeld
        have hHeld := hHeld2
        clear hHeld2
        try simp only [Act.put, List.getElem_toArray, List.getElem_cons_zero, List.getElem_cons_succ, List.setIfInBounds_toArray, List.set_cons_zero, List.set_cons_succ]
        clear LT
        refine wpAnyH_take (i := 12) (v := ?_) rfl (by kernel_rfl) (by kernel_rfl) (by kernel_rfl) (fun _ _ _ h => h) (Or.inl ⟨by rfl, ?_⟩) (by assumption) ?_
        rotate_left
        · intro w hSw
          (try dsimp only at hSw)
          go_simp
          try (with_reducible rfl)
        try simp only [Act.put, List.getElem_toArray, List.getElem_cons_zero, List.getElem_cons_succ, List.setIfInBounds_toArray, List.set_cons_zero, List.set_cons_succ]
        refine wpAnyH_done (by kernel_rfl) ?_ _
        have BW := Lib.hid hHeld
        go_wp2_with fail
        go_ret2
        have hfl : p.plainL = (((([p.k] ++ l1) ++ l2) ++ putL p.fr) ++ (putL (p.da.length : Int) ++ p.da)) ++ [f] := by rw [HPL.out]; unfold Pkt.fieldsL; simp [hk1, HF.out]
        have hll : p.plainL.length = 1 + l1.length + l2.length + (putL p.fr).length + ((putL (p.da.length : Int)).length + p.da.length) + 1 := by rw [hfl]; simp; omega
        rw [hll, hfl]
        exact ⟨_, _, rfl, RO.out.less (by rw [HBB.out]; exact Nat.le_of_lt HL.out), HB1.out.trans (BW.out.mono HB1.out.size)⟩
    · clear c1 c2 c3 c4 c5 c6 c7 c8
      go_upto_region 13 with (fail)
      refine wp_region_held_drew (S := fun wi => Below W0.heap.size W0 wi) (by kernel_rfl) BW.out.drew (fun hHeld => ?_)
      have RO9 := Lib.hid (RO.out.drewN 1)
      clear RO
      have RO := RO9
      clear RO9
      obtain ⟨v0, hv9⟩ : ∃ v, wc.drew = v := ⟨_, rfl⟩
      have hv8 : wc.drewN 1 = v0 := hv9
      rw [hv8] at RO
      rw [hv9] at hHeld ⊢
      clear hv9 hv8 BW
      refine wpAnyH_take (i := 0) (v := ?_) rfl (by kernel_rfl) (by kernel_rfl) (by kernel_rfl) (fun _ _ _ h => h) (Or.inl ⟨by rfl, ?_⟩) (by assumption) ?_
      rotate_left
      · intro w hSw
        (try dsimp only at hSw)
        go_simp
        try (with_reducible rfl)
      try simp only [Act.put, List.getElem_toArray, List.getElem_cons_zero, List.setIfInBounds_toArray, List.set_cons_zero, List.set_cons_succ]
      refine wpAnyH_take (i := 1) (v := ?_) rfl (by kernel_rfl) (by kernel_rfl) (by kernel_rfl) (fun _ _ _ h => h) (Or.inl ⟨by rfl, ?_⟩) (by assumption) ?_
      rotate_left
      · intro w hSw
        (try dsimp only at hSw)
        go_simp
        try (with_reducible rfl)
      try simp only [Act.put, List.getElem_toArray, List.getElem_cons_zero, List.getElem_cons_succ, List.setIfInBounds_toArray, List.set_cons_zero, List.set_cons_succ]
      refine wpAnyH_take (i := 2) (v := ?_) rfl (by kernel_rfl) (by kernel_rfl) (by kernel_rfl) (fun _ _ _ h => h) (Or.inl ⟨by rfl, ?_⟩) (by assumption) ?_
      rotate_left
      · intro w hSw
        (try dsimp only at hSw)
        have c9 := (HI.out.below hSw HL.out).c3
        clear hSw
        go_simp
        try (with_reducible rfl)
      try simp only [Act.put, List.getElem_toArray, List.getElem_cons_zero, List.getElem_cons_succ, List.setIfInBounds_toArray, List.set_cons_zero, List.set_cons_succ]
      refine wpAnyH_take (i := 5) (v := ?_) rfl (by kernel_rfl) (by kernel_rfl) (by kernel_rfl) (fun _ _ _ h => h) (Or.inl ⟨by rfl, ?_⟩) (by assumption) ?_
      rotate_left
      · intro w hSw
        (try dsimp only at hSw)
        go_simp
        try (with_reducible rfl)
      try simp only [Act.put, List.getElem_toArray, List.getElem_cons_zero, List.getElem_cons_succ, List.setIfInBounds_toArray, List.set_cons_zero, List.set_cons_succ]
      refine wpAnyH_take (i := 6) (v := ?_) rfl (by kernel_rfl) (by kernel_rfl) (by kernel_rfl) (fun _ _ _ h => h) (Or.inl ⟨by rfl, ?_⟩) (by assumption) ?_
      rotate_left
      · intro w hSw
        (try dsimp only at hSw)
        have c9 := (HI.out.below hSw HL.out).c7
        clear hSw
        go_simp
        try (with_reducible rfl)
      try simp only [Act.put, List.getElem_toArray, List.getElem_cons_zero, List.getElem_cons_succ, List.setIfInBounds_toArray, List.set_cons_zero, List.set_cons_succ]
      refine wpAnyH_take (i := 9) (v := ?_) rfl (by kernel_rfl) (by kernel_rfl) (by kernel_rfl) (fun _ _ _ h => h) (Or.inl ⟨by rfl, ?_⟩) (by assumption) ?_
      rotate_left
      · intro w hSw
        (try dsimp only at hSw)
        go_simp
        try (with_reducible rfl)
      try simp only [Act.put, List.getElem_toArray, List.getElem_cons_zero, List.getElem_cons_succ, List.setIfInBounds_toArray, List.set_cons_zero, List.set_cons_succ]
      refine wpAnyH_take (i := 10) (v := ?_) rfl (by kernel_rfl) (by kernel_rfl) (by kernel_rfl) (fun _ _ _ h => h) (Or.inl ⟨by rfl, ?_⟩) (by assumption) ?_
      rotate_left
      · intro w hSw
        (try dsimp only at hSw)
        have c9 := (HI.out.below hSw HL.out).c8
        clear hSw
        go_simp
        try (with_reducible rfl)
      try simp only [Act.put, List.getElem_toArray, List.getElem_cons_zero, List.getElem_cons_succ, List.setIfInBounds_toArray, List.set_cons_zero, List.set_cons_succ]
      refine wpAnyH_ready (rs := [3]) (by kernel_rfl) (by simp) ?_
      refine AllReadyH.cons rfl (fun K hK => ?_) AllReadyH.nil
      go_simp
      refine (refPut_own p.ofn _).mono ?_
      rintro e v1 ⟨eB, ed, rfl, ho, hb⟩
      have HX := Lib.hid hb
      have PR := Lib.hid ho
      clear hb ho
      have RO9 := Lib.hid (RO.out.later HX.out)
      clear RO
      have RO := RO9
      clear RO9
      try go_wp2_with fail
      have hb2 := Below.trans hHeld (HX.out.mono hHeld.size)
      clear HX
      refine hK.out _ _ (hb2) (fun hHeld2 => ?_)
      clear hK K hHeld
      have hHeld := hHeld2
      clear hHeld2
      try simp only [Act.put, List.getElem_toArray, List.getElem_cons_zero, List.getElem_cons_succ, List.setIfInBounds_toArray, List.set_cons_zero, List.set_cons_succ]
      refine wpAnyH_ready (rs := [4]) (by kernel_rfl) (by simp) ?_
      refine AllReadyH.cons rfl (fun K hK => ?_) AllReadyH.nil
      refine step_app _ .u8 (by kernel_rfl) (.tmp 48) (.tmp 51) 23 rfl 5 (.int .u8 0) 1 Try.underlying23 info_byte rfl W0.heap.size (.slice R (1 + l1.length + l2.length) rc) (([p.k] ++ l1) ++ l2) (1 + l1.length + l2.length) (by simp; omega) rfl RO.out _ _ _ rfl (putL p.ofn) rfl PR.out.rd (by unfold maxLen; omega) (by omega) hHeld.size ?_
      intro eA ec v2 ho hg hb9
      have hb2 := Below.trans hHeld (hb9.mono (Nat.le_refl _))
      have RO9 := Lib.hid ho
      clear RO ho hg hb9
      have RO := RO9
      clear RO9
      refine hK.out _ _ (hb2) (fun hHeld2 => ?_)
      clear hK K hHeld
      have hHeld := hHeld2
      clear hHeld2
      try simp only [Act.put, List.getElem_toArray, List.getElem_cons_zero, List.getElem_cons_succ, List.setIfInBounds_toArray, List.set_cons_zero, List.set_cons_succ]
      clear PR
      refine wpAnyH_ready (rs := [7]) (by kernel_rfl) (by simp) ?_
      refine AllReadyH.cons rfl (fun K hK => ?_) AllReadyH.nil
      go_simp
      refine (refPut_own p.se _).mono ?_
      rintro e v3 ⟨eB, ed, rfl, ho, hb⟩
      have HX := Lib.hid hb
      have PR := Lib.hid ho
      clear hb ho
      have RO9 := Lib.hid (RO.out.later HX.out)
      clear RO
      have RO := RO9
      clear RO9
      try go_wp2_with fail
      have hb2 := Below.trans hHeld (HX.out.mono hHeld.size)
      clear HX
      refine hK.out _ _ (hb2) (fun hHeld2 => ?_)
      clear hK K hHeld
      have hHeld := hHeld2
      clear hHeld2
      try simp only [Act.put, List.getElem_toArray, List.getElem_cons_zero, List.getElem_cons_succ, List.setIfInBounds_toArray, List.set_cons_zero, List.set_cons_succ]
      refine wpAnyH_ready (rs := [8]) (by kernel_rfl) (by simp) ?_
      refine AllReadyH.cons rfl (fun K hK => ?_) AllReadyH.nil
      refine step_app _ .u8 (by kernel_rfl) (.tmp 52) (.tmp 55) 23 rfl 5 (.int .u8 0) 1 Try.underlying23 info_byte rfl W0.heap.size (.slice eA (1 + l1.length + l2.length + (putL p.ofn).length) ec) ((([p.k] ++ l1) ++ l2) ++ putL p.ofn) (1 + l1.length + l2.length + (putL p.ofn).length) (by simp; omega) rfl RO.out _ _ _ rfl (putL p.se) rfl PR.out.rd (by unfold maxLen; omega) (by omega) hHeld.size ?_
      intro fA fc v4 ho hg hb9
      have hb2 := Below.trans hHeld (hb9.mono (Nat.le_refl _))
      have RO9 := Lib.hid ho
      clear RO ho hg hb9
      have RO := RO9
      clear RO9
      refine hK.out _ _ (hb2) (fun hHeld2 => ?_)
      clear hK K hHeld
      have hHeld := hHeld2
      clear hHeld2
      try simp only [Act.put, List.getElem_toArray, List.getElem_cons_zero, List.getElem_cons_succ, List.setIfInBounds_toArray, List.set_cons_zero, List.set_cons_succ]
      clear PR
      refine wpAnyH_ready (rs := [11]) (by kernel_rfl) (by simp) ?_
      refine AllReadyH.cons rfl (fun K hK => ?_) AllReadyH.nil
      go_simp
      refine (refPut_own p.li _).mono ?_
      rintro e v5 ⟨eB, ed, rfl, ho, hb⟩
      have HX := Lib.hid hb
      have PR := Lib.hid ho
      clear hb ho
      have RO9 := Lib.hid (RO.out.later HX.out)
      clear RO
      have RO := RO9
      clear RO9
      try go_wp2_with fail
      have hb2 := Below.trans hHeld (HX.out.mono hHeld.size)
      clear HX
      refine hK.out _ _ (hb2) (fun hHeld2 => ?_)
      clear hK K hHeld
      have hHeld := hHeld2
      clear hHeld2
      try simp only [Act.put, List.getElem_toArray, List.getElem_cons_zero, List.getElem_cons_succ, List.setIfInBounds_toArray, List.set_cons_zero, List.set_cons_succ]
      refine wpAnyH_ready (rs := [12]) (by kernel_rfl) (by simp) ?_
      refine AllReadyH.cons rfl (fun K hK => ?_) AllReadyH.nil
      refine step_app _ .u8 (by kernel_rfl) (.tmp 56) (.tmp 59) 23 rfl 5 (.int .u8 0) 1 Try.underlying23 info_byte rfl W0.heap.size (.slice fA (1 + l1.length + l2.length + (putL p.ofn).length + (putL p.se).length) fc) (((([p.k] ++ l1) ++ l2) ++ putL p.ofn) ++ putL p.se) (1 + l1.length + l2.length + (putL p.ofn).length + (putL p.se).length) (by simp; omega) rfl RO.out _ _ _ rfl (putL p.li) rfl PR.out.rd (by unfold maxLen; omega) (by omega) hHeld.size ?_
      intro gA gc v6 ho hg hb9
      have hb2 := Below.trans hHeld (hb9.mono (Nat.le_refl _))
      have RO9 := Lib.hid ho
      clear RO ho hg hb9
      have RO := RO9
      clear RO9
      refine hK.out _ _ (hb2) (fun hHeld2 => ?_)
      clear hK K hHeld
      have hHeld := hHeld2
      clear hHeld2
      try simp only [Act.put, List.getElem_toArray, List.getElem_cons_zero, List.getElem_cons_succ, List.setIfInBounds_toArray, List.set_cons_zero, List.set_cons_succ]
      clear PR
      refine wpAnyH_take (i := 13) (v := ?_) rfl (by kernel_rfl) (by kernel_rfl) (by kernel_rfl) (fun _ _ _ h => h) (Or.inl ⟨by rfl, ?_⟩) (by assumption) ?_
      rotate_left
      · intro w hSw
        (try dsimp only at hSw)
        go_simp
        try (with_reducible rfl)
      try simp only [Act.put, List.getElem_toArray, List.getElem_cons_zero, List.getElem_cons_succ, List.setIfInBounds_toArray, List.set_cons_zero, List.set_cons_succ]
      refine wpAnyH_done (by kernel_rfl) ?_ _
      have BW := Lib.hid hHeld
      clear c0
      go_wp2_with fail
      go_ret2
      have hfl : p.plainL = ((((([p.k] ++ l1) ++ l2) ++ putL p.ofn) ++ putL p.se) ++ putL p.li) := by rw [HPL.out]; unfold Pkt.fieldsL; simp [hk1]
      have hll : p.plainL.length = 1 + l1.length + l2.length + (putL p.ofn).length + (putL p.se).length + (putL p.li).length := by rw [hfl]; simp; omega
      rw [hll, hfl]
      exact ⟨_, _, rfl, RO.out.less (by rw [HBB.out]; exact Nat.le_of_lt HL.out), HB1.out.trans (BW.out.mono HB1.out.size)⟩
end Go.Proofs.Ytbjneoeiognahaa

/-
  The document's store: Drop. A contract over the program.
-/
import Derived.Test.YtfafonfphholmaaRfCut
import Derived.Test.YtfafonfphholmaaRfRows
import Derived.IntWalk
namespace Go.Proofs.Ytfafonfphholmaa
open Go.RowKit

section
variable {w w' : World} {B p : Nat} {lv : Value} {L : List RE} {de ar : Bool} {nn : Int} {s : St} {F : Nat → Prop}

theorem drop_map (hr : L.Pairwise (fun x y => x.k.n < y.k.n)) (i : Nat) (x : RE) (hx : L[i]? = some x) : (L.take i ++ L.drop (i + 1)).map (·.k) = (L.map (·.k)).filter fun k => decide (k.n ≠ x.k.n) := by
  induction L generalizing i with
  | nil => simp at hx
  | cons y r ih =>
    obtain ⟨h1, h2⟩ := List.pairwise_cons.1 hr
    cases i with
    | zero =>
      simp at hx
      subst hx
      simp only [List.take_zero, List.nil_append, Nat.zero_add, List.drop_succ_cons, List.drop_zero, List.map_cons]
      rw [List.filter_cons_of_neg (by simp), List.filter_eq_self.2]
      intro k hk
      obtain ⟨z, hz, rfl⟩ := List.mem_map.1 hk
      have := h1 z hz
      simp; omega
    | succ i =>
      have hx' : r[i]? = some x := by simpa using hx
      have h3 := h1 x (List.mem_of_getElem? hx')
      simp only [List.take_succ_cons, List.drop_succ_cons, List.cons_append, List.map_cons]
      rw [List.filter_cons_of_pos (by simp; omega), ih h2 i hx']
theorem part_row (a b : Nat) (M : List RE) {W : World} {g c n : Nat} (h : W.ownsRow B 53 4 (.slice (some ⟨g, 0, none⟩) n c) n (rcs L)) (hn : L.length = n) (hM : M = (L.drop a).take b) : ∀ j u, (rcs M)[j]? = some u → W.cell? ((⟨g, a * 4, none⟩ : Addr).add j) = some u := by
  intro j u hu
  have hj : j < M.length * 4 := by rw [← rcs_len]; exact (List.getElem?_eq_some_iff.1 hu).1
  have hml : M.length ≤ L.length - a := by rw [hM, List.length_take, List.length_drop]; omega
  rw [Addr.add_lit, h.cellAt (a * 4 + j) (by omega), ← hu]
  have h1 : rcs L = rcs (L.take a) ++ (rcs M ++ rcs ((L.drop a).drop b)) := by
    rw [← rcs_app, ← rcs_app, hM, List.take_append_drop, List.take_append_drop]
  have h2 : (rcs (L.take a)).length = a * 4 := by rw [rcs_len, List.length_take]; omega
  rw [h1, List.getElem?_append_right (by omega), h2, Nat.add_sub_cancel_left, List.getElem?_append_left (by rw [rcs_len]; exact hj)]

set_option maxRecDepth 10000 in
set_option maxHeartbeats 1500000 in
theorem rfdrop_any (h : RefIs w B p s F) (n : Int) : Calls Try.prog 15 #[.pointer (some ⟨p, 0, none⟩), .int .i64 n] w (RfEnd w B p F (s.drop n)) := by
  obtain ⟨lv, L, nn, h, hk, rfl, hf⟩ := h
  have hbg := begin_any h hk n
  by_cases hm : mustE s n = 0
  · by_cases hst : s.fu = true ∧ s.lf = 0
    · have h' := h
      rw [hst.1, (hf hst.1).trans hst.2] at h'
      have hsy := stops_yes h'
      have hend : ∀ w', RefAt w' B p lv L true true 0 → Trn w w' (fun k => k = p) → RfEnd w B p (RFoot p lv L) (s.drop n) (.returned (.int .i64 6)) w' := fun w' h1 h2 => by
        unfold St.drop
        rw [hm, act_fuse' _ _ hst]
        refine rf_end (ar := s.fu) (nn := 0) (by rw [hst.1]; exact h1) hk (fun _ => hst.2.symm) ⟨h2.mono (fun k _ hk => .inl hk), fun k hk => .inl hk⟩
      have HBG := Lib.hid hbg
      have HSY := Lib.hid hsy
      have HEND := Lib.hid hend
      have HM := Lib.hid hm
      clear hbg hsy hend h h' hk hf hst hm
      go_enter Try.func15, Try.ntmps15
      go_wp2_with fail
      refine HBG.out.mono ?_
      rintro e w1 ⟨rfl, ⟨_, i, x, hx, hxn, rfl⟩ | ⟨hne, _⟩⟩
      · clear hx hxn
        go_wp2_with fail
        refine HSY.out.mono ?_
        rintro e w2 ⟨rfl, h1, h2⟩
        have H1 := Lib.hid h1
        have H2 := Lib.hid h2
        clear h1 h2
        go_wp2_with fail
        go_ret
        exact HEND.out _ H1.out H2.out
      · exact absurd HM.out hne
    · have hsn := stops_no h (fun e => hst ⟨e.1, (hf e.1).symm.trans e.2⟩)
      have hend : ∀ i x, L[i]? = some x → x.k.n = n → ∀ w2 nn', RefAt w2 B p lv L s.de s.fu nn' → (s.fu = true → nn' = nn - 1) → Trn w w2 (fun k => k = p) → ∀ w4 lv', w4.ownsRow B 53 4 lv' (L.take i ++ L.drop (i + 1)).length (rcs (L.take i ++ L.drop (i + 1))) → Below w2.heap.size w2 w4 →
          (∀ k, lv'.ownBlock = some k → w2.heap.size ≤ k) → RfEnd w B p (RFoot p lv L) (s.drop n) (.returned (.int .i64 0)) (w4.setCell ⟨p, 0, none⟩ lv') := fun i x hx hxn w2 nn' h1 h2 h3 w4 lv' hl hb hnew => by
        unfold St.drop
        rw [hm, act_do' _ _ hst]
        have h4 := h1.later hb
        have hmem : ∀ e ∈ L.take i ++ L.drop (i + 1), e ∈ L := fun e he => by
          rcases List.mem_append.1 he with h9 | h9
          · exact List.mem_of_mem_take h9
          · exact List.mem_of_mem_drop h9
        have hsub : (L.take i ++ L.drop (i + 1)).Sublist L := by
          have h8 : (L.drop (i + 1)).Sublist (L.drop i) := by rw [← List.drop_drop]; exact List.drop_sublist _ _
          have := (List.Sublist.refl (L.take i)).append h8
          rw [List.take_append_drop] at this
          exact this
        have h5 := h4.setL lv' (L.take i ++ L.drop (i + 1)) hl (fun e he => ⟨h4.each e (hmem e he), h4.len e (hmem e he), h4.sle e (hmem e he)⟩) (h4.rise.sublist hsub) (Nat.le_trans hsub.length_le h4.many)
        subst hxn
        refine rf_end h5 (by rw [drop_map h1.rise i x hx, hk]) (burn_of hf h2) ?_
        refine SC.trans (F' := RFoot p lv L) ⟨h3.mono (fun k _ hk => .inl hk), fun k hk => .inl hk⟩ ⟨(Trn.of_below (F := fun _ => False) hb).trans (trn_set w4 p 0 lv') (fun _ h => h.elim) (fun k _ hk => .inl hk), fun k hk => ?_⟩
        rcases hk with h9 | h9 | ⟨e, he, h9⟩
        · exact .inl (.inl h9)
        · exact .inr (hnew k h9)
        · exact .inl (.inr (.inr ⟨e, hmem e he, h9⟩))
      have HBG := Lib.hid hbg
      have HSN := Lib.hid hsn
      have HEND := Lib.hid hend
      have HM := Lib.hid hm
      clear hbg hsn hend h hk hf hst hm
      go_enter Try.func15, Try.ntmps15
      go_wp2_with fail
      refine HBG.out.mono ?_
      rintro e w1 ⟨rfl, ⟨_, i, x, hx, hxn, rfl⟩ | ⟨hne, _⟩⟩
      · have HX := Lib.hid hx
        have HXN := Lib.hid hxn
        clear hx hxn
        go_wp2_with fail
        refine HSN.out.mono ?_
        rintro e w2 ⟨rfl, ⟨nn', h1, h2⟩, h3⟩
        have s0 := h1.r0
        have hil : i < L.length := (List.getElem?_eq_some_iff.1 HX.out).1
        have hmany := h1.many
        have hlist := h1.list
        rcases h1.form with ⟨_, h9⟩ | ⟨g, c, hv, hlc, hcm, hB, hg, hcells, hfr⟩
        · rw [h9] at hil; simp at hil
        have hpg : g ≠ p := fun e => h1.p_ne.1 (by rw [hv, e]; rfl)
        have hHE := HEND.out i x HX.out HXN.out w2 nn' h1 h2 h3
        have hpl : p < w2.heap.size := h1.row.lt
        have fp := h1.fr 0
        rw [hv] at s0 hlist
        obtain ⟨m, hml⟩ : ∃ m, L.length = m := ⟨_, rfl⟩
        rw [hml] at s0 hil hlc hmany hlist
        have hcm2 : c ≤ 9223372036854775807 := by unfold maxLen at hcm; exact hcm
        have htl : (L.take i).length = i := by rw [List.length_take]; omega
        have hdl : (L.drop (i + 1)).length = m - (i + 1) := by rw [List.length_drop, hml]
        have hB2 : B ≤ w2.heap.size := by omega
        have hsrc1 := part_row 0 i (L.take i) hlist hml (by simp)
        obtain ⟨A1, c1, w3, hrun1, own1, grn1, blk1⟩ := run_appR (w := w2.drew) 26 B (.slice none 0 0) [] (L.take i) (World.ownsRow_nil _ _ _ _) (some ⟨g, 0, none⟩) i c htl (fun _ => ⟨_, rfl, by simpa using hsrc1⟩) (by simp; omega) hB2
        simp only [List.length_nil, Nat.zero_add, List.nil_append] at hrun1 own1 blk1
        have hnew1 : ∀ k, (Value.slice A1 i c1).ownBlock = some k → w2.heap.size ≤ k := fun k hk => (blk1 k hk).elim (fun e => by simp [Value.ownBlock] at e) (fun e => by rw [e]; exact Nat.le_refl _)
        have grn1' : w2.grownBy w3 none := ⟨grn1.os, grn1.tape, grn1.output, grn1.size, grn1.block⟩
        have hb1 : Below w2.heap.size w2 w3 := ⟨grn1.os, grn1.tape, grn1.output, grn1.size, fun k hk => grn1.block k hk (by simp [Value.ownBlock])⟩
        have hlist3 := World.ownsRow.kept (row := none) hlist grn1' (by simp [Value.ownBlock])
        have hsrc2 := part_row (i + 1) (m - (i + 1)) (L.drop (i + 1)) hlist3 hml (by rw [List.take_of_length_le (by rw [hdl]; exact Nat.le_refl _)])
        obtain ⟨A2, c2, w4, hrun2, own2, grn2, blk2⟩ := run_appR (w := w3) 26 B (.slice A1 i c1) (L.take i) (L.drop (i + 1)) (by rw [htl]; exact own1) (if c = i + 1 then some ⟨g, 0, none⟩ else some ⟨g, (i + 1) * 4, none⟩) (m - (i + 1)) (c - (i + 1)) hdl
          (fun h0 => by rw [if_neg (by omega)]; exact ⟨_, rfl, hsrc2⟩) (by rw [htl]; omega) (Nat.le_trans hB2 hb1.size)
        rw [htl] at hrun2 own2 blk2
        have hnew2 : ∀ k, (Value.slice A2 (i + (m - (i + 1))) c2).ownBlock = some k → w2.heap.size ≤ k := fun k hk => (blk2 k hk).elim (fun e => hnew1 k e) (fun e => by rw [e]; exact hb1.size)
        have hb2 : Below w2.heap.size w2 w4 := hb1.grown grn2 hb1.size (fun k hk => hnew1 k hk)
        have HEE := Lib.hid (hHE w4 (.slice A2 (i + (m - (i + 1))) c2) (by rw [List.length_append, htl, hdl]; exact own2) hb2 hnew2)
        have s3 := cell_later hb1 s0
        have s4 := cell_later hb2 s0
        have f4 : w4.frozen? ⟨p, 0, none⟩ = false := by rw [World.frozen?_of_block (hb2.block p hpl)]; exact fp
        have i1 : (i : Int) < (m : Int) := by omega
        have i2 : (0 : Int) ≤ (i : Int) := by omega
        have i3 : (i : Int) + 1 ≤ (m : Int) := by omega
        have e7 : IntKind.i64.wrap ((i : Int) + 1) = (i : Int) + 1 := IntWalk.i64_in _ (by omega)
        have i8 : (0 : Int) ≤ (i : Int) + 1 := by omega
        have i4 : i + 1 ≤ m := by omega
        have i5 : i ≤ c := by omega
        have i6 : m ≤ c := hlc
        clear h1 h2 h3 hv hcells hfr hml hlist hHE htl hdl hsrc1 own1 grn1 blk1 hnew1 grn1' hb1 hlist3 hsrc2 own2 grn2 blk2 hnew2 hb2 hcm fp
        go_wp2_with fail
        refine wp_region_held_drew (S := fun _ => True) (by kernel_rfl) trivial ?_
        intro hHeld
        refine wpAnyH_take (i := 0) (v := ?_) rfl (by kernel_rfl) (by kernel_rfl) (by kernel_rfl) (fun _ _ _ h => h) (Or.inl ⟨by rfl, ?_⟩) (by assumption) ?_
        rotate_left
        · intro w hSw
          (try dsimp only at hSw)
          go_simp
          try (with_reducible rfl)
        try simp only [Act.put, List.getElem_toArray, List.getElem_cons_zero, List.setIfInBounds_toArray, List.set_cons_zero, List.set_cons_succ]
        refine wpAnyH_take (i := 1) (v := ?_) rfl (by kernel_rfl) (by kernel_rfl) (by kernel_rfl) (fun _ _ _ h => h) (Or.inl ⟨by rfl, ?_⟩) (by assumption) ?_
        rotate_left
        · intro w hSw
          (try dsimp only at hSw)
          go_simp
          try (with_reducible rfl)
        try simp only [Act.put, List.getElem_toArray, List.getElem_cons_zero, List.getElem_cons_succ, List.setIfInBounds_toArray, List.set_cons_zero, List.set_cons_succ]
        refine wpAnyH_take (i := 2) (v := ?_) rfl (by kernel_rfl) (by kernel_rfl) (by kernel_rfl) (fun _ _ _ h => h) (Or.inl ⟨by rfl, ?_⟩) (by assumption) ?_
        rotate_left
        · intro w hSw
          (try dsimp only at hSw)
          go_simp
          try (with_reducible rfl)
        try simp only [Act.put, List.getElem_toArray, List.getElem_cons_zero, List.getElem_cons_succ, List.setIfInBounds_toArray, List.set_cons_zero, List.set_cons_succ]
        refine wpAnyH_take (i := 3) (v := ?_) rfl (by kernel_rfl) (by kernel_rfl) (by kernel_rfl) (fun _ _ _ h => h) (Or.inl ⟨by rfl, ?_⟩) (by assumption) ?_
        rotate_left
        · intro w hSw
          (try dsimp only at hSw)
          go_simp
          try (with_reducible rfl)
        try simp only [Act.put, List.getElem_toArray, List.getElem_cons_zero, List.getElem_cons_succ, List.setIfInBounds_toArray, List.set_cons_zero, List.set_cons_succ]
        refine wpAnyH_take (i := 5) (v := ?_) rfl (by kernel_rfl) (by kernel_rfl) (by kernel_rfl) (fun _ _ _ h => h) (Or.inl ⟨by rfl, ?_⟩) (by assumption) ?_
        rotate_left
        · intro w hSw
          (try dsimp only at hSw)
          go_simp
          try (with_reducible rfl)
        try simp only [Act.put, List.getElem_toArray, List.getElem_cons_zero, List.getElem_cons_succ, List.setIfInBounds_toArray, List.set_cons_zero, List.set_cons_succ]
        refine wpAnyH_take (i := 8) (v := ?_) rfl (by kernel_rfl) (by kernel_rfl) (by kernel_rfl) (fun _ _ _ h => h) (Or.inl ⟨by rfl, ?_⟩) (by assumption) ?_
        rotate_left
        · intro w hSw
          (try dsimp only at hSw)
          go_simp
          try (with_reducible rfl)
        try simp only [Act.put, List.getElem_toArray, List.getElem_cons_zero, List.getElem_cons_succ, List.setIfInBounds_toArray, List.set_cons_zero, List.set_cons_succ]
        refine wpAnyH_take (i := 9) (v := ?_) rfl (by kernel_rfl) (by kernel_rfl) (by kernel_rfl) (fun _ _ _ h => h) (Or.inl ⟨by rfl, ?_⟩) (by assumption) ?_
        rotate_left
        · intro w hSw
          (try dsimp only at hSw)
          go_simp
          try (with_reducible rfl)
        try simp only [Act.put, List.getElem_toArray, List.getElem_cons_zero, List.getElem_cons_succ, List.setIfInBounds_toArray, List.set_cons_zero, List.set_cons_succ]
        refine wpAnyH_take (i := 10) (v := ?_) rfl (by kernel_rfl) (by kernel_rfl) (by kernel_rfl) (fun _ _ _ h => h) (Or.inl ⟨by rfl, ?_⟩) (by assumption) ?_
        rotate_left
        · intro w hSw
          (try dsimp only at hSw)
          go_simp
          try (with_reducible rfl)
        try simp only [Act.put, List.getElem_toArray, List.getElem_cons_zero, List.getElem_cons_succ, List.setIfInBounds_toArray, List.set_cons_zero, List.set_cons_succ]
        refine wpAnyH_take (i := 12) (v := ?_) rfl (by kernel_rfl) (by kernel_rfl) (by kernel_rfl) (fun _ _ _ h => h) (Or.inl ⟨by rfl, ?_⟩) (by assumption) ?_
        rotate_left
        · intro w hSw
          (try dsimp only at hSw)
          go_simp
          try (with_reducible rfl)
        try simp only [Act.put, List.getElem_toArray, List.getElem_cons_zero, List.getElem_cons_succ, List.setIfInBounds_toArray, List.set_cons_zero, List.set_cons_succ]
        refine wpAnyH_take (i := 13) (v := ?_) rfl (by kernel_rfl) (by kernel_rfl) (by kernel_rfl) (fun _ _ _ h => h) (Or.inl ⟨by rfl, ?_⟩) (by assumption) ?_
        rotate_left
        · intro w hSw
          (try dsimp only at hSw)
          go_simp
          try (with_reducible rfl)
        try simp only [Act.put, List.getElem_toArray, List.getElem_cons_zero, List.getElem_cons_succ, List.setIfInBounds_toArray, List.set_cons_zero, List.set_cons_succ]
        refine wpAnyH_ready (rs := [4, 11]) (by kernel_rfl) (by simp) ?_
        refine AllReadyH.cons rfl (fun K hK => ?_) (AllReadyH.cons rfl (fun K hK => ?_) AllReadyH.nil)
        · go_simp
          refine hK.out _ _ trivial (fun hHeld2 => ?_)
          clear hK K hHeld
          have hHeld := hHeld2
          clear hHeld2
          try simp only [Act.put, List.getElem_toArray, List.getElem_cons_zero, List.getElem_cons_succ, List.setIfInBounds_toArray, List.set_cons_zero, List.set_cons_succ]
          refine wpAnyH_take (i := 6) (v := ?_) rfl (by kernel_rfl) (by kernel_rfl) (by kernel_rfl) (fun _ _ _ h => h) (Or.inl ⟨by rfl, ?_⟩) (by assumption) ?_
          rotate_left
          · intro w hSw
            (try dsimp only at hSw)
            go_simp
            try (with_reducible rfl)
          try simp only [Act.put, List.getElem_toArray, List.getElem_cons_zero, List.getElem_cons_succ, List.setIfInBounds_toArray, List.set_cons_zero, List.set_cons_succ]
          refine wpAnyH_ready (rs := [7, 11]) (by kernel_rfl) (by simp) ?_
          refine AllReadyH.cons rfl (fun K hK => ?_) (AllReadyH.cons rfl (fun K hK => ?_) AllReadyH.nil)
          · refine step_app_r (by rfl) (.const (.slice none 0 0)) (.tmp 24) 26 rfl _ _ _ rfl rfl hrun1 ?_
            refine hK.out _ _ trivial (fun hHeld2 => ?_)
            clear hK K hHeld
            have hHeld := hHeld2
            clear hHeld2
            try simp only [Act.put, List.getElem_toArray, List.getElem_cons_zero, List.getElem_cons_succ, List.setIfInBounds_toArray, List.set_cons_zero, List.set_cons_succ]
            refine wpAnyH_ready (rs := [11]) (by kernel_rfl) (by simp) ?_
            refine AllReadyH.cons rfl (fun K hK => ?_) AllReadyH.nil
            · go_simp
              refine hK.out _ _ trivial (fun hHeld2 => ?_)
              clear hK K hHeld
              have hHeld := hHeld2
              clear hHeld2
              try simp only [Act.put, List.getElem_toArray, List.getElem_cons_zero, List.getElem_cons_succ, List.setIfInBounds_toArray, List.set_cons_zero, List.set_cons_succ]
              refine wpAnyH_take (i := 14) (v := ?_) rfl (by kernel_rfl) (by kernel_rfl) (by kernel_rfl) (fun _ _ _ h => h) (Or.inl ⟨by rfl, ?_⟩) (by assumption) ?_
              rotate_left
              · intro w hSw
                (try dsimp only at hSw)
                go_simp
                try (with_reducible rfl)
              try simp only [Act.put, List.getElem_toArray, List.getElem_cons_zero, List.getElem_cons_succ, List.setIfInBounds_toArray, List.set_cons_zero, List.set_cons_succ]
              refine wpAnyH_ready (rs := [15]) (by kernel_rfl) (by simp) ?_
              refine AllReadyH.cons rfl (fun K hK => ?_) AllReadyH.nil
              refine step_app_r (by rfl) (.tmp 25) (.tmp 32) 26 rfl _ _ _ rfl rfl hrun2 ?_
              refine hK.out _ _ trivial (fun hHeld2 => ?_)
              clear hK K hHeld
              have hHeld := hHeld2
              clear hHeld2
              try simp only [Act.put, List.getElem_toArray, List.getElem_cons_zero, List.getElem_cons_succ, List.setIfInBounds_toArray, List.set_cons_zero, List.set_cons_succ]
              refine wpAnyH_take (i := 16) (v := ?_) rfl (by kernel_rfl) (by kernel_rfl) (by kernel_rfl) (fun _ _ _ h => h) (Or.inl ⟨by rfl, ?_⟩) (by assumption) ?_
              rotate_left
              · intro w hSw
                (try dsimp only at hSw)
                go_simp
                try (with_reducible rfl)
              try simp only [Act.put, List.getElem_toArray, List.getElem_cons_zero, List.getElem_cons_succ, List.setIfInBounds_toArray, List.set_cons_zero, List.set_cons_succ]
              refine wpAnyH_take (i := 17) (v := ?_) rfl (by kernel_rfl) (by kernel_rfl) (by kernel_rfl) (fun _ _ _ h => h) (Or.inl ⟨by rfl, ?_⟩) (by assumption) ?_
              rotate_left
              · intro w hSw
                (try dsimp only at hSw)
                go_simp
                try (with_reducible rfl)
              try simp only [Act.put, List.getElem_toArray, List.getElem_cons_zero, List.getElem_cons_succ, List.setIfInBounds_toArray, List.set_cons_zero, List.set_cons_succ]
              refine wpAnyH_ready (rs := [18]) (by kernel_rfl) (by simp) ?_
              refine AllReadyH.cons rfl (fun K hK => ?_) AllReadyH.nil
              go_simp
              refine hK.out _ _ trivial (fun hHeld2 => ?_)
              clear hK K hHeld
              have hHeld := hHeld2
              clear hHeld2
              try simp only [Act.put, List.getElem_toArray, List.getElem_cons_zero, List.getElem_cons_succ, List.setIfInBounds_toArray, List.set_cons_zero, List.set_cons_succ]
              refine wpAnyH_done (by kernel_rfl) ?_ _
              go_wp2
              all_goals go_ret
              all_goals exact HEE.out
          · go_simp
            refine hK.out _ _ trivial (fun hHeld2 => ?_)
            clear hK K hHeld
            have hHeld := hHeld2
            clear hHeld2
            try simp only [Act.put, List.getElem_toArray, List.getElem_cons_zero, List.getElem_cons_succ, List.setIfInBounds_toArray, List.set_cons_zero, List.set_cons_succ]
            refine wpAnyH_take (i := 14) (v := ?_) rfl (by kernel_rfl) (by kernel_rfl) (by kernel_rfl) (fun _ _ _ h => h) (Or.inl ⟨by rfl, ?_⟩) (by assumption) ?_
            rotate_left
            · intro w hSw
              (try dsimp only at hSw)
              go_simp
              try (with_reducible rfl)
            try simp only [Act.put, List.getElem_toArray, List.getElem_cons_zero, List.getElem_cons_succ, List.setIfInBounds_toArray, List.set_cons_zero, List.set_cons_succ]
            refine wpAnyH_ready (rs := [7]) (by kernel_rfl) (by simp) ?_
            refine AllReadyH.cons rfl (fun K hK => ?_) AllReadyH.nil
            · refine step_app_r (by rfl) (.const (.slice none 0 0)) (.tmp 24) 26 rfl _ _ _ rfl rfl hrun1 ?_
              refine hK.out _ _ trivial (fun hHeld2 => ?_)
              clear hK K hHeld
              have hHeld := hHeld2
              clear hHeld2
              try simp only [Act.put, List.getElem_toArray, List.getElem_cons_zero, List.getElem_cons_succ, List.setIfInBounds_toArray, List.set_cons_zero, List.set_cons_succ]
              refine wpAnyH_ready (rs := [15]) (by kernel_rfl) (by simp) ?_
              refine AllReadyH.cons rfl (fun K hK => ?_) AllReadyH.nil
              refine step_app_r (by rfl) (.tmp 25) (.tmp 32) 26 rfl _ _ _ rfl rfl hrun2 ?_
              refine hK.out _ _ trivial (fun hHeld2 => ?_)
              clear hK K hHeld
              have hHeld := hHeld2
              clear hHeld2
              try simp only [Act.put, List.getElem_toArray, List.getElem_cons_zero, List.getElem_cons_succ, List.setIfInBounds_toArray, List.set_cons_zero, List.set_cons_succ]
              refine wpAnyH_take (i := 16) (v := ?_) rfl (by kernel_rfl) (by kernel_rfl) (by kernel_rfl) (fun _ _ _ h => h) (Or.inl ⟨by rfl, ?_⟩) (by assumption) ?_
              rotate_left
              · intro w hSw
                (try dsimp only at hSw)
                go_simp
                try (with_reducible rfl)
              try simp only [Act.put, List.getElem_toArray, List.getElem_cons_zero, List.getElem_cons_succ, List.setIfInBounds_toArray, List.set_cons_zero, List.set_cons_succ]
              refine wpAnyH_take (i := 17) (v := ?_) rfl (by kernel_rfl) (by kernel_rfl) (by kernel_rfl) (fun _ _ _ h => h) (Or.inl ⟨by rfl, ?_⟩) (by assumption) ?_
              rotate_left
              · intro w hSw
                (try dsimp only at hSw)
                go_simp
                try (with_reducible rfl)
              try simp only [Act.put, List.getElem_toArray, List.getElem_cons_zero, List.getElem_cons_succ, List.setIfInBounds_toArray, List.set_cons_zero, List.set_cons_succ]
              refine wpAnyH_ready (rs := [18]) (by kernel_rfl) (by simp) ?_
              refine AllReadyH.cons rfl (fun K hK => ?_) AllReadyH.nil
              go_simp
              refine hK.out _ _ trivial (fun hHeld2 => ?_)
              clear hK K hHeld
              have hHeld := hHeld2
              clear hHeld2
              try simp only [Act.put, List.getElem_toArray, List.getElem_cons_zero, List.getElem_cons_succ, List.setIfInBounds_toArray, List.set_cons_zero, List.set_cons_succ]
              refine wpAnyH_done (by kernel_rfl) ?_ _
              go_wp2
              all_goals go_ret
              all_goals exact HEE.out
        · go_simp
          refine hK.out _ _ trivial (fun hHeld2 => ?_)
          clear hK K hHeld
          have hHeld := hHeld2
          clear hHeld2
          try simp only [Act.put, List.getElem_toArray, List.getElem_cons_zero, List.getElem_cons_succ, List.setIfInBounds_toArray, List.set_cons_zero, List.set_cons_succ]
          refine wpAnyH_take (i := 14) (v := ?_) rfl (by kernel_rfl) (by kernel_rfl) (by kernel_rfl) (fun _ _ _ h => h) (Or.inl ⟨by rfl, ?_⟩) (by assumption) ?_
          rotate_left
          · intro w hSw
            (try dsimp only at hSw)
            go_simp
            try (with_reducible rfl)
          try simp only [Act.put, List.getElem_toArray, List.getElem_cons_zero, List.getElem_cons_succ, List.setIfInBounds_toArray, List.set_cons_zero, List.set_cons_succ]
          refine wpAnyH_ready (rs := [4]) (by kernel_rfl) (by simp) ?_
          refine AllReadyH.cons rfl (fun K hK => ?_) AllReadyH.nil
          · go_simp
            refine hK.out _ _ trivial (fun hHeld2 => ?_)
            clear hK K hHeld
            have hHeld := hHeld2
            clear hHeld2
            try simp only [Act.put, List.getElem_toArray, List.getElem_cons_zero, List.getElem_cons_succ, List.setIfInBounds_toArray, List.set_cons_zero, List.set_cons_succ]
            refine wpAnyH_take (i := 6) (v := ?_) rfl (by kernel_rfl) (by kernel_rfl) (by kernel_rfl) (fun _ _ _ h => h) (Or.inl ⟨by rfl, ?_⟩) (by assumption) ?_
            rotate_left
            · intro w hSw
              (try dsimp only at hSw)
              go_simp
              try (with_reducible rfl)
            try simp only [Act.put, List.getElem_toArray, List.getElem_cons_zero, List.getElem_cons_succ, List.setIfInBounds_toArray, List.set_cons_zero, List.set_cons_succ]
            refine wpAnyH_ready (rs := [7]) (by kernel_rfl) (by simp) ?_
            refine AllReadyH.cons rfl (fun K hK => ?_) AllReadyH.nil
            · refine step_app_r (by rfl) (.const (.slice none 0 0)) (.tmp 24) 26 rfl _ _ _ rfl rfl hrun1 ?_
              refine hK.out _ _ trivial (fun hHeld2 => ?_)
              clear hK K hHeld
              have hHeld := hHeld2
              clear hHeld2
              try simp only [Act.put, List.getElem_toArray, List.getElem_cons_zero, List.getElem_cons_succ, List.setIfInBounds_toArray, List.set_cons_zero, List.set_cons_succ]
              refine wpAnyH_ready (rs := [15]) (by kernel_rfl) (by simp) ?_
              refine AllReadyH.cons rfl (fun K hK => ?_) AllReadyH.nil
              refine step_app_r (by rfl) (.tmp 25) (.tmp 32) 26 rfl _ _ _ rfl rfl hrun2 ?_
              refine hK.out _ _ trivial (fun hHeld2 => ?_)
              clear hK K hHeld
              have hHeld := hHeld2
              clear hHeld2
              try simp only [Act.put, List.getElem_toArray, List.getElem_cons_zero, List.getElem_cons_succ, List.setIfInBounds_toArray, List.set_cons_zero, List.set_cons_succ]
              refine wpAnyH_take (i := 16) (v := ?_) rfl (by kernel_rfl) (by kernel_rfl) (by kernel_rfl) (fun _ _ _ h => h) (Or.inl ⟨by rfl, ?_⟩) (by assumption) ?_
              rotate_left
              · intro w hSw
                (try dsimp only at hSw)
                go_simp
                try (with_reducible rfl)
              try simp only [Act.put, List.getElem_toArray, List.getElem_cons_zero, List.getElem_cons_succ, List.setIfInBounds_toArray, List.set_cons_zero, List.set_cons_succ]
              refine wpAnyH_take (i := 17) (v := ?_) rfl (by kernel_rfl) (by kernel_rfl) (by kernel_rfl) (fun _ _ _ h => h) (Or.inl ⟨by rfl, ?_⟩) (by assumption) ?_
              rotate_left
              · intro w hSw
                (try dsimp only at hSw)
                go_simp
                try (with_reducible rfl)
              try simp only [Act.put, List.getElem_toArray, List.getElem_cons_zero, List.getElem_cons_succ, List.setIfInBounds_toArray, List.set_cons_zero, List.set_cons_succ]
              refine wpAnyH_ready (rs := [18]) (by kernel_rfl) (by simp) ?_
              refine AllReadyH.cons rfl (fun K hK => ?_) AllReadyH.nil
              go_simp
              refine hK.out _ _ trivial (fun hHeld2 => ?_)
              clear hK K hHeld
              have hHeld := hHeld2
              clear hHeld2
              try simp only [Act.put, List.getElem_toArray, List.getElem_cons_zero, List.getElem_cons_succ, List.setIfInBounds_toArray, List.set_cons_zero, List.set_cons_succ]
              refine wpAnyH_done (by kernel_rfl) ?_ _
              go_wp2
              all_goals go_ret
              all_goals exact HEE.out
      · exact absurd HM.out hne
  · have hend : RfEnd w B p (RFoot p lv L) (s.drop n) (.returned (.int .i64 (mustE s n))) w := by
      unfold St.drop
      rw [act_err' _ _ _ hm]
      exact ⟨_, rfl, ⟨lv, L, nn, h, hk, rfl, hf⟩, SC.refl _ _⟩
    obtain ⟨r, hr⟩ : ∃ r, mustE s n = r := ⟨_, rfl⟩
    rw [hr] at hend hm
    have HBG := Lib.hid hbg
    have HEND := Lib.hid hend
    have HR := Lib.hid hr
    clear hbg hend h hk hf hr
    go_enter Try.func15, Try.ntmps15
    go_wp2_with fail
    refine HBG.out.mono ?_
    rintro e w1 ⟨rfl, ⟨h0, _⟩ | ⟨_, rfl⟩⟩
    · exact absurd (HR.out.symm.trans h0) hm
    rw [HR.out]
    go_wp2_with fail
    go_ret
    exact HEND.out
end
end Go.Proofs.Ytfafonfphholmaa

/-
  The document's store: Cut. A contract over the program.
-/
import Derived.Test.YtfafonfphholmaaRfSync
namespace Go.Proofs.Ytfafonfphholmaa
open Go.RowKit

section
variable {w w' : World} {B p : Nat} {lv : Value} {L : List RE} {de ar : Bool} {nn : Int} {s : St} {F : Nat → Prop}

theorem rise_inj (hr : L.Pairwise (fun x y => x.k.n < y.k.n)) {x y : RE} (hx : x ∈ L) (hy : y ∈ L) (he : x.k.n = y.k.n) : x = y := by
  induction L with
  | nil => cases hx
  | cons z r ih =>
    obtain ⟨b1, b2⟩ := List.pairwise_cons.1 hr
    rcases List.mem_cons.1 hx with rfl | hx'
    · rcases List.mem_cons.1 hy with rfl | hy'
      · rfl
      · have := b1 y hy'; omega
    · rcases List.mem_cons.1 hy with rfl | hy'
      · have := b1 x hx'; omega
      · exact ih b2 hx' hy'
/-- One block of the list is turned, whatever the steps. -/
theorem RefAt.updW (h : RefAt w B p lv L de ar nn) {g c : Nat} (hv : lv = .slice (some ⟨g, 0, none⟩) L.length c) (i : Nat) (e e' : RE) (he : L[i]? = some e) (ht : Trn w w' (fun k => k = g))
    (hl : w'.ownsRow B 53 4 lv L.length (rcs (L.set i e'))) (ho : Own .u8 5 w B e'.v e'.k.xs) (hlen : e'.k.xs.length ≤ 1099511627776) (hs : e'.k.s ≤ e'.k.xs.length) (hn : e'.k.n = e.k.n) :
    RefAt w' B p lv (L.set i e') de ar nn := by
  have hg : lv.ownBlock = some g := by rw [hv]; rfl
  have hmem : ∀ x ∈ L.set i e', x ∈ L ∨ x = e' := fun x hx => List.mem_or_eq_of_mem_set hx
  refine ⟨ht.rowIs h.row (fun e1 => h.p_ne.1 (by rw [hg, e1])), by rw [List.length_set]; exact hl, fun x hx => ?_, fun x hx => ?_, ?_, h.gep, by rw [List.length_set]; exact h.many, fun x hx => ?_, h.nn1, h.nn2, h.fuse⟩
  · rcases hmem x hx with h2 | rfl
    · exact ht.own (h.each x h2) (fun k hk e1 => h.l_ne g hg x h2 (by rw [hk, e1]))
    · exact ht.own ho (fun k hk e1 => rows_ne h.list (own_row ho) (by decide) g hg (by rw [hk, e1]))
  · rcases hmem x hx with h2 | rfl
    · exact h.len x h2
    · exact hlen
  · have h3 : (L.set i e').map (fun x => x.k.n) = L.map (fun x => x.k.n) := by
      rw [List.map_set, hn]
      apply List.ext_getElem?
      intro k
      rw [List.getElem?_set]
      split
      · rename_i hk
        subst hk
        rw [List.getElem?_map, he, List.length_map, if_pos (List.getElem?_eq_some_iff.1 he).1]
        rfl
      · rfl
    have h4 : (L.map (fun x => x.k.n)).Pairwise (fun a b => a < b) := by rw [List.pairwise_map]; exact h.rise
    rw [← h3, List.pairwise_map] at h4
    exact h4
  · rcases hmem x hx with h2 | rfl
    · exact h.sle x h2
    · exact hs
theorem cutE_of (h : RefAt w B p lv L de ar nn) (hk : L.map (·.k) = s.bs) {i : Nat} {x : RE} (hx : L[i]? = some x) (n j : Int) (hn : x.k.n = n) (hm : mustE s n = 0) : cutE s n j = if j < 0 ∨ (x.k.xs.length : Int) < j then 1 else 0 := by
  have hmem := List.mem_of_getElem? hx
  have hany : (s.bs.any fun k => decide (k.n = n) && decide ((k.xs.length : Int) < j)) = decide ((x.k.xs.length : Int) < j) := by
    rw [← hk, List.any_map]
    by_cases h1 : (x.k.xs.length : Int) < j
    · rw [decide_eq_true h1, List.any_eq_true]
      exact ⟨x, hmem, by simp [hn, h1]⟩
    · rw [decide_eq_false h1, List.any_eq_false]
      intro y hy
      simp only [Function.comp, Bool.and_eq_true, decide_eq_true_eq, not_and]
      intro h2
      have := rise_inj h.rise hy hmem (h2.trans hn.symm)
      subst this
      exact h1
  unfold cutE
  rw [if_neg (by rw [hm]; simp), hany]
  simp

set_option maxRecDepth 10000 in
set_option maxHeartbeats 4000000 in
theorem rfcut_any (h : RefIs w B p s F) (n j : Int) (hj : j ≤ 9223372036854775807) : Calls Try.prog 13 #[.pointer (some ⟨p, 0, none⟩), .int .i64 n, .int .i64 j] w (RfEnd w B p F (s.cut n j)) := by
  obtain ⟨lv, L, nn, h, hk, rfl, hf⟩ := h
  have hbg := begin_any h hk n
  by_cases hm : mustE s n = 0
  · have hce := fun i x (hx : L[i]? = some x) hn => cutE_of (s := s) h hk hx n j hn hm
    have hs0 := h.r0
    have hmany := h.many
    have herr : ∀ i (x : RE), L[i]? = some x → x.k.n = n → (j < 0 ∨ (x.k.xs.length : Int) < j) → RfEnd w B p (RFoot p lv L) (s.cut n j) (.returned (.int .i64 1)) w := fun i x hx hn hb => by
      unfold St.cut
      rw [hce i x hx hn, if_pos hb, act_err' _ _ _ (by decide)]
      exact ⟨_, rfl, ⟨lv, L, nn, h, hk, rfl, hf⟩, SC.refl _ _⟩
    have hyes : s.fu = true ∧ s.lf = 0 → ∀ i (x : RE), L[i]? = some x → x.k.n = n → ¬ (j < 0 ∨ (x.k.xs.length : Int) < j) → Calls Try.prog 28 #[.pointer (some ⟨p, 0, none⟩)] w fun e w' => e = .returned (.bool true) ∧ RfEnd w B p (RFoot p lv L) (s.cut n j) (.returned (.int .i64 6)) w' := fun hst i x hx hn hb => by
      have h' := h
      rw [hst.1, (hf hst.1).trans hst.2] at h'
      refine (stops_yes h').mono ?_
      rintro e w' ⟨rfl, h1, h2⟩
      refine ⟨rfl, ?_⟩
      unfold St.cut
      rw [hce i x hx hn, if_neg hb, act_fuse' _ _ hst]
      exact rf_end (ar := s.fu) (nn := 0) (by rw [hst.1]; exact h1) hk (fun _ => hst.2.symm) ⟨h2.mono (fun k _ hk => .inl hk), fun k hk => .inl hk⟩
    have hno : ¬ (s.fu = true ∧ s.lf = 0) → Calls Try.prog 28 #[.pointer (some ⟨p, 0, none⟩)] w (StopNo w B p lv L s.de s.fu nn) := fun hst => stops_no h (fun e => hst ⟨e.1, (hf e.1).symm.trans e.2⟩)
    have hend : ¬ (s.fu = true ∧ s.lf = 0) → ∀ i x, L[i]? = some x → x.k.n = n → ∀ (jn : Nat), j = (jn : Int) → jn ≤ x.k.xs.length → ∀ w2 nn', RefAt w2 B p lv L s.de s.fu nn' → (s.fu = true → nn' = nn - 1) → Trn w w2 (fun k => k = p) → ∀ g c, lv = .slice (some ⟨g, 0, none⟩) L.length c →
        ∀ w3 A' c', Own .u8 5 w3 B (.slice A' jn c') (x.k.xs.take jn) → w2.grownBy w3 none → (∀ k, (Value.slice A' jn c').ownBlock = some k → w2.heap.size ≤ k) →
        RfEnd w B p (RFoot p lv L) (s.cut n j) (.returned (.int .i64 0)) (((w3.setCell ⟨g, i * 4 + 1, none⟩ (.slice A' jn c')).setCell ⟨g, i * 4 + 2, none⟩ (.int .i64 (jn : Nat))).setCell ⟨g, i * 4 + 3, none⟩ (.bool true)) := fun hst i x hx hxn jn hjn hjl w2 nn' h1 h2 h3 g c hv w3 A' c' ho hg3 hnew => by
      have hnb : ¬ (j < 0 ∨ (x.k.xs.length : Int) < j) := by omega
      unfold St.cut
      rw [hce i x hx hxn, if_neg hnb, act_do' _ _ hst]
      have hb3 : Below w2.heap.size w2 w3 := ⟨hg3.os, hg3.tape, hg3.output, hg3.size, fun k hk => hg3.block k hk (by simp)⟩
      have h4 := h1.later hb3
      have hlx := h1.len x (List.mem_of_getElem? hx)
      have hil : i < L.length := (List.getElem?_eq_some_iff.1 hx).1
      have htl : (x.k.xs.take jn).length = jn := by rw [List.length_take]; omega
      have hvv : ∀ s f, (RE.mk ⟨x.k.n, x.k.xs.take jn, s, f⟩ A' c').v = .slice A' jn c' := fun s f => by unfold RE.v; rw [htl]
      have hg : lv.ownBlock = some g := by rw [hv]; rfl
      have hl := h4.list
      rw [hv] at hl
      have hx1 : ∀ e : RE, (L.set i e)[i]? = some e := fun e => by simp [hil]
      have l1 := (hl.stored (i * 4 + 1) (.slice A' jn c')).1
      rw [rcs_set L i x ⟨⟨x.k.n, x.k.xs.take jn, x.k.s, x.k.f⟩, A', c'⟩ hx 1 (by omega) _ (by unfold RE.cs; rw [hvv]; rfl)] at l1
      have l2 := (l1.stored (i * 4 + 2) (.int .i64 (jn : Nat))).1
      rw [rcs_set _ i _ ⟨⟨x.k.n, x.k.xs.take jn, jn, x.k.f⟩, A', c'⟩ (hx1 _) 2 (by omega) _ (by unfold RE.cs; rw [hvv, hvv]; rfl), List.set_set] at l2
      have l3 := (l2.stored (i * 4 + 3) (.bool true)).1
      rw [rcs_set _ i _ ⟨⟨x.k.n, x.k.xs.take jn, jn, true⟩, A', c'⟩ (hx1 _) 3 (by omega) _ (by unfold RE.cs; rw [hvv, hvv]; rfl), List.set_set] at l3
      have hone : ∀ (W : World) (q : Nat) (v : Value), Trn W (W.setCell ⟨g, q, none⟩ v) (fun k => k = g) := fun W q v => trn_set W g q v
      have ht : Trn w3 (((w3.setCell ⟨g, i * 4 + 1, none⟩ (.slice A' jn c')).setCell ⟨g, i * 4 + 2, none⟩ (.int .i64 (jn : Nat))).setCell ⟨g, i * 4 + 3, none⟩ (.bool true)) (fun k => k = g) := trn2 (trn2 (hone _ _ _) (hone _ _ _)) (hone _ _ _)
      have hrow := h4.updW hv i x ⟨⟨x.k.n, x.k.xs.take jn, jn, true⟩, A', c'⟩ hx ht (by rw [hv]; exact l3) (by rw [hvv]; exact ho) (by show (x.k.xs.take jn).length ≤ _; omega) (by show jn ≤ (x.k.xs.take jn).length; omega) rfl
      subst hxn
      refine rf_end hrow (by rw [set_updB h1.rise i x _ hx (fun k => k.cut j.toNat) (by unfold Blk.cut; rw [hjn]; simp), hk]) (burn_of hf h2) ?_
      refine SC.trans (F' := RFoot p lv L) ⟨h3.mono (fun k _ hk => .inl hk), fun k hk => .inl hk⟩ ⟨(Trn.of_below (F := fun _ => False) hb3).trans ht (fun _ h => h.elim) (fun k _ hk => .inr (.inl (by rw [hg, hk]))), fun k hk => ?_⟩
      exact set_foot hx (fun k hk => .inr (hnew k (by rw [hvv] at hk; exact hk))) k hk
    have HBG := Lib.hid hbg
    have HERR := Lib.hid herr
    have HYES := Lib.hid hyes
    have HNO := Lib.hid hno
    have HEND := Lib.hid hend
    have HM := Lib.hid hm
    have HF0 := Lib.hid h
    clear hbg herr hyes hno hend hm hk hf hce
    go_enter Try.func13, Try.ntmps13
    go_wp2_with fail
    refine HBG.out.mono ?_
    rintro e w1 ⟨rfl, ⟨_, i, x, hx, hxn, rfl⟩ | ⟨hne, _⟩⟩
    · have HX := Lib.hid hx
      have HXN := Lib.hid hxn
      have hil : i < L.length := (List.getElem?_eq_some_iff.1 hx).1
      clear hx hxn
      obtain ⟨xl, hxl⟩ : ∃ xl, x.k.xs.length = xl := ⟨_, rfl⟩
      have HXL := Lib.hid hxl
      have hlx := h.len x (List.mem_of_getElem? HX.out)
      have hcap := (h.each x (List.mem_of_getElem? HX.out)).cap
      rw [hxl] at hlx hcap
      clear hxl
      rcases h.form with ⟨_, h9⟩ | ⟨g, c, hv, hlc, hcm, hB, hg, hcells, hfr⟩
      · rw [h9] at hil; simp at hil
      obtain ⟨_, c1, _, _⟩ := hcells i x HX.out
      have hpg : g ≠ p := fun e => h.p_ne.1 (by rw [hv, e]; rfl)
      have HV := Lib.hid hv
      rw [hv] at hs0
      obtain ⟨m, hml⟩ : ∃ m, L.length = m := ⟨_, rfl⟩
      rw [hml] at hs0 hil hlc hmany
      unfold RE.v at c1
      rw [HXL.out] at c1
      have HML := Lib.hid hml
      have i1 : (i : Int) < (m : Int) := by omega
      have i2 : (0 : Int) ≤ (i : Int) := by omega
      clear hv hcells hfr hml h
      by_cases hbad : j < 0 ∨ (xl : Int) < j
      · have HE := Lib.hid (HERR.out i x HX.out HXN.out (by rw [HXL.out]; exact hbad))
        rcases (show j < 0 ∨ (¬ j < 0 ∧ (xl : Int) < j) by omega) with b0 | ⟨b0, b1⟩
        · clear hbad
          go_wp2_with fail
          go_ret
          exact HE.out
        · clear hbad
          go_wp2_with fail
          go_ret
          exact HE.out
      · obtain ⟨jn, rfl⟩ : ∃ jn : Nat, j = (jn : Int) := ⟨j.toNat, by omega⟩
        have b0 : ¬ (jn : Int) < 0 := by omega
        have b1 : ¬ (xl : Int) < (jn : Int) := by omega
        by_cases hst : s.fu = true ∧ s.lf = 0
        · have HY := Lib.hid (HYES.out hst i x HX.out HXN.out (by rw [HXL.out]; exact hbad))
          clear hbad
          go_wp2_with fail
          refine HY.out.mono ?_
          rintro e w2 ⟨rfl, h1⟩
          have H1 := Lib.hid h1
          clear h1
          go_wp2_with fail
          go_ret
          exact H1.out
        · have HN := Lib.hid (HNO.out hst)
          have HE := Lib.hid (HEND.out hst i x HX.out HXN.out jn rfl (by rw [HXL.out]; omega))
          clear hbad
          go_wp2_with fail
          refine HN.out.mono ?_
          rintro e w2 ⟨rfl, ⟨nn', h1, h2⟩, h3⟩
          have s0 := h1.r0
          rw [HV.out, HML.out] at s0
          obtain ⟨_, c1', c2', c3'⟩ : _ ∧ _ ∧ _ ∧ _ := by
            rcases h1.form with ⟨h8, _⟩ | ⟨g', c', hv', _, _, _, _, hcells, _⟩
            · rw [HV.out] at h8; cases h8
            · rw [HV.out] at hv'
              cases hv'
              exact hcells i x HX.out
          have ff : ∀ q, w2.frozen? ⟨g, q, none⟩ = false := by
            rcases h1.form with ⟨h8, _⟩ | ⟨g', c', hv', _, _, _, _, _, hfr⟩
            · rw [HV.out] at h8; cases h8
            · rw [HV.out] at hv'
              cases hv'
              exact hfr
          unfold RE.v at c1'
          rw [HXL.out] at c1'
          have b2 : jn ≤ x.c := by omega
          have b3 : (jn : Int) ≤ (x.c : Int) := by omega
          have hgl : g < w2.heap.size := World.block_lt_of_cell? w2 _ c1'
          have hB2 : B ≤ w2.heap.size := by omega
          have hrd := (h1.each x (List.mem_of_getElem? HX.out)).rd
          have htl : (x.k.xs.take jn).length = jn := by rw [List.length_take, HXL.out]; omega
          obtain ⟨A', d', w3, hrun, ho', hg', hb'⟩ := run_app_f (P := Try.prog) w2.drew .u8 29 29 5 (.int .u8 0) 1 Try.underlying29 info_byte rfl B (.slice none 0 0) [] (Own.nil _ _ _ _) x.A jn x.c (x.k.xs.take jn) htl (hrd.take jn) (by simp; unfold maxLen; omega) (by simp; omega) hB2
          simp only [List.length_nil, Nat.zero_add, List.nil_append] at hrun ho' hb'
          have hg3 : w2.grownBy w3 none := ⟨hg'.os, hg'.tape, hg'.output, hg'.size, hg'.block⟩
          have HEE := Lib.hid (HE.out w2 nn' h1 h2 h3 g c HV.out w3 A' d' ho' hg3 (fun k hk => (hb' k hk).elim (fun e => by simp [Value.ownBlock] at e) (fun e => e)))
          have y0 := hg3.cell s0 (by simp)
          have f1 : ∀ q, w3.frozen? ⟨g, q, none⟩ = false := fun q => by rw [World.frozen?_of_block (hg3.block g hgl (by simp))]; exact ff q
          have f31 := f1 (i * 4 + 1)
          have f32 := f1 (i * 4 + 2)
          have f33 := f1 (i * 4 + 3)
          have y1 := hg3.cell c1' (by simp)
          have y2 := hg3.cell c2' (by simp)
          have y3 := hg3.cell c3' (by simp)
          have z1 := cell_far (i := i * 4 + 1) (v := .slice A' jn d') y0 hpg
          have z2 := cell_far (i := i * 4 + 2) (v := .int .i64 (jn : Nat)) z1 hpg
          have z3 := cell_far (i := i * 4 + 3) (v := .bool true) z2 hpg
          clear h1 h2 h3 ff hrd htl ho' hg' hb' hg3 f1
          go_wp2_with fail
          refine wp_region_held_drew (S := fun wi => wi.cell? ⟨p, 0, none⟩ = some (.slice (some ⟨g, 0, none⟩) m c)) (by kernel_rfl) s0 ?_
          intro hHeld
          refine wpAnyH_take (i := 0) (v := ?_) rfl (by kernel_rfl) (by kernel_rfl) (by kernel_rfl) (fun _ _ _ h => h) (Or.inl ⟨by rfl, ?_⟩) (by assumption) ?_
          rotate_left
          · intro w hSw
            (try dsimp only at hSw)
            go_simp
            try (with_reducible rfl)
          try simp only [Act.put, List.getElem_toArray, List.getElem_cons_zero, List.setIfInBounds_toArray, List.set_cons_zero, List.set_cons_succ]
          refine wpAnyH_take (i := 1) (v := ?_) rfl (by kernel_rfl) (by kernel_rfl) (by kernel_rfl) (fun _ _ _ h => h) (Or.inl ⟨by rfl, ?_⟩) (by assumption) ?_
          rotate_left
          · intro w hSw
            (try dsimp only at hSw)
            go_simp
            try (with_reducible rfl)
          try simp only [Act.put, List.getElem_toArray, List.getElem_cons_zero, List.getElem_cons_succ, List.setIfInBounds_toArray, List.set_cons_zero, List.set_cons_succ]
          refine wpAnyH_take (i := 2) (v := ?_) rfl (by kernel_rfl) (by kernel_rfl) (by kernel_rfl) (fun _ _ _ h => h) (Or.inl ⟨by rfl, ?_⟩) (by assumption) ?_
          rotate_left
          · intro w hSw
            (try dsimp only at hSw)
            go_simp
            try (with_reducible rfl)
          try simp only [Act.put, List.getElem_toArray, List.getElem_cons_zero, List.getElem_cons_succ, List.setIfInBounds_toArray, List.set_cons_zero, List.set_cons_succ]
          refine wpAnyH_take (i := 3) (v := ?_) rfl (by kernel_rfl) (by kernel_rfl) (by kernel_rfl) (fun _ _ _ h => h) (Or.inl ⟨by rfl, ?_⟩) (by assumption) ?_
          rotate_left
          · intro w hSw
            (try dsimp only at hSw)
            go_simp
            try (with_reducible rfl)
          try simp only [Act.put, List.getElem_toArray, List.getElem_cons_zero, List.getElem_cons_succ, List.setIfInBounds_toArray, List.set_cons_zero, List.set_cons_succ]
          refine wpAnyH_take (i := 4) (v := ?_) rfl (by kernel_rfl) (by kernel_rfl) (by kernel_rfl) (fun _ _ _ h => h) (Or.inl ⟨by rfl, ?_⟩) (by assumption) ?_
          rotate_left
          · intro w hSw
            (try dsimp only at hSw)
            go_simp
            try (with_reducible rfl)
          try simp only [Act.put, List.getElem_toArray, List.getElem_cons_zero, List.getElem_cons_succ, List.setIfInBounds_toArray, List.set_cons_zero, List.set_cons_succ]
          refine wpAnyH_take (i := 5) (v := ?_) rfl (by kernel_rfl) (by kernel_rfl) (by kernel_rfl) (fun _ _ _ h => h) (Or.inl ⟨by rfl, ?_⟩) (by assumption) ?_
          rotate_left
          · intro w hSw
            (try dsimp only at hSw)
            go_simp
            try (with_reducible rfl)
          try simp only [Act.put, List.getElem_toArray, List.getElem_cons_zero, List.getElem_cons_succ, List.setIfInBounds_toArray, List.set_cons_zero, List.set_cons_succ]
          refine wpAnyH_take (i := 6) (v := ?_) rfl (by kernel_rfl) (by kernel_rfl) (by kernel_rfl) (fun _ _ _ h => h) (Or.inl ⟨by rfl, ?_⟩) (by assumption) ?_
          rotate_left
          · intro w hSw
            (try dsimp only at hSw)
            go_simp
            try (with_reducible rfl)
          try simp only [Act.put, List.getElem_toArray, List.getElem_cons_zero, List.getElem_cons_succ, List.setIfInBounds_toArray, List.set_cons_zero, List.set_cons_succ]
          refine wpAnyH_take (i := 7) (v := ?_) rfl (by kernel_rfl) (by kernel_rfl) (by kernel_rfl) (fun _ _ _ h => h) (Or.inl ⟨by rfl, ?_⟩) (by assumption) ?_
          rotate_left
          · intro w hSw
            (try dsimp only at hSw)
            go_simp
            try (with_reducible rfl)
          try simp only [Act.put, List.getElem_toArray, List.getElem_cons_zero, List.getElem_cons_succ, List.setIfInBounds_toArray, List.set_cons_zero, List.set_cons_succ]
          refine wpAnyH_take (i := 8) (v := ?_) rfl (by kernel_rfl) (by kernel_rfl) (by kernel_rfl) (fun _ _ _ h => h) (Or.inl ⟨by rfl, ?_⟩) (by assumption) ?_
          rotate_left
          · intro w hSw
            (try dsimp only at hSw)
            go_simp
            try (with_reducible rfl)
          try simp only [Act.put, List.getElem_toArray, List.getElem_cons_zero, List.getElem_cons_succ, List.setIfInBounds_toArray, List.set_cons_zero, List.set_cons_succ]
          refine wpAnyH_take (i := 9) (v := ?_) rfl (by kernel_rfl) (by kernel_rfl) (by kernel_rfl) (fun _ _ _ h => h) (Or.inl ⟨by rfl, ?_⟩) (by assumption) ?_
          rotate_left
          · intro w hSw
            (try dsimp only at hSw)
            go_simp
            try (with_reducible rfl)
          try simp only [Act.put, List.getElem_toArray, List.getElem_cons_zero, List.getElem_cons_succ, List.setIfInBounds_toArray, List.set_cons_zero, List.set_cons_succ]
          refine wpAnyH_take (i := 10) (v := ?_) rfl (by kernel_rfl) (by kernel_rfl) (by kernel_rfl) (fun _ _ _ h => h) (Or.inl ⟨by rfl, ?_⟩) (by assumption) ?_
          rotate_left
          · intro w hSw
            (try dsimp only at hSw)
            go_simp
            try (with_reducible rfl)
          try simp only [Act.put, List.getElem_toArray, List.getElem_cons_zero, List.getElem_cons_succ, List.setIfInBounds_toArray, List.set_cons_zero, List.set_cons_succ]
          refine wpAnyH_take (i := 11) (v := ?_) rfl (by kernel_rfl) (by kernel_rfl) (by kernel_rfl) (fun _ _ _ h => h) (Or.inl ⟨by rfl, ?_⟩) (by assumption) ?_
          rotate_left
          · intro w hSw
            (try dsimp only at hSw)
            go_simp
            try (with_reducible rfl)
          try simp only [Act.put, List.getElem_toArray, List.getElem_cons_zero, List.getElem_cons_succ, List.setIfInBounds_toArray, List.set_cons_zero, List.set_cons_succ]
          refine wpAnyH_take (i := 12) (v := ?_) rfl (by kernel_rfl) (by kernel_rfl) (by kernel_rfl) (fun _ _ _ h => h) (Or.inl ⟨by rfl, ?_⟩) (by assumption) ?_
          rotate_left
          · intro w hSw
            (try dsimp only at hSw)
            go_simp
            try (with_reducible rfl)
          try simp only [Act.put, List.getElem_toArray, List.getElem_cons_zero, List.getElem_cons_succ, List.setIfInBounds_toArray, List.set_cons_zero, List.set_cons_succ]
          refine wpAnyH_take (i := 13) (v := ?_) rfl (by kernel_rfl) (by kernel_rfl) (by kernel_rfl) (fun _ _ _ h => h) (Or.inl ⟨by rfl, ?_⟩) (by assumption) ?_
          rotate_left
          · intro w hSw
            (try dsimp only at hSw)
            go_simp
            try (with_reducible rfl)
          try simp only [Act.put, List.getElem_toArray, List.getElem_cons_zero, List.getElem_cons_succ, List.setIfInBounds_toArray, List.set_cons_zero, List.set_cons_succ]
          refine wpAnyH_take (i := 14) (v := ?_) rfl (by kernel_rfl) (by kernel_rfl) (by kernel_rfl) (fun _ _ _ h => h) (Or.inl ⟨by rfl, ?_⟩) (by assumption) ?_
          rotate_left
          · intro w hSw
            (try dsimp only at hSw)
            go_simp
            try (with_reducible rfl)
          try simp only [Act.put, List.getElem_toArray, List.getElem_cons_zero, List.getElem_cons_succ, List.setIfInBounds_toArray, List.set_cons_zero, List.set_cons_succ]
          refine wpAnyH_take (i := 15) (v := ?_) rfl (by kernel_rfl) (by kernel_rfl) (by kernel_rfl) (fun _ _ _ h => h) (Or.inl ⟨by rfl, ?_⟩) (by assumption) ?_
          rotate_left
          · intro w hSw
            (try dsimp only at hSw)
            go_simp
            try (with_reducible rfl)
          try simp only [Act.put, List.getElem_toArray, List.getElem_cons_zero, List.getElem_cons_succ, List.setIfInBounds_toArray, List.set_cons_zero, List.set_cons_succ]
          refine wpAnyH_take (i := 16) (v := ?_) rfl (by kernel_rfl) (by kernel_rfl) (by kernel_rfl) (fun _ _ _ h => h) (Or.inl ⟨by rfl, ?_⟩) (by assumption) ?_
          rotate_left
          · intro w hSw
            (try dsimp only at hSw)
            go_simp
            try (with_reducible rfl)
          try simp only [Act.put, List.getElem_toArray, List.getElem_cons_zero, List.getElem_cons_succ, List.setIfInBounds_toArray, List.set_cons_zero, List.set_cons_succ]
          refine wpAnyH_take (i := 17) (v := ?_) rfl (by kernel_rfl) (by kernel_rfl) (by kernel_rfl) (fun _ _ _ h => h) (Or.inl ⟨by rfl, ?_⟩) (by assumption) ?_
          rotate_left
          · intro w hSw
            (try dsimp only at hSw)
            go_simp
            try (with_reducible rfl)
          try simp only [Act.put, List.getElem_toArray, List.getElem_cons_zero, List.getElem_cons_succ, List.setIfInBounds_toArray, List.set_cons_zero, List.set_cons_succ]
          refine wpAnyH_take (i := 18) (v := ?_) rfl (by kernel_rfl) (by kernel_rfl) (by kernel_rfl) (fun _ _ _ h => h) (Or.inl ⟨by rfl, ?_⟩) (by assumption) ?_
          rotate_left
          · intro w hSw
            (try dsimp only at hSw)
            go_simp
            try (with_reducible rfl)
          try simp only [Act.put, List.getElem_toArray, List.getElem_cons_zero, List.getElem_cons_succ, List.setIfInBounds_toArray, List.set_cons_zero, List.set_cons_succ]
          refine wpAnyH_take (i := 19) (v := ?_) rfl (by kernel_rfl) (by kernel_rfl) (by kernel_rfl) (fun _ _ _ h => h) (Or.inl ⟨by rfl, ?_⟩) (by assumption) ?_
          rotate_left
          · intro w hSw
            (try dsimp only at hSw)
            go_simp
            try (with_reducible rfl)
          try simp only [Act.put, List.getElem_toArray, List.getElem_cons_zero, List.getElem_cons_succ, List.setIfInBounds_toArray, List.set_cons_zero, List.set_cons_succ]
          refine wpAnyH_take (i := 20) (v := ?_) rfl (by kernel_rfl) (by kernel_rfl) (by kernel_rfl) (fun _ _ _ h => h) (Or.inl ⟨by rfl, ?_⟩) (by assumption) ?_
          rotate_left
          · intro w hSw
            (try dsimp only at hSw)
            go_simp
            try (with_reducible rfl)
          try simp only [Act.put, List.getElem_toArray, List.getElem_cons_zero, List.getElem_cons_succ, List.setIfInBounds_toArray, List.set_cons_zero, List.set_cons_succ]
          refine wpAnyH_take (i := 21) (v := ?_) rfl (by kernel_rfl) (by kernel_rfl) (by kernel_rfl) (fun _ _ _ h => h) (Or.inl ⟨by rfl, ?_⟩) (by assumption) ?_
          rotate_left
          · intro w hSw
            (try dsimp only at hSw)
            go_simp
            try (with_reducible rfl)
          try simp only [Act.put, List.getElem_toArray, List.getElem_cons_zero, List.getElem_cons_succ, List.setIfInBounds_toArray, List.set_cons_zero, List.set_cons_succ]
          refine wpAnyH_take (i := 23) (v := ?_) rfl (by kernel_rfl) (by kernel_rfl) (by kernel_rfl) (fun _ _ _ h => h) (Or.inl ⟨by rfl, ?_⟩) (by assumption) ?_
          rotate_left
          · intro w hSw
            (try dsimp only at hSw)
            go_simp
            try (with_reducible rfl)
          try simp only [Act.put, List.getElem_toArray, List.getElem_cons_zero, List.getElem_cons_succ, List.setIfInBounds_toArray, List.set_cons_zero, List.set_cons_succ]
          refine wpAnyH_take (i := 26) (v := ?_) rfl (by kernel_rfl) (by kernel_rfl) (by kernel_rfl) (fun _ _ _ h => h) (Or.inl ⟨by rfl, ?_⟩) (by assumption) ?_
          rotate_left
          · intro w hSw
            (try dsimp only at hSw)
            go_simp
            try (with_reducible rfl)
          try simp only [Act.put, List.getElem_toArray, List.getElem_cons_zero, List.getElem_cons_succ, List.setIfInBounds_toArray, List.set_cons_zero, List.set_cons_succ]
          refine wpAnyH_ready (rs := [22]) (by kernel_rfl) (by simp) ?_
          refine AllReadyH.cons rfl (fun K hK => ?_) AllReadyH.nil
          go_simp
          refine hK.out _ _ s0 (fun hHeld2 => ?_)
          clear hK K hHeld
          have hHeld := hHeld2
          clear hHeld2
          try simp only [Act.put, List.getElem_toArray, List.getElem_cons_zero, List.getElem_cons_succ, List.setIfInBounds_toArray, List.set_cons_zero, List.set_cons_succ]
          refine wpAnyH_take (i := 24) (v := ?_) rfl (by kernel_rfl) (by kernel_rfl) (by kernel_rfl) (fun _ _ _ h => h) (Or.inl ⟨by rfl, ?_⟩) (by assumption) ?_
          rotate_left
          · intro w hSw
            (try dsimp only at hSw)
            go_simp
            try (with_reducible rfl)
          try simp only [Act.put, List.getElem_toArray, List.getElem_cons_zero, List.getElem_cons_succ, List.setIfInBounds_toArray, List.set_cons_zero, List.set_cons_succ]
          refine wpAnyH_ready (rs := [25]) (by kernel_rfl) (by simp) ?_
          refine AllReadyH.cons rfl (fun K hK => ?_) AllReadyH.nil
          refine step_app_r (by rfl) (.const (.slice none 0 0)) (.tmp 59) 29 rfl _ _ _ rfl rfl hrun ?_
          refine hK.out _ _ y0 (fun hHeld2 => ?_)
          clear hK K hHeld
          have hHeld := hHeld2
          clear hHeld2
          try simp only [Act.put, List.getElem_toArray, List.getElem_cons_zero, List.getElem_cons_succ, List.setIfInBounds_toArray, List.set_cons_zero, List.set_cons_succ]
          refine wpAnyH_take (i := 27) (v := ?_) rfl (by kernel_rfl) (by kernel_rfl) (by kernel_rfl) (fun _ _ _ h => h) (Or.inl ⟨by rfl, ?_⟩) (by assumption) ?_
          rotate_left
          · intro w hSw
            (try dsimp only at hSw)
            go_simp
            try (with_reducible rfl)
          try simp only [Act.put, List.getElem_toArray, List.getElem_cons_zero, List.getElem_cons_succ, List.setIfInBounds_toArray, List.set_cons_zero, List.set_cons_succ]
          refine wpAnyH_take (i := 28) (v := ?_) rfl (by kernel_rfl) (by kernel_rfl) (by kernel_rfl) (fun _ _ _ h => h) (Or.inl ⟨by rfl, ?_⟩) (by assumption) ?_
          rotate_left
          · intro w hSw
            (try dsimp only at hSw)
            go_simp
            try (with_reducible rfl)
          try simp only [Act.put, List.getElem_toArray, List.getElem_cons_zero, List.getElem_cons_succ, List.setIfInBounds_toArray, List.set_cons_zero, List.set_cons_succ]
          refine wpAnyH_ready (rs := [29]) (by kernel_rfl) (by simp) ?_
          refine AllReadyH.cons rfl (fun K hK => ?_) AllReadyH.nil
          go_simp
          refine hK.out _ _ z1 (fun hHeld2 => ?_)
          clear hK K hHeld
          have hHeld := hHeld2
          clear hHeld2
          try simp only [Act.put, List.getElem_toArray, List.getElem_cons_zero, List.getElem_cons_succ, List.setIfInBounds_toArray, List.set_cons_zero, List.set_cons_succ]
          refine wpAnyH_take (i := 30) (v := ?_) rfl (by kernel_rfl) (by kernel_rfl) (by kernel_rfl) (fun _ _ _ h => h) (Or.inl ⟨by rfl, ?_⟩) (by assumption) ?_
          rotate_left
          · intro w hSw
            (try dsimp only at hSw)
            go_simp
            try (with_reducible rfl)
          try simp only [Act.put, List.getElem_toArray, List.getElem_cons_zero, List.getElem_cons_succ, List.setIfInBounds_toArray, List.set_cons_zero, List.set_cons_succ]
          refine wpAnyH_take (i := 31) (v := ?_) rfl (by kernel_rfl) (by kernel_rfl) (by kernel_rfl) (fun _ _ _ h => h) (Or.inl ⟨by rfl, ?_⟩) (by assumption) ?_
          rotate_left
          · intro w hSw
            (try dsimp only at hSw)
            go_simp
            try (with_reducible rfl)
          try simp only [Act.put, List.getElem_toArray, List.getElem_cons_zero, List.getElem_cons_succ, List.setIfInBounds_toArray, List.set_cons_zero, List.set_cons_succ]
          refine wpAnyH_ready (rs := [32]) (by kernel_rfl) (by simp) ?_
          refine AllReadyH.cons rfl (fun K hK => ?_) AllReadyH.nil
          go_simp
          refine hK.out _ _ z2 (fun hHeld2 => ?_)
          clear hK K hHeld
          have hHeld := hHeld2
          clear hHeld2
          try simp only [Act.put, List.getElem_toArray, List.getElem_cons_zero, List.getElem_cons_succ, List.setIfInBounds_toArray, List.set_cons_zero, List.set_cons_succ]
          refine wpAnyH_take (i := 33) (v := ?_) rfl (by kernel_rfl) (by kernel_rfl) (by kernel_rfl) (fun _ _ _ h => h) (Or.inl ⟨by rfl, ?_⟩) (by assumption) ?_
          rotate_left
          · intro w hSw
            (try dsimp only at hSw)
            go_simp
            try (with_reducible rfl)
          try simp only [Act.put, List.getElem_toArray, List.getElem_cons_zero, List.getElem_cons_succ, List.setIfInBounds_toArray, List.set_cons_zero, List.set_cons_succ]
          refine wpAnyH_take (i := 34) (v := ?_) rfl (by kernel_rfl) (by kernel_rfl) (by kernel_rfl) (fun _ _ _ h => h) (Or.inl ⟨by rfl, ?_⟩) (by assumption) ?_
          rotate_left
          · intro w hSw
            (try dsimp only at hSw)
            go_simp
            try (with_reducible rfl)
          try simp only [Act.put, List.getElem_toArray, List.getElem_cons_zero, List.getElem_cons_succ, List.setIfInBounds_toArray, List.set_cons_zero, List.set_cons_succ]
          refine wpAnyH_ready (rs := [35]) (by kernel_rfl) (by simp) ?_
          refine AllReadyH.cons rfl (fun K hK => ?_) AllReadyH.nil
          go_simp
          refine hK.out _ _ z3 (fun hHeld2 => ?_)
          clear hK K hHeld
          have hHeld := hHeld2
          clear hHeld2
          try simp only [Act.put, List.getElem_toArray, List.getElem_cons_zero, List.getElem_cons_succ, List.setIfInBounds_toArray, List.set_cons_zero, List.set_cons_succ]
          refine wpAnyH_done (by kernel_rfl) ?_ _
          go_wp2
          go_ret
          exact HEE.out
    · exact absurd HM.out hne
  · have hend : RfEnd w B p (RFoot p lv L) (s.cut n j) (.returned (.int .i64 (mustE s n))) w := by
      have : cutE s n j = mustE s n := by unfold cutE; rw [if_pos hm]
      unfold St.cut
      rw [this, act_err' _ _ _ hm]
      exact ⟨_, rfl, ⟨lv, L, nn, h, hk, rfl, hf⟩, SC.refl _ _⟩
    obtain ⟨r, hr⟩ : ∃ r, mustE s n = r := ⟨_, rfl⟩
    rw [hr] at hend hm
    have HBG := Lib.hid hbg
    have HEND := Lib.hid hend
    have HR := Lib.hid hr
    clear hbg hend h hk hf hr
    go_enter Try.func13, Try.ntmps13
    go_wp2_with fail
    refine HBG.out.mono ?_
    rintro e w1 ⟨rfl, ⟨h0, _⟩ | ⟨_, rfl⟩⟩
    · exact absurd (HR.out.symm.trans h0) hm
    rw [HR.out]
    go_wp2_with fail
    go_ret
    exact HEND.out
end
end Go.Proofs.Ytfafonfphholmaa

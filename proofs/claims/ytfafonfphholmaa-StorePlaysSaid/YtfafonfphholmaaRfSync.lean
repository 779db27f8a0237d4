/-
  The document's store: Sync. A contract over the program.
-/
import Derived.Test.YtfafonfphholmaaRfActs
import Derived.Deep.RegionHeld3
import Derived.Laws.IdiomCopy
namespace Go.Proofs.Ytfafonfphholmaa
open Go.RowKit

section
variable {w w' : World} {B p : Nat} {lv : Value} {L : List RE} {de ar : Bool} {nn : Int} {s : St} {F : Nat → Prop}

theorem cell_off {w : World} {g i j : Nat} {v u : Value} (h : w.cell? ⟨g, j, none⟩ = some u) (hn : i ≠ j) : (w.setCell ⟨g, i, none⟩ v).cell? ⟨g, j, none⟩ = some u :=
  (World.cell?_setCells_out g [v] i w ⟨g, j, none⟩ (fun _ _ => by simp; omega)).trans h
theorem cell_far {w : World} {g i q j : Nat} {v u : Value} (h : w.cell? ⟨q, j, none⟩ = some u) (hn : g ≠ q) : (w.setCell ⟨g, i, none⟩ v).cell? ⟨q, j, none⟩ = some u :=
  (World.cell?_setCell_far w _ _ _ hn).trans h

theorem act_err' (s : St) (e : Int) (bs : List Blk) (h : e ≠ 0) : s.act e bs = (s, e) := by unfold St.act; rw [if_pos h]
theorem act_fuse' (s : St) (bs : List Blk) (h : s.fu = true ∧ s.lf = 0) : s.act 0 bs = (⟨s.bs, s.fu, s.lf, true⟩, 6) := by simp [St.act, h.1, h.2]
theorem act_do' (s : St) (bs : List Blk) (h : ¬ (s.fu = true ∧ s.lf = 0)) : s.act 0 bs = (⟨bs, s.fu, burn s.fu s.lf, s.de⟩, 0) := by
  unfold St.act
  rw [if_neg (by simp), if_neg (by simpa using h)]

/-- One block of the list is turned, as mathematics. -/
theorem set_updB (hr : L.Pairwise (fun x y => x.k.n < y.k.n)) (i : Nat) (e e' : RE) (he : L[i]? = some e) (g : Blk → Blk) (h1 : e'.k = g e.k) : (L.set i e').map (·.k) = updB e.k.n g (L.map (·.k)) := by
  apply List.ext_getElem?
  intro j
  unfold updB
  rw [List.map_map, List.getElem?_map, List.getElem?_map, List.getElem?_set]
  have hi : i < L.length := (List.getElem?_eq_some_iff.1 he).1
  by_cases hij : i = j
  · subst hij
    rw [if_pos rfl, if_pos hi, he]
    simp [h1]
  · rw [if_neg hij]
    cases hj : L[j]? with
    | none => rfl
    | some x =>
      have hne : x.k.n ≠ e.k.n := by
        have hjl := (List.getElem?_eq_some_iff.1 hj).1
        have e1 := (List.getElem?_eq_some_iff.1 hj).2
        have e2 := (List.getElem?_eq_some_iff.1 he).2
        rcases Nat.lt_or_gt_of_ne hij with h2 | h2
        · have := List.pairwise_iff_getElem.1 hr i j hi hjl h2
          rw [e1, e2] at this; omega
        · have := List.pairwise_iff_getElem.1 hr j i hjl hi h2
          rw [e1, e2] at this; omega
      simp [hne]
theorem set_foot {i : Nat} {e e' : RE} (he : L[i]? = some e) (hv : ∀ k, e'.v.ownBlock = some k → e.v.ownBlock = some k ∨ w.heap.size ≤ k) (k : Nat) (hk : RFoot p lv (L.set i e') k) : RFoot p lv L k ∨ w.heap.size ≤ k := by
  rcases hk with h1 | h1 | ⟨x, hx, h1⟩
  · exact .inl (.inl h1)
  · exact .inl (.inr (.inl h1))
  · rcases List.mem_or_eq_of_mem_set hx with h2 | rfl
    · exact .inl (.inr (.inr ⟨x, h2, h1⟩))
    · rcases hv k h1 with h3 | h3
      · exact .inl (.inr (.inr ⟨e, List.mem_of_getElem? he, h3⟩))
      · exact .inr h3

theorem rf_end (h : RefAt w' B p lv L de ar nn) {bs : List Blk} {lf r : Int} (hk : L.map (·.k) = bs) (hf : ar = true → nn = lf) (hs : SC w w' F (RFoot p lv L)) : RfEnd w B p F (⟨bs, ar, lf, de⟩, r) (.returned (.int .i64 r)) w' :=
  ⟨_, rfl, ⟨lv, L, nn, h, hk, rfl, hf⟩, hs⟩
theorem burn_of {fu : Bool} {lf nn nn' : Int} (hf : fu = true → nn = lf) (hn : fu = true → nn' = nn - 1) : fu = true → nn' = burn fu lf := fun e => by
  rw [hn e, hf e]; simp [burn, e]

set_option maxRecDepth 10000 in
set_option maxHeartbeats 2000000 in
theorem rfsync_any (h : RefIs w B p s F) (n : Int) : Calls Try.prog 11 #[.pointer (some ⟨p, 0, none⟩), .int .i64 n] w (RfEnd w B p F (s.sync n)) := by
  obtain ⟨lv, L, nn, h, hk, rfl, hf⟩ := h
  have hbg := begin_any h hk n
  by_cases hm : mustE s n = 0
  · by_cases hst : s.fu = true ∧ s.lf = 0
    · have h' := h
      rw [hst.1, (hf hst.1).trans hst.2] at h'
      have hsy := stops_yes h'
      have hend : ∀ w', RefAt w' B p lv L true true 0 → Trn w w' (fun k => k = p) → RfEnd w B p (RFoot p lv L) (s.sync n) (.returned (.int .i64 6)) w' := fun w' h1 h2 => by
        unfold St.sync
        rw [hm, act_fuse' _ _ hst]
        refine rf_end (ar := s.fu) (nn := 0) (by rw [hst.1]; exact h1) hk (fun _ => hst.2.symm) ⟨h2.mono (fun k _ hk => .inl hk), fun k hk => .inl hk⟩
      have HBG := Lib.hid hbg
      have HSY := Lib.hid hsy
      have HEND := Lib.hid hend
      have HM := Lib.hid hm
      clear hbg hsy hend h h' hk hf hst hm
      go_enter Try.func11, Try.ntmps11
      go_wp2_with fail
      refine HBG.out.mono ?_
      rintro e w1 ⟨rfl, ⟨_, i, x, hx, hxn, rfl⟩ | ⟨hne, _⟩⟩
      · clear hx hxn
        go_wp2_with fail
        refine HSY.out.mono ?_
        rintro e w2 ⟨rfl, h1, h2⟩
        have H1 := Lib.hid h1
        have H2 := Lib.hid h2
        clear h1 h2
        go_wp2_with fail
        go_ret
        exact HEND.out _ H1.out H2.out
      · exact absurd HM.out hne
    · have hsn := stops_no h (fun e => hst ⟨e.1, (hf e.1).symm.trans e.2⟩)
      have hend : ∀ i x, L[i]? = some x → x.k.n = n → ∀ w2 nn', RefAt w2 B p lv L s.de s.fu nn' → (s.fu = true → nn' = nn - 1) → Trn w w2 (fun k => k = p) → ∀ g c, lv = .slice (some ⟨g, 0, none⟩) L.length c → ∀ q,
          RfEnd w B p (RFoot p lv L) (s.sync n) (.returned (.int .i64 0)) (((w2.setCell ⟨g, i * 4 + 2, none⟩ (.int .i64 (x.k.xs.length : Nat))).setCell ⟨g, i * 4 + 3, none⟩ (.bool true)).drewN q) := fun i x hx hxn w2 nn' h1 h2 h3 g c hv q => by
        unfold St.sync
        rw [hm, act_do' _ _ hst]
        have ho := h1.each x (List.mem_of_getElem? hx)
        have hlx := h1.len x (List.mem_of_getElem? hx)
        have hil : i < L.length := (List.getElem?_eq_some_iff.1 hx).1
        have k1 := h1.upd hv i x ⟨⟨x.k.n, x.k.xs, x.k.xs.length, x.k.f⟩, x.A, x.c⟩ hx 2 (by omega) (.int .i64 (x.k.xs.length : Nat)) rfl ho hlx (Nat.le_refl _) rfl
        have hv1 : lv = .slice (some ⟨g, 0, none⟩) (L.set i ⟨⟨x.k.n, x.k.xs, x.k.xs.length, x.k.f⟩, x.A, x.c⟩).length c := by rw [List.length_set]; exact hv
        have hx1 : (L.set i ⟨⟨x.k.n, x.k.xs, x.k.xs.length, x.k.f⟩, x.A, x.c⟩)[i]? = some ⟨⟨x.k.n, x.k.xs, x.k.xs.length, x.k.f⟩, x.A, x.c⟩ := by simp [hil]
        have ho1 := k1.each _ (List.mem_of_getElem? hx1)
        have k2 := k1.upd hv1 i _ ⟨x.k.settle, x.A, x.c⟩ hx1 3 (by omega) (.bool true) rfl ho1 hlx (Nat.le_refl _) rfl
        rw [List.set_set] at k2
        have ht : Trn w2 ((w2.setCell ⟨g, i * 4 + 2, none⟩ (.int .i64 (x.k.xs.length : Nat))).setCell ⟨g, i * 4 + 3, none⟩ (.bool true)) (fun k => k = g) := trn2 (trn_set _ g _ _) (trn_set _ g _ _)
        have hb : Below ((w2.setCell ⟨g, i * 4 + 2, none⟩ (.int .i64 (x.k.xs.length : Nat))).setCell ⟨g, i * 4 + 3, none⟩ (.bool true)).heap.size ((w2.setCell ⟨g, i * 4 + 2, none⟩ (.int .i64 (x.k.xs.length : Nat))).setCell ⟨g, i * 4 + 3, none⟩ (.bool true)) (((w2.setCell ⟨g, i * 4 + 2, none⟩ (.int .i64 (x.k.xs.length : Nat))).setCell ⟨g, i * 4 + 3, none⟩ (.bool true)).drewN q) := ⟨rfl, rfl, rfl, Nat.le_refl _, fun _ _ => rfl⟩
        have k3 := k2.later hb
        subst hxn
        refine rf_end k3 (by rw [set_updB h1.rise i x _ hx Blk.settle rfl, hk]) (burn_of hf h2) ?_
        have hg : lv.ownBlock = some g := by rw [hv]; rfl
        refine SC.trans (F' := RFoot p lv L) ⟨h3.mono (fun k _ hk => .inl hk), fun k hk => .inl hk⟩ (SC.trans (F' := RFoot p lv (L.set i ⟨x.k.settle, x.A, x.c⟩)) ⟨ht.mono (fun k _ hk => .inr (.inl (by rw [hg, hk]))), fun k hk => ?_⟩ (SC.of_below hb))
        exact set_foot (e' := ⟨x.k.settle, x.A, x.c⟩) hx (fun k hk => .inl hk) k hk
      have HBG := Lib.hid hbg
      have HSN := Lib.hid hsn
      have HEND := Lib.hid hend
      have HM := Lib.hid hm
      clear hbg hsn hend h hk hf hst hm
      go_enter Try.func11, Try.ntmps11
      go_wp2_with fail
      refine HBG.out.mono ?_
      rintro e w1 ⟨rfl, ⟨_, i, x, hx, hxn, rfl⟩ | ⟨hne, _⟩⟩
      · have HX := Lib.hid hx
        have HXN := Lib.hid hxn
        clear hx hxn
        go_wp2_with fail
        refine HSN.out.mono ?_
        rintro e w2 ⟨rfl, ⟨nn', h1, h2⟩, h3⟩
        have s0 := h1.r0
        have hil : i < L.length := (List.getElem?_eq_some_iff.1 HX.out).1
        have hmany := h1.many
        rcases h1.form with ⟨_, h9⟩ | ⟨g, c, hv, hlc, hcm, hB, hg, hcells, hfr⟩
        · rw [h9] at hil; simp at hil
        obtain ⟨_, c1, _, _⟩ := hcells i x HX.out
        have f2 := hfr (i * 4 + 2)
        have f3 := hfr (i * 4 + 3)
        have hpg : g ≠ p := fun e => h1.p_ne.1 (by rw [hv, e]; rfl)
        have H1 := Lib.hid h1
        have H2 := Lib.hid h2
        have H3 := Lib.hid h3
        have HV := Lib.hid hv
        have HLX := Lib.hid (h1.len x (List.mem_of_getElem? HX.out))
        rw [hv] at s0
        obtain ⟨m, hml⟩ : ∃ m, L.length = m := ⟨_, rfl⟩
        rw [hml] at s0 hil hlc hmany
        unfold RE.v at c1
        obtain ⟨xl, hxl⟩ : ∃ xl, x.k.xs.length = xl := ⟨_, rfl⟩
        rw [hxl] at c1
        have HXL := Lib.hid hxl
        have HML := Lib.hid hml
        have i1 : (i : Int) < (m : Int) := by omega
        have i2 : (0 : Int) ≤ (i : Int) := by omega
        clear h1 h2 h3 hv hcells hfr hml hxl
        have a0 := fun v => cell_far (i := i * 4 + 2) (v := v) s0 hpg
        have a1 := fun v => cell_off (i := i * 4 + 2) (v := v) c1 (by omega)
        have b0 := fun v u => cell_far (i := i * 4 + 3) (v := v) (a0 u) hpg
        have b1 := fun v u => cell_off (i := i * 4 + 3) (v := v) (a1 u) (by omega)
        go_wp2_with fail
        go_region_held3 (fun wi => wi.cell? ⟨p, 0, none⟩ = some (.slice (some ⟨g, 0, none⟩) m c) ∧ wi.cell? ⟨g, i * 4 + 1, none⟩ = some (.slice x.A xl x.c))
          (first
            | exact ⟨s0, c1⟩
            | exact ⟨a0 _, a1 _⟩
            | exact ⟨b0 _ _, b1 _ _⟩
            | assumption)
          (fail)
        go_wp2_with fail
        go_ret
        have := HEND.out i x HX.out HXN.out w2 nn' H1.out H2.out H3.out g c HV.out
        rw [HXL.out] at this
        first
          | exact this 1
          | exact this 0
          | exact this 2
      · exact absurd HM.out hne
  · have hend : RfEnd w B p (RFoot p lv L) (s.sync n) (.returned (.int .i64 (mustE s n))) w := by
      unfold St.sync
      rw [act_err' _ _ _ hm]
      exact ⟨_, rfl, ⟨lv, L, nn, h, hk, rfl, hf⟩, SC.refl _ _⟩
    obtain ⟨r, hr⟩ : ∃ r, mustE s n = r := ⟨_, rfl⟩
    rw [hr] at hend hm
    have HBG := Lib.hid hbg
    have HEND := Lib.hid hend
    have HR := Lib.hid hr
    clear hbg hend h hk hf hr
    go_enter Try.func11, Try.ntmps11
    go_wp2_with fail
    refine HBG.out.mono ?_
    rintro e w1 ⟨rfl, ⟨h0, _⟩ | ⟨_, rfl⟩⟩
    · exact absurd (HR.out.symm.trans h0) hm
    rw [HR.out]
    go_wp2_with fail
    go_ret
    exact HEND.out
end
end Go.Proofs.Ytfafonfphholmaa

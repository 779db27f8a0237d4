/-
  PrEn2.
-/
import Derived.Test.YtpjlnpnadkbakaaGreatQEcPrEnd
namespace Go.Proofs.YtpjlnpnadkbakaaGreat
set_option maxRecDepth 10000
open Go.RowKit

set_option maxHeartbeats 4000000 in
theorem eenote_any {w : World} {L : Lab} {K' b : Nat} {s : EeS} {E : En} (h : EE w L K' b s E) (hK' : K' ≠ 0) (x : Ev) (A : Option Addr) (c : Nat) (B : Option Addr) (d : Nat) (hx : EvAt w x A c B d) (hbd : EvB x) {N : Nat} (hc : E.cap N) (hN : N ≤ 549755813887) :
    Calls Tryz.prog 65 #[.pointer (some ⟨b, 0, none⟩), .agg #[.int .i64 x.k, .int .i64 x.n, .slice A x.da.length c, .int .i64 x.pk.k, .int .i64 x.pk.pa, .int .i64 x.pk.nu, .int .i64 x.pk.ofn, .int .i64 x.pk.fr, .slice B x.pk.da.length d, .bool x.pk.fin, .int .i64 x.pk.se, .int .i64 x.pk.li]] w (EEnd w L K' b s (E.noteS x)) := by
  obtain ⟨q, h⟩ := h
  obtain ⟨Ae, ce, hv⟩ := h.p.evs.form
  obtain ⟨n, hn⟩ : ∃ n, E.ev.length = n := ⟨_, rfl⟩
  have hn2 : n ≤ 549755813888 := by have := hc.ev; omega
  rw [show E.view.ev = E.ev from rfl, hn] at hv
  obtain ⟨w0, hw0⟩ : ∃ w0, w.alloc (.cells #[.int .i64 x.k, .int .i64 x.n, .slice A x.da.length c, .int .i64 x.pk.k, .int .i64 x.pk.pa, .int .i64 x.pk.nu, .int .i64 x.pk.ofn, .int .i64 x.pk.fr, .slice B x.pk.da.length d, .bool x.pk.fin, .int .i64 x.pk.se, .int .i64 x.pk.li] 88) = w0 := ⟨_, rfl⟩
  have hr0 : w0.rangeAt w.heap.size 0 (x.cs A c B d) := by rw [← hw0]; exact alloc_rangeE w (x.cs A c B d) 88
  have hb0 : Below w.heap.size w w0 := by rw [← hw0]; exact (Below.refl _ _).alloc (Nat.le_refl _) _
  have hz0 : w0.heap.size = w.heap.size + 1 := by rw [← hw0]; simp
  obtain ⟨W, hW⟩ : ∃ W, w0.drew = W := ⟨_, rfl⟩
  have hbW : Below w.heap.size w W := by rw [← hW]; exact hb0.drew
  have hzW : W.heap.size = w.heap.size + 1 := by rw [← hW]; exact hz0
  have hrW : W.rangeAt w.heap.size 0 (x.cs A c B d) := by rw [← hW]; exact hr0
  have c16 : W.cell? ⟨b, 0 + 16, none⟩ = some (.slice Ae n ce) := by rw [← hv]; exact (h.grow hbW 0).cell 16 (by omega)
  have HCP := Lib.hid (show Calls Tryz.prog 99 #[.agg #[.int .i64 x.k, .int .i64 x.n, .slice A x.da.length c, .int .i64 x.pk.k, .int .i64 x.pk.pa, .int .i64 x.pk.nu, .int .i64 x.pk.ofn, .int .i64 x.pk.fr, .slice B x.pk.da.length d, .bool x.pk.fin, .int .i64 x.pk.se, .int .i64 x.pk.li]] W _ from copied_any x A c B d W (hx.later hbW) hbd.len (by have := hbd.pk.len; omega))
  have S00 := Lib.hid (show w0.drew.rangeAt w.heap.size 0 (x.cs A c B d) from hr0)
  have S0 := Lib.hid hrW
  have HH := Lib.hid (And.intro h (And.intro hbd (And.intro hc (And.intro hn (And.intro hv (And.intro hbW hzW))))))
  have HV := Lib.hid (show (x.cs A c B d).toArray = #[.int .i64 x.k, .int .i64 x.n, .slice A x.da.length c, .int .i64 x.pk.k, .int .i64 x.pk.pa, .int .i64 x.pk.nu, .int .i64 x.pk.ofn, .int .i64 x.pk.fr, .slice B x.pk.da.length d, .bool x.pk.fin, .int .i64 x.pk.se, .int .i64 x.pk.li] from rfl)
  clear h hx hbd hc hn hv hr0 hb0 hz0 hbW hzW hrW
  go_enter Tryz.func65, Tryz.ntmps65
  go_wp2_with fail
  refine wp_region_held_drew (S := fun wi => wi.rangeAt w.heap.size 0 (x.cs A c B d)) (by kernel_rfl) S00.out ?_
  intro hHeld
  rw [hW]
  clear hw0 hW
  refine wpAnyH_take (i := 0) (v := ?_) rfl (by kernel_rfl) (by kernel_rfl) (by kernel_rfl) (fun _ _ _ h => h) (Or.inl ⟨by rfl, ?_⟩) (by assumption) ?_
  rotate_left
  · intro w hSw
    (try dsimp only at hSw)
    go_simp
    try (with_reducible rfl)
  try simp only [Act.put, List.getElem_toArray, List.getElem_cons_zero, List.setIfInBounds_toArray, List.set_cons_zero, List.set_cons_succ]
  refine wpAnyH_take (i := 1) (v := ?_) rfl (by kernel_rfl) (by kernel_rfl) (by kernel_rfl) (fun _ _ _ h => h) (Or.inl ⟨by rfl, ?_⟩) (by assumption) ?_
  rotate_left
  · intro w hSw
    (try dsimp only at hSw)
    go_simp
    try (with_reducible rfl)
  try simp only [Act.put, List.getElem_toArray, List.getElem_cons_zero, List.getElem_cons_succ, List.setIfInBounds_toArray, List.set_cons_zero, List.set_cons_succ]
  refine wpAnyH_take (i := 2) (v := ?_) rfl (by kernel_rfl) (by kernel_rfl) (by kernel_rfl) (fun _ _ _ h => h) (Or.inl ⟨by rfl, ?_⟩) (by assumption) ?_
  rotate_left
  · intro w hSw
    (try dsimp only at hSw)
    go_simp
    try (with_reducible rfl)
  try simp only [Act.put, List.getElem_toArray, List.getElem_cons_zero, List.getElem_cons_succ, List.setIfInBounds_toArray, List.set_cons_zero, List.set_cons_succ]
  refine wpAnyH_take (i := 3) (v := ?_) rfl (by kernel_rfl) (by kernel_rfl) (by kernel_rfl) (fun _ _ _ h => h) (Or.inl ⟨by rfl, ?_⟩) (by assumption) ?_
  rotate_left
  · intro w hSw
    (try dsimp only at hSw)
    go_simp
    try (with_reducible rfl)
  try simp only [Act.put, List.getElem_toArray, List.getElem_cons_zero, List.getElem_cons_succ, List.setIfInBounds_toArray, List.set_cons_zero, List.set_cons_succ]
  refine wpAnyH_take (i := 5) (v := .agg (x.cs A c B d).toArray) rfl (by kernel_rfl) (by kernel_rfl) (by kernel_rfl) (fun _ _ _ h => h) (yieldsIf_load_mid (by rfl) 88 (.tmp 3) rfl _ _ rfl (x.cs A c B d) _ (fun w2 h2 => h2) Tryz.underlying88 rfl (by kernel_rfl)) (by assumption) ?_
  try simp only [Act.put, List.getElem_toArray, List.getElem_cons_zero, List.getElem_cons_succ, List.setIfInBounds_toArray, List.set_cons_zero, List.set_cons_succ]
  rw [HV.out]
  refine wpAnyH_ready (rs := [4, 6]) (by kernel_rfl) (by simp) ?_
  refine AllReadyH.cons rfl (fun K hK => ?_) (AllReadyH.cons rfl (fun K hK => ?_) AllReadyH.nil)
  · go_simp
    refine hK.out _ _ S0.out (fun hHeld2 => ?_)
    clear hK K hHeld
    have hHeld := hHeld2
    clear hHeld2
    try simp only [Act.put, List.getElem_toArray, List.getElem_cons_zero, List.getElem_cons_succ, List.setIfInBounds_toArray, List.set_cons_zero, List.set_cons_succ]
    refine wpAnyH_ready (rs := [6]) (by kernel_rfl) (by simp) ?_
    refine AllReadyH.cons rfl (fun K hK => ?_) AllReadyH.nil
    go_simp
    refine HCP.out.mono ?_
    rintro e w1 ⟨A1, c1, B1, d1, rfl, o1, o2, hb1⟩
    obtain ⟨h, hbd, hc, hn, hv, hbW, hzW⟩ := HH.out
    obtain ⟨A', c', w2, L', c16a, hrun, fr2, hx2, h2, ht2, hbl⟩ := note_app h hK' (hbW.trans (hb1.mono hbW.size)) x hbd A1 c1 B1 d1 (o1.less hbW.size) (o2.less hbW.size) n hn hn2 Ae ce hv
    obtain ⟨y2, hx2⟩ := hx2
    obtain ⟨e1, e2, e3⟩ := hbl w.heap.size (Nat.le_refl _) (by have := hb1.size; omega)
    have hr1 := rangeAt_block S0.out (hb1.block w.heap.size (by omega))
    have S1 := Lib.hid hr1
    have S1a := Lib.hid (rangeAt_block hr1 e1)
    have S2 := Lib.hid (rangeAt_block hr1 e2)
    have S3 := Lib.hid (rangeAt_block hr1 e3)
    have c16b : w1.cell? ⟨b, 0 + 16, none⟩ = some (.slice Ae n ce) := cell_later hb1 c16
    have HF := Lib.hid (And.intro h2 (And.intro ht2 hc))
    clear h hbd hc hn hv hbW hzW hbl e1 e2 e3 hr1 h2 ht2 o1 o2 hb1 HCP HH
    try go_wp2_with fail
    refine hK.out _ _ S1.out (fun hHeld2 => ?_)
    clear hK K hHeld
    have hHeld := hHeld2
    clear hHeld2
    try simp only [Act.put, List.getElem_toArray, List.getElem_cons_zero, List.getElem_cons_succ, List.setIfInBounds_toArray, List.set_cons_zero, List.set_cons_succ]
    refine wpAnyH_ready (rs := [7]) (by kernel_rfl) (by simp) ?_
    refine AllReadyH.cons rfl (fun K hK => ?_) AllReadyH.nil
    go_simp
    refine hK.out _ _ S1a.out (fun hHeld2 => ?_)
    clear hK K hHeld
    have hHeld := hHeld2
    clear hHeld2
    try simp only [Act.put, List.getElem_toArray, List.getElem_cons_zero, List.getElem_cons_succ, List.setIfInBounds_toArray, List.set_cons_zero, List.set_cons_succ]
    refine wpAnyH_ready (rs := [8]) (by kernel_rfl) (by simp) ?_
    refine AllReadyH.cons rfl (fun K hK => ?_) AllReadyH.nil
    refine step_app_r4 (by rfl) (.tmp 8) (.tmp 11) 51 rfl _ _ _ rfl rfl hrun ?_
    refine hK.out _ _ S2.out (fun hHeld2 => ?_)
    clear hK K hHeld
    have hHeld := hHeld2
    clear hHeld2
    try simp only [Act.put, List.getElem_toArray, List.getElem_cons_zero, List.getElem_cons_succ, List.setIfInBounds_toArray, List.set_cons_zero, List.set_cons_succ]
    refine wpAnyH_take (i := 9) (v := ?_) rfl (by kernel_rfl) (by kernel_rfl) (by kernel_rfl) (fun _ _ _ h => h) (Or.inl ⟨by rfl, ?_⟩) (by assumption) ?_
    rotate_left
    · intro w hSw
      (try dsimp only at hSw)
      go_simp
      try (with_reducible rfl)
    try simp only [Act.put, List.getElem_toArray, List.getElem_cons_zero, List.getElem_cons_succ, List.setIfInBounds_toArray, List.set_cons_zero, List.set_cons_succ]
    refine wpAnyH_take (i := 10) (v := ?_) rfl (by kernel_rfl) (by kernel_rfl) (by kernel_rfl) (fun _ _ _ h => h) (Or.inl ⟨by rfl, ?_⟩) (by assumption) ?_
    rotate_left
    · intro w hSw
      (try dsimp only at hSw)
      go_simp
      try (with_reducible rfl)
    try simp only [Act.put, List.getElem_toArray, List.getElem_cons_zero, List.getElem_cons_succ, List.setIfInBounds_toArray, List.set_cons_zero, List.set_cons_succ]
    refine wpAnyH_ready (rs := [11]) (by kernel_rfl) (by simp) ?_
    refine AllReadyH.cons rfl (fun K hK => ?_) AllReadyH.nil
    go_simp
    refine hK.out _ _ S3.out (fun hHeld2 => ?_)
    clear hK K hHeld
    have hHeld := hHeld2
    clear hHeld2
    try simp only [Act.put, List.getElem_toArray, List.getElem_cons_zero, List.getElem_cons_succ, List.setIfInBounds_toArray, List.set_cons_zero, List.set_cons_succ]
    refine wpAnyH_done (by kernel_rfl) ?_ _
    clear hHeld S00 S0 S1 S1a S2 S3 c16 c16a c16b hrun fr2 hx2 HV
    obtain ⟨w3, hw3⟩ : ∃ w3, w2.setCell ⟨b, 0 + 16, none⟩ (.slice A' (n + 1) c') = w3 := ⟨_, rfl⟩
    rw [show (⟨b, 16, none⟩ : Addr) = ⟨b, 0 + 16, none⟩ from rfl, hw3] at HF
    have HAD := Lib.hid (eecount_any HF.out.1 hK' 0 (by omega) 1 (by omega) (by omega) (N := N + 1) ⟨by have := HF.out.2.2.ev; simp only [List.length_append, List.length_singleton]; omega, by have := HF.out.2.2.out; have := saids_len [x]; simp only [List.length_append, List.length_singleton] at this ⊢; omega, fun j => by have := HF.out.2.2.m j; simp only; omega⟩ (by omega) 0 rfl)
    have c18 := HF.out.1.c18
    go_wp2_with fail
    try rw [hw3]
    clear hw3 c18
    refine HAD.out.mono ?_
    rintro e w4 ⟨⟨z, rfl⟩, L4, h4, ht4⟩
    have HFIN := Lib.hid (show EEnd w L K' b s (E.noteS x) (.returned (.tuple #[])) w4 from ⟨rfl, L4, h4, HF.out.2.1.trans ht4⟩)
    clear h4 ht4 HAD HF
    go_wp2
    go_end0
    exact HFIN.out
  · go_simp
    refine HCP.out.mono ?_
    rintro e w1 ⟨A1, c1, B1, d1, rfl, o1, o2, hb1⟩
    obtain ⟨h, hbd, hc, hn, hv, hbW, hzW⟩ := HH.out
    obtain ⟨A', c', w2, L', c16a, hrun, fr2, hx2, h2, ht2, hbl⟩ := note_app h hK' (hbW.trans (hb1.mono hbW.size)) x hbd A1 c1 B1 d1 (o1.less hbW.size) (o2.less hbW.size) n hn hn2 Ae ce hv
    obtain ⟨y2, hx2⟩ := hx2
    obtain ⟨e1, e2, e3⟩ := hbl w.heap.size (Nat.le_refl _) (by have := hb1.size; omega)
    have hr1 := rangeAt_block S0.out (hb1.block w.heap.size (by omega))
    have S1 := Lib.hid hr1
    have S1a := Lib.hid (rangeAt_block hr1 e1)
    have S2 := Lib.hid (rangeAt_block hr1 e2)
    have S3 := Lib.hid (rangeAt_block hr1 e3)
    have c16b : w1.cell? ⟨b, 0 + 16, none⟩ = some (.slice Ae n ce) := cell_later hb1 c16
    have HF := Lib.hid (And.intro h2 (And.intro ht2 hc))
    clear h hbd hc hn hv hbW hzW hbl e1 e2 e3 hr1 h2 ht2 o1 o2 hb1 HCP HH
    try go_wp2_with fail
    refine hK.out _ _ S1.out (fun hHeld2 => ?_)
    clear hK K hHeld
    have hHeld := hHeld2
    clear hHeld2
    try simp only [Act.put, List.getElem_toArray, List.getElem_cons_zero, List.getElem_cons_succ, List.setIfInBounds_toArray, List.set_cons_zero, List.set_cons_succ]
    refine wpAnyH_ready (rs := [4, 7]) (by kernel_rfl) (by simp) ?_
    refine AllReadyH.cons rfl (fun K hK => ?_) (AllReadyH.cons rfl (fun K hK => ?_) AllReadyH.nil)
    · go_simp
      refine hK.out _ _ S1.out (fun hHeld2 => ?_)
      clear hK K hHeld
      have hHeld := hHeld2
      clear hHeld2
      try simp only [Act.put, List.getElem_toArray, List.getElem_cons_zero, List.getElem_cons_succ, List.setIfInBounds_toArray, List.set_cons_zero, List.set_cons_succ]
      refine wpAnyH_ready (rs := [7]) (by kernel_rfl) (by simp) ?_
      refine AllReadyH.cons rfl (fun K hK => ?_) AllReadyH.nil
      go_simp
      refine hK.out _ _ S1a.out (fun hHeld2 => ?_)
      clear hK K hHeld
      have hHeld := hHeld2
      clear hHeld2
      try simp only [Act.put, List.getElem_toArray, List.getElem_cons_zero, List.getElem_cons_succ, List.setIfInBounds_toArray, List.set_cons_zero, List.set_cons_succ]
      refine wpAnyH_ready (rs := [8]) (by kernel_rfl) (by simp) ?_
      refine AllReadyH.cons rfl (fun K hK => ?_) AllReadyH.nil
      refine step_app_r4 (by rfl) (.tmp 8) (.tmp 11) 51 rfl _ _ _ rfl rfl hrun ?_
      refine hK.out _ _ S2.out (fun hHeld2 => ?_)
      clear hK K hHeld
      have hHeld := hHeld2
      clear hHeld2
      try simp only [Act.put, List.getElem_toArray, List.getElem_cons_zero, List.getElem_cons_succ, List.setIfInBounds_toArray, List.set_cons_zero, List.set_cons_succ]
      refine wpAnyH_take (i := 9) (v := ?_) rfl (by kernel_rfl) (by kernel_rfl) (by kernel_rfl) (fun _ _ _ h => h) (Or.inl ⟨by rfl, ?_⟩) (by assumption) ?_
      rotate_left
      · intro w hSw
        (try dsimp only at hSw)
        go_simp
        try (with_reducible rfl)
      try simp only [Act.put, List.getElem_toArray, List.getElem_cons_zero, List.getElem_cons_succ, List.setIfInBounds_toArray, List.set_cons_zero, List.set_cons_succ]
      refine wpAnyH_take (i := 10) (v := ?_) rfl (by kernel_rfl) (by kernel_rfl) (by kernel_rfl) (fun _ _ _ h => h) (Or.inl ⟨by rfl, ?_⟩) (by assumption) ?_
      rotate_left
      · intro w hSw
        (try dsimp only at hSw)
        go_simp
        try (with_reducible rfl)
      try simp only [Act.put, List.getElem_toArray, List.getElem_cons_zero, List.getElem_cons_succ, List.setIfInBounds_toArray, List.set_cons_zero, List.set_cons_succ]
      refine wpAnyH_ready (rs := [11]) (by kernel_rfl) (by simp) ?_
      refine AllReadyH.cons rfl (fun K hK => ?_) AllReadyH.nil
      go_simp
      refine hK.out _ _ S3.out (fun hHeld2 => ?_)
      clear hK K hHeld
      have hHeld := hHeld2
      clear hHeld2
      try simp only [Act.put, List.getElem_toArray, List.getElem_cons_zero, List.getElem_cons_succ, List.setIfInBounds_toArray, List.set_cons_zero, List.set_cons_succ]
      refine wpAnyH_done (by kernel_rfl) ?_ _
      clear hHeld S00 S0 S1 S1a S2 S3 c16 c16a c16b hrun fr2 hx2 HV
      obtain ⟨w3, hw3⟩ : ∃ w3, w2.setCell ⟨b, 0 + 16, none⟩ (.slice A' (n + 1) c') = w3 := ⟨_, rfl⟩
      rw [show (⟨b, 16, none⟩ : Addr) = ⟨b, 0 + 16, none⟩ from rfl, hw3] at HF
      have HAD := Lib.hid (eecount_any HF.out.1 hK' 0 (by omega) 1 (by omega) (by omega) (N := N + 1) ⟨by have := HF.out.2.2.ev; simp only [List.length_append, List.length_singleton]; omega, by have := HF.out.2.2.out; have := saids_len [x]; simp only [List.length_append, List.length_singleton] at this ⊢; omega, fun j => by have := HF.out.2.2.m j; simp only; omega⟩ (by omega) 0 rfl)
      have c18 := HF.out.1.c18
      go_wp2_with fail
      try rw [hw3]
      clear hw3 c18
      refine HAD.out.mono ?_
      rintro e w4 ⟨⟨z, rfl⟩, L4, h4, ht4⟩
      have HFIN := Lib.hid (show EEnd w L K' b s (E.noteS x) (.returned (.tuple #[])) w4 from ⟨rfl, L4, h4, HF.out.2.1.trans ht4⟩)
      clear h4 ht4 HAD HF
      go_wp2
      go_end0
      exact HFIN.out
    · go_simp
      refine hK.out _ _ S1a.out (fun hHeld2 => ?_)
      clear hK K hHeld
      have hHeld := hHeld2
      clear hHeld2
      try simp only [Act.put, List.getElem_toArray, List.getElem_cons_zero, List.getElem_cons_succ, List.setIfInBounds_toArray, List.set_cons_zero, List.set_cons_succ]
      refine wpAnyH_ready (rs := [4]) (by kernel_rfl) (by simp) ?_
      refine AllReadyH.cons rfl (fun K hK => ?_) AllReadyH.nil
      go_simp
      refine hK.out _ _ S1a.out (fun hHeld2 => ?_)
      clear hK K hHeld
      have hHeld := hHeld2
      clear hHeld2
      try simp only [Act.put, List.getElem_toArray, List.getElem_cons_zero, List.getElem_cons_succ, List.setIfInBounds_toArray, List.set_cons_zero, List.set_cons_succ]
      refine wpAnyH_ready (rs := [8]) (by kernel_rfl) (by simp) ?_
      refine AllReadyH.cons rfl (fun K hK => ?_) AllReadyH.nil
      refine step_app_r4 (by rfl) (.tmp 8) (.tmp 11) 51 rfl _ _ _ rfl rfl hrun ?_
      refine hK.out _ _ S2.out (fun hHeld2 => ?_)
      clear hK K hHeld
      have hHeld := hHeld2
      clear hHeld2
      try simp only [Act.put, List.getElem_toArray, List.getElem_cons_zero, List.getElem_cons_succ, List.setIfInBounds_toArray, List.set_cons_zero, List.set_cons_succ]
      refine wpAnyH_take (i := 9) (v := ?_) rfl (by kernel_rfl) (by kernel_rfl) (by kernel_rfl) (fun _ _ _ h => h) (Or.inl ⟨by rfl, ?_⟩) (by assumption) ?_
      rotate_left
      · intro w hSw
        (try dsimp only at hSw)
        go_simp
        try (with_reducible rfl)
      try simp only [Act.put, List.getElem_toArray, List.getElem_cons_zero, List.getElem_cons_succ, List.setIfInBounds_toArray, List.set_cons_zero, List.set_cons_succ]
      refine wpAnyH_take (i := 10) (v := ?_) rfl (by kernel_rfl) (by kernel_rfl) (by kernel_rfl) (fun _ _ _ h => h) (Or.inl ⟨by rfl, ?_⟩) (by assumption) ?_
      rotate_left
      · intro w hSw
        (try dsimp only at hSw)
        go_simp
        try (with_reducible rfl)
      try simp only [Act.put, List.getElem_toArray, List.getElem_cons_zero, List.getElem_cons_succ, List.setIfInBounds_toArray, List.set_cons_zero, List.set_cons_succ]
      refine wpAnyH_ready (rs := [11]) (by kernel_rfl) (by simp) ?_
      refine AllReadyH.cons rfl (fun K hK => ?_) AllReadyH.nil
      go_simp
      refine hK.out _ _ S3.out (fun hHeld2 => ?_)
      clear hK K hHeld
      have hHeld := hHeld2
      clear hHeld2
      try simp only [Act.put, List.getElem_toArray, List.getElem_cons_zero, List.getElem_cons_succ, List.setIfInBounds_toArray, List.set_cons_zero, List.set_cons_succ]
      refine wpAnyH_done (by kernel_rfl) ?_ _
      clear hHeld S00 S0 S1 S1a S2 S3 c16 c16a c16b hrun fr2 hx2 HV
      obtain ⟨w3, hw3⟩ : ∃ w3, w2.setCell ⟨b, 0 + 16, none⟩ (.slice A' (n + 1) c') = w3 := ⟨_, rfl⟩
      rw [show (⟨b, 16, none⟩ : Addr) = ⟨b, 0 + 16, none⟩ from rfl, hw3] at HF
      have HAD := Lib.hid (eecount_any HF.out.1 hK' 0 (by omega) 1 (by omega) (by omega) (N := N + 1) ⟨by have := HF.out.2.2.ev; simp only [List.length_append, List.length_singleton]; omega, by have := HF.out.2.2.out; have := saids_len [x]; simp only [List.length_append, List.length_singleton] at this ⊢; omega, fun j => by have := HF.out.2.2.m j; simp only; omega⟩ (by omega) 0 rfl)
      have c18 := HF.out.1.c18
      go_wp2_with fail
      try rw [hw3]
      clear hw3 c18
      refine HAD.out.mono ?_
      rintro e w4 ⟨⟨z, rfl⟩, L4, h4, ht4⟩
      have HFIN := Lib.hid (show EEnd w L K' b s (E.noteS x) (.returned (.tuple #[])) w4 from ⟨rfl, L4, h4, HF.out.2.1.trans ht4⟩)
      clear h4 ht4 HAD HF
      go_wp2
      go_end0
      exact HFIN.out
end Go.Proofs.YtpjlnpnadkbakaaGreat

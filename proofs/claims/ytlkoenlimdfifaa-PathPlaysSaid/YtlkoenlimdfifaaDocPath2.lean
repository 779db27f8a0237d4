/-
  What NewPath, Number, Usable, Acked and Late of the document's own path do: contracts over the program.
-/
import Derived.Test.YtlkoenlimdfifaaDocPath
namespace Go.Proofs.Ytlkoenlimdfifaa
open Go.RowKit

theorem DqAt.new {w : World} {B pg pw : Nat} {f m : Int} (hg : Dg w pg (Gs.new f)) (hw : Rw w pw (Wn.new m)) (hB : B ≤ w.heap.size) (h1 : B ≤ pg) (h2 : B ≤ pw) :
    DqAt (w.alloc (.cells #[.bool false, .bool false, .bool false, .int .i64 0, .pointer (some ⟨pg, 0, none⟩), .pointer (some ⟨pw, 0, none⟩), .slice none 0 0] tPaR)) B w.heap.size pg pw (.slice none 0 0) (Pa.new f m) := by
  have hb := (Below.refl w.heap.size w).alloc (Nat.le_refl _) (.cells #[.bool false, .bool false, .bool false, .int .i64 0, .pointer (some ⟨pg, 0, none⟩), .pointer (some ⟨pw, 0, none⟩), .slice none 0 0] tPaR)
  refine ⟨⟨World.rowIs_alloc w _ _ _ (fun i hi => ?_), OwnQ.nil _ _ _, hB, by omega, by decide⟩, hg.later hb, hw.later hb, h1, h2⟩
  have : i < 7 := hi
  match i, this with
  | 0, _ | 1, _ | 2, _ | 3, _ | 4, _ | 5, _ | 6, _ => rfl

theorem newdq_any (x0 x1 x2 x3 m f x6 : Int) (w : World) : Calls Try.prog 28 #[.agg #[.int .i64 x0, .int .i64 x1, .int .i64 x2, .int .i64 x3, .int .i64 m, .int .i64 f, .int .i64 x6]] w fun e w' =>
    ∃ p pg pw, e = .returned (.pointer (some ⟨p, 0, none⟩)) ∧ DqAt w' w.heap.size p pg pw (.slice none 0 0) (Pa.new f m) ∧ Below w.heap.size w w' := by
  obtain ⟨w0, hw0⟩ : ∃ w0, w.alloc (.cells #[.int .i64 x0, .int .i64 x1, .int .i64 x2, .int .i64 x3, .int .i64 m, .int .i64 f, .int .i64 x6] 23) = w0 := ⟨_, rfl⟩
  have hb0 : Below w.heap.size w w0 := by rw [← hw0]; exact (Below.refl _ _).alloc (Nat.le_refl _) _
  have hz0 : w0.heap.size = w.heap.size + 1 := by rw [← hw0]; simp
  have c4 : w0.cell? ⟨w.heap.size, 4, none⟩ = some (.int .i64 m) := by rw [← hw0, World.cell?_alloc_at _ _ _ _ rfl]; rfl
  have c5 : w0.cell? ⟨w.heap.size, 5, none⟩ = some (.int .i64 f) := by rw [← hw0, World.cell?_alloc_at _ _ _ _ rfl]; rfl
  have HG := Lib.hid (newdg_any f w0.drew)
  have HB0 := Lib.hid hb0
  obtain ⟨b, hb⟩ : ∃ b, w.heap.size = b := ⟨_, rfl⟩
  rw [hb] at hb0 c4 c5 HB0 hz0
  have HZ := Lib.hid hz0
  rw [hb]
  have S0 := Lib.hid (And.intro c4 c5)
  have S0W := Lib.hid (show w0.drew.cell? ⟨b, 4, none⟩ = some (.int .i64 m) ∧ w0.drew.cell? ⟨b, 5, none⟩ = some (.int .i64 f) from ⟨c4, c5⟩)
  have HBB := Lib.hid hb
  clear hb0 hz0 c4 c5
  go_enter Try.func28, Try.ntmps28
  go_wp2_with fail
  clear hw0 hb
  refine wp_region_held_drew (S := fun wi => wi.cell? ⟨b, 4, none⟩ = some (.int .i64 m) ∧ wi.cell? ⟨b, 5, none⟩ = some (.int .i64 f)) (by kernel_rfl) S0W.out ?_
  intro hHeld
  refine wpAnyH_take (i := 0) (v := ?_) rfl (by kernel_rfl) (by kernel_rfl) (by kernel_rfl) (fun _ _ _ h => h) (Or.inl ⟨by rfl, ?_⟩) (by assumption) ?_
  rotate_left
  · intro w hSw
    (try dsimp only at hSw)
    go_simp
    try (with_reducible rfl)
  try simp only [Act.put, List.getElem_toArray, List.getElem_cons_zero, List.setIfInBounds_toArray, List.set_cons_zero, List.set_cons_succ]
  refine wpAnyH_take (i := 1) (v := ?_) rfl (by kernel_rfl) (by kernel_rfl) (by kernel_rfl) (fun _ _ _ h => h) (Or.inl ⟨by rfl, ?_⟩) (by assumption) ?_
  rotate_left
  · intro w hSw
    (try dsimp only at hSw)
    go_simp
    try (with_reducible rfl)
  try simp only [Act.put, List.getElem_toArray, List.getElem_cons_zero, List.getElem_cons_succ, List.setIfInBounds_toArray, List.set_cons_zero, List.set_cons_succ]
  refine wpAnyH_take (i := 3) (v := ?_) rfl (by kernel_rfl) (by kernel_rfl) (by kernel_rfl) (fun _ _ _ h => h) (Or.inl ⟨by rfl, ?_⟩) (by assumption) ?_
  rotate_left
  · intro w hSw
    (try dsimp only at hSw)
    go_simp
    try (with_reducible rfl)
  try simp only [Act.put, List.getElem_toArray, List.getElem_cons_zero, List.getElem_cons_succ, List.setIfInBounds_toArray, List.set_cons_zero, List.set_cons_succ]
  refine wpAnyH_take (i := 4) (v := ?_) rfl (by kernel_rfl) (by kernel_rfl) (by kernel_rfl) (fun _ _ _ h => h) (Or.inl ⟨by rfl, ?_⟩) (by assumption) ?_
  rotate_left
  · intro w hSw
    (try dsimp only at hSw)
    go_simp
    try (with_reducible rfl)
  try simp only [Act.put, List.getElem_toArray, List.getElem_cons_zero, List.getElem_cons_succ, List.setIfInBounds_toArray, List.set_cons_zero, List.set_cons_succ]
  refine wpAnyH_ready (rs := [2]) (by kernel_rfl) (by simp) ?_
  refine AllReadyH.cons rfl (fun K hK => ?_) AllReadyH.nil
  go_simp
  refine HG.out.mono ?_
  rintro e w1 ⟨rfl, hg, hb1, hz1⟩
  have HG1 := Lib.hid hg
  have HB1 := Lib.hid (HB0.out.trans ((show Below w0.heap.size w0 w1 from ⟨hb1.os, hb1.tape, hb1.output, hb1.size, hb1.block⟩).mono (by have := HZ.out; omega)))
  have HZ1 := Lib.hid (show w1.heap.size = b + 2 by have := HZ.out; simp at hz1; omega)
  have S1 := Lib.hid (show w1.cell? ⟨b, 4, none⟩ = some (.int .i64 m) ∧ w1.cell? ⟨b, 5, none⟩ = some (.int .i64 f) from ⟨cell_later hb1 S0W.out.1, cell_later hb1 S0W.out.2⟩)
  have HW := Lib.hid (newrw_any m w1)
  obtain ⟨pg, hpg⟩ : ∃ pg, w0.drew.heap.size = pg := ⟨_, rfl⟩
  rw [hpg] at HG1 ⊢
  have HPG := Lib.hid (show b ≤ pg by have := HZ.out; simp at hpg; omega)
  clear hg hb1 hz1 hpg HG
  try go_wp2_with fail
  refine hK.out _ _ S1.out (fun hHeld2 => ?_)
  clear hK K hHeld
  have hHeld := hHeld2
  clear hHeld2
  try simp only [Act.put, List.getElem_toArray, List.getElem_cons_zero, List.getElem_cons_succ, List.setIfInBounds_toArray, List.set_cons_zero, List.set_cons_succ]
  refine wpAnyH_ready (rs := [5]) (by kernel_rfl) (by simp) ?_
  refine AllReadyH.cons rfl (fun K hK => ?_) AllReadyH.nil
  go_simp
  refine HW.out.mono ?_
  rintro e w2 ⟨rfl, hw, hb2, -⟩
  have S2 := Lib.hid (show w2.cell? ⟨b, 4, none⟩ = some (.int .i64 m) ∧ w2.cell? ⟨b, 5, none⟩ = some (.int .i64 f) from ⟨cell_later hb2 S1.out.1, cell_later hb2 S1.out.2⟩)
  have HB2 := Lib.hid (HB1.out.trans (hb2.mono (by have := HZ1.out; omega)))
  have HZ2 := Lib.hid (show b ≤ w2.heap.size by have := hb2.size; have := HZ1.out; omega)
  have HNEW := Lib.hid (DqAt.new (B := b) (HG1.out.later hb2) hw HZ2.out HPG.out (by have := HZ1.out; omega))
  have HBN := Lib.hid (HB2.out.alloc HZ2.out (.cells #[.bool false, .bool false, .bool false, .int .i64 0, .pointer (some ⟨pg, 0, none⟩), .pointer (some ⟨w1.heap.size, 0, none⟩), .slice none 0 0] tPaR))
  have S3 := Lib.hid (show (w2.alloc (.cells #[.bool false, .bool false, .bool false, .int .i64 0, .pointer (some ⟨pg, 0, none⟩), .pointer (some ⟨w1.heap.size, 0, none⟩), .slice none 0 0] tPaR)).cell? ⟨b, 4, none⟩ = some (.int .i64 m) ∧ (w2.alloc (.cells #[.bool false, .bool false, .bool false, .int .i64 0, .pointer (some ⟨pg, 0, none⟩), .pointer (some ⟨w1.heap.size, 0, none⟩), .slice none 0 0] tPaR)).cell? ⟨b, 5, none⟩ = some (.int .i64 f) from ⟨cell_later ((Below.refl _ _).alloc (Nat.le_refl _) _) S2.out.1, cell_later ((Below.refl _ _).alloc (Nat.le_refl _) _) S2.out.2⟩)
  clear hw hb2 HW HG1
  obtain ⟨pw, hpw⟩ : ∃ pw, w1.heap.size = pw := ⟨_, rfl⟩
  rw [hpw] at HNEW HBN S3 ⊢
  clear hpw
  try go_wp2_with fail
  refine hK.out _ _ S2.out (fun hHeld2 => ?_)
  clear hK K hHeld
  have hHeld := hHeld2
  clear hHeld2
  try simp only [Act.put, List.getElem_toArray, List.getElem_cons_zero, List.getElem_cons_succ, List.setIfInBounds_toArray, List.set_cons_zero, List.set_cons_succ]
  refine wpAnyH_take (i := 6) (v := ?_) rfl (by kernel_rfl) (by kernel_rfl) (by kernel_rfl) (fun _ _ _ h => h) (Or.inl ⟨by rfl, ?_⟩) (by assumption) ?_
  rotate_left
  · intro w hSw
    (try dsimp only at hSw)
    go_simp
    try (with_reducible rfl)
  try simp only [Act.put, List.getElem_toArray, List.getElem_cons_zero, List.getElem_cons_succ, List.setIfInBounds_toArray, List.set_cons_zero, List.set_cons_succ]
  refine wpAnyH_ready (rs := [7]) (by kernel_rfl) (by simp) ?_
  refine AllReadyH.cons rfl (fun K hK => ?_) AllReadyH.nil
  go_simp
  refine hK.out _ _ S3.out (fun hHeld2 => ?_)
  clear hK K hHeld
  have hHeld := hHeld2
  clear hHeld2
  try simp only [Act.put, List.getElem_toArray, List.getElem_cons_zero, List.getElem_cons_succ, List.setIfInBounds_toArray, List.set_cons_zero, List.set_cons_succ]
  refine wpAnyH_take (i := 8) (v := ?_) rfl (by kernel_rfl) (by kernel_rfl) (by kernel_rfl) (fun _ _ _ h => h) (Or.inl ⟨by rfl, ?_⟩) (by assumption) ?_
  rotate_left
  · intro w hSw
    (try dsimp only at hSw)
    go_simp
    try (with_reducible rfl)
  try simp only [Act.put, List.getElem_toArray, List.getElem_cons_zero, List.getElem_cons_succ, List.setIfInBounds_toArray, List.set_cons_zero, List.set_cons_succ]
  refine wpAnyH_done (by kernel_rfl) ?_ _
  go_wp2
  go_ret
  exact ⟨_, _, _, rfl, HNEW.out, HBN.out⟩

section
variable {w : World} {B p pg pw : Nat} {v : Value} {P : Pa}
theorem dqnumber_no (h : DqAt w B p pg pw v P) (hs : 65535 < P.sent) : Calls Try.prog 31 #[.pointer (some ⟨p, 0, none⟩)] w fun e w' => e = .returned (.tuple #[.int .i64 0, .bool false]) ∧ w = w' := by
  have c3 := h.c3
  clear h
  obtain ⟨s, hs'⟩ : ∃ s, P.sent = s := ⟨_, rfl⟩
  rw [hs'] at c3 hs
  clear hs'
  go_enter Try.func31, Try.ntmps31
  go_wp2
  go_ret2
  exact ⟨rfl, rfl⟩
theorem dqnumber_yes (h : DqAt w B p pg pw v P) (h0 : 0 ≤ P.sent) (hs : P.sent ≤ 65535) : Calls Try.prog 31 #[.pointer (some ⟨p, 0, none⟩)] w fun e w' => e = .returned (.tuple #[.int .i64 P.sent, .bool true]) ∧ DqAt w' B p pg pw v P.num ∧ SC w w' (Dqt p pg pw v) (Dqt p pg pw v) := by
  have c3 := h.c3
  have f3 := h.fr (0 + 3)
  have HN := Lib.hid (h.poke (P' := P.num) (0 + 3) (.int .i64 (P.sent + 1)) (by omega) (fun j hj => by
    have : j = 0 ∨ j = 1 ∨ j = 2 ∨ j = 3 ∨ j = 4 ∨ j = 5 := by omega
    rcases this with rfl | rfl | rfl | rfl | rfl | rfl <;> rfl) rfl rfl rfl)
  clear h
  obtain ⟨s, hs'⟩ : ∃ s, P.sent = s := ⟨_, rfl⟩
  rw [hs'] at c3 hs h0 HN ⊢
  clear hs'
  go_enter Try.func31, Try.ntmps31
  go_wp2
  go_ret2
  exact ⟨by first | rfl | congr, HN.out.1, HN.out.2⟩

set_option maxHeartbeats 1000000 in
theorem dqusable_any (h : DqAt w B p pg pw v P) : Calls Try.prog 35 #[.pointer (some ⟨p, 0, none⟩)] w fun e w' => e = .returned (.bool P.usable) ∧ ∃ k, w' = w.drewN k := by
  obtain ⟨A, c, hv⟩ := h.fl.own.form
  have c0 := h.c0
  have c1 := h.c1
  have c3 := h.c3
  have c5 := h.c5
  have c6 := h.c6
  have z1 := h.wn.c1
  rw [hv] at c6
  have hu : P.usable = (P.up && P.jo && decide ((P.fl.length : Int) < P.wn.size) && decide (P.sent ≤ 65535)) := rfl
  rw [hu]
  clear hu hv h
  obtain ⟨n, hn⟩ : ∃ n, P.fl.length = n := ⟨_, rfl⟩
  obtain ⟨z, hz⟩ : ∃ z, P.wn.size = z := ⟨_, rfl⟩
  obtain ⟨s, hs⟩ : ∃ s, P.sent = s := ⟨_, rfl⟩
  obtain ⟨u, hu⟩ : ∃ u, P.up = u := ⟨_, rfl⟩
  obtain ⟨j, hj⟩ : ∃ j, P.jo = j := ⟨_, rfl⟩
  rw [hn] at c6 ⊢
  rw [hz] at z1 ⊢
  rw [hs] at c3 ⊢
  rw [hu] at c0 ⊢
  rw [hj] at c1 ⊢
  clear hn hz hs hu hj
  have go : ∀ r, (u && j && decide ((n : Int) < z) && decide (s ≤ 65535)) = r → Calls Try.prog 35 #[.pointer (some ⟨p, 0, none⟩)] w fun e w' => e = .returned (.bool r) ∧ ∃ k, w' = w.drewN k := by
    intro r hr
    cases u
    · obtain rfl : r = false := by rw [← hr]; simp
      clear hr
      go_enter Try.func35, Try.ntmps35
      go_wp2_with fail
      go_quiet (fail)
      go_wp2
      go_ret
      exact ⟨rfl, _, rfl⟩
    cases j
    · obtain rfl : r = false := by rw [← hr]; simp
      clear hr
      go_enter Try.func35, Try.ntmps35
      go_wp2_with fail
      go_quiet (fail)
      go_wp2
      go_ret
      exact ⟨rfl, _, rfl⟩
    by_cases a : (n : Int) < z
    · have a1 : decide ((n : Int) < z) = true := decide_eq_true a
      by_cases d : s ≤ 65535
      · have d1 : decide (s ≤ 65535) = true := decide_eq_true d
        obtain rfl : r = true := by rw [← hr, a1, d1]; rfl
        clear hr
        go_enter Try.func35, Try.ntmps35
        go_wp2_with fail
        go_quiet (fail)
        go_wp2
        go_ret
        exact ⟨rfl, _, rfl⟩
      · have d1 : decide (s ≤ 65535) = false := decide_eq_false d
        obtain rfl : r = false := by rw [← hr, a1, d1]; rfl
        clear hr
        go_enter Try.func35, Try.ntmps35
        go_wp2_with fail
        go_quiet (fail)
        go_wp2
        go_ret
        exact ⟨rfl, _, rfl⟩
    · have a1 : decide ((n : Int) < z) = false := decide_eq_false a
      obtain rfl : r = false := by rw [← hr, a1]; rfl
      clear hr
      go_enter Try.func35, Try.ntmps35
      go_wp2_with fail
      go_quiet (fail)
      go_wp2
      go_ret
      exact ⟨rfl, _, rfl⟩
  exact go _ rfl
end
end Go.Proofs.Ytlkoenlimdfifaa

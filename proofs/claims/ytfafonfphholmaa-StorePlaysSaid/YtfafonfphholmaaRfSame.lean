/-
  Same of both stores: a contract over the program.
-/
import Derived.Test.YtfafonfphholmaaRfBlocks
import Derived.Test.YtfafonfphholmaaStOne
import Derived.Test.YtfafonfphholmaaSameInt
namespace Go.Proofs.Ytfafonfphholmaa
open Go.RowKit

section
variable {w w' : World} {B p B' r : Nat} {s t : St} {F G : Nat → Prop}
theorem RefIs.later (h : RefIs w B p s F) (hb : Below w.heap.size w w') : RefIs w' B p s F := by
  obtain ⟨lv, L, nn, h, hk, hF, hf⟩ := h
  exact ⟨lv, L, nn, h.later hb, hk, hF, hf⟩

set_option maxRecDepth 10000 in
set_option maxHeartbeats 2000000 in
theorem sameS_any (h : StoreIs w B p s F) (h' : RefIs w B' r t G) (hb : s.bs = t.bs) (hd : s.de = t.de) (hm : s.bs.length ≤ 1048576) :
    Calls Try.prog 21 #[.pointer (some ⟨p, 0, none⟩), .pointer (some ⟨r, 0, none⟩)] w fun e w' => e = .returned (.bool true) ∧ Below w.heap.size w w' := by
  have H := Lib.hid h
  have H' := Lib.hid h'
  obtain ⟨lv, L, nn, hR, hk, rfl, hf⟩ := h'
  have c0 := hR.r0
  have c1 := hR.r1
  rw [← hd] at c1
  obtain ⟨ns, hns⟩ : ∃ ns, s.bs.map (·.n) = ns := ⟨_, rfl⟩
  have hd1 := (dead_is (h.later ⟨rfl, rfl, rfl, Nat.le_refl _, fun _ _ => rfl⟩ : StoreIs w.drew B p s F))
  have hb1 := (blocks_any (h.later ⟨rfl, rfl, rfl, Nat.le_refl _, fun _ _ => rfl⟩ : StoreIs w.drew B p s F) (by omega))
  rw [hns] at hb1
  have HD1 := Lib.hid hd1
  have HB1 := Lib.hid hb1
  have HNS := Lib.hid hns
  have HNT : Hid (t.bs.map (·.n) = ns) := Lib.hid (by rw [← hb]; exact hns)
  have hnl : ns.length ≤ 1048576 := by rw [← hns, List.length_map]; exact hm
  have HBT := Lib.hid hb
  have HR := Lib.hid hR
  have HK := Lib.hid hk
  clear h hd1 hb1 hns hR hk hf hb
  obtain ⟨de, hde⟩ : ∃ de, s.de = de := ⟨_, rfl⟩
  rw [hde] at c1 HD1
  have ddd : (de != de) = false := by simp
  clear hde hd
  go_enter Try.func21, Try.ntmps21
  go_wp2_with fail
  refine wp_region_held_drew (S := fun wi => wi.cell? ⟨r, 0 + 1, none⟩ = some (.bool de)) (by kernel_rfl) c1 ?_
  intro hHeld
  refine wpAnyH_take (i := 0) (v := ?_) rfl (by kernel_rfl) (by kernel_rfl) (by kernel_rfl) (fun _ _ _ h => h) (Or.inl ⟨by rfl, ?_⟩) (by assumption) ?_
  rotate_left
  · intro w hSw
    (try dsimp only at hSw)
    go_simp
    try (with_reducible rfl)
  try simp only [Act.put, List.getElem_toArray, List.getElem_cons_zero, List.setIfInBounds_toArray, List.set_cons_zero, List.set_cons_succ]
  refine wpAnyH_take (i := 1) (v := ?_) rfl (by kernel_rfl) (by kernel_rfl) (by kernel_rfl) (fun _ _ _ h => h) (Or.inl ⟨by rfl, ?_⟩) (by assumption) ?_
  rotate_left
  · intro w hSw
    (try dsimp only at hSw)
    go_simp
    try (with_reducible rfl)
  try simp only [Act.put, List.getElem_toArray, List.getElem_cons_zero, List.getElem_cons_succ, List.setIfInBounds_toArray, List.set_cons_zero, List.set_cons_succ]
  refine wpAnyH_take (i := 2) (v := ?_) rfl (by kernel_rfl) (by kernel_rfl) (by kernel_rfl) (fun _ _ _ h => h) (Or.inl ⟨by rfl, ?_⟩) (by assumption) ?_
  rotate_left
  · intro w hSw
    (try dsimp only at hSw)
    go_simp
    try (with_reducible rfl)
  try simp only [Act.put, List.getElem_toArray, List.getElem_cons_zero, List.getElem_cons_succ, List.setIfInBounds_toArray, List.set_cons_zero, List.set_cons_succ]
  refine wpAnyH_take (i := 3) (v := ?_) rfl (by kernel_rfl) (by kernel_rfl) (by kernel_rfl) (fun _ _ _ h => h) (Or.inl ⟨by rfl, ?_⟩) (by assumption) ?_
  rotate_left
  · intro w hSw
    (try dsimp only at hSw)
    go_simp
    try (with_reducible rfl)
  try simp only [Act.put, List.getElem_toArray, List.getElem_cons_zero, List.getElem_cons_succ, List.setIfInBounds_toArray, List.set_cons_zero, List.set_cons_succ]
  refine wpAnyH_take (i := 5) (v := ?_) rfl (by kernel_rfl) (by kernel_rfl) (by kernel_rfl) (fun _ _ _ h => h) (Or.inl ⟨by rfl, ?_⟩) (by assumption) ?_
  rotate_left
  · intro w hSw
    (try dsimp only at hSw)
    go_simp
    try (with_reducible rfl)
  try simp only [Act.put, List.getElem_toArray, List.getElem_cons_zero, List.getElem_cons_succ, List.setIfInBounds_toArray, List.set_cons_zero, List.set_cons_succ]
  refine wpAnyH_take (i := 6) (v := ?_) rfl (by kernel_rfl) (by kernel_rfl) (by kernel_rfl) (fun _ _ _ h => h) (Or.inl ⟨by rfl, ?_⟩) (by assumption) ?_
  rotate_left
  · intro w hSw
    (try dsimp only at hSw)
    go_simp
    try (with_reducible rfl)
  try simp only [Act.put, List.getElem_toArray, List.getElem_cons_zero, List.getElem_cons_succ, List.setIfInBounds_toArray, List.set_cons_zero, List.set_cons_succ]
  refine wpAnyH_take (i := 7) (v := ?_) rfl (by kernel_rfl) (by kernel_rfl) (by kernel_rfl) (fun _ _ _ h => h) (Or.inl ⟨by rfl, ?_⟩) (by assumption) ?_
  rotate_left
  · intro w hSw
    (try dsimp only at hSw)
    go_simp
    try (with_reducible rfl)
  try simp only [Act.put, List.getElem_toArray, List.getElem_cons_zero, List.getElem_cons_succ, List.setIfInBounds_toArray, List.set_cons_zero, List.set_cons_succ]
  refine wpAnyH_take (i := 8) (v := ?_) rfl (by kernel_rfl) (by kernel_rfl) (by kernel_rfl) (fun _ _ _ h => h) (Or.inl ⟨by rfl, ?_⟩) (by assumption) ?_
  rotate_left
  · intro w hSw
    (try dsimp only at hSw)
    go_simp
    try (with_reducible rfl)
  try simp only [Act.put, List.getElem_toArray, List.getElem_cons_zero, List.getElem_cons_succ, List.setIfInBounds_toArray, List.set_cons_zero, List.set_cons_succ]
  refine wpAnyH_ready (rs := [4]) (by kernel_rfl) (by simp) ?_
  refine AllReadyH.cons rfl (fun K hK => ?_) AllReadyH.nil
  go_simp
  refine HD1.out.mono ?_
  rintro e w1 ⟨rfl, rfl⟩
  try go_wp2_with fail
  refine hK.out _ _ c1 (fun hHeld2 => ?_)
  clear hK K hHeld
  have hHeld := hHeld2
  clear hHeld2
  try simp only [Act.put, List.getElem_toArray, List.getElem_cons_zero, List.getElem_cons_succ, List.setIfInBounds_toArray, List.set_cons_zero, List.set_cons_succ]
  refine wpAnyH_take (i := 9) (v := ?_) rfl (by kernel_rfl) (by kernel_rfl) (by kernel_rfl) (fun _ _ _ h => h) (Or.inl ⟨by rfl, ?_⟩) (by assumption) ?_
  rotate_left
  · intro w hSw
    (try dsimp only at hSw)
    go_simp
    try (with_reducible rfl)
  try simp only [Act.put, List.getElem_toArray, List.getElem_cons_zero, List.getElem_cons_succ, List.setIfInBounds_toArray, List.set_cons_zero, List.set_cons_succ]
  refine wpAnyH_take (i := 10) (v := ?_) rfl (by kernel_rfl) (by kernel_rfl) (by kernel_rfl) (fun _ _ _ h => h) (Or.inl ⟨by rfl, ?_⟩) (by assumption) ?_
  rotate_left
  · intro w hSw
    (try dsimp only at hSw)
    go_simp
    try (with_reducible rfl)
  try simp only [Act.put, List.getElem_toArray, List.getElem_cons_zero, List.getElem_cons_succ, List.setIfInBounds_toArray, List.set_cons_zero, List.set_cons_succ]
  refine wpAnyH_take (i := 11) (v := ?_) rfl (by kernel_rfl) (by kernel_rfl) (by kernel_rfl) (fun _ _ _ h => h) (Or.inl ⟨by rfl, ?_⟩) (by assumption) ?_
  rotate_left
  · intro w hSw
    (try dsimp only at hSw)
    go_simp
    try (with_reducible rfl)
  try simp only [Act.put, List.getElem_toArray, List.getElem_cons_zero, List.getElem_cons_succ, List.setIfInBounds_toArray, List.set_cons_zero, List.set_cons_succ]
  refine wpAnyH_take (i := 12) (v := ?_) rfl (by kernel_rfl) (by kernel_rfl) (by kernel_rfl) (fun _ _ _ h => h) (Or.inl ⟨by rfl, ?_⟩) (by assumption) ?_
  rotate_left
  · intro w hSw
    (try dsimp only at hSw)
    go_simp
    try (with_reducible rfl)
  try simp only [Act.put, List.getElem_toArray, List.getElem_cons_zero, List.getElem_cons_succ, List.setIfInBounds_toArray, List.set_cons_zero, List.set_cons_succ]
  refine wpAnyH_take (i := 14) (v := ?_) rfl (by kernel_rfl) (by kernel_rfl) (by kernel_rfl) (fun _ _ _ h => h) (Or.inl ⟨by rfl, ?_⟩) (by assumption) ?_
  rotate_left
  · intro w hSw
    (try dsimp only at hSw)
    go_simp
    try (with_reducible rfl)
  try simp only [Act.put, List.getElem_toArray, List.getElem_cons_zero, List.getElem_cons_succ, List.setIfInBounds_toArray, List.set_cons_zero, List.set_cons_succ]
  refine wpAnyH_ready (rs := [13]) (by kernel_rfl) (by simp) ?_
  refine AllReadyH.cons rfl (fun K hK => ?_) AllReadyH.nil
  go_simp
  refine HB1.out.mono ?_
  rintro e w1 ⟨A1, k1, rfl, o1, b1⟩
  have hbw : Below w.heap.size w w1 := ⟨b1.os, b1.tape, b1.output, b1.size, b1.block⟩
  have hrb := rfblocks_any (H'.out.later hbw)
  rw [HNT.out] at hrb
  have HRB := Lib.hid hrb
  have HBW := Lib.hid hbw
  have O1 := Lib.hid o1
  have d1 := cell_later hbw c1
  clear hrb hbw o1 b1
  try go_wp2_with fail
  refine hK.out _ _ d1 (fun hHeld2 => ?_)
  clear hK K hHeld
  have hHeld := hHeld2
  clear hHeld2
  try simp only [Act.put, List.getElem_toArray, List.getElem_cons_zero, List.getElem_cons_succ, List.setIfInBounds_toArray, List.set_cons_zero, List.set_cons_succ]
  refine wpAnyH_ready (rs := [15]) (by kernel_rfl) (by simp) ?_
  refine AllReadyH.cons rfl (fun K hK => ?_) AllReadyH.nil
  go_simp
  refine HRB.out.mono ?_
  rintro e w2 ⟨A2, k2, rfl, o2, b2⟩
  have hbw2 := HBW.out.trans (b2.mono HBW.out.size)
  have HSI := Lib.hid (sameI_true ns (c := k1) (d := k2) rfl rfl ((O1.out.later b2).rd) o2.rd (by unfold maxLen; omega))
  have HBW2 := Lib.hid hbw2
  have d2 := cell_later hbw2 c1
  clear hbw2 o2 b2
  try go_wp2_with fail
  refine hK.out _ _ d2 (fun hHeld2 => ?_)
  clear hK K hHeld
  have hHeld := hHeld2
  clear hHeld2
  try simp only [Act.put, List.getElem_toArray, List.getElem_cons_zero, List.getElem_cons_succ, List.setIfInBounds_toArray, List.set_cons_zero, List.set_cons_succ]
  refine wpAnyH_ready (rs := [16]) (by kernel_rfl) (by simp) ?_
  refine AllReadyH.cons rfl (fun K hK => ?_) AllReadyH.nil
  go_simp
  refine HSI.out.mono ?_
  rintro e w3 ⟨rfl, kq, rfl⟩
  have d3 := cell_later (below_drewN' HBW2.out kq) c1
  try go_wp2_with fail
  refine hK.out _ _ d3 (fun hHeld2 => ?_)
  clear hK K hHeld
  have hHeld := hHeld2
  clear hHeld2
  try simp only [Act.put, List.getElem_toArray, List.getElem_cons_zero, List.getElem_cons_succ, List.setIfInBounds_toArray, List.set_cons_zero, List.set_cons_succ]
  refine wpAnyH_take (i := 17) (v := ?_) rfl (by kernel_rfl) (by kernel_rfl) (by kernel_rfl) (fun _ _ _ h => h) (Or.inl ⟨by rfl, ?_⟩) (by assumption) ?_
  rotate_left
  · intro w hSw
    (try dsimp only at hSw)
    go_simp
    try (with_reducible rfl)
  try simp only [Act.put, List.getElem_toArray, List.getElem_cons_zero, List.getElem_cons_succ, List.setIfInBounds_toArray, List.set_cons_zero, List.set_cons_succ]
  refine wpAnyH_take (i := 18) (v := ?_) rfl (by kernel_rfl) (by kernel_rfl) (by kernel_rfl) (fun _ _ _ h => h) (Or.inl ⟨by rfl, ?_⟩) (by assumption) ?_
  rotate_left
  · intro w hSw
    (try dsimp only at hSw)
    go_simp
    try (with_reducible rfl)
  try simp only [Act.put, List.getElem_toArray, List.getElem_cons_zero, List.getElem_cons_succ, List.setIfInBounds_toArray, List.set_cons_zero, List.set_cons_succ]
  refine wpAnyH_done (by kernel_rfl) ?_ _
  obtain ⟨w4, hw4⟩ : ∃ w4, w2.drewN kq = w4 := ⟨_, rfl⟩
  have hb4 := below_drewN' HBW2.out kq
  rw [hw4] at hb4 ⊢
  have e0 := cell_later hb4 c0
  have HB4 := Lib.hid hb4
  have HL := HR.out.many
  clear hHeld d1 d2 d3 c1 HSI HBW2 HBW HRB O1 HB1 HD1 hw4 hb4 c0
  rcases HR.out.form with ⟨hv, hL⟩ | ⟨g, c, hv, hlc, hcm, hB, hg, hcells, hfr⟩
  · rw [hv] at e0
    clear hv hL
    go_wp2_with fail
    go_loopw [33] (fun vi wr => vi = .int .i64 0 ∧ wr = w4) (fun _ _ => 0)
    case atStart => exact ⟨rfl, rfl⟩
    case round =>
      obtain ⟨rfl, rfl⟩ := hrel
      go_wp2_with fail
      go_ret
      exact ⟨rfl, HB4.out⟩
  · rw [hv] at e0
    obtain ⟨m, hml⟩ : ∃ m, L.length = m := ⟨_, rfl⟩
    rw [hml] at e0 hlc HL
    have HML := Lib.hid hml
    have HC := Lib.hid hcells
    have hcm2 : c ≤ 9223372036854775807 := by unfold maxLen at hcm; exact hcm
    clear hv hml hcells hfr hcm
    go_wp2_with fail
    go_loopw [33] (fun vi wr => ∃ k : Nat, k ≤ m ∧ vi = .int .i64 k ∧ Hid (Below w.heap.size w wr)) (fun vi _ => m - (intOf vi).toNat)
    case atStart => exact ⟨0, by omega, rfl, HB4⟩
    case round =>
      obtain ⟨k, hkm, rfl, hbl⟩ := hrel
      by_cases hlt : k < m
      · obtain ⟨x, hx⟩ : ∃ x, L[k]? = some x := ⟨L[k]'(by rw [HML.out]; exact hlt), List.getElem?_eq_getElem _⟩
        obtain ⟨q0, q1, q2, q3⟩ := HC.out k x hx
        have hmem := List.mem_of_getElem? hx
        have hmb : x.k ∈ s.bs := by rw [HBT.out, ← HK.out]; exact List.mem_map.2 ⟨x, hmem, rfl⟩
        have hxe := ((HR.out.later hbl.out).each x hmem).rd
        have hlx := HR.out.len x hmem
        have d0 := cell_later hbl.out q0
        have d1 := cell_later hbl.out q1
        have d2 := cell_later hbl.out q2
        have d3 := cell_later hbl.out q3
        have i1 : (k : Int) < (m : Int) := by omega
        have i2 : (0 : Int) ≤ (k : Int) := by omega
        clear q0 q1 q2 q3 hx hmem
        have hrdc := fun W (hb : Below w.heap.size w W) => read_some (H.out.later hb) x.k hmb
        unfold RE.v at d1
        obtain ⟨y, hy⟩ : ∃ y, x.k.n = y := ⟨_, rfl⟩
        obtain ⟨xs, hxs⟩ : ∃ y, x.k.xs = y := ⟨_, rfl⟩
        obtain ⟨xf, hxf⟩ : ∃ y, x.k.f = y := ⟨_, rfl⟩
        obtain ⟨xk, hxk⟩ : ∃ y, x.k.s = y := ⟨_, rfl⟩
        rw [hy] at d0 hrdc
        rw [hxs] at d1 hrdc hxe hlx
        rw [hxk] at d2
        rw [hxf] at d3
        obtain ⟨xl, hxl⟩ : ∃ y, xs.length = y := ⟨_, rfl⟩
        unfold RdEnd at hrdc
        rw [hxl] at d1 hlx
        have HXE := Lib.hid hxe
        have HXL := Lib.hid hxl
        have HRD := Lib.hid hrdc
        have hba := (Below.refl wr.heap.size wr).alloc (Nat.le_refl _) (.cells #[.int .i64 y, .slice x.A xl x.c, .int .i64 (xk : Nat), .bool xf] 53)
        have HBA := Lib.hid hba
        have HBB := Lib.hid (hbl.out.trans (hba.mono hbl.out.size))
        clear hmb hxe hrdc hy hxs hxf hxk hxl hba
        go_wp2_with fail
        refine (HRD.out _ HBB.out).mono ?_
        rintro e w5 ⟨A5, c5, rfl, o5, b5⟩
        have O5 := Lib.hid o5.rd
        have X5 := Lib.hid ((HXE.out.later HBA.out).later b5)
        have B5 := Lib.hid (HBB.out.trans (b5.mono HBB.out.size))
        rw [HXL.out]
        have u0 := cell_later b5 (show (wr.alloc (.cells #[.int .i64 y, .slice x.A xl x.c, .int .i64 (xk : Nat), .bool xf] 53)).cell? ⟨wr.heap.size, 0 + 1, none⟩ = some (.slice x.A xl x.c) from by go_simp)
        clear o5 b5
        go_wp2_with fail
        refine (same_true xs HXL.out HXL.out O5.out X5.out (by rw [HXL.out]; unfold maxLen; omega)).mono ?_
        rintro e w6 ⟨rfl, k6, rfl⟩
        go_wp2_with fail
        go_roundw
        case rel => exact ⟨k + 1, by omega, by go_num, Lib.hid (below_drewN' B5.out k6)⟩
        case measure => simp [intOf]; omega
      · go_wp2_with fail
        go_ret
        exact ⟨rfl, hbl.out⟩
end
end Go.Proofs.Ytfafonfphholmaa

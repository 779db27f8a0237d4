/-
  The walk of SpanBack.
-/
import Derived.Test.YtheecfgehfhimaaSpan
import Derived.Test.YtheecfgehfhimaaSpanPack
import Derived.Test.YtheecfgehfhimaaRefPut
import Derived.Test.YtheecfgehfhimaaArgT
import Derived.Test.YtheecfgehfhimaaFresh
import Derived.Test.YtheecfgehfhimaaSpanBackMath
import Derived.Deep.RegionHeld3
import Derived.Deep.DeepCutAuto
namespace Go.Proofs.Ytheecfgehfhimaa
open Go.RowKit

theorem Below_mono0 {B : Nat} {w w' : World} (h : Below B w w') : Below B w w' := h
theorem rd_kept {k : IntKind} {w w' : World} {q : Nat} {xs : List Int} {row : Option Nat} (h : Rd k w (some ⟨q, 0, none⟩) xs) (hg : w.grownBy w' row) (hne : row ≠ some q) (hq : q < w.heap.size) : Rd k w' (some ⟨q, 0, none⟩) xs := by
  rcases h with h | ⟨b, off, hA, h⟩
  · exact .inl h
  · injection hA with hA
    injection hA with h1 h2 _
    subst h1; subst h2
    refine .inr ⟨_, _, rfl, fun i hi => ?_⟩
    rw [← h i hi]
    exact World.cell?_of_block (hg.block _ hq (Ne.symm hne))

section
variable {w : World} {p : Nat} {A : Option Addr} {c : Nat} {xs : List Int} {a : Nat}
theorem readN {z : Int} {a1 : Nat} (h : Rdr w p A c xs a false) (hn : numT xs a false = (z, ((a1 - a : Nat) : Int), true)) (ha : a ≤ a1) :
    Calls Try.prog 14 #[.pointer (some ⟨p, 0, none⟩)] w fun e w' => e = .returned (.int .i64 z) ∧ Rdr w' p A c xs a1 false ∧ w.grownBy w' (some p) := by
  have := numberX_any h
  rw [hn] at this
  simp only [Int.toNat_natCast, Bool.not_true] at this
  rwa [show a + (a1 - a) = a1 by omega] at this
theorem readB {t : List Int} {a1 : Nat} (most : Int) (h : Rdr w p A c xs a false) (hn : bytT xs a false most = (t, a1, false)) :
    Calls Try.prog 10 #[.pointer (some ⟨p, 0, none⟩), .int .i64 most] w fun e w' =>
      ∃ A' c', e = .returned (.slice A' t.length c') ∧ Own .u8 5 w' w.heap.size (.slice A' t.length c') t ∧ Rdr w' p A c xs a1 false ∧ w.grownBy w' (some p) := by
  have := bytesX_any most h
  rwa [hn] at this
theorem readO {x : Int} {a1 : Nat} {bad : Bool} (h : Rdr w p A c xs a false) (hn : oneT xs a false = (x, a1, bad)) :
    Calls Try.prog 15 #[.pointer (some ⟨p, 0, none⟩)] w fun e w' => e = .returned (.int .u8 x) ∧ Rdr w' p A c xs a1 bad ∧ w.grownBy w' (some p) := by
  have := byteX_any h
  rwa [hn] at this
theorem numZ (h : Rdr w p A c xs a true) :
    Calls Try.prog 14 #[.pointer (some ⟨p, 0, none⟩)] w fun e w' => e = .returned (.int .i64 0) ∧ Rdr w' p A c xs a true ∧ w.grownBy w' (some p) := by
  have := numberX_any h
  rw [show numT xs a true = (0, 0, false) from rfl] at this
  exact this
theorem bytZ (most : Int) (h : Rdr w p A c xs a true) :
    Calls Try.prog 10 #[.pointer (some ⟨p, 0, none⟩), .int .i64 most] w fun e w' => ∃ A' c', e = .returned (.slice A' 0 c') ∧ Rdr w' p A c xs a true ∧ w.grownBy w' (some p) := by
  have := bytesX_any most h
  rw [show bytT xs a true most = ([], a, true) from by simp [bytT, numT]] at this
  exact this.mono fun e w' ⟨A', c', he, _, h1, h2⟩ => ⟨A', c', he, h1, h2⟩
end

set_option linter.unusedSimpArgs false in
set_option maxRecDepth 100000 in
set_option maxHeartbeats 8000000 in
theorem spanBack_walk (A0 : Option Addr) (n0 c0 : Nat) (ns : List Int) (A1 : Option Addr) (n1 c1 : Nat) (Ra : Nat → Option Addr) (Rn Rc : Nat → Nat) (Rz : Nat → List Int) (cc : Int) (w : World)
    (h0 : ArgI .i64 8 w A0 n0 c0 ns) (h1 : ArgT w A1 n1 c1 Ra Rn Rc Rz) (h2 : (Lit.int .u8 cc).wf = true) :
    Calls Try.prog 5 #[.slice A0 n0 c0, .slice A1 n1 c1, .int .u8 cc] w fun e w' => e = .returned (.bool true) ∧ Below w.heap.size w w' := by
  have r0 := h0.reach
  have r1 := h1.reach
  have l0 := h0.le
  have l1 := h1.le
  have hcc := wf_u8 h2
  have H0 := Lib.hid h0
  have H1 := Lib.hid h1
  obtain ⟨f, hf⟩ : ∃ f : Nat → List Int, f = fun j => fieldB (ns.getD j 0 % 1099511627776) ((Rz j).take 80) cc := ⟨_, rfl⟩
  obtain ⟨N, hN⟩ : ∃ N, min (min n0 n1) 6 = N := ⟨_, rfl⟩
  have hmin : ∀ (ts : Array TypeId) (t : TypeId) (w : World), (Builtin.min_ ts t #[.int .i64 (n0 : Int), .int .i64 (n1 : Int), .int .i64 6]).run Try.prog w = .ok (.int .i64 (N : Int)) w := fun ts t w => by
    have e : (if (6 : Int) < (if (n1 : Int) < (n0 : Int) then (n1 : Int) else (n0 : Int)) then (6 : Int) else (if (n1 : Int) < (n0 : Int) then (n1 : Int) else (n0 : Int))) = (N : Int) := by
      split <;> split <;> (try split at *) <;> omega
    rw [run_min_int3, e]
  have hN0 : N ≤ n0 := by omega
  have hN1 : N ≤ n1 := by omega
  have hN6 : N ≤ 6 := by omega
  have hfl : ∀ j, (f j).length ≤ 97 := fun j => by rw [hf]; exact fieldB_len _ _ (by simp; omega)
  have hfb : ∀ j, j < N → ∀ x ∈ f j, 0 ≤ x ∧ x < 256 := fun j hj => by rw [hf]; exact fieldB_bytes (fun x hx => (h1.row j (by omega)).2.2.2.2 x (List.mem_of_mem_take hx)) hcc
  have HF := Lib.hid hf
  have HFL := Lib.hid hfl
  have HFB := Lib.hid hfb
  clear hN h0 h1 h2 hf hfl hfb
  go_enter Try.func5, Try.ntmps5
  go_wp2_with fail
  clear hmin
  go_loopw [7, 9] (fun vb vi wr => ∃ (j : Nat) (A : Option Addr) (c : Nat), j ≤ N ∧ vi = .int .i64 (j : Nat) ∧ vb = .slice A (catB f j).length c ∧ Hid (Own .u8 5 wr w.heap.size (.slice A (catB f j).length c) (catB f j)) ∧ Hid (Below w.heap.size w wr)) (fun _ vi _ => N - (intOf vi).toNat)
  case atStart => exact ⟨0, none, 0, by omega, rfl, rfl, Lib.hid (Own.nil _ _ _ _), Lib.hid (Below.refl _ _)⟩
  case round =>
    obtain ⟨j, A, c, hj, rfl, rfl, ho, hbl⟩ := hrel
    by_cases hlt : j < N
    · obtain ⟨b1, o1, rfl, hc1⟩ := H0.out.rd.some_ (by rw [H0.out.len]; omega)
      have k1 := hc1 j (by rw [H0.out.len]; omega)
      obtain ⟨b2, o2, rfl, hc2⟩ := H1.out.cell (by omega)
      have k2 := hc2 j (by omega)
      clear hc1 hc2
      obtain ⟨q1, t2, q3, q4, q5⟩ := H1.out.row j (by omega)
      have t3 : Rc j ≤ 9223372036854775807 := by unfold maxLen at q3; exact q3
      have hfj : f j = fieldB (ns.getD j 0 % 1099511627776) ((Rz j).take 80) cc := by rw [HF.out]
      have hcs : catB f (j + 1) = catB f j ++ f j := rfl
      rw [hfj] at hcs
      obtain ⟨x, hx⟩ : ∃ x, ns.getD j 0 = x := ⟨_, rfl⟩
      obtain ⟨T, hT⟩ : ∃ T, Ra j = T := ⟨_, rfl⟩
      obtain ⟨tn, htn⟩ : ∃ tn, Rn j = tn := ⟨_, rfl⟩
      obtain ⟨tc, htc⟩ : ∃ tc, Rc j = tc := ⟨_, rfl⟩
      obtain ⟨ts, hts'⟩ : ∃ ts, (Rz j).take 80 = ts := ⟨_, rfl⟩
      obtain ⟨z, hz'⟩ : ∃ z, x % 1099511627776 = z := ⟨_, rfl⟩
      obtain ⟨bs, hbs⟩ : ∃ bs, catB f j = bs := ⟨_, rfl⟩
      have hbl2 := catB_len HFL.out j
      rw [hx] at k1
      rw [hx, hz', hts', hbs] at hcs
      rw [hT, htn, htc] at k2
      rw [hT] at q4
      rw [htn] at q1
      rw [htn, htc] at t2
      rw [htc] at t3
      rw [hbs] at ho hbl2 ⊢
      have z0 : 0 ≤ z := by omega
      have z1 : z < 1099511627776 := by omega
      have hpl := putL_len z
      have hpp := putL_pos z0 (by omega)
      have ht80 : ts.length ≤ 80 := by rw [← hts']; simp; omega
      have hpt := putL_len ts.length
      have hpq := putL_pos (x := (ts.length : Int)) (by omega) (by omega)
      have hbl3 : bs.length ≤ 582 := by omega
      have e3 : catB f (j + 1) = ((bs ++ putL z) ++ (putL (ts.length : Int) ++ ts)) ++ [cc] := by rw [hcs]; simp only [fieldB, List.append_assoc]
      have fin2 := Lib.hid e3
      have fin1 := Lib.hid (show (catB f (j + 1)).length = bs.length + (putL z).length + ((putL (ts.length : Int)).length + ts.length) + 1 by rw [e3]; simp only [List.length_append, List.length_singleton])
      have hlen3 := Lib.hid (show ((bs ++ putL z) ++ (putL (ts.length : Int) ++ ts)).length = bs.length + (putL z).length + ((putL (ts.length : Int)).length + ts.length) by simp only [List.length_append])
      have hz := Lib.hid hz'
      have hts := Lib.hid hts'
      have T1 := Lib.hid q1
      have T4 := Lib.hid q4
      have cell1 := Lib.hid k1
      have cell2 := Lib.hid k2
      have OB := Lib.hid (ho.out.drewN 1)
      have BL := Lib.hid (below_drewN' hbl.out 1)
      have k1' := cell_later hbl.out k1
      have k2' := cell_later hbl.out k2
      have i1 : (j : Int) < (N : Int) := by omega
      have i2 : (j : Int) < (n0 : Int) := by omega
      have i3 : (j : Int) < (n1 : Int) := by omega
      have i4 : (0 : Int) ≤ (j : Int) := by omega
      clear q1 q3 q4 q5 hfj hcs hx hT htn htc hts' hz' hbs hbl2 e3 k1 k2 ho hbl
      go_wp2_with fail
      refine wp_region_held_drew (S := fun W' => W'.cell? ⟨b1, o1 + j, none⟩ = some (.int .i64 x) ∧ W'.cell? ⟨b2, o2 + j, none⟩ = some (.slice T tn tc)) (by kernel_rfl) ⟨k1', k2'⟩ (fun hHeld => ?_)
      clear k1' k2'
      obtain ⟨W, hW⟩ : ∃ W, wr.drew = W := ⟨_, rfl⟩
      rw [show wr.drewN 1 = W from hW] at OB BL
      rw [hW] at hHeld ⊢
      clear hW
      refine wpAnyH_take (i := 0) (v := ?_) rfl (by kernel_rfl) (by kernel_rfl) (by kernel_rfl) (fun _ _ _ h => h) (Or.inl ⟨by rfl, ?_⟩) (by assumption) ?_
      rotate_left
      · intro w hSw
        (try dsimp only at hSw)
        (try obtain ⟨hSw1, hSw2⟩ := hSw)
        go_simp
        try (with_reducible rfl)
      try simp only [Act.put, List.getElem_toArray, List.getElem_cons_zero, List.getElem_cons_succ, List.setIfInBounds_toArray, List.set_cons_zero, List.set_cons_succ]
      refine wpAnyH_take (i := 1) (v := ?_) rfl (by kernel_rfl) (by kernel_rfl) (by kernel_rfl) (fun _ _ _ h => h) (Or.inl ⟨by rfl, ?_⟩) (by assumption) ?_
      rotate_left
      · intro w hSw
        (try dsimp only at hSw)
        (try obtain ⟨hSw1, hSw2⟩ := hSw)
        go_simp
        try (with_reducible rfl)
      try simp only [Act.put, List.getElem_toArray, List.getElem_cons_zero, List.getElem_cons_succ, List.setIfInBounds_toArray, List.set_cons_zero, List.set_cons_succ]
      refine wpAnyH_take (i := 2) (v := ?_) rfl (by kernel_rfl) (by kernel_rfl) (by kernel_rfl) (fun _ _ _ h => h) (Or.inl ⟨by rfl, ?_⟩) (by assumption) ?_
      rotate_left
      · intro w hSw
        (try dsimp only at hSw)
        (try obtain ⟨hSw1, hSw2⟩ := hSw)
        go_simp
        try (with_reducible rfl)
      try simp only [Act.put, List.getElem_toArray, List.getElem_cons_zero, List.getElem_cons_succ, List.setIfInBounds_toArray, List.set_cons_zero, List.set_cons_succ]
      refine wpAnyH_take (i := 3) (v := ?_) rfl (by kernel_rfl) (by kernel_rfl) (by kernel_rfl) (fun _ _ _ h => h) (Or.inl ⟨by rfl, ?_⟩) (by assumption) ?_
      rotate_left
      · intro w hSw
        (try dsimp only at hSw)
        (try obtain ⟨hSw1, hSw2⟩ := hSw)
        go_simp
        try (with_reducible rfl)
      try simp only [Act.put, List.getElem_toArray, List.getElem_cons_zero, List.getElem_cons_succ, List.setIfInBounds_toArray, List.set_cons_zero, List.set_cons_succ]
      refine wpAnyH_take (i := 4) (v := ?_) rfl (by kernel_rfl) (by kernel_rfl) (by kernel_rfl) (fun _ _ _ h => h) (Or.inl ⟨by rfl, ?_⟩) (by assumption) ?_
      rotate_left
      · intro w hSw
        (try dsimp only at hSw)
        (try obtain ⟨hSw1, hSw2⟩ := hSw)
        go_simp
        try (with_reducible rfl)
      try simp only [Act.put, List.getElem_toArray, List.getElem_cons_zero, List.getElem_cons_succ, List.setIfInBounds_toArray, List.set_cons_zero, List.set_cons_succ]
      refine wpAnyH_take (i := 8) (v := ?_) rfl (by kernel_rfl) (by kernel_rfl) (by kernel_rfl) (fun _ _ _ h => h) (Or.inl ⟨by rfl, ?_⟩) (by assumption) ?_
      rotate_left
      · intro w hSw
        (try dsimp only at hSw)
        (try obtain ⟨hSw1, hSw2⟩ := hSw)
        go_simp
        try (with_reducible rfl)
      try simp only [Act.put, List.getElem_toArray, List.getElem_cons_zero, List.getElem_cons_succ, List.setIfInBounds_toArray, List.set_cons_zero, List.set_cons_succ]
      refine wpAnyH_take (i := 9) (v := ?_) rfl (by kernel_rfl) (by kernel_rfl) (by kernel_rfl) (fun _ _ _ h => h) (Or.inl ⟨by rfl, ?_⟩) (by assumption) ?_
      rotate_left
      · intro w hSw
        (try dsimp only at hSw)
        (try obtain ⟨hSw1, hSw2⟩ := hSw)
        go_simp
        try (with_reducible rfl)
      try simp only [Act.put, List.getElem_toArray, List.getElem_cons_zero, List.getElem_cons_succ, List.setIfInBounds_toArray, List.set_cons_zero, List.set_cons_succ]
      refine wpAnyH_take (i := 10) (v := ?_) rfl (by kernel_rfl) (by kernel_rfl) (by kernel_rfl) (fun _ _ _ h => h) (Or.inl ⟨by rfl, ?_⟩) (by assumption) ?_
      rotate_left
      · intro w hSw
        (try dsimp only at hSw)
        (try obtain ⟨hSw1, hSw2⟩ := hSw)
        go_simp
        try (with_reducible rfl)
      try simp only [Act.put, List.getElem_toArray, List.getElem_cons_zero, List.getElem_cons_succ, List.setIfInBounds_toArray, List.set_cons_zero, List.set_cons_succ]
      refine wpAnyH_take (i := 11) (v := ?_) rfl (by kernel_rfl) (by kernel_rfl) (by kernel_rfl) (fun _ _ _ h => h) (Or.inl ⟨by rfl, ?_⟩) (by assumption) ?_
      rotate_left
      · intro w hSw
        (try dsimp only at hSw)
        (try obtain ⟨hSw1, hSw2⟩ := hSw)
        go_simp
        try (with_reducible rfl)
      try simp only [Act.put, List.getElem_toArray, List.getElem_cons_zero, List.getElem_cons_succ, List.setIfInBounds_toArray, List.set_cons_zero, List.set_cons_succ]
      refine wpAnyH_take (i := 15) (v := ?_) rfl (by kernel_rfl) (by kernel_rfl) (by kernel_rfl) (fun _ _ _ h => h) (Or.inl ⟨by rfl, ?_⟩) (by assumption) ?_
      rotate_left
      · intro w hSw
        (try dsimp only at hSw)
        (try obtain ⟨hSw1, hSw2⟩ := hSw)
        go_simp
        try (with_reducible rfl)
      try simp only [Act.put, List.getElem_toArray, List.getElem_cons_zero, List.getElem_cons_succ, List.setIfInBounds_toArray, List.set_cons_zero, List.set_cons_succ]
      refine wpAnyH_ready (rs := [5, 16]) (by kernel_rfl) (by simp) ?_
      refine AllReadyH.cons rfl (fun K hK => ?_) (AllReadyH.cons rfl (fun K hK => ?_) AllReadyH.nil)
      · go_simp
        refine (within_any x 1099511627776 _ (by omega) (by omega)).mono ?_
        rintro e w' ⟨rfl, rfl⟩
        rw [hz.out]
        try go_wp2_with fail
        have HBX := Lib.hid (Below.refl W.heap.size W)
        have hS2 := hHeld
        refine hK.out _ _ hS2 (fun hHeld2 => ?_)
        clear hK K hHeld hS2 HBX
        have hHeld := hHeld2
        clear hHeld2
        try simp only [Act.put, List.getElem_toArray, List.getElem_cons_zero, List.getElem_cons_succ, List.setIfInBounds_toArray, List.set_cons_zero, List.set_cons_succ]
        refine wpAnyH_ready (rs := [6, 16]) (by kernel_rfl) (by simp) ?_
        refine AllReadyH.cons rfl (fun K hK => ?_) (AllReadyH.cons rfl (fun K hK => ?_) AllReadyH.nil)
        · go_simp
          refine (refPut_own z _).mono ?_
          rintro e wp ⟨P, cp, rfl, hp, hbx⟩
          have HP := Lib.hid hp
          have HBX := Lib.hid hbx
          clear hp hbx
          try go_wp2_with fail
          have hS2 : (wp.cell? ⟨b1, o1 + j, none⟩ = some (.int .i64 x) ∧ wp.cell? ⟨b2, o2 + j, none⟩ = some (.slice T tn tc)) := ⟨cell_later HBX.out hHeld.1, cell_later HBX.out hHeld.2⟩
          have BL2 := Lib.hid (BL.out.trans (HBX.out.mono BL.out.size))
          clear BL
          have BL := BL2
          clear BL2
          have OB2 := Lib.hid (OB.out.later HBX.out)
          clear OB
          have OB := OB2
          clear OB2
          refine hK.out _ _ hS2 (fun hHeld2 => ?_)
          clear hK K hHeld hS2 HBX
          have hHeld := hHeld2
          clear hHeld2
          try simp only [Act.put, List.getElem_toArray, List.getElem_cons_zero, List.getElem_cons_succ, List.setIfInBounds_toArray, List.set_cons_zero, List.set_cons_succ]
          refine wpAnyH_ready (rs := [7, 16]) (by kernel_rfl) (by simp) ?_
          refine AllReadyH.cons rfl (fun K hK => ?_) (AllReadyH.cons rfl (fun K hK => ?_) AllReadyH.nil)
          · refine step_app_f _ .u8 (by kernel_rfl) (.tmp 23) (.tmp 29) 22 rfl 5 (.int .u8 0) 1 Try.underlying22 info_byte rfl w.heap.size (.slice A bs.length c) bs _ rfl rfl OB.out _ _ _ rfl (putL z) rfl (by omega) HP.out.rd (by unfold maxLen; omega) (by omega) BL.out.size ?_
            intro F fc wa of gf bf nf
            have BL2 := Lib.hid (BL.out.grown gf BL.out.size (fun g hg => (OB.out.lt g hg).1))
            clear BL
            have BL := BL2
            clear BL2
            have OB2 := Lib.hid of
            clear OB HP of gf bf nf
            have OB := OB2
            clear OB2
            have HBX := Lib.hid (Below.refl wa.heap.size wa)
            have hS2 : (wa.cell? ⟨b1, o1 + j, none⟩ = some (.int .i64 x) ∧ wa.cell? ⟨b2, o2 + j, none⟩ = some (.slice T tn tc)) := ⟨cell_later (Below_mono0 BL.out) cell1.out, cell_later (Below_mono0 BL.out) cell2.out⟩
            refine hK.out _ _ hS2 (fun hHeld2 => ?_)
            clear hK K hHeld hS2 HBX
            have hHeld := hHeld2
            clear hHeld2
            try simp only [Act.put, List.getElem_toArray, List.getElem_cons_zero, List.getElem_cons_succ, List.setIfInBounds_toArray, List.set_cons_zero, List.set_cons_succ]
            refine wpAnyH_ready (rs := [12, 16]) (by kernel_rfl) (by simp) ?_
            refine AllReadyH.cons rfl (fun K hK => ?_) (AllReadyH.cons rfl (fun K hK => ?_) AllReadyH.nil)
            · go_simp
              refine (cut_any T tn tc 80 (Rz j) _ T1.out t2 (T4.out.later (Below_mono0 BL.out)) (by omega) (by omega) (by omega)).mono ?_
              rw [show (80 : Int).toNat = 80 from rfl, hts.out]
              rintro e wc ⟨U, cu, rfl, hu, hbx⟩
              have HU := Lib.hid hu
              have HBX := Lib.hid hbx
              clear hu hbx
              try go_wp2_with fail
              have hS2 : (wc.cell? ⟨b1, o1 + j, none⟩ = some (.int .i64 x) ∧ wc.cell? ⟨b2, o2 + j, none⟩ = some (.slice T tn tc)) := ⟨cell_later HBX.out hHeld.1, cell_later HBX.out hHeld.2⟩
              have BL2 := Lib.hid (BL.out.trans (HBX.out.mono BL.out.size))
              clear BL
              have BL := BL2
              clear BL2
              have OB2 := Lib.hid (OB.out.later HBX.out)
              clear OB
              have OB := OB2
              clear OB2
              refine hK.out _ _ hS2 (fun hHeld2 => ?_)
              clear hK K hHeld hS2 HBX
              have hHeld := hHeld2
              clear hHeld2
              try simp only [Act.put, List.getElem_toArray, List.getElem_cons_zero, List.getElem_cons_succ, List.setIfInBounds_toArray, List.set_cons_zero, List.set_cons_succ]
              refine wpAnyH_ready (rs := [13, 16]) (by kernel_rfl) (by simp) ?_
              refine AllReadyH.cons rfl (fun K hK => ?_) (AllReadyH.cons rfl (fun K hK => ?_) AllReadyH.nil)
              · go_simp
                refine (pack_any U ts.length cu ts _ rfl HU.out.rd (by omega)).mono ?_
                rintro e wk ⟨V, cv, rfl, hv, hbx⟩
                have HV := Lib.hid hv
                have HBX := Lib.hid hbx
                clear hv hbx HU
                try go_wp2_with fail
                have hS2 : (wk.cell? ⟨b1, o1 + j, none⟩ = some (.int .i64 x) ∧ wk.cell? ⟨b2, o2 + j, none⟩ = some (.slice T tn tc)) := ⟨cell_later HBX.out hHeld.1, cell_later HBX.out hHeld.2⟩
                have BL2 := Lib.hid (BL.out.trans (HBX.out.mono BL.out.size))
                clear BL
                have BL := BL2
                clear BL2
                have OB2 := Lib.hid (OB.out.later HBX.out)
                clear OB
                have OB := OB2
                clear OB2
                refine hK.out _ _ hS2 (fun hHeld2 => ?_)
                clear hK K hHeld hS2 HBX
                have hHeld := hHeld2
                clear hHeld2
                try simp only [Act.put, List.getElem_toArray, List.getElem_cons_zero, List.getElem_cons_succ, List.setIfInBounds_toArray, List.set_cons_zero, List.set_cons_succ]
                refine wpAnyH_ready (rs := [14, 16]) (by kernel_rfl) (by simp) ?_
                refine AllReadyH.cons rfl (fun K hK => ?_) (AllReadyH.cons rfl (fun K hK => ?_) AllReadyH.nil)
                · refine step_app_f _ .u8 (by kernel_rfl) (.tmp 30) (.tmp 36) 22 rfl 5 (.int .u8 0) 1 Try.underlying22 info_byte rfl w.heap.size (.slice F (bs.length + (putL z).length) fc) (bs ++ putL z) _ List.length_append rfl OB.out _ _ _ rfl (putL (ts.length : Int) ++ ts) List.length_append (by omega) HV.out.rd (by unfold maxLen; omega) (by omega) BL.out.size ?_
                  intro G gc wb of gf bf nf
                  have BL2 := Lib.hid (BL.out.grown gf BL.out.size (fun g hg => (OB.out.lt g hg).1))
                  clear BL
                  have BL := BL2
                  clear BL2
                  have OB2 := Lib.hid of
                  clear OB HV of gf bf nf
                  have OB := OB2
                  clear OB2
                  have HBX := Lib.hid (Below.refl wb.heap.size wb)
                  have hS2 : (wb.cell? ⟨b1, o1 + j, none⟩ = some (.int .i64 x) ∧ wb.cell? ⟨b2, o2 + j, none⟩ = some (.slice T tn tc)) := ⟨cell_later (Below_mono0 BL.out) cell1.out, cell_later (Below_mono0 BL.out) cell2.out⟩
                  refine hK.out _ _ hS2 (fun hHeld2 => ?_)
                  clear hK K hHeld hS2 HBX
                  have hHeld := hHeld2
                  clear hHeld2
                  try simp only [Act.put, List.getElem_toArray, List.getElem_cons_zero, List.getElem_cons_succ, List.setIfInBounds_toArray, List.set_cons_zero, List.set_cons_succ]
                  refine wpAnyH_ready (rs := [16]) (by kernel_rfl) (by simp) ?_
                  refine AllReadyH.cons rfl (fun K hK => ?_) AllReadyH.nil
                  go_simp
                  have RC := Lib.hid (rd_one .u8 wb cc 5)
                  have ql : wb.heap.size < (wb.alloc (.cells #[.int .u8 cc] 5)).heap.size := by simp
                  have NB := Lib.hid (show ∀ g, (Value.slice G (bs.length + (putL z).length + ((putL (ts.length : Int)).length + ts.length)) gc).ownBlock = some g → g ≠ wb.heap.size from fun g hg => Nat.ne_of_lt (OB.out.lt g hg).2)
                  have HBX := Lib.hid ((Below.refl wb.heap.size wb).alloc (Nat.le_refl _) (.cells #[.int .u8 cc] 5))
                  obtain ⟨q, hq⟩ : ∃ q, wb.heap.size = q := ⟨_, rfl⟩
                  obtain ⟨wq, hwwq⟩ : ∃ V, wb.alloc (.cells #[.int .u8 cc] 5) = V := ⟨_, rfl⟩
                  rw [hwwq] at RC ql HBX ⊢
                  rw [hq] at RC ql NB ⊢
                  clear hwwq
                  have hS2 : (wq.cell? ⟨b1, o1 + j, none⟩ = some (.int .i64 x) ∧ wq.cell? ⟨b2, o2 + j, none⟩ = some (.slice T tn tc)) := ⟨cell_later HBX.out hHeld.1, cell_later HBX.out hHeld.2⟩
                  have BL2 := Lib.hid (BL.out.trans (HBX.out.mono BL.out.size))
                  clear BL
                  have BL := BL2
                  clear BL2
                  have OB2 := Lib.hid (OB.out.later HBX.out)
                  clear OB
                  have OB := OB2
                  clear OB2
                  clear hq
                  refine hK.out _ _ hS2 (fun hHeld2 => ?_)
                  clear hK K hHeld hS2 HBX
                  have hHeld := hHeld2
                  clear hHeld2
                  try simp only [Act.put, List.getElem_toArray, List.getElem_cons_zero, List.getElem_cons_succ, List.setIfInBounds_toArray, List.set_cons_zero, List.set_cons_succ]
                  refine wpAnyH_ready (rs := [17]) (by kernel_rfl) (by simp) ?_
                  refine AllReadyH.cons rfl (fun K hK => ?_) AllReadyH.nil
                  refine step_app_f _ .u8 (by kernel_rfl) (.tmp 37) (.tmp 39) 22 rfl 5 (.int .u8 0) 1 Try.underlying22 info_byte rfl w.heap.size (.slice G (bs.length + (putL z).length + ((putL (ts.length : Int)).length + ts.length)) gc) ((bs ++ putL z) ++ (putL (ts.length : Int) ++ ts)) _ hlen3.out rfl OB.out _ _ _ rfl [cc] rfl (by omega) RC.out (by unfold maxLen; omega) (by omega) BL.out.size ?_
                  intro H hc wdq of gf bf nf
                  have BLn := Lib.hid (BL.out.grown gf BL.out.size (fun g hg => (OB.out.lt g hg).1))
                  have OBn := Lib.hid of
                  have HBX := Lib.hid (Below.refl wdq.heap.size wdq)
                  have hS2 : (wdq.cell? ⟨b1, o1 + j, none⟩ = some (.int .i64 x) ∧ wdq.cell? ⟨b2, o2 + j, none⟩ = some (.slice T tn tc)) := ⟨cell_later (Below_mono0 BLn.out) cell1.out, cell_later (Below_mono0 BLn.out) cell2.out⟩
                  clear OB BL RC NB ql of gf bf nf
                  refine hK.out _ _ hS2 (fun hHeld2 => ?_)
                  clear hK K hHeld hS2 HBX
                  try simp only [Act.put, List.getElem_toArray, List.getElem_cons_zero, List.getElem_cons_succ, List.setIfInBounds_toArray, List.set_cons_zero, List.set_cons_succ]
                  refine wpAnyH_take (i := 18) (v := ?_) rfl (by kernel_rfl) (by kernel_rfl) (by kernel_rfl) (fun _ _ _ h => h) (Or.inl ⟨by rfl, ?_⟩) (by assumption) ?_
                  rotate_left
                  · intro w hSw
                    (try dsimp only at hSw)
                    (try obtain ⟨hSw1, hSw2⟩ := hSw)
                    go_simp
                    try (with_reducible rfl)
                  try simp only [Act.put, List.getElem_toArray, List.getElem_cons_zero, List.getElem_cons_succ, List.setIfInBounds_toArray, List.set_cons_zero, List.set_cons_succ]
                  refine wpAnyH_done (by kernel_rfl) ?_ _
                  clear hHeld2
                  go_wp2_with fail
                  go_roundw
                  case rel => exact ⟨j + 1, H, hc, by omega, by go_num, by rw [fin1.out], Lib.hid (by rw [fin1.out, fin2.out]; exact OBn.out), BLn⟩
                  case measure => simp [intOf]; omega
                · go_simp
                  have RC := Lib.hid (rd_one .u8 wk cc 5)
                  have ql : wk.heap.size < (wk.alloc (.cells #[.int .u8 cc] 5)).heap.size := by simp
                  have NB := Lib.hid (show ∀ g, (Value.slice F (bs.length + (putL z).length) fc).ownBlock = some g → g ≠ wk.heap.size from fun g hg => Nat.ne_of_lt (OB.out.lt g hg).2)
                  have HBX := Lib.hid ((Below.refl wk.heap.size wk).alloc (Nat.le_refl _) (.cells #[.int .u8 cc] 5))
                  obtain ⟨q, hq⟩ : ∃ q, wk.heap.size = q := ⟨_, rfl⟩
                  obtain ⟨wq, hwwq⟩ : ∃ V, wk.alloc (.cells #[.int .u8 cc] 5) = V := ⟨_, rfl⟩
                  rw [hwwq] at RC ql HBX ⊢
                  rw [hq] at RC ql NB ⊢
                  clear hwwq
                  have hS2 : (wq.cell? ⟨b1, o1 + j, none⟩ = some (.int .i64 x) ∧ wq.cell? ⟨b2, o2 + j, none⟩ = some (.slice T tn tc)) := ⟨cell_later HBX.out hHeld.1, cell_later HBX.out hHeld.2⟩
                  have BL2 := Lib.hid (BL.out.trans (HBX.out.mono BL.out.size))
                  clear BL
                  have BL := BL2
                  clear BL2
                  have OB2 := Lib.hid (OB.out.later HBX.out)
                  clear OB
                  have OB := OB2
                  clear OB2
                  have O2 := Lib.hid (HV.out.later HBX.out)
                  clear HV
                  have HV := O2
                  clear O2
                  clear hq
                  refine hK.out _ _ hS2 (fun hHeld2 => ?_)
                  clear hK K hHeld hS2 HBX
                  have hHeld := hHeld2
                  clear hHeld2
                  try simp only [Act.put, List.getElem_toArray, List.getElem_cons_zero, List.getElem_cons_succ, List.setIfInBounds_toArray, List.set_cons_zero, List.set_cons_succ]
                  refine wpAnyH_ready (rs := [14]) (by kernel_rfl) (by simp) ?_
                  refine AllReadyH.cons rfl (fun K hK => ?_) AllReadyH.nil
                  refine step_app_f _ .u8 (by kernel_rfl) (.tmp 30) (.tmp 36) 22 rfl 5 (.int .u8 0) 1 Try.underlying22 info_byte rfl w.heap.size (.slice F (bs.length + (putL z).length) fc) (bs ++ putL z) _ List.length_append rfl OB.out _ _ _ rfl (putL (ts.length : Int) ++ ts) List.length_append (by omega) HV.out.rd (by unfold maxLen; omega) (by omega) BL.out.size ?_
                  intro G gc wbq of gf bf nf
                  have R2 := Lib.hid (rd_kept RC.out gf (fun hg => NB.out q hg rfl) ql)
                  have NB2 := Lib.hid (show ∀ g, _ = some g → g ≠ q from fun g hg => (nf g hg).elim (fun h => NB.out g h) (fun h => by omega))
                  clear RC NB
                  have RC := R2
                  have NB := NB2
                  clear R2 NB2
                  replace ql := Nat.lt_of_lt_of_le ql gf.size
                  have BL2 := Lib.hid (BL.out.grown gf BL.out.size (fun g hg => (OB.out.lt g hg).1))
                  clear BL
                  have BL := BL2
                  clear BL2
                  have OB2 := Lib.hid of
                  clear OB HV of gf bf nf
                  have OB := OB2
                  clear OB2
                  have HBX := Lib.hid (Below.refl wbq.heap.size wbq)
                  have hS2 : (wbq.cell? ⟨b1, o1 + j, none⟩ = some (.int .i64 x) ∧ wbq.cell? ⟨b2, o2 + j, none⟩ = some (.slice T tn tc)) := ⟨cell_later (Below_mono0 BL.out) cell1.out, cell_later (Below_mono0 BL.out) cell2.out⟩
                  refine hK.out _ _ hS2 (fun hHeld2 => ?_)
                  clear hK K hHeld hS2 HBX
                  have hHeld := hHeld2
                  clear hHeld2
                  try simp only [Act.put, List.getElem_toArray, List.getElem_cons_zero, List.getElem_cons_succ, List.setIfInBounds_toArray, List.set_cons_zero, List.set_cons_succ]
                  refine wpAnyH_ready (rs := [17]) (by kernel_rfl) (by simp) ?_
                  refine AllReadyH.cons rfl (fun K hK => ?_) AllReadyH.nil
                  refine step_app_f _ .u8 (by kernel_rfl) (.tmp 37) (.tmp 39) 22 rfl 5 (.int .u8 0) 1 Try.underlying22 info_byte rfl w.heap.size (.slice G (bs.length + (putL z).length + ((putL (ts.length : Int)).length + ts.length)) gc) ((bs ++ putL z) ++ (putL (ts.length : Int) ++ ts)) _ hlen3.out rfl OB.out _ _ _ rfl [cc] rfl (by omega) RC.out (by unfold maxLen; omega) (by omega) BL.out.size ?_
                  intro H hc wdq of gf bf nf
                  have BLn := Lib.hid (BL.out.grown gf BL.out.size (fun g hg => (OB.out.lt g hg).1))
                  have OBn := Lib.hid of
                  have HBX := Lib.hid (Below.refl wdq.heap.size wdq)
                  have hS2 : (wdq.cell? ⟨b1, o1 + j, none⟩ = some (.int .i64 x) ∧ wdq.cell? ⟨b2, o2 + j, none⟩ = some (.slice T tn tc)) := ⟨cell_later (Below_mono0 BLn.out) cell1.out, cell_later (Below_mono0 BLn.out) cell2.out⟩
                  clear OB BL RC NB ql of gf bf nf
                  refine hK.out _ _ hS2 (fun hHeld2 => ?_)
                  clear hK K hHeld hS2 HBX
                  try simp only [Act.put, List.getElem_toArray, List.getElem_cons_zero, List.getElem_cons_succ, List.setIfInBounds_toArray, List.set_cons_zero, List.set_cons_succ]
                  refine wpAnyH_take (i := 18) (v := ?_) rfl (by kernel_rfl) (by kernel_rfl) (by kernel_rfl) (fun _ _ _ h => h) (Or.inl ⟨by rfl, ?_⟩) (by assumption) ?_
                  rotate_left
                  · intro w hSw
                    (try dsimp only at hSw)
                    (try obtain ⟨hSw1, hSw2⟩ := hSw)
                    go_simp
                    try (with_reducible rfl)
                  try simp only [Act.put, List.getElem_toArray, List.getElem_cons_zero, List.getElem_cons_succ, List.setIfInBounds_toArray, List.set_cons_zero, List.set_cons_succ]
                  refine wpAnyH_done (by kernel_rfl) ?_ _
                  clear hHeld2
                  go_wp2_with fail
                  go_roundw
                  case rel => exact ⟨j + 1, H, hc, by omega, by go_num, by rw [fin1.out], Lib.hid (by rw [fin1.out, fin2.out]; exact OBn.out), BLn⟩
                  case measure => simp [intOf]; omega
              · go_simp
                have RC := Lib.hid (rd_one .u8 wc cc 5)
                have ql : wc.heap.size < (wc.alloc (.cells #[.int .u8 cc] 5)).heap.size := by simp
                have NB := Lib.hid (show ∀ g, (Value.slice F (bs.length + (putL z).length) fc).ownBlock = some g → g ≠ wc.heap.size from fun g hg => Nat.ne_of_lt (OB.out.lt g hg).2)
                have HBX := Lib.hid ((Below.refl wc.heap.size wc).alloc (Nat.le_refl _) (.cells #[.int .u8 cc] 5))
                obtain ⟨q, hq⟩ : ∃ q, wc.heap.size = q := ⟨_, rfl⟩
                obtain ⟨wq, hwwq⟩ : ∃ V, wc.alloc (.cells #[.int .u8 cc] 5) = V := ⟨_, rfl⟩
                rw [hwwq] at RC ql HBX ⊢
                rw [hq] at RC ql NB ⊢
                clear hwwq
                have hS2 : (wq.cell? ⟨b1, o1 + j, none⟩ = some (.int .i64 x) ∧ wq.cell? ⟨b2, o2 + j, none⟩ = some (.slice T tn tc)) := ⟨cell_later HBX.out hHeld.1, cell_later HBX.out hHeld.2⟩
                have BL2 := Lib.hid (BL.out.trans (HBX.out.mono BL.out.size))
                clear BL
                have BL := BL2
                clear BL2
                have OB2 := Lib.hid (OB.out.later HBX.out)
                clear OB
                have OB := OB2
                clear OB2
                have O2 := Lib.hid (HU.out.later HBX.out)
                clear HU
                have HU := O2
                clear O2
                clear hq
                refine hK.out _ _ hS2 (fun hHeld2 => ?_)
                clear hK K hHeld hS2 HBX
                have hHeld := hHeld2
                clear hHeld2
                try simp only [Act.put, List.getElem_toArray, List.getElem_cons_zero, List.getElem_cons_succ, List.setIfInBounds_toArray, List.set_cons_zero, List.set_cons_succ]
                refine wpAnyH_ready (rs := [13]) (by kernel_rfl) (by simp) ?_
                refine AllReadyH.cons rfl (fun K hK => ?_) AllReadyH.nil
                go_simp
                refine (pack_any U ts.length cu ts _ rfl HU.out.rd (by omega)).mono ?_
                rintro e wkq ⟨V, cv, rfl, hv, hbx⟩
                have HV := Lib.hid hv
                have HBX := Lib.hid hbx
                clear hv hbx HU
                try go_wp2_with fail
                have hS2 : (wkq.cell? ⟨b1, o1 + j, none⟩ = some (.int .i64 x) ∧ wkq.cell? ⟨b2, o2 + j, none⟩ = some (.slice T tn tc)) := ⟨cell_later HBX.out hHeld.1, cell_later HBX.out hHeld.2⟩
                have BL2 := Lib.hid (BL.out.trans (HBX.out.mono BL.out.size))
                clear BL
                have BL := BL2
                clear BL2
                have OB2 := Lib.hid (OB.out.later HBX.out)
                clear OB
                have OB := OB2
                clear OB2
                have R2 := Lib.hid (RC.out.later HBX.out)
                clear RC
                have RC := R2
                clear R2
                replace ql := Nat.lt_of_lt_of_le ql HBX.out.size
                refine hK.out _ _ hS2 (fun hHeld2 => ?_)
                clear hK K hHeld hS2 HBX
                have hHeld := hHeld2
                clear hHeld2
                try simp only [Act.put, List.getElem_toArray, List.getElem_cons_zero, List.getElem_cons_succ, List.setIfInBounds_toArray, List.set_cons_zero, List.set_cons_succ]
                refine wpAnyH_ready (rs := [14]) (by kernel_rfl) (by simp) ?_
                refine AllReadyH.cons rfl (fun K hK => ?_) AllReadyH.nil
                refine step_app_f _ .u8 (by kernel_rfl) (.tmp 30) (.tmp 36) 22 rfl 5 (.int .u8 0) 1 Try.underlying22 info_byte rfl w.heap.size (.slice F (bs.length + (putL z).length) fc) (bs ++ putL z) _ List.length_append rfl OB.out _ _ _ rfl (putL (ts.length : Int) ++ ts) List.length_append (by omega) HV.out.rd (by unfold maxLen; omega) (by omega) BL.out.size ?_
                intro G gc wbq of gf bf nf
                have R2 := Lib.hid (rd_kept RC.out gf (fun hg => NB.out q hg rfl) ql)
                have NB2 := Lib.hid (show ∀ g, _ = some g → g ≠ q from fun g hg => (nf g hg).elim (fun h => NB.out g h) (fun h => by omega))
                clear RC NB
                have RC := R2
                have NB := NB2
                clear R2 NB2
                replace ql := Nat.lt_of_lt_of_le ql gf.size
                have BL2 := Lib.hid (BL.out.grown gf BL.out.size (fun g hg => (OB.out.lt g hg).1))
                clear BL
                have BL := BL2
                clear BL2
                have OB2 := Lib.hid of
                clear OB HV of gf bf nf
                have OB := OB2
                clear OB2
                have HBX := Lib.hid (Below.refl wbq.heap.size wbq)
                have hS2 : (wbq.cell? ⟨b1, o1 + j, none⟩ = some (.int .i64 x) ∧ wbq.cell? ⟨b2, o2 + j, none⟩ = some (.slice T tn tc)) := ⟨cell_later (Below_mono0 BL.out) cell1.out, cell_later (Below_mono0 BL.out) cell2.out⟩
                refine hK.out _ _ hS2 (fun hHeld2 => ?_)
                clear hK K hHeld hS2 HBX
                have hHeld := hHeld2
                clear hHeld2
                try simp only [Act.put, List.getElem_toArray, List.getElem_cons_zero, List.getElem_cons_succ, List.setIfInBounds_toArray, List.set_cons_zero, List.set_cons_succ]
                refine wpAnyH_ready (rs := [17]) (by kernel_rfl) (by simp) ?_
                refine AllReadyH.cons rfl (fun K hK => ?_) AllReadyH.nil
                refine step_app_f _ .u8 (by kernel_rfl) (.tmp 37) (.tmp 39) 22 rfl 5 (.int .u8 0) 1 Try.underlying22 info_byte rfl w.heap.size (.slice G (bs.length + (putL z).length + ((putL (ts.length : Int)).length + ts.length)) gc) ((bs ++ putL z) ++ (putL (ts.length : Int) ++ ts)) _ hlen3.out rfl OB.out _ _ _ rfl [cc] rfl (by omega) RC.out (by unfold maxLen; omega) (by omega) BL.out.size ?_
                intro H hc wdq of gf bf nf
                have BLn := Lib.hid (BL.out.grown gf BL.out.size (fun g hg => (OB.out.lt g hg).1))
                have OBn := Lib.hid of
                have HBX := Lib.hid (Below.refl wdq.heap.size wdq)
                have hS2 : (wdq.cell? ⟨b1, o1 + j, none⟩ = some (.int .i64 x) ∧ wdq.cell? ⟨b2, o2 + j, none⟩ = some (.slice T tn tc)) := ⟨cell_later (Below_mono0 BLn.out) cell1.out, cell_later (Below_mono0 BLn.out) cell2.out⟩
                clear OB BL RC NB ql of gf bf nf
                refine hK.out _ _ hS2 (fun hHeld2 => ?_)
                clear hK K hHeld hS2 HBX
                try simp only [Act.put, List.getElem_toArray, List.getElem_cons_zero, List.getElem_cons_succ, List.setIfInBounds_toArray, List.set_cons_zero, List.set_cons_succ]
                refine wpAnyH_take (i := 18) (v := ?_) rfl (by kernel_rfl) (by kernel_rfl) (by kernel_rfl) (fun _ _ _ h => h) (Or.inl ⟨by rfl, ?_⟩) (by assumption) ?_
                rotate_left
                · intro w hSw
                  (try dsimp only at hSw)
                  (try obtain ⟨hSw1, hSw2⟩ := hSw)
                  go_simp
                  try (with_reducible rfl)
                try simp only [Act.put, List.getElem_toArray, List.getElem_cons_zero, List.getElem_cons_succ, List.setIfInBounds_toArray, List.set_cons_zero, List.set_cons_succ]
                refine wpAnyH_done (by kernel_rfl) ?_ _
                clear hHeld2
                go_wp2_with fail
                go_roundw
                case rel => exact ⟨j + 1, H, hc, by omega, by go_num, by rw [fin1.out], Lib.hid (by rw [fin1.out, fin2.out]; exact OBn.out), BLn⟩
                case measure => simp [intOf]; omega
            · go_simp
              have RC := Lib.hid (rd_one .u8 wa cc 5)
              have ql : wa.heap.size < (wa.alloc (.cells #[.int .u8 cc] 5)).heap.size := by simp
              have NB := Lib.hid (show ∀ g, (Value.slice F (bs.length + (putL z).length) fc).ownBlock = some g → g ≠ wa.heap.size from fun g hg => Nat.ne_of_lt (OB.out.lt g hg).2)
              have HBX := Lib.hid ((Below.refl wa.heap.size wa).alloc (Nat.le_refl _) (.cells #[.int .u8 cc] 5))
              obtain ⟨q, hq⟩ : ∃ q, wa.heap.size = q := ⟨_, rfl⟩
              obtain ⟨wq, hwwq⟩ : ∃ V, wa.alloc (.cells #[.int .u8 cc] 5) = V := ⟨_, rfl⟩
              rw [hwwq] at RC ql HBX ⊢
              rw [hq] at RC ql NB ⊢
              clear hwwq
              have hS2 : (wq.cell? ⟨b1, o1 + j, none⟩ = some (.int .i64 x) ∧ wq.cell? ⟨b2, o2 + j, none⟩ = some (.slice T tn tc)) := ⟨cell_later HBX.out hHeld.1, cell_later HBX.out hHeld.2⟩
              have BL2 := Lib.hid (BL.out.trans (HBX.out.mono BL.out.size))
              clear BL
              have BL := BL2
              clear BL2
              have OB2 := Lib.hid (OB.out.later HBX.out)
              clear OB
              have OB := OB2
              clear OB2
              clear hq
              refine hK.out _ _ hS2 (fun hHeld2 => ?_)
              clear hK K hHeld hS2 HBX
              have hHeld := hHeld2
              clear hHeld2
              try simp only [Act.put, List.getElem_toArray, List.getElem_cons_zero, List.getElem_cons_succ, List.setIfInBounds_toArray, List.set_cons_zero, List.set_cons_succ]
              refine wpAnyH_ready (rs := [12]) (by kernel_rfl) (by simp) ?_
              refine AllReadyH.cons rfl (fun K hK => ?_) AllReadyH.nil
              go_simp
              refine (cut_any T tn tc 80 (Rz j) _ T1.out t2 (T4.out.later (Below_mono0 BL.out)) (by omega) (by omega) (by omega)).mono ?_
              rw [show (80 : Int).toNat = 80 from rfl, hts.out]
              rintro e wcq ⟨U, cu, rfl, hu, hbx⟩
              have HU := Lib.hid hu
              have HBX := Lib.hid hbx
              clear hu hbx
              try go_wp2_with fail
              have hS2 : (wcq.cell? ⟨b1, o1 + j, none⟩ = some (.int .i64 x) ∧ wcq.cell? ⟨b2, o2 + j, none⟩ = some (.slice T tn tc)) := ⟨cell_later HBX.out hHeld.1, cell_later HBX.out hHeld.2⟩
              have BL2 := Lib.hid (BL.out.trans (HBX.out.mono BL.out.size))
              clear BL
              have BL := BL2
              clear BL2
              have OB2 := Lib.hid (OB.out.later HBX.out)
              clear OB
              have OB := OB2
              clear OB2
              have R2 := Lib.hid (RC.out.later HBX.out)
              clear RC
              have RC := R2
              clear R2
              replace ql := Nat.lt_of_lt_of_le ql HBX.out.size
              refine hK.out _ _ hS2 (fun hHeld2 => ?_)
              clear hK K hHeld hS2 HBX
              have hHeld := hHeld2
              clear hHeld2
              try simp only [Act.put, List.getElem_toArray, List.getElem_cons_zero, List.getElem_cons_succ, List.setIfInBounds_toArray, List.set_cons_zero, List.set_cons_succ]
              refine wpAnyH_ready (rs := [13]) (by kernel_rfl) (by simp) ?_
              refine AllReadyH.cons rfl (fun K hK => ?_) AllReadyH.nil
              go_simp
              refine (pack_any U ts.length cu ts _ rfl HU.out.rd (by omega)).mono ?_
              rintro e wkq ⟨V, cv, rfl, hv, hbx⟩
              have HV := Lib.hid hv
              have HBX := Lib.hid hbx
              clear hv hbx HU
              try go_wp2_with fail
              have hS2 : (wkq.cell? ⟨b1, o1 + j, none⟩ = some (.int .i64 x) ∧ wkq.cell? ⟨b2, o2 + j, none⟩ = some (.slice T tn tc)) := ⟨cell_later HBX.out hHeld.1, cell_later HBX.out hHeld.2⟩
              have BL2 := Lib.hid (BL.out.trans (HBX.out.mono BL.out.size))
              clear BL
              have BL := BL2
              clear BL2
              have OB2 := Lib.hid (OB.out.later HBX.out)
              clear OB
              have OB := OB2
              clear OB2
              have R2 := Lib.hid (RC.out.later HBX.out)
              clear RC
              have RC := R2
              clear R2
              replace ql := Nat.lt_of_lt_of_le ql HBX.out.size
              refine hK.out _ _ hS2 (fun hHeld2 => ?_)
              clear hK K hHeld hS2 HBX
              have hHeld := hHeld2
              clear hHeld2
              try simp only [Act.put, List.getElem_toArray, List.getElem_cons_zero, List.getElem_cons_succ, List.setIfInBounds_toArray, List.set_cons_zero, List.set_cons_succ]
              refine wpAnyH_ready (rs := [14]) (by kernel_rfl) (by simp) ?_
              refine AllReadyH.cons rfl (fun K hK => ?_) AllReadyH.nil
              refine step_app_f _ .u8 (by kernel_rfl) (.tmp 30) (.tmp 36) 22 rfl 5 (.int .u8 0) 1 Try.underlying22 info_byte rfl w.heap.size (.slice F (bs.length + (putL z).length) fc) (bs ++ putL z) _ List.length_append rfl OB.out _ _ _ rfl (putL (ts.length : Int) ++ ts) List.length_append (by omega) HV.out.rd (by unfold maxLen; omega) (by omega) BL.out.size ?_
              intro G gc wbq of gf bf nf
              have R2 := Lib.hid (rd_kept RC.out gf (fun hg => NB.out q hg rfl) ql)
              have NB2 := Lib.hid (show ∀ g, _ = some g → g ≠ q from fun g hg => (nf g hg).elim (fun h => NB.out g h) (fun h => by omega))
              clear RC NB
              have RC := R2
              have NB := NB2
              clear R2 NB2
              replace ql := Nat.lt_of_lt_of_le ql gf.size
              have BL2 := Lib.hid (BL.out.grown gf BL.out.size (fun g hg => (OB.out.lt g hg).1))
              clear BL
              have BL := BL2
              clear BL2
              have OB2 := Lib.hid of
              clear OB HV of gf bf nf
              have OB := OB2
              clear OB2
              have HBX := Lib.hid (Below.refl wbq.heap.size wbq)
              have hS2 : (wbq.cell? ⟨b1, o1 + j, none⟩ = some (.int .i64 x) ∧ wbq.cell? ⟨b2, o2 + j, none⟩ = some (.slice T tn tc)) := ⟨cell_later (Below_mono0 BL.out) cell1.out, cell_later (Below_mono0 BL.out) cell2.out⟩
              refine hK.out _ _ hS2 (fun hHeld2 => ?_)
              clear hK K hHeld hS2 HBX
              have hHeld := hHeld2
              clear hHeld2
              try simp only [Act.put, List.getElem_toArray, List.getElem_cons_zero, List.getElem_cons_succ, List.setIfInBounds_toArray, List.set_cons_zero, List.set_cons_succ]
              refine wpAnyH_ready (rs := [17]) (by kernel_rfl) (by simp) ?_
              refine AllReadyH.cons rfl (fun K hK => ?_) AllReadyH.nil
              refine step_app_f _ .u8 (by kernel_rfl) (.tmp 37) (.tmp 39) 22 rfl 5 (.int .u8 0) 1 Try.underlying22 info_byte rfl w.heap.size (.slice G (bs.length + (putL z).length + ((putL (ts.length : Int)).length + ts.length)) gc) ((bs ++ putL z) ++ (putL (ts.length : Int) ++ ts)) _ hlen3.out rfl OB.out _ _ _ rfl [cc] rfl (by omega) RC.out (by unfold maxLen; omega) (by omega) BL.out.size ?_
              intro H hc wdq of gf bf nf
              have BLn := Lib.hid (BL.out.grown gf BL.out.size (fun g hg => (OB.out.lt g hg).1))
              have OBn := Lib.hid of
              have HBX := Lib.hid (Below.refl wdq.heap.size wdq)
              have hS2 : (wdq.cell? ⟨b1, o1 + j, none⟩ = some (.int .i64 x) ∧ wdq.cell? ⟨b2, o2 + j, none⟩ = some (.slice T tn tc)) := ⟨cell_later (Below_mono0 BLn.out) cell1.out, cell_later (Below_mono0 BLn.out) cell2.out⟩
              clear OB BL RC NB ql of gf bf nf
              refine hK.out _ _ hS2 (fun hHeld2 => ?_)
              clear hK K hHeld hS2 HBX
              try simp only [Act.put, List.getElem_toArray, List.getElem_cons_zero, List.getElem_cons_succ, List.setIfInBounds_toArray, List.set_cons_zero, List.set_cons_succ]
              refine wpAnyH_take (i := 18) (v := ?_) rfl (by kernel_rfl) (by kernel_rfl) (by kernel_rfl) (fun _ _ _ h => h) (Or.inl ⟨by rfl, ?_⟩) (by assumption) ?_
              rotate_left
              · intro w hSw
                (try dsimp only at hSw)
                (try obtain ⟨hSw1, hSw2⟩ := hSw)
                go_simp
                try (with_reducible rfl)
              try simp only [Act.put, List.getElem_toArray, List.getElem_cons_zero, List.getElem_cons_succ, List.setIfInBounds_toArray, List.set_cons_zero, List.set_cons_succ]
              refine wpAnyH_done (by kernel_rfl) ?_ _
              clear hHeld2
              go_wp2_with fail
              go_roundw
              case rel => exact ⟨j + 1, H, hc, by omega, by go_num, by rw [fin1.out], Lib.hid (by rw [fin1.out, fin2.out]; exact OBn.out), BLn⟩
              case measure => simp [intOf]; omega
          · go_simp
            have RC := Lib.hid (rd_one .u8 wp cc 5)
            have ql : wp.heap.size < (wp.alloc (.cells #[.int .u8 cc] 5)).heap.size := by simp
            have NB := Lib.hid (show ∀ g, (Value.slice A bs.length c).ownBlock = some g → g ≠ wp.heap.size from fun g hg => Nat.ne_of_lt (OB.out.lt g hg).2)
            have HBX := Lib.hid ((Below.refl wp.heap.size wp).alloc (Nat.le_refl _) (.cells #[.int .u8 cc] 5))
            obtain ⟨q, hq⟩ : ∃ q, wp.heap.size = q := ⟨_, rfl⟩
            obtain ⟨wq, hwwq⟩ : ∃ V, wp.alloc (.cells #[.int .u8 cc] 5) = V := ⟨_, rfl⟩
            rw [hwwq] at RC ql HBX ⊢
            rw [hq] at RC ql NB ⊢
            clear hwwq
            have hS2 : (wq.cell? ⟨b1, o1 + j, none⟩ = some (.int .i64 x) ∧ wq.cell? ⟨b2, o2 + j, none⟩ = some (.slice T tn tc)) := ⟨cell_later HBX.out hHeld.1, cell_later HBX.out hHeld.2⟩
            have BL2 := Lib.hid (BL.out.trans (HBX.out.mono BL.out.size))
            clear BL
            have BL := BL2
            clear BL2
            have OB2 := Lib.hid (OB.out.later HBX.out)
            clear OB
            have OB := OB2
            clear OB2
            have O2 := Lib.hid (HP.out.later HBX.out)
            clear HP
            have HP := O2
            clear O2
            clear hq
            refine hK.out _ _ hS2 (fun hHeld2 => ?_)
            clear hK K hHeld hS2 HBX
            have hHeld := hHeld2
            clear hHeld2
            try simp only [Act.put, List.getElem_toArray, List.getElem_cons_zero, List.getElem_cons_succ, List.setIfInBounds_toArray, List.set_cons_zero, List.set_cons_succ]
            refine wpAnyH_ready (rs := [7]) (by kernel_rfl) (by simp) ?_
            refine AllReadyH.cons rfl (fun K hK => ?_) AllReadyH.nil
            refine step_app_f _ .u8 (by kernel_rfl) (.tmp 23) (.tmp 29) 22 rfl 5 (.int .u8 0) 1 Try.underlying22 info_byte rfl w.heap.size (.slice A bs.length c) bs _ rfl rfl OB.out _ _ _ rfl (putL z) rfl (by omega) HP.out.rd (by unfold maxLen; omega) (by omega) BL.out.size ?_
            intro F fc waq of gf bf nf
            have R2 := Lib.hid (rd_kept RC.out gf (fun hg => NB.out q hg rfl) ql)
            have NB2 := Lib.hid (show ∀ g, _ = some g → g ≠ q from fun g hg => (nf g hg).elim (fun h => NB.out g h) (fun h => by omega))
            clear RC NB
            have RC := R2
            have NB := NB2
            clear R2 NB2
            replace ql := Nat.lt_of_lt_of_le ql gf.size
            have BL2 := Lib.hid (BL.out.grown gf BL.out.size (fun g hg => (OB.out.lt g hg).1))
            clear BL
            have BL := BL2
            clear BL2
            have OB2 := Lib.hid of
            clear OB HP of gf bf nf
            have OB := OB2
            clear OB2
            have HBX := Lib.hid (Below.refl waq.heap.size waq)
            have hS2 : (waq.cell? ⟨b1, o1 + j, none⟩ = some (.int .i64 x) ∧ waq.cell? ⟨b2, o2 + j, none⟩ = some (.slice T tn tc)) := ⟨cell_later (Below_mono0 BL.out) cell1.out, cell_later (Below_mono0 BL.out) cell2.out⟩
            refine hK.out _ _ hS2 (fun hHeld2 => ?_)
            clear hK K hHeld hS2 HBX
            have hHeld := hHeld2
            clear hHeld2
            try simp only [Act.put, List.getElem_toArray, List.getElem_cons_zero, List.getElem_cons_succ, List.setIfInBounds_toArray, List.set_cons_zero, List.set_cons_succ]
            refine wpAnyH_ready (rs := [12]) (by kernel_rfl) (by simp) ?_
            refine AllReadyH.cons rfl (fun K hK => ?_) AllReadyH.nil
            go_simp
            refine (cut_any T tn tc 80 (Rz j) _ T1.out t2 (T4.out.later (Below_mono0 BL.out)) (by omega) (by omega) (by omega)).mono ?_
            rw [show (80 : Int).toNat = 80 from rfl, hts.out]
            rintro e wcq ⟨U, cu, rfl, hu, hbx⟩
            have HU := Lib.hid hu
            have HBX := Lib.hid hbx
            clear hu hbx
            try go_wp2_with fail
            have hS2 : (wcq.cell? ⟨b1, o1 + j, none⟩ = some (.int .i64 x) ∧ wcq.cell? ⟨b2, o2 + j, none⟩ = some (.slice T tn tc)) := ⟨cell_later HBX.out hHeld.1, cell_later HBX.out hHeld.2⟩
            have BL2 := Lib.hid (BL.out.trans (HBX.out.mono BL.out.size))
            clear BL
            have BL := BL2
            clear BL2
            have OB2 := Lib.hid (OB.out.later HBX.out)
            clear OB
            have OB := OB2
            clear OB2
            have R2 := Lib.hid (RC.out.later HBX.out)
            clear RC
            have RC := R2
            clear R2
            replace ql := Nat.lt_of_lt_of_le ql HBX.out.size
            refine hK.out _ _ hS2 (fun hHeld2 => ?_)
            clear hK K hHeld hS2 HBX
            have hHeld := hHeld2
            clear hHeld2
            try simp only [Act.put, List.getElem_toArray, List.getElem_cons_zero, List.getElem_cons_succ, List.setIfInBounds_toArray, List.set_cons_zero, List.set_cons_succ]
            refine wpAnyH_ready (rs := [13]) (by kernel_rfl) (by simp) ?_
            refine AllReadyH.cons rfl (fun K hK => ?_) AllReadyH.nil
            go_simp
            refine (pack_any U ts.length cu ts _ rfl HU.out.rd (by omega)).mono ?_
            rintro e wkq ⟨V, cv, rfl, hv, hbx⟩
            have HV := Lib.hid hv
            have HBX := Lib.hid hbx
            clear hv hbx HU
            try go_wp2_with fail
            have hS2 : (wkq.cell? ⟨b1, o1 + j, none⟩ = some (.int .i64 x) ∧ wkq.cell? ⟨b2, o2 + j, none⟩ = some (.slice T tn tc)) := ⟨cell_later HBX.out hHeld.1, cell_later HBX.out hHeld.2⟩
            have BL2 := Lib.hid (BL.out.trans (HBX.out.mono BL.out.size))
            clear BL
            have BL := BL2
            clear BL2
            have OB2 := Lib.hid (OB.out.later HBX.out)
            clear OB
            have OB := OB2
            clear OB2
            have R2 := Lib.hid (RC.out.later HBX.out)
            clear RC
            have RC := R2
            clear R2
            replace ql := Nat.lt_of_lt_of_le ql HBX.out.size
            refine hK.out _ _ hS2 (fun hHeld2 => ?_)
            clear hK K hHeld hS2 HBX
            have hHeld := hHeld2
            clear hHeld2
            try simp only [Act.put, List.getElem_toArray, List.getElem_cons_zero, List.getElem_cons_succ, List.setIfInBounds_toArray, List.set_cons_zero, List.set_cons_succ]
            refine wpAnyH_ready (rs := [14]) (by kernel_rfl) (by simp) ?_
            refine AllReadyH.cons rfl (fun K hK => ?_) AllReadyH.nil
            refine step_app_f _ .u8 (by kernel_rfl) (.tmp 30) (.tmp 36) 22 rfl 5 (.int .u8 0) 1 Try.underlying22 info_byte rfl w.heap.size (.slice F (bs.length + (putL z).length) fc) (bs ++ putL z) _ List.length_append rfl OB.out _ _ _ rfl (putL (ts.length : Int) ++ ts) List.length_append (by omega) HV.out.rd (by unfold maxLen; omega) (by omega) BL.out.size ?_
            intro G gc wbq of gf bf nf
            have R2 := Lib.hid (rd_kept RC.out gf (fun hg => NB.out q hg rfl) ql)
            have NB2 := Lib.hid (show ∀ g, _ = some g → g ≠ q from fun g hg => (nf g hg).elim (fun h => NB.out g h) (fun h => by omega))
            clear RC NB
            have RC := R2
            have NB := NB2
            clear R2 NB2
            replace ql := Nat.lt_of_lt_of_le ql gf.size
            have BL2 := Lib.hid (BL.out.grown gf BL.out.size (fun g hg => (OB.out.lt g hg).1))
            clear BL
            have BL := BL2
            clear BL2
            have OB2 := Lib.hid of
            clear OB HV of gf bf nf
            have OB := OB2
            clear OB2
            have HBX := Lib.hid (Below.refl wbq.heap.size wbq)
            have hS2 : (wbq.cell? ⟨b1, o1 + j, none⟩ = some (.int .i64 x) ∧ wbq.cell? ⟨b2, o2 + j, none⟩ = some (.slice T tn tc)) := ⟨cell_later (Below_mono0 BL.out) cell1.out, cell_later (Below_mono0 BL.out) cell2.out⟩
            refine hK.out _ _ hS2 (fun hHeld2 => ?_)
            clear hK K hHeld hS2 HBX
            have hHeld := hHeld2
            clear hHeld2
            try simp only [Act.put, List.getElem_toArray, List.getElem_cons_zero, List.getElem_cons_succ, List.setIfInBounds_toArray, List.set_cons_zero, List.set_cons_succ]
            refine wpAnyH_ready (rs := [17]) (by kernel_rfl) (by simp) ?_
            refine AllReadyH.cons rfl (fun K hK => ?_) AllReadyH.nil
            refine step_app_f _ .u8 (by kernel_rfl) (.tmp 37) (.tmp 39) 22 rfl 5 (.int .u8 0) 1 Try.underlying22 info_byte rfl w.heap.size (.slice G (bs.length + (putL z).length + ((putL (ts.length : Int)).length + ts.length)) gc) ((bs ++ putL z) ++ (putL (ts.length : Int) ++ ts)) _ hlen3.out rfl OB.out _ _ _ rfl [cc] rfl (by omega) RC.out (by unfold maxLen; omega) (by omega) BL.out.size ?_
            intro H hc wdq of gf bf nf
            have BLn := Lib.hid (BL.out.grown gf BL.out.size (fun g hg => (OB.out.lt g hg).1))
            have OBn := Lib.hid of
            have HBX := Lib.hid (Below.refl wdq.heap.size wdq)
            have hS2 : (wdq.cell? ⟨b1, o1 + j, none⟩ = some (.int .i64 x) ∧ wdq.cell? ⟨b2, o2 + j, none⟩ = some (.slice T tn tc)) := ⟨cell_later (Below_mono0 BLn.out) cell1.out, cell_later (Below_mono0 BLn.out) cell2.out⟩
            clear OB BL RC NB ql of gf bf nf
            refine hK.out _ _ hS2 (fun hHeld2 => ?_)
            clear hK K hHeld hS2 HBX
            try simp only [Act.put, List.getElem_toArray, List.getElem_cons_zero, List.getElem_cons_succ, List.setIfInBounds_toArray, List.set_cons_zero, List.set_cons_succ]
            refine wpAnyH_take (i := 18) (v := ?_) rfl (by kernel_rfl) (by kernel_rfl) (by kernel_rfl) (fun _ _ _ h => h) (Or.inl ⟨by rfl, ?_⟩) (by assumption) ?_
            rotate_left
            · intro w hSw
              (try dsimp only at hSw)
              (try obtain ⟨hSw1, hSw2⟩ := hSw)
              go_simp
              try (with_reducible rfl)
            try simp only [Act.put, List.getElem_toArray, List.getElem_cons_zero, List.getElem_cons_succ, List.setIfInBounds_toArray, List.set_cons_zero, List.set_cons_succ]
            refine wpAnyH_done (by kernel_rfl) ?_ _
            clear hHeld2
            go_wp2_with fail
            go_roundw
            case rel => exact ⟨j + 1, H, hc, by omega, by go_num, by rw [fin1.out], Lib.hid (by rw [fin1.out, fin2.out]; exact OBn.out), BLn⟩
            case measure => simp [intOf]; omega
        · go_simp
          have RC := Lib.hid (rd_one .u8 W cc 5)
          have ql : W.heap.size < (W.alloc (.cells #[.int .u8 cc] 5)).heap.size := by simp
          have NB := Lib.hid (show ∀ g, (Value.slice A bs.length c).ownBlock = some g → g ≠ W.heap.size from fun g hg => Nat.ne_of_lt (OB.out.lt g hg).2)
          have HBX := Lib.hid ((Below.refl W.heap.size W).alloc (Nat.le_refl _) (.cells #[.int .u8 cc] 5))
          obtain ⟨q, hq⟩ : ∃ q, W.heap.size = q := ⟨_, rfl⟩
          obtain ⟨wq, hwwq⟩ : ∃ V, W.alloc (.cells #[.int .u8 cc] 5) = V := ⟨_, rfl⟩
          rw [hwwq] at RC ql HBX ⊢
          rw [hq] at RC ql NB ⊢
          clear hwwq
          have hS2 : (wq.cell? ⟨b1, o1 + j, none⟩ = some (.int .i64 x) ∧ wq.cell? ⟨b2, o2 + j, none⟩ = some (.slice T tn tc)) := ⟨cell_later HBX.out hHeld.1, cell_later HBX.out hHeld.2⟩
          have BL2 := Lib.hid (BL.out.trans (HBX.out.mono BL.out.size))
          clear BL
          have BL := BL2
          clear BL2
          have OB2 := Lib.hid (OB.out.later HBX.out)
          clear OB
          have OB := OB2
          clear OB2
          clear hq
          refine hK.out _ _ hS2 (fun hHeld2 => ?_)
          clear hK K hHeld hS2 HBX
          have hHeld := hHeld2
          clear hHeld2
          try simp only [Act.put, List.getElem_toArray, List.getElem_cons_zero, List.getElem_cons_succ, List.setIfInBounds_toArray, List.set_cons_zero, List.set_cons_succ]
          refine wpAnyH_ready (rs := [6]) (by kernel_rfl) (by simp) ?_
          refine AllReadyH.cons rfl (fun K hK => ?_) AllReadyH.nil
          go_simp
          refine (refPut_own z _).mono ?_
          rintro e wpq ⟨P, cp, rfl, hp, hbx⟩
          have HP := Lib.hid hp
          have HBX := Lib.hid hbx
          clear hp hbx
          try go_wp2_with fail
          have hS2 : (wpq.cell? ⟨b1, o1 + j, none⟩ = some (.int .i64 x) ∧ wpq.cell? ⟨b2, o2 + j, none⟩ = some (.slice T tn tc)) := ⟨cell_later HBX.out hHeld.1, cell_later HBX.out hHeld.2⟩
          have BL2 := Lib.hid (BL.out.trans (HBX.out.mono BL.out.size))
          clear BL
          have BL := BL2
          clear BL2
          have OB2 := Lib.hid (OB.out.later HBX.out)
          clear OB
          have OB := OB2
          clear OB2
          have R2 := Lib.hid (RC.out.later HBX.out)
          clear RC
          have RC := R2
          clear R2
          replace ql := Nat.lt_of_lt_of_le ql HBX.out.size
          refine hK.out _ _ hS2 (fun hHeld2 => ?_)
          clear hK K hHeld hS2 HBX
          have hHeld := hHeld2
          clear hHeld2
          try simp only [Act.put, List.getElem_toArray, List.getElem_cons_zero, List.getElem_cons_succ, List.setIfInBounds_toArray, List.set_cons_zero, List.set_cons_succ]
          refine wpAnyH_ready (rs := [7]) (by kernel_rfl) (by simp) ?_
          refine AllReadyH.cons rfl (fun K hK => ?_) AllReadyH.nil
          refine step_app_f _ .u8 (by kernel_rfl) (.tmp 23) (.tmp 29) 22 rfl 5 (.int .u8 0) 1 Try.underlying22 info_byte rfl w.heap.size (.slice A bs.length c) bs _ rfl rfl OB.out _ _ _ rfl (putL z) rfl (by omega) HP.out.rd (by unfold maxLen; omega) (by omega) BL.out.size ?_
          intro F fc waq of gf bf nf
          have R2 := Lib.hid (rd_kept RC.out gf (fun hg => NB.out q hg rfl) ql)
          have NB2 := Lib.hid (show ∀ g, _ = some g → g ≠ q from fun g hg => (nf g hg).elim (fun h => NB.out g h) (fun h => by omega))
          clear RC NB
          have RC := R2
          have NB := NB2
          clear R2 NB2
          replace ql := Nat.lt_of_lt_of_le ql gf.size
          have BL2 := Lib.hid (BL.out.grown gf BL.out.size (fun g hg => (OB.out.lt g hg).1))
          clear BL
          have BL := BL2
          clear BL2
          have OB2 := Lib.hid of
          clear OB HP of gf bf nf
          have OB := OB2
          clear OB2
          have HBX := Lib.hid (Below.refl waq.heap.size waq)
          have hS2 : (waq.cell? ⟨b1, o1 + j, none⟩ = some (.int .i64 x) ∧ waq.cell? ⟨b2, o2 + j, none⟩ = some (.slice T tn tc)) := ⟨cell_later (Below_mono0 BL.out) cell1.out, cell_later (Below_mono0 BL.out) cell2.out⟩
          refine hK.out _ _ hS2 (fun hHeld2 => ?_)
          clear hK K hHeld hS2 HBX
          have hHeld := hHeld2
          clear hHeld2
          try simp only [Act.put, List.getElem_toArray, List.getElem_cons_zero, List.getElem_cons_succ, List.setIfInBounds_toArray, List.set_cons_zero, List.set_cons_succ]
          refine wpAnyH_ready (rs := [12]) (by kernel_rfl) (by simp) ?_
          refine AllReadyH.cons rfl (fun K hK => ?_) AllReadyH.nil
          go_simp
          refine (cut_any T tn tc 80 (Rz j) _ T1.out t2 (T4.out.later (Below_mono0 BL.out)) (by omega) (by omega) (by omega)).mono ?_
          rw [show (80 : Int).toNat = 80 from rfl, hts.out]
          rintro e wcq ⟨U, cu, rfl, hu, hbx⟩
          have HU := Lib.hid hu
          have HBX := Lib.hid hbx
          clear hu hbx
          try go_wp2_with fail
          have hS2 : (wcq.cell? ⟨b1, o1 + j, none⟩ = some (.int .i64 x) ∧ wcq.cell? ⟨b2, o2 + j, none⟩ = some (.slice T tn tc)) := ⟨cell_later HBX.out hHeld.1, cell_later HBX.out hHeld.2⟩
          have BL2 := Lib.hid (BL.out.trans (HBX.out.mono BL.out.size))
          clear BL
          have BL := BL2
          clear BL2
          have OB2 := Lib.hid (OB.out.later HBX.out)
          clear OB
          have OB := OB2
          clear OB2
          have R2 := Lib.hid (RC.out.later HBX.out)
          clear RC
          have RC := R2
          clear R2
          replace ql := Nat.lt_of_lt_of_le ql HBX.out.size
          refine hK.out _ _ hS2 (fun hHeld2 => ?_)
          clear hK K hHeld hS2 HBX
          have hHeld := hHeld2
          clear hHeld2
          try simp only [Act.put, List.getElem_toArray, List.getElem_cons_zero, List.getElem_cons_succ, List.setIfInBounds_toArray, List.set_cons_zero, List.set_cons_succ]
          refine wpAnyH_ready (rs := [13]) (by kernel_rfl) (by simp) ?_
          refine AllReadyH.cons rfl (fun K hK => ?_) AllReadyH.nil
          go_simp
          refine (pack_any U ts.length cu ts _ rfl HU.out.rd (by omega)).mono ?_
          rintro e wkq ⟨V, cv, rfl, hv, hbx⟩
          have HV := Lib.hid hv
          have HBX := Lib.hid hbx
          clear hv hbx HU
          try go_wp2_with fail
          have hS2 : (wkq.cell? ⟨b1, o1 + j, none⟩ = some (.int .i64 x) ∧ wkq.cell? ⟨b2, o2 + j, none⟩ = some (.slice T tn tc)) := ⟨cell_later HBX.out hHeld.1, cell_later HBX.out hHeld.2⟩
          have BL2 := Lib.hid (BL.out.trans (HBX.out.mono BL.out.size))
          clear BL
          have BL := BL2
          clear BL2
          have OB2 := Lib.hid (OB.out.later HBX.out)
          clear OB
          have OB := OB2
          clear OB2
          have R2 := Lib.hid (RC.out.later HBX.out)
          clear RC
          have RC := R2
          clear R2
          replace ql := Nat.lt_of_lt_of_le ql HBX.out.size
          refine hK.out _ _ hS2 (fun hHeld2 => ?_)
          clear hK K hHeld hS2 HBX
          have hHeld := hHeld2
          clear hHeld2
          try simp only [Act.put, List.getElem_toArray, List.getElem_cons_zero, List.getElem_cons_succ, List.setIfInBounds_toArray, List.set_cons_zero, List.set_cons_succ]
          refine wpAnyH_ready (rs := [14]) (by kernel_rfl) (by simp) ?_
          refine AllReadyH.cons rfl (fun K hK => ?_) AllReadyH.nil
          refine step_app_f _ .u8 (by kernel_rfl) (.tmp 30) (.tmp 36) 22 rfl 5 (.int .u8 0) 1 Try.underlying22 info_byte rfl w.heap.size (.slice F (bs.length + (putL z).length) fc) (bs ++ putL z) _ List.length_append rfl OB.out _ _ _ rfl (putL (ts.length : Int) ++ ts) List.length_append (by omega) HV.out.rd (by unfold maxLen; omega) (by omega) BL.out.size ?_
          intro G gc wbq of gf bf nf
          have R2 := Lib.hid (rd_kept RC.out gf (fun hg => NB.out q hg rfl) ql)
          have NB2 := Lib.hid (show ∀ g, _ = some g → g ≠ q from fun g hg => (nf g hg).elim (fun h => NB.out g h) (fun h => by omega))
          clear RC NB
          have RC := R2
          have NB := NB2
          clear R2 NB2
          replace ql := Nat.lt_of_lt_of_le ql gf.size
          have BL2 := Lib.hid (BL.out.grown gf BL.out.size (fun g hg => (OB.out.lt g hg).1))
          clear BL
          have BL := BL2
          clear BL2
          have OB2 := Lib.hid of
          clear OB HV of gf bf nf
          have OB := OB2
          clear OB2
          have HBX := Lib.hid (Below.refl wbq.heap.size wbq)
          have hS2 : (wbq.cell? ⟨b1, o1 + j, none⟩ = some (.int .i64 x) ∧ wbq.cell? ⟨b2, o2 + j, none⟩ = some (.slice T tn tc)) := ⟨cell_later (Below_mono0 BL.out) cell1.out, cell_later (Below_mono0 BL.out) cell2.out⟩
          refine hK.out _ _ hS2 (fun hHeld2 => ?_)
          clear hK K hHeld hS2 HBX
          have hHeld := hHeld2
          clear hHeld2
          try simp only [Act.put, List.getElem_toArray, List.getElem_cons_zero, List.getElem_cons_succ, List.setIfInBounds_toArray, List.set_cons_zero, List.set_cons_succ]
          refine wpAnyH_ready (rs := [17]) (by kernel_rfl) (by simp) ?_
          refine AllReadyH.cons rfl (fun K hK => ?_) AllReadyH.nil
          refine step_app_f _ .u8 (by kernel_rfl) (.tmp 37) (.tmp 39) 22 rfl 5 (.int .u8 0) 1 Try.underlying22 info_byte rfl w.heap.size (.slice G (bs.length + (putL z).length + ((putL (ts.length : Int)).length + ts.length)) gc) ((bs ++ putL z) ++ (putL (ts.length : Int) ++ ts)) _ hlen3.out rfl OB.out _ _ _ rfl [cc] rfl (by omega) RC.out (by unfold maxLen; omega) (by omega) BL.out.size ?_
          intro H hc wdq of gf bf nf
          have BLn := Lib.hid (BL.out.grown gf BL.out.size (fun g hg => (OB.out.lt g hg).1))
          have OBn := Lib.hid of
          have HBX := Lib.hid (Below.refl wdq.heap.size wdq)
          have hS2 : (wdq.cell? ⟨b1, o1 + j, none⟩ = some (.int .i64 x) ∧ wdq.cell? ⟨b2, o2 + j, none⟩ = some (.slice T tn tc)) := ⟨cell_later (Below_mono0 BLn.out) cell1.out, cell_later (Below_mono0 BLn.out) cell2.out⟩
          clear OB BL RC NB ql of gf bf nf
          refine hK.out _ _ hS2 (fun hHeld2 => ?_)
          clear hK K hHeld hS2 HBX
          try simp only [Act.put, List.getElem_toArray, List.getElem_cons_zero, List.getElem_cons_succ, List.setIfInBounds_toArray, List.set_cons_zero, List.set_cons_succ]
          refine wpAnyH_take (i := 18) (v := ?_) rfl (by kernel_rfl) (by kernel_rfl) (by kernel_rfl) (fun _ _ _ h => h) (Or.inl ⟨by rfl, ?_⟩) (by assumption) ?_
          rotate_left
          · intro w hSw
            (try dsimp only at hSw)
            (try obtain ⟨hSw1, hSw2⟩ := hSw)
            go_simp
            try (with_reducible rfl)
          try simp only [Act.put, List.getElem_toArray, List.getElem_cons_zero, List.getElem_cons_succ, List.setIfInBounds_toArray, List.set_cons_zero, List.set_cons_succ]
          refine wpAnyH_done (by kernel_rfl) ?_ _
          clear hHeld2
          go_wp2_with fail
          go_roundw
          case rel => exact ⟨j + 1, H, hc, by omega, by go_num, by rw [fin1.out], Lib.hid (by rw [fin1.out, fin2.out]; exact OBn.out), BLn⟩
          case measure => simp [intOf]; omega
      · go_simp
        have RC := Lib.hid (rd_one .u8 W cc 5)
        have ql : W.heap.size < (W.alloc (.cells #[.int .u8 cc] 5)).heap.size := by simp
        have NB := Lib.hid (show ∀ g, (Value.slice A bs.length c).ownBlock = some g → g ≠ W.heap.size from fun g hg => Nat.ne_of_lt (OB.out.lt g hg).2)
        have HBX := Lib.hid ((Below.refl W.heap.size W).alloc (Nat.le_refl _) (.cells #[.int .u8 cc] 5))
        obtain ⟨q, hq⟩ : ∃ q, W.heap.size = q := ⟨_, rfl⟩
        obtain ⟨wq, hwwq⟩ : ∃ V, W.alloc (.cells #[.int .u8 cc] 5) = V := ⟨_, rfl⟩
        rw [hwwq] at RC ql HBX ⊢
        rw [hq] at RC ql NB ⊢
        clear hwwq
        have hS2 : (wq.cell? ⟨b1, o1 + j, none⟩ = some (.int .i64 x) ∧ wq.cell? ⟨b2, o2 + j, none⟩ = some (.slice T tn tc)) := ⟨cell_later HBX.out hHeld.1, cell_later HBX.out hHeld.2⟩
        have BL2 := Lib.hid (BL.out.trans (HBX.out.mono BL.out.size))
        clear BL
        have BL := BL2
        clear BL2
        have OB2 := Lib.hid (OB.out.later HBX.out)
        clear OB
        have OB := OB2
        clear OB2
        clear hq
        refine hK.out _ _ hS2 (fun hHeld2 => ?_)
        clear hK K hHeld hS2 HBX
        have hHeld := hHeld2
        clear hHeld2
        try simp only [Act.put, List.getElem_toArray, List.getElem_cons_zero, List.getElem_cons_succ, List.setIfInBounds_toArray, List.set_cons_zero, List.set_cons_succ]
        refine wpAnyH_ready (rs := [5]) (by kernel_rfl) (by simp) ?_
        refine AllReadyH.cons rfl (fun K hK => ?_) AllReadyH.nil
        go_simp
        refine (within_any x 1099511627776 _ (by omega) (by omega)).mono ?_
        rintro e w' ⟨rfl, rfl⟩
        rw [hz.out]
        try go_wp2_with fail
        have HBX := Lib.hid (Below.refl wq.heap.size wq)
        have hS2 := hHeld
        refine hK.out _ _ hS2 (fun hHeld2 => ?_)
        clear hK K hHeld hS2 HBX
        have hHeld := hHeld2
        clear hHeld2
        try simp only [Act.put, List.getElem_toArray, List.getElem_cons_zero, List.getElem_cons_succ, List.setIfInBounds_toArray, List.set_cons_zero, List.set_cons_succ]
        refine wpAnyH_ready (rs := [6]) (by kernel_rfl) (by simp) ?_
        refine AllReadyH.cons rfl (fun K hK => ?_) AllReadyH.nil
        go_simp
        refine (refPut_own z _).mono ?_
        rintro e wpq ⟨P, cp, rfl, hp, hbx⟩
        have HP := Lib.hid hp
        have HBX := Lib.hid hbx
        clear hp hbx
        try go_wp2_with fail
        have hS2 : (wpq.cell? ⟨b1, o1 + j, none⟩ = some (.int .i64 x) ∧ wpq.cell? ⟨b2, o2 + j, none⟩ = some (.slice T tn tc)) := ⟨cell_later HBX.out hHeld.1, cell_later HBX.out hHeld.2⟩
        have BL2 := Lib.hid (BL.out.trans (HBX.out.mono BL.out.size))
        clear BL
        have BL := BL2
        clear BL2
        have OB2 := Lib.hid (OB.out.later HBX.out)
        clear OB
        have OB := OB2
        clear OB2
        have R2 := Lib.hid (RC.out.later HBX.out)
        clear RC
        have RC := R2
        clear R2
        replace ql := Nat.lt_of_lt_of_le ql HBX.out.size
        refine hK.out _ _ hS2 (fun hHeld2 => ?_)
        clear hK K hHeld hS2 HBX
        have hHeld := hHeld2
        clear hHeld2
        try simp only [Act.put, List.getElem_toArray, List.getElem_cons_zero, List.getElem_cons_succ, List.setIfInBounds_toArray, List.set_cons_zero, List.set_cons_succ]
        refine wpAnyH_ready (rs := [7]) (by kernel_rfl) (by simp) ?_
        refine AllReadyH.cons rfl (fun K hK => ?_) AllReadyH.nil
        refine step_app_f _ .u8 (by kernel_rfl) (.tmp 23) (.tmp 29) 22 rfl 5 (.int .u8 0) 1 Try.underlying22 info_byte rfl w.heap.size (.slice A bs.length c) bs _ rfl rfl OB.out _ _ _ rfl (putL z) rfl (by omega) HP.out.rd (by unfold maxLen; omega) (by omega) BL.out.size ?_
        intro F fc waq of gf bf nf
        have R2 := Lib.hid (rd_kept RC.out gf (fun hg => NB.out q hg rfl) ql)
        have NB2 := Lib.hid (show ∀ g, _ = some g → g ≠ q from fun g hg => (nf g hg).elim (fun h => NB.out g h) (fun h => by omega))
        clear RC NB
        have RC := R2
        have NB := NB2
        clear R2 NB2
        replace ql := Nat.lt_of_lt_of_le ql gf.size
        have BL2 := Lib.hid (BL.out.grown gf BL.out.size (fun g hg => (OB.out.lt g hg).1))
        clear BL
        have BL := BL2
        clear BL2
        have OB2 := Lib.hid of
        clear OB HP of gf bf nf
        have OB := OB2
        clear OB2
        have HBX := Lib.hid (Below.refl waq.heap.size waq)
        have hS2 : (waq.cell? ⟨b1, o1 + j, none⟩ = some (.int .i64 x) ∧ waq.cell? ⟨b2, o2 + j, none⟩ = some (.slice T tn tc)) := ⟨cell_later (Below_mono0 BL.out) cell1.out, cell_later (Below_mono0 BL.out) cell2.out⟩
        refine hK.out _ _ hS2 (fun hHeld2 => ?_)
        clear hK K hHeld hS2 HBX
        have hHeld := hHeld2
        clear hHeld2
        try simp only [Act.put, List.getElem_toArray, List.getElem_cons_zero, List.getElem_cons_succ, List.setIfInBounds_toArray, List.set_cons_zero, List.set_cons_succ]
        refine wpAnyH_ready (rs := [12]) (by kernel_rfl) (by simp) ?_
        refine AllReadyH.cons rfl (fun K hK => ?_) AllReadyH.nil
        go_simp
        refine (cut_any T tn tc 80 (Rz j) _ T1.out t2 (T4.out.later (Below_mono0 BL.out)) (by omega) (by omega) (by omega)).mono ?_
        rw [show (80 : Int).toNat = 80 from rfl, hts.out]
        rintro e wcq ⟨U, cu, rfl, hu, hbx⟩
        have HU := Lib.hid hu
        have HBX := Lib.hid hbx
        clear hu hbx
        try go_wp2_with fail
        have hS2 : (wcq.cell? ⟨b1, o1 + j, none⟩ = some (.int .i64 x) ∧ wcq.cell? ⟨b2, o2 + j, none⟩ = some (.slice T tn tc)) := ⟨cell_later HBX.out hHeld.1, cell_later HBX.out hHeld.2⟩
        have BL2 := Lib.hid (BL.out.trans (HBX.out.mono BL.out.size))
        clear BL
        have BL := BL2
        clear BL2
        have OB2 := Lib.hid (OB.out.later HBX.out)
        clear OB
        have OB := OB2
        clear OB2
        have R2 := Lib.hid (RC.out.later HBX.out)
        clear RC
        have RC := R2
        clear R2
        replace ql := Nat.lt_of_lt_of_le ql HBX.out.size
        refine hK.out _ _ hS2 (fun hHeld2 => ?_)
        clear hK K hHeld hS2 HBX
        have hHeld := hHeld2
        clear hHeld2
        try simp only [Act.put, List.getElem_toArray, List.getElem_cons_zero, List.getElem_cons_succ, List.setIfInBounds_toArray, List.set_cons_zero, List.set_cons_succ]
        refine wpAnyH_ready (rs := [13]) (by kernel_rfl) (by simp) ?_
        refine AllReadyH.cons rfl (fun K hK => ?_) AllReadyH.nil
        go_simp
        refine (pack_any U ts.length cu ts _ rfl HU.out.rd (by omega)).mono ?_
        rintro e wkq ⟨V, cv, rfl, hv, hbx⟩
        have HV := Lib.hid hv
        have HBX := Lib.hid hbx
        clear hv hbx HU
        try go_wp2_with fail
        have hS2 : (wkq.cell? ⟨b1, o1 + j, none⟩ = some (.int .i64 x) ∧ wkq.cell? ⟨b2, o2 + j, none⟩ = some (.slice T tn tc)) := ⟨cell_later HBX.out hHeld.1, cell_later HBX.out hHeld.2⟩
        have BL2 := Lib.hid (BL.out.trans (HBX.out.mono BL.out.size))
        clear BL
        have BL := BL2
        clear BL2
        have OB2 := Lib.hid (OB.out.later HBX.out)
        clear OB
        have OB := OB2
        clear OB2
        have R2 := Lib.hid (RC.out.later HBX.out)
        clear RC
        have RC := R2
        clear R2
        replace ql := Nat.lt_of_lt_of_le ql HBX.out.size
        refine hK.out _ _ hS2 (fun hHeld2 => ?_)
        clear hK K hHeld hS2 HBX
        have hHeld := hHeld2
        clear hHeld2
        try simp only [Act.put, List.getElem_toArray, List.getElem_cons_zero, List.getElem_cons_succ, List.setIfInBounds_toArray, List.set_cons_zero, List.set_cons_succ]
        refine wpAnyH_ready (rs := [14]) (by kernel_rfl) (by simp) ?_
        refine AllReadyH.cons rfl (fun K hK => ?_) AllReadyH.nil
        refine step_app_f _ .u8 (by kernel_rfl) (.tmp 30) (.tmp 36) 22 rfl 5 (.int .u8 0) 1 Try.underlying22 info_byte rfl w.heap.size (.slice F (bs.length + (putL z).length) fc) (bs ++ putL z) _ List.length_append rfl OB.out _ _ _ rfl (putL (ts.length : Int) ++ ts) List.length_append (by omega) HV.out.rd (by unfold maxLen; omega) (by omega) BL.out.size ?_
        intro G gc wbq of gf bf nf
        have R2 := Lib.hid (rd_kept RC.out gf (fun hg => NB.out q hg rfl) ql)
        have NB2 := Lib.hid (show ∀ g, _ = some g → g ≠ q from fun g hg => (nf g hg).elim (fun h => NB.out g h) (fun h => by omega))
        clear RC NB
        have RC := R2
        have NB := NB2
        clear R2 NB2
        replace ql := Nat.lt_of_lt_of_le ql gf.size
        have BL2 := Lib.hid (BL.out.grown gf BL.out.size (fun g hg => (OB.out.lt g hg).1))
        clear BL
        have BL := BL2
        clear BL2
        have OB2 := Lib.hid of
        clear OB HV of gf bf nf
        have OB := OB2
        clear OB2
        have HBX := Lib.hid (Below.refl wbq.heap.size wbq)
        have hS2 : (wbq.cell? ⟨b1, o1 + j, none⟩ = some (.int .i64 x) ∧ wbq.cell? ⟨b2, o2 + j, none⟩ = some (.slice T tn tc)) := ⟨cell_later (Below_mono0 BL.out) cell1.out, cell_later (Below_mono0 BL.out) cell2.out⟩
        refine hK.out _ _ hS2 (fun hHeld2 => ?_)
        clear hK K hHeld hS2 HBX
        have hHeld := hHeld2
        clear hHeld2
        try simp only [Act.put, List.getElem_toArray, List.getElem_cons_zero, List.getElem_cons_succ, List.setIfInBounds_toArray, List.set_cons_zero, List.set_cons_succ]
        refine wpAnyH_ready (rs := [17]) (by kernel_rfl) (by simp) ?_
        refine AllReadyH.cons rfl (fun K hK => ?_) AllReadyH.nil
        refine step_app_f _ .u8 (by kernel_rfl) (.tmp 37) (.tmp 39) 22 rfl 5 (.int .u8 0) 1 Try.underlying22 info_byte rfl w.heap.size (.slice G (bs.length + (putL z).length + ((putL (ts.length : Int)).length + ts.length)) gc) ((bs ++ putL z) ++ (putL (ts.length : Int) ++ ts)) _ hlen3.out rfl OB.out _ _ _ rfl [cc] rfl (by omega) RC.out (by unfold maxLen; omega) (by omega) BL.out.size ?_
        intro H hc wdq of gf bf nf
        have BLn := Lib.hid (BL.out.grown gf BL.out.size (fun g hg => (OB.out.lt g hg).1))
        have OBn := Lib.hid of
        have HBX := Lib.hid (Below.refl wdq.heap.size wdq)
        have hS2 : (wdq.cell? ⟨b1, o1 + j, none⟩ = some (.int .i64 x) ∧ wdq.cell? ⟨b2, o2 + j, none⟩ = some (.slice T tn tc)) := ⟨cell_later (Below_mono0 BLn.out) cell1.out, cell_later (Below_mono0 BLn.out) cell2.out⟩
        clear OB BL RC NB ql of gf bf nf
        refine hK.out _ _ hS2 (fun hHeld2 => ?_)
        clear hK K hHeld hS2 HBX
        try simp only [Act.put, List.getElem_toArray, List.getElem_cons_zero, List.getElem_cons_succ, List.setIfInBounds_toArray, List.set_cons_zero, List.set_cons_succ]
        refine wpAnyH_take (i := 18) (v := ?_) rfl (by kernel_rfl) (by kernel_rfl) (by kernel_rfl) (fun _ _ _ h => h) (Or.inl ⟨by rfl, ?_⟩) (by assumption) ?_
        rotate_left
        · intro w hSw
          (try dsimp only at hSw)
          (try obtain ⟨hSw1, hSw2⟩ := hSw)
          go_simp
          try (with_reducible rfl)
        try simp only [Act.put, List.getElem_toArray, List.getElem_cons_zero, List.getElem_cons_succ, List.setIfInBounds_toArray, List.set_cons_zero, List.set_cons_succ]
        refine wpAnyH_done (by kernel_rfl) ?_ _
        clear hHeld2
        go_wp2_with fail
        go_roundw
        case rel => exact ⟨j + 1, H, hc, by omega, by go_num, by rw [fin1.out], Lib.hid (by rw [fin1.out, fin2.out]; exact OBn.out), BLn⟩
        case measure => simp [intOf]; omega
    · have : j = N := by omega
      subst this
      clear hlt hj
      have hblen := Lib.hid (catB_len HFL.out j)
      obtain ⟨xs, hxs⟩ : ∃ xs, catB f j = xs := ⟨_, rfl⟩
      have HBY := Lib.hid (show ∀ x ∈ xs, 0 ≤ x ∧ x < 256 by rw [← hxs]; exact catB_bytes HFB.out j (Nat.le_refl _))
      have hlen : xs.length ≤ 582 := by have := hblen.out; rw [hxs] at this; omega
      rw [hxs] at ho ⊢
      have HXS := Lib.hid hxs
      clear hxs hblen
      have hnil := Lib.hid (fun hA : A = none => ho.out.none_len hA)
      go_wp2_with fail
      refine (new_any A xs.length c xs wr rfl ho.out.rd (by omega) hnil.out HBY.out).mono ?_
      rintro e w2 ⟨p, B, d, rfl, h2, b2, z2, _⟩
      have K2 := Lib.hid h2
      have B2 := Lib.hid (hbl.out.trans (b2.mono hbl.out.size))
      have zp := Nat.le_trans hbl.out.size z2
      clear h2 b2 z2 hnil HBY
      go_wp2_with fail
      go_loopw [11] (fun vi wr => ∃ (k : Nat), k ≤ j ∧ vi = .int .i64 (k : Nat) ∧ Hid (Rdr wr p B d xs (catB f k).length false) ∧ Hid (Below w.heap.size w wr)) (fun vi _ => j - (intOf vi).toNat)
      case atStart => exact ⟨0, by omega, rfl, K2, B2⟩
      case round =>
        clear K2 B2 ho hbl
        obtain ⟨k, hk, rfl, hK, hbl⟩ := hrel
        by_cases hlt : k < j
        · obtain ⟨b1, o1, rfl, hc1⟩ := H0.out.rd.some_ (by rw [H0.out.len]; omega)
          have k1 := hc1 k (by rw [H0.out.len]; omega)
          obtain ⟨b2, o2, rfl, hc2⟩ := H1.out.cell (by omega)
          have k2 := hc2 k (by omega)
          clear hc1 hc2
          obtain ⟨q1, t2, q3, q4, q5⟩ := H1.out.row k (by omega)
          have t3 : Rc k ≤ 9223372036854775807 := by unfold maxLen at q3; exact q3
          have hfj : f k = fieldB (ns.getD k 0 % 1099511627776) ((Rz k).take 80) cc := by rw [HF.out]
          obtain ⟨r, hdr⟩ := catB_drop f hlt
          have hcs : (catB f (k + 1)).length = (catB f k).length + (f k).length := by simp only [catB, List.length_append]
          have hle := hK.out.le
          rw [HXS.out, hfj] at hdr
          rw [hfj] at hcs
          obtain ⟨x, hx⟩ : ∃ x, ns.getD k 0 = x := ⟨_, rfl⟩
          obtain ⟨T, hT⟩ : ∃ T, Ra k = T := ⟨_, rfl⟩
          obtain ⟨tn, htn⟩ : ∃ tn, Rn k = tn := ⟨_, rfl⟩
          obtain ⟨tc, htc⟩ : ∃ tc, Rc k = tc := ⟨_, rfl⟩
          obtain ⟨ts, hts'⟩ : ∃ ts, (Rz k).take 80 = ts := ⟨_, rfl⟩
          obtain ⟨z, hz'⟩ : ∃ z, x % 1099511627776 = z := ⟨_, rfl⟩
          rw [hx] at k1
          rw [hx, hz', hts'] at hcs hdr
          rw [hT, htn, htc] at k2
          rw [hT] at q4
          rw [htn] at q1
          rw [htn, htc] at t2
          rw [htc] at t3
          have ht80 : ts.length ≤ 80 := by rw [← hts']; simp; omega
          obtain ⟨a1, a2, g1, ga, g2, g3, g4⟩ := field_read (by omega) (by omega) ht80 hle hdr
          rw [← hcs] at g4
          rw [g4] at g3
          have G1 := Lib.hid g1
          have G2 := Lib.hid g2
          have G3 := Lib.hid g3
          have hz := Lib.hid hz'
          have hts := Lib.hid hts'
          have T1 := Lib.hid q1
          have T4 := Lib.hid q4
          have cell1 := Lib.hid k1
          have cell2 := Lib.hid k2
          have KK := Lib.hid (hK.out.drewN 1)
          have BL := Lib.hid (below_drewN' hbl.out 1)
          have k1' := cell_later hbl.out k1
          have k2' := cell_later hbl.out k2
          have i1 : (k : Int) < (j : Int) := by omega
          have i2 : (k : Int) < (n0 : Int) := by omega
          have i3 : (k : Int) < (n1 : Int) := by omega
          have i4 : (0 : Int) ≤ (k : Int) := by omega
          clear q1 q3 q4 q5 hfj hcs hx hT htn htc hts' hz' k1 k2 hK hbl g1 g2 g3 hdr hle
          go_wp2_with fail
          refine wp_region_held_drew (S := fun W' => W'.cell? ⟨b1, o1 + k, none⟩ = some (.int .i64 x) ∧ W'.cell? ⟨b2, o2 + k, none⟩ = some (.slice T tn tc)) (by kernel_rfl) ⟨k1', k2'⟩ (fun hHeld => ?_)
          clear k1' k2'
          obtain ⟨W, hW⟩ : ∃ W, wr.drew = W := ⟨_, rfl⟩
          rw [show wr.drewN 1 = W from hW] at KK BL
          rw [hW] at hHeld ⊢
          clear hW
          refine wpAnyH_take (i := 0) (v := ?_) rfl (by kernel_rfl) (by kernel_rfl) (by kernel_rfl) (fun _ _ _ h => h) (Or.inl ⟨by rfl, ?_⟩) (by assumption) ?_
          rotate_left
          · intro w hSw
            (try dsimp only at hSw)
            (try obtain ⟨hSw1, hSw2⟩ := hSw)
            go_simp
            try (with_reducible rfl)
          try simp only [Act.put, List.getElem_toArray, List.getElem_cons_zero, List.getElem_cons_succ, List.setIfInBounds_toArray, List.set_cons_zero, List.set_cons_succ]
          refine wpAnyH_take (i := 2) (v := ?_) rfl (by kernel_rfl) (by kernel_rfl) (by kernel_rfl) (fun _ _ _ h => h) (Or.inl ⟨by rfl, ?_⟩) (by assumption) ?_
          rotate_left
          · intro w hSw
            (try dsimp only at hSw)
            (try obtain ⟨hSw1, hSw2⟩ := hSw)
            go_simp
            try (with_reducible rfl)
          try simp only [Act.put, List.getElem_toArray, List.getElem_cons_zero, List.getElem_cons_succ, List.setIfInBounds_toArray, List.set_cons_zero, List.set_cons_succ]
          refine wpAnyH_take (i := 3) (v := ?_) rfl (by kernel_rfl) (by kernel_rfl) (by kernel_rfl) (fun _ _ _ h => h) (Or.inl ⟨by rfl, ?_⟩) (by assumption) ?_
          rotate_left
          · intro w hSw
            (try dsimp only at hSw)
            (try obtain ⟨hSw1, hSw2⟩ := hSw)
            go_simp
            try (with_reducible rfl)
          try simp only [Act.put, List.getElem_toArray, List.getElem_cons_zero, List.getElem_cons_succ, List.setIfInBounds_toArray, List.set_cons_zero, List.set_cons_succ]
          refine wpAnyH_take (i := 4) (v := ?_) rfl (by kernel_rfl) (by kernel_rfl) (by kernel_rfl) (fun _ _ _ h => h) (Or.inl ⟨by rfl, ?_⟩) (by assumption) ?_
          rotate_left
          · intro w hSw
            (try dsimp only at hSw)
            (try obtain ⟨hSw1, hSw2⟩ := hSw)
            go_simp
            try (with_reducible rfl)
          try simp only [Act.put, List.getElem_toArray, List.getElem_cons_zero, List.getElem_cons_succ, List.setIfInBounds_toArray, List.set_cons_zero, List.set_cons_succ]
          refine wpAnyH_take (i := 5) (v := ?_) rfl (by kernel_rfl) (by kernel_rfl) (by kernel_rfl) (fun _ _ _ h => h) (Or.inl ⟨by rfl, ?_⟩) (by assumption) ?_
          rotate_left
          · intro w hSw
            (try dsimp only at hSw)
            (try obtain ⟨hSw1, hSw2⟩ := hSw)
            go_simp
            try (with_reducible rfl)
          try simp only [Act.put, List.getElem_toArray, List.getElem_cons_zero, List.getElem_cons_succ, List.setIfInBounds_toArray, List.set_cons_zero, List.set_cons_succ]
          refine wpAnyH_ready (rs := [1]) (by kernel_rfl) (by simp) ?_
          refine AllReadyH.cons rfl (fun K hK => ?_) AllReadyH.nil
          go_simp
          refine (readN KK.out G1.out ga).mono ?_
          rintro e w5 ⟨rfl, hk9, g9⟩
          have K9 := Lib.hid hk9
          have B9 := Lib.hid (bel_rdr BL.out BL.out.size zp g9)
          clear hk9 g9 KK BL
          have KK := K9
          have BL := B9
          clear K9 B9
          try go_wp2_with fail
          have hS2 : (w5.cell? ⟨b1, o1 + k, none⟩ = some (.int .i64 x) ∧ w5.cell? ⟨b2, o2 + k, none⟩ = some (.slice T tn tc)) := ⟨cell_later BL.out cell1.out, cell_later BL.out cell2.out⟩
          refine hK.out _ _ hS2 (fun hHeld2 => ?_)
          clear hK K hHeld hS2
          have hHeld := hHeld2
          clear hHeld2
          try simp only [Act.put, List.getElem_toArray, List.getElem_cons_zero, List.getElem_cons_succ, List.setIfInBounds_toArray, List.set_cons_zero, List.set_cons_succ]
          refine wpAnyH_ready (rs := [6]) (by kernel_rfl) (by simp) ?_
          refine AllReadyH.cons rfl (fun K hK => ?_) AllReadyH.nil
          go_simp
          refine (within_any x 1099511627776 _ (by omega) (by omega)).mono ?_
          rintro e w' ⟨rfl, rfl⟩
          rw [hz.out]
          try go_wp2_with fail
          have hS2 : (w5.cell? ⟨b1, o1 + k, none⟩ = some (.int .i64 x) ∧ w5.cell? ⟨b2, o2 + k, none⟩ = some (.slice T tn tc)) := ⟨cell_later BL.out cell1.out, cell_later BL.out cell2.out⟩
          refine hK.out _ _ hS2 (fun hHeld2 => ?_)
          clear hK K hHeld hS2
          have hHeld := hHeld2
          clear hHeld2
          try simp only [Act.put, List.getElem_toArray, List.getElem_cons_zero, List.getElem_cons_succ, List.setIfInBounds_toArray, List.set_cons_zero, List.set_cons_succ]
          refine wpAnyH_take (i := 7) (v := ?_) rfl (by kernel_rfl) (by kernel_rfl) (by kernel_rfl) (fun _ _ _ h => h) (Or.inl ⟨by rfl, ?_⟩) (by assumption) ?_
          rotate_left
          · intro w hSw
            (try dsimp only at hSw)
            (try obtain ⟨hSw1, hSw2⟩ := hSw)
            go_simp
            try (with_reducible rfl)
          try simp only [Act.put, List.getElem_toArray, List.getElem_cons_zero, List.getElem_cons_succ, List.setIfInBounds_toArray, List.set_cons_zero, List.set_cons_succ]
          refine wpAnyH_take (i := 8) (v := ?_) rfl (by kernel_rfl) (by kernel_rfl) (by kernel_rfl) (fun _ _ _ h => h) (Or.inl ⟨by rfl, ?_⟩) (by assumption) ?_
          rotate_left
          · intro w hSw
            (try dsimp only at hSw)
            (try obtain ⟨hSw1, hSw2⟩ := hSw)
            go_simp
            try (with_reducible rfl)
          try simp only [Act.put, List.getElem_toArray, List.getElem_cons_zero, List.getElem_cons_succ, List.setIfInBounds_toArray, List.set_cons_zero, List.set_cons_succ]
          refine wpAnyH_take (i := 9) (v := ?_) rfl (by kernel_rfl) (by kernel_rfl) (by kernel_rfl) (fun _ _ _ h => h) (Or.inl ⟨by rfl, ?_⟩) (by assumption) ?_
          rotate_left
          · intro w hSw
            (try dsimp only at hSw)
            (try obtain ⟨hSw1, hSw2⟩ := hSw)
            go_simp
            try (with_reducible rfl)
          try simp only [Act.put, List.getElem_toArray, List.getElem_cons_zero, List.getElem_cons_succ, List.setIfInBounds_toArray, List.set_cons_zero, List.set_cons_succ]
          refine wpAnyH_take (i := 11) (v := ?_) rfl (by kernel_rfl) (by kernel_rfl) (by kernel_rfl) (fun _ _ _ h => h) (Or.inl ⟨by rfl, ?_⟩) (by assumption) ?_
          rotate_left
          · intro w hSw
            (try dsimp only at hSw)
            (try obtain ⟨hSw1, hSw2⟩ := hSw)
            go_simp
            try (with_reducible rfl)
          try simp only [Act.put, List.getElem_toArray, List.getElem_cons_zero, List.getElem_cons_succ, List.setIfInBounds_toArray, List.set_cons_zero, List.set_cons_succ]
          refine wpAnyH_take (i := 12) (v := ?_) rfl (by kernel_rfl) (by kernel_rfl) (by kernel_rfl) (fun _ _ _ h => h) (Or.inl ⟨by rfl, ?_⟩) (by assumption) ?_
          rotate_left
          · intro w hSw
            (try dsimp only at hSw)
            (try obtain ⟨hSw1, hSw2⟩ := hSw)
            go_simp
            try (with_reducible rfl)
          try simp only [Act.put, List.getElem_toArray, List.getElem_cons_zero, List.getElem_cons_succ, List.setIfInBounds_toArray, List.set_cons_zero, List.set_cons_succ]
          refine wpAnyH_take (i := 13) (v := ?_) rfl (by kernel_rfl) (by kernel_rfl) (by kernel_rfl) (fun _ _ _ h => h) (Or.inl ⟨by rfl, ?_⟩) (by assumption) ?_
          rotate_left
          · intro w hSw
            (try dsimp only at hSw)
            (try obtain ⟨hSw1, hSw2⟩ := hSw)
            go_simp
            try (with_reducible rfl)
          try simp only [Act.put, List.getElem_toArray, List.getElem_cons_zero, List.getElem_cons_succ, List.setIfInBounds_toArray, List.set_cons_zero, List.set_cons_succ]
          refine wpAnyH_take (i := 14) (v := ?_) rfl (by kernel_rfl) (by kernel_rfl) (by kernel_rfl) (fun _ _ _ h => h) (Or.inl ⟨by rfl, ?_⟩) (by assumption) ?_
          rotate_left
          · intro w hSw
            (try dsimp only at hSw)
            (try obtain ⟨hSw1, hSw2⟩ := hSw)
            go_simp
            try (with_reducible rfl)
          try simp only [Act.put, List.getElem_toArray, List.getElem_cons_zero, List.getElem_cons_succ, List.setIfInBounds_toArray, List.set_cons_zero, List.set_cons_succ]
          refine wpAnyH_ready (rs := [10]) (by kernel_rfl) (by simp) ?_
          refine AllReadyH.cons rfl (fun K hK => ?_) AllReadyH.nil
          go_simp
          refine (readB 80 KK.out G2.out).mono ?_
          rintro e w6 ⟨D, cd, rfl, hd, hk9, g9⟩
          have OT := Lib.hid hd
          clear hd
          have K9 := Lib.hid hk9
          have B9 := Lib.hid (bel_rdr BL.out BL.out.size zp g9)
          clear hk9 g9 KK BL
          have KK := K9
          have BL := B9
          clear K9 B9
          try go_wp2_with fail
          have hS2 : (w6.cell? ⟨b1, o1 + k, none⟩ = some (.int .i64 x) ∧ w6.cell? ⟨b2, o2 + k, none⟩ = some (.slice T tn tc)) := ⟨cell_later BL.out cell1.out, cell_later BL.out cell2.out⟩
          refine hK.out _ _ hS2 (fun hHeld2 => ?_)
          clear hK K hHeld hS2
          have hHeld := hHeld2
          clear hHeld2
          try simp only [Act.put, List.getElem_toArray, List.getElem_cons_zero, List.getElem_cons_succ, List.setIfInBounds_toArray, List.set_cons_zero, List.set_cons_succ]
          refine wpAnyH_ready (rs := [15]) (by kernel_rfl) (by simp) ?_
          refine AllReadyH.cons rfl (fun K hK => ?_) AllReadyH.nil
          go_simp
          refine (cut_any T tn tc 80 (Rz k) _ T1.out t2 (T4.out.later BL.out) (by omega) (by omega) (by omega)).mono ?_
          rw [show (80 : Int).toNat = 80 from rfl, hts.out]
          rintro e w7 ⟨U, cu, rfl, hu, hbx⟩
          have OU := Lib.hid hu
          have OT2 := Lib.hid (OT.out.later hbx)
          have K9 := Lib.hid (KK.out.later hbx)
          have B9 := Lib.hid (BL.out.trans (hbx.mono BL.out.size))
          clear hu hbx OT KK BL
          have OT := OT2
          have KK := K9
          have BL := B9
          clear OT2 K9 B9
          try go_wp2_with fail
          have hS2 : (w7.cell? ⟨b1, o1 + k, none⟩ = some (.int .i64 x) ∧ w7.cell? ⟨b2, o2 + k, none⟩ = some (.slice T tn tc)) := ⟨cell_later BL.out cell1.out, cell_later BL.out cell2.out⟩
          refine hK.out _ _ hS2 (fun hHeld2 => ?_)
          clear hK K hHeld hS2
          have hHeld := hHeld2
          clear hHeld2
          try simp only [Act.put, List.getElem_toArray, List.getElem_cons_zero, List.getElem_cons_succ, List.setIfInBounds_toArray, List.set_cons_zero, List.set_cons_succ]
          refine wpAnyH_ready (rs := [16]) (by kernel_rfl) (by simp) ?_
          refine AllReadyH.cons rfl (fun K hK => ?_) AllReadyH.nil
          go_simp
          refine (same_true ts rfl rfl OT.out.rd OU.out.rd (by unfold maxLen; omega)).mono ?_
          rintro e w' ⟨rfl, nd, rfl⟩
          have K9 := Lib.hid (KK.out.drewN nd)
          have B9 := Lib.hid (below_drewN' BL.out nd)
          clear KK BL OT OU
          have KK := K9
          have BL := B9
          clear K9 B9
          obtain ⟨w8, hw8⟩ : ∃ V, w7.drewN nd = V := ⟨_, rfl⟩
          rw [hw8] at KK BL ⊢
          clear hw8
          try go_wp2_with fail
          have hS2 : (w8.cell? ⟨b1, o1 + k, none⟩ = some (.int .i64 x) ∧ w8.cell? ⟨b2, o2 + k, none⟩ = some (.slice T tn tc)) := ⟨cell_later BL.out cell1.out, cell_later BL.out cell2.out⟩
          refine hK.out _ _ hS2 (fun hHeld2 => ?_)
          clear hK K hHeld hS2
          have hHeld := hHeld2
          clear hHeld2
          try simp only [Act.put, List.getElem_toArray, List.getElem_cons_zero, List.getElem_cons_succ, List.setIfInBounds_toArray, List.set_cons_zero, List.set_cons_succ]
          refine wpAnyH_take (i := 17) (v := ?_) rfl (by kernel_rfl) (by kernel_rfl) (by kernel_rfl) (fun _ _ _ h => h) (Or.inl ⟨by rfl, ?_⟩) (by assumption) ?_
          rotate_left
          · intro w hSw
            (try dsimp only at hSw)
            (try obtain ⟨hSw1, hSw2⟩ := hSw)
            go_simp
            try (with_reducible rfl)
          try simp only [Act.put, List.getElem_toArray, List.getElem_cons_zero, List.getElem_cons_succ, List.setIfInBounds_toArray, List.set_cons_zero, List.set_cons_succ]
          refine wpAnyH_take (i := 18) (v := ?_) rfl (by kernel_rfl) (by kernel_rfl) (by kernel_rfl) (fun _ _ _ h => h) (Or.inl ⟨by rfl, ?_⟩) (by assumption) ?_
          rotate_left
          · intro w hSw
            (try dsimp only at hSw)
            (try obtain ⟨hSw1, hSw2⟩ := hSw)
            go_simp
            try (with_reducible rfl)
          try simp only [Act.put, List.getElem_toArray, List.getElem_cons_zero, List.getElem_cons_succ, List.setIfInBounds_toArray, List.set_cons_zero, List.set_cons_succ]
          refine wpAnyH_take (i := 19) (v := ?_) rfl (by kernel_rfl) (by kernel_rfl) (by kernel_rfl) (fun _ _ _ h => h) (Or.inl ⟨by rfl, ?_⟩) (by assumption) ?_
          rotate_left
          · intro w hSw
            (try dsimp only at hSw)
            (try obtain ⟨hSw1, hSw2⟩ := hSw)
            go_simp
            try (with_reducible rfl)
          try simp only [Act.put, List.getElem_toArray, List.getElem_cons_zero, List.getElem_cons_succ, List.setIfInBounds_toArray, List.set_cons_zero, List.set_cons_succ]
          refine wpAnyH_take (i := 20) (v := ?_) rfl (by kernel_rfl) (by kernel_rfl) (by kernel_rfl) (fun _ _ _ h => h) (Or.inl ⟨by rfl, ?_⟩) (by assumption) ?_
          rotate_left
          · intro w hSw
            (try dsimp only at hSw)
            (try obtain ⟨hSw1, hSw2⟩ := hSw)
            go_simp
            try (with_reducible rfl)
          try simp only [Act.put, List.getElem_toArray, List.getElem_cons_zero, List.getElem_cons_succ, List.setIfInBounds_toArray, List.set_cons_zero, List.set_cons_succ]
          refine wpAnyH_take (i := 22) (v := ?_) rfl (by kernel_rfl) (by kernel_rfl) (by kernel_rfl) (fun _ _ _ h => h) (Or.inl ⟨by rfl, ?_⟩) (by assumption) ?_
          rotate_left
          · intro w hSw
            (try dsimp only at hSw)
            (try obtain ⟨hSw1, hSw2⟩ := hSw)
            go_simp
            try (with_reducible rfl)
          try simp only [Act.put, List.getElem_toArray, List.getElem_cons_zero, List.getElem_cons_succ, List.setIfInBounds_toArray, List.set_cons_zero, List.set_cons_succ]
          refine wpAnyH_ready (rs := [21]) (by kernel_rfl) (by simp) ?_
          refine AllReadyH.cons rfl (fun K hK => ?_) AllReadyH.nil
          go_simp
          refine (readO KK.out G3.out).mono ?_
          rintro e w9 ⟨rfl, hk9, g9⟩
          have K9 := Lib.hid hk9
          have B9 := Lib.hid (bel_rdr BL.out BL.out.size zp g9)
          clear hk9 g9 KK BL
          have KK := K9
          have BL := B9
          clear K9 B9
          try go_wp2_with fail
          have hS2 : (w9.cell? ⟨b1, o1 + k, none⟩ = some (.int .i64 x) ∧ w9.cell? ⟨b2, o2 + k, none⟩ = some (.slice T tn tc)) := ⟨cell_later BL.out cell1.out, cell_later BL.out cell2.out⟩
          refine hK.out _ _ hS2 (fun hHeld2 => ?_)
          clear hK K hHeld hS2
          have hHeld := hHeld2
          clear hHeld2
          try simp only [Act.put, List.getElem_toArray, List.getElem_cons_zero, List.getElem_cons_succ, List.setIfInBounds_toArray, List.set_cons_zero, List.set_cons_succ]
          refine wpAnyH_take (i := 23) (v := ?_) rfl (by kernel_rfl) (by kernel_rfl) (by kernel_rfl) (fun _ _ _ h => h) (Or.inl ⟨by rfl, ?_⟩) (by assumption) ?_
          rotate_left
          · intro w hSw
            (try dsimp only at hSw)
            (try obtain ⟨hSw1, hSw2⟩ := hSw)
            go_simp
            try (with_reducible rfl)
          try simp only [Act.put, List.getElem_toArray, List.getElem_cons_zero, List.getElem_cons_succ, List.setIfInBounds_toArray, List.set_cons_zero, List.set_cons_succ]
          refine wpAnyH_take (i := 24) (v := ?_) rfl (by kernel_rfl) (by kernel_rfl) (by kernel_rfl) (fun _ _ _ h => h) (Or.inl ⟨by rfl, ?_⟩) (by assumption) ?_
          rotate_left
          · intro w hSw
            (try dsimp only at hSw)
            (try obtain ⟨hSw1, hSw2⟩ := hSw)
            go_simp
            try (with_reducible rfl)
          try simp only [Act.put, List.getElem_toArray, List.getElem_cons_zero, List.getElem_cons_succ, List.setIfInBounds_toArray, List.set_cons_zero, List.set_cons_succ]
          refine wpAnyH_take (i := 25) (v := ?_) rfl (by kernel_rfl) (by kernel_rfl) (by kernel_rfl) (fun _ _ _ h => h) (Or.inl ⟨by rfl, ?_⟩) (by assumption) ?_
          rotate_left
          · intro w hSw
            (try dsimp only at hSw)
            (try obtain ⟨hSw1, hSw2⟩ := hSw)
            go_simp
            try (with_reducible rfl)
          try simp only [Act.put, List.getElem_toArray, List.getElem_cons_zero, List.getElem_cons_succ, List.setIfInBounds_toArray, List.set_cons_zero, List.set_cons_succ]
          refine wpAnyH_take (i := 26) (v := ?_) rfl (by kernel_rfl) (by kernel_rfl) (by kernel_rfl) (fun _ _ _ h => h) (Or.inl ⟨by rfl, ?_⟩) (by assumption) ?_
          rotate_left
          · intro w hSw
            (try dsimp only at hSw)
            (try obtain ⟨hSw1, hSw2⟩ := hSw)
            go_simp
            try (with_reducible rfl)
          try simp only [Act.put, List.getElem_toArray, List.getElem_cons_zero, List.getElem_cons_succ, List.setIfInBounds_toArray, List.set_cons_zero, List.set_cons_succ]
          refine wpAnyH_ready (rs := [27]) (by kernel_rfl) (by simp) ?_
          refine AllReadyH.cons rfl (fun K hK => ?_) AllReadyH.nil
          go_simp
          refine (bad_any KK.out).mono ?_
          rintro e w' ⟨rfl, rfl⟩
          try go_wp2_with fail
          have hS2 : (w9.cell? ⟨b1, o1 + k, none⟩ = some (.int .i64 x) ∧ w9.cell? ⟨b2, o2 + k, none⟩ = some (.slice T tn tc)) := ⟨cell_later BL.out cell1.out, cell_later BL.out cell2.out⟩
          refine hK.out _ _ hS2 (fun hHeld2 => ?_)
          clear hK K hHeld hS2
          have hHeld := hHeld2
          clear hHeld2
          try simp only [Act.put, List.getElem_toArray, List.getElem_cons_zero, List.getElem_cons_succ, List.setIfInBounds_toArray, List.set_cons_zero, List.set_cons_succ]
          refine wpAnyH_take (i := 28) (v := ?_) rfl (by kernel_rfl) (by kernel_rfl) (by kernel_rfl) (fun _ _ _ h => h) (Or.inl ⟨by rfl, ?_⟩) (by assumption) ?_
          rotate_left
          · intro w hSw
            (try dsimp only at hSw)
            (try obtain ⟨hSw1, hSw2⟩ := hSw)
            go_simp
            try (with_reducible rfl)
          try simp only [Act.put, List.getElem_toArray, List.getElem_cons_zero, List.getElem_cons_succ, List.setIfInBounds_toArray, List.set_cons_zero, List.set_cons_succ]
          refine wpAnyH_done (by kernel_rfl) ?_ _
          clear hHeld
          go_wp2_with fail
          go_roundw
          case rel => exact ⟨k + 1, by omega, by go_num, KK, BL⟩
          case measure => simp [intOf]; omega
        · have : k = j := by omega
          subst this
          clear hlt hk
          rw [HXS.out] at hK
          obtain ⟨n, hn⟩ : ∃ n, xs.length = n := ⟨_, rfl⟩
          have HNN := Lib.hid hn
          rw [hn] at hK hlen ⊢
          clear hn
          go_wp2_with fail
          refine (at_any hK.out).mono ?_
          rintro e w' ⟨rfl, rfl⟩
          go_wp2_with fail
          refine (left_any hK.out).mono ?_
          rw [HNN.out, Nat.sub_self]
          rintro e w' ⟨rfl, k3, rfl⟩
          have K3 := Lib.hid (hK.out.drewN k3)
          have B3 := Lib.hid (below_drewN' hbl.out k3)
          clear hK hbl
          go_wp2_with fail
          refine (readO (x := 0) (a1 := n) (bad := true) K3.out (by unfold oneT; rw [if_pos (.inr (by rw [HNN.out]; omega))])).mono ?_
          rintro e w4 ⟨rfl, h4, g4⟩
          have K4 := Lib.hid h4
          have B4 := Lib.hid (bel_rdr B3.out B3.out.size zp g4)
          clear h4 g4 K3 B3
          go_wp2_with fail
          refine (bad_any K4.out).mono ?_
          rintro e w' ⟨rfl, rfl⟩
          go_wp2_with fail
          refine (numZ K4.out).mono ?_
          rintro e w5 ⟨rfl, h5, g5⟩
          have K5 := Lib.hid h5
          have B5 := Lib.hid (bel_rdr B4.out B4.out.size zp g5)
          clear h5 g5 K4 B4
          go_wp2_with fail
          refine (bytZ 9 K5.out).mono ?_
          rintro e w6 ⟨_, _, rfl, h6, g6⟩
          have K6 := Lib.hid h6
          have B6 := Lib.hid (bel_rdr B5.out B5.out.size zp g6)
          clear h6 g6 K5 B5
          go_wp2_with fail
          refine (at_any K6.out).mono ?_
          rintro e w' ⟨rfl, rfl⟩
          go_wp2_with fail
          refine (bad_any K6.out).mono ?_
          rintro e w' ⟨rfl, rfl⟩
          go_wp2_with fail
          refine (wakes_any _).mono ?_
          rintro e w7 ⟨rfl, b7⟩
          go_wp2_with fail
          go_ret
          exact ⟨rfl, B6.out.trans (b7.mono B6.out.size)⟩
end Go.Proofs.Ytheecfgehfhimaa

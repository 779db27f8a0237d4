/-
  What package event's Check answers: a contract over the program.
-/
import Derived.Test.YtbjneoeiognahaaEvBare
import Derived.Test.YtbjneoeiognahaaEvSame
import Derived.Deep.RegionHeld3
namespace Go.Proofs.Ytbjneoeiognahaa
open Go.RowKit

set_option maxRecDepth 10000 in
set_option maxHeartbeats 1000000 in
theorem checkE_any (e : Ev) (A : Option Addr) (c : Nat) (B : Option Addr) (d : Nat) (w : World) (hp : EvAt w e A c B d) :
    Calls Try.prog 93 #[e.val A c B d] w fun x w' => x = .returned (.int .i64 (if e.ok then 0 else 1)) ∧ Below w.heap.size w w' := by
  have hv : e.val A c B d = .agg (e.cs A c B d).toArray := rfl
  have HV := Lib.hid hv
  have HP := Lib.hid hp
  have hba := fun W (h : EvAt W e A c B d) => bareE_any e A c B d W h
  have HBA := Lib.hid hba
  obtain ⟨r, hr⟩ : ∃ r : Int, (if e.ok then 0 else 1) = r := ⟨_, rfl⟩
  rw [hr]
  have HO := Lib.hid (show (if e.same e.bare && e.bounded then 0 else 1) = r by rw [Ev.ok_eq]; exact hr)
  rw [hv]
  clear hv hp hba hr
  go_enter Try.func93, Try.ntmps93
  go_wp2_with fail
  have hr := Ev.range w e A c B d 60
  have hlt : w.heap.size < (w.alloc (.cells (e.cs A c B d).toArray 60)).heap.size := by simp
  have hb1 : Below w.heap.size w (w.alloc (.cells (e.cs A c B d).toArray 60)) := (Below.refl _ _).alloc (Nat.le_refl _) _
  obtain ⟨W, hW⟩ : ∃ W, w.alloc (.cells (e.cs A c B d).toArray 60) = W := ⟨_, rfl⟩
  rw [hW] at hr hlt hb1 ⊢
  clear hW
  have HR := Lib.hid hr
  have HL := Lib.hid hlt
  have HB := Lib.hid hb1
  clear hr hlt hb1
  refine wp_region_held_drew (S := fun wi => Below W.heap.size W wi) (by kernel_rfl) (Below.refl _ _).drew (fun hHeld => ?_)
  cases hs : e.same e.bare
  · refine wpAnyH_take (i := 0) (v := .agg (e.cs A c B d).toArray) rfl (by kernel_rfl) (by kernel_rfl) (by kernel_rfl) (fun _ _ _ h => h) (yieldsIf_load_mid (by rfl) 60 (.tmp 1) rfl _ _ rfl (e.cs A c B d) _ (fun w' h' => rangeAt_later HR.out h' HL.out) Try.underlying60 rfl (by kernel_rfl)) (by assumption) ?_
    try simp only [Act.put, List.getElem_toArray, List.getElem_cons_zero, List.setIfInBounds_toArray, List.set_cons_zero, List.set_cons_succ]
    refine wpAnyH_take (i := 1) (v := .agg (e.cs A c B d).toArray) rfl (by kernel_rfl) (by kernel_rfl) (by kernel_rfl) (fun _ _ _ h => h) (yieldsIf_load_mid (by rfl) 60 (.tmp 1) rfl _ _ rfl (e.cs A c B d) _ (fun w' h' => rangeAt_later HR.out h' HL.out) Try.underlying60 rfl (by kernel_rfl)) (by assumption) ?_
    try simp only [Act.put, List.getElem_toArray, List.getElem_cons_zero, List.getElem_cons_succ, List.setIfInBounds_toArray, List.set_cons_zero, List.set_cons_succ]
    refine wpAnyH_ready (rs := [2]) (by kernel_rfl) (by simp) ?_
    refine AllReadyH.cons rfl (fun K hK => ?_) AllReadyH.nil
    go_simp
    try rw [← HV.out]
    have hp9 := EvAt.later (w' := _) HP.out (HB.out.trans (hHeld.mono HB.out.size))
    refine (HBA.out _ hp9).mono ?_
    rintro x w2 ⟨A2, c2, B2, d2, rfl, hbt, hb⟩
    have HBT := Lib.hid hbt
    have hb2 : Below W.heap.size W w2 := Below.trans hHeld (hb.mono hHeld.size)
    clear hb hp9 hbt
    try go_wp2_with fail
    refine hK.out _ _ hb2 (fun hHeld2 => ?_)
    clear hK K hHeld
    have hHeld := hHeld2
    clear hHeld2
    try simp only [Act.put, List.getElem_toArray, List.getElem_cons_zero, List.getElem_cons_succ, List.setIfInBounds_toArray, List.set_cons_zero, List.set_cons_succ]
    refine wpAnyH_ready (rs := [3]) (by kernel_rfl) (by simp) ?_
    refine AllReadyH.cons rfl (fun K hK => ?_) AllReadyH.nil
    go_simp
    try rw [← HV.out]
    have hp9 := EvAt.later (w' := w2) HP.out (HB.out.trans (hHeld.mono HB.out.size))
    refine (sameE_any e e.bare A c B d A2 c2 B2 d2 _ hp9 HBT.out).mono ?_
    rw [hs]
    rintro x w3 ⟨rfl, hb⟩
    have hb2 : Below W.heap.size W w3 := Below.trans hHeld (hb.mono hHeld.size)
    clear hb hp9
    try go_wp2_with fail
    refine hK.out _ _ hb2 (fun hHeld2 => ?_)
    clear hK K hHeld
    have hHeld := hHeld2
    clear hHeld2
    try simp only [Act.put, List.getElem_toArray, List.getElem_cons_zero, List.getElem_cons_succ, List.setIfInBounds_toArray, List.set_cons_zero, List.set_cons_succ]
    refine wpAnyH_take (i := 4) (v := ?_) rfl (by kernel_rfl) (by kernel_rfl) (by kernel_rfl) (fun _ _ _ h => h) (Or.inl ⟨by rfl, ?_⟩) (by assumption) ?_
    rotate_left
    · intro w hSw
      (try dsimp only at hSw)
      go_simp
      try (with_reducible rfl)
    try simp only [Act.put, List.getElem_toArray, List.getElem_cons_zero, List.getElem_cons_succ, List.setIfInBounds_toArray, List.set_cons_zero, List.set_cons_succ]
    refine wpAnyH_take (i := 5) (v := ?_) rfl (by kernel_rfl) (by kernel_rfl) (by kernel_rfl) (fun _ _ _ h => h) (Or.inl ⟨by rfl, ?_⟩) (by assumption) ?_
    rotate_left
    · intro w hSw
      (try dsimp only at hSw)
      go_simp
      try (with_reducible rfl)
    try simp only [Act.put, List.getElem_toArray, List.getElem_cons_zero, List.getElem_cons_succ, List.setIfInBounds_toArray, List.set_cons_zero, List.set_cons_succ]
    refine wpAnyH_take (i := 6) (v := undef) rfl (by kernel_rfl) (by kernel_rfl) (by kernel_rfl) (fun _ _ _ h => h) (Or.inr ⟨by rfl, rfl⟩) (by assumption) ?_
    try simp only [Act.put, List.getElem_toArray, List.getElem_cons_zero, List.getElem_cons_succ, List.setIfInBounds_toArray, List.set_cons_zero, List.set_cons_succ]
    refine wpAnyH_take (i := 7) (v := undef) rfl (by kernel_rfl) (by kernel_rfl) (by kernel_rfl) (fun _ _ _ h => h) (Or.inr ⟨by rfl, rfl⟩) (by assumption) ?_
    try simp only [Act.put, List.getElem_toArray, List.getElem_cons_zero, List.getElem_cons_succ, List.setIfInBounds_toArray, List.set_cons_zero, List.set_cons_succ]
    refine wpAnyH_take (i := 8) (v := undef) rfl (by kernel_rfl) (by kernel_rfl) (by kernel_rfl) (fun _ _ _ h => h) (Or.inr ⟨by rfl, rfl⟩) (by assumption) ?_
    try simp only [Act.put, List.getElem_toArray, List.getElem_cons_zero, List.getElem_cons_succ, List.setIfInBounds_toArray, List.set_cons_zero, List.set_cons_succ]
    refine wpAnyH_take (i := 9) (v := ?_) rfl (by kernel_rfl) (by kernel_rfl) (by kernel_rfl) (fun _ _ _ h => h) (Or.inl ⟨by rfl, ?_⟩) (by assumption) ?_
    rotate_left
    · intro w hSw
      (try dsimp only at hSw)
      go_simp
      try (with_reducible rfl)
    try simp only [Act.put, List.getElem_toArray, List.getElem_cons_zero, List.getElem_cons_succ, List.setIfInBounds_toArray, List.set_cons_zero, List.set_cons_succ]
    refine wpAnyH_done (by kernel_rfl) ?_ _
    go_wp2_with fail
    go_ret
    exact ⟨ret_i (by rw [← HO.out]; simp [hs]), HB.out.trans (hHeld.mono HB.out.size)⟩
  · cases hd : e.bounded
    · refine wpAnyH_take (i := 0) (v := .agg (e.cs A c B d).toArray) rfl (by kernel_rfl) (by kernel_rfl) (by kernel_rfl) (fun _ _ _ h => h) (yieldsIf_load_mid (by rfl) 60 (.tmp 1) rfl _ _ rfl (e.cs A c B d) _ (fun w' h' => rangeAt_later HR.out h' HL.out) Try.underlying60 rfl (by kernel_rfl)) (by assumption) ?_
      try simp only [Act.put, List.getElem_toArray, List.getElem_cons_zero, List.setIfInBounds_toArray, List.set_cons_zero, List.set_cons_succ]
      refine wpAnyH_take (i := 1) (v := .agg (e.cs A c B d).toArray) rfl (by kernel_rfl) (by kernel_rfl) (by kernel_rfl) (fun _ _ _ h => h) (yieldsIf_load_mid (by rfl) 60 (.tmp 1) rfl _ _ rfl (e.cs A c B d) _ (fun w' h' => rangeAt_later HR.out h' HL.out) Try.underlying60 rfl (by kernel_rfl)) (by assumption) ?_
      try simp only [Act.put, List.getElem_toArray, List.getElem_cons_zero, List.getElem_cons_succ, List.setIfInBounds_toArray, List.set_cons_zero, List.set_cons_succ]
      refine wpAnyH_ready (rs := [2]) (by kernel_rfl) (by simp) ?_
      refine AllReadyH.cons rfl (fun K hK => ?_) AllReadyH.nil
      go_simp
      try rw [← HV.out]
      have hp9 := EvAt.later (w' := _) HP.out (HB.out.trans (hHeld.mono HB.out.size))
      refine (HBA.out _ hp9).mono ?_
      rintro x w2 ⟨A2, c2, B2, d2, rfl, hbt, hb⟩
      have HBT := Lib.hid hbt
      have hb2 : Below W.heap.size W w2 := Below.trans hHeld (hb.mono hHeld.size)
      clear hb hp9 hbt
      try go_wp2_with fail
      refine hK.out _ _ hb2 (fun hHeld2 => ?_)
      clear hK K hHeld
      have hHeld := hHeld2
      clear hHeld2
      try simp only [Act.put, List.getElem_toArray, List.getElem_cons_zero, List.getElem_cons_succ, List.setIfInBounds_toArray, List.set_cons_zero, List.set_cons_succ]
      refine wpAnyH_ready (rs := [3]) (by kernel_rfl) (by simp) ?_
      refine AllReadyH.cons rfl (fun K hK => ?_) AllReadyH.nil
      go_simp
      try rw [← HV.out]
      have hp9 := EvAt.later (w' := w2) HP.out (HB.out.trans (hHeld.mono HB.out.size))
      refine (sameE_any e e.bare A c B d A2 c2 B2 d2 _ hp9 HBT.out).mono ?_
      rw [hs]
      rintro x w3 ⟨rfl, hb⟩
      have hb2 : Below W.heap.size W w3 := Below.trans hHeld (hb.mono hHeld.size)
      clear hb hp9
      try go_wp2_with fail
      refine hK.out _ _ hb2 (fun hHeld2 => ?_)
      clear hK K hHeld
      have hHeld := hHeld2
      clear hHeld2
      try simp only [Act.put, List.getElem_toArray, List.getElem_cons_zero, List.getElem_cons_succ, List.setIfInBounds_toArray, List.set_cons_zero, List.set_cons_succ]
      refine wpAnyH_take (i := 4) (v := ?_) rfl (by kernel_rfl) (by kernel_rfl) (by kernel_rfl) (fun _ _ _ h => h) (Or.inl ⟨by rfl, ?_⟩) (by assumption) ?_
      rotate_left
      · intro w hSw
        (try dsimp only at hSw)
        go_simp
        try (with_reducible rfl)
      try simp only [Act.put, List.getElem_toArray, List.getElem_cons_zero, List.getElem_cons_succ, List.setIfInBounds_toArray, List.set_cons_zero, List.set_cons_succ]
      refine wpAnyH_take (i := 5) (v := ?_) rfl (by kernel_rfl) (by kernel_rfl) (by kernel_rfl) (fun _ _ _ h => h) (Or.inl ⟨by rfl, ?_⟩) (by assumption) ?_
      rotate_left
      · intro w hSw
        (try dsimp only at hSw)
        go_simp
        try (with_reducible rfl)
      try simp only [Act.put, List.getElem_toArray, List.getElem_cons_zero, List.getElem_cons_succ, List.setIfInBounds_toArray, List.set_cons_zero, List.set_cons_succ]
      refine wpAnyH_take (i := 6) (v := .agg (e.cs A c B d).toArray) rfl (by kernel_rfl) (by kernel_rfl) (by kernel_rfl) (fun _ _ _ h => h) (yieldsIf_load_mid (by rfl) 60 (.tmp 1) rfl _ _ rfl (e.cs A c B d) _ (fun w' h' => rangeAt_later HR.out h' HL.out) Try.underlying60 rfl (by kernel_rfl)) (by assumption) ?_
      try simp only [Act.put, List.getElem_toArray, List.getElem_cons_zero, List.getElem_cons_succ, List.setIfInBounds_toArray, List.set_cons_zero, List.set_cons_succ]
      refine wpAnyH_ready (rs := [7]) (by kernel_rfl) (by simp) ?_
      refine AllReadyH.cons rfl (fun K hK => ?_) AllReadyH.nil
      go_simp
      try rw [← HV.out]
      have hp9 := EvAt.later (w' := w3) HP.out (HB.out.trans (hHeld.mono HB.out.size))
      refine (boundedE_any e A c B d _ hp9).mono ?_
      rw [hd]
      rintro x w4 ⟨rfl, hb⟩
      have hb2 : Below W.heap.size W w4 := Below.trans hHeld (hb.mono hHeld.size)
      clear hb hp9
      try go_wp2_with fail
      refine hK.out _ _ hb2 (fun hHeld2 => ?_)
      clear hK K hHeld
      have hHeld := hHeld2
      clear hHeld2
      try simp only [Act.put, List.getElem_toArray, List.getElem_cons_zero, List.getElem_cons_succ, List.setIfInBounds_toArray, List.set_cons_zero, List.set_cons_succ]
      refine wpAnyH_take (i := 8) (v := ?_) rfl (by kernel_rfl) (by kernel_rfl) (by kernel_rfl) (fun _ _ _ h => h) (Or.inl ⟨by rfl, ?_⟩) (by assumption) ?_
      rotate_left
      · intro w hSw
        (try dsimp only at hSw)
        go_simp
        try (with_reducible rfl)
      try simp only [Act.put, List.getElem_toArray, List.getElem_cons_zero, List.getElem_cons_succ, List.setIfInBounds_toArray, List.set_cons_zero, List.set_cons_succ]
      refine wpAnyH_take (i := 9) (v := ?_) rfl (by kernel_rfl) (by kernel_rfl) (by kernel_rfl) (fun _ _ _ h => h) (Or.inl ⟨by rfl, ?_⟩) (by assumption) ?_
      rotate_left
      · intro w hSw
        (try dsimp only at hSw)
        go_simp
        try (with_reducible rfl)
      try simp only [Act.put, List.getElem_toArray, List.getElem_cons_zero, List.getElem_cons_succ, List.setIfInBounds_toArray, List.set_cons_zero, List.set_cons_succ]
      refine wpAnyH_done (by kernel_rfl) ?_ _
      go_wp2_with fail
      go_ret
      exact ⟨ret_i (by rw [← HO.out]; simp [hs, hd]), HB.out.trans (hHeld.mono HB.out.size)⟩
    · refine wpAnyH_take (i := 0) (v := .agg (e.cs A c B d).toArray) rfl (by kernel_rfl) (by kernel_rfl) (by kernel_rfl) (fun _ _ _ h => h) (yieldsIf_load_mid (by rfl) 60 (.tmp 1) rfl _ _ rfl (e.cs A c B d) _ (fun w' h' => rangeAt_later HR.out h' HL.out) Try.underlying60 rfl (by kernel_rfl)) (by assumption) ?_
      try simp only [Act.put, List.getElem_toArray, List.getElem_cons_zero, List.setIfInBounds_toArray, List.set_cons_zero, List.set_cons_succ]
      refine wpAnyH_take (i := 1) (v := .agg (e.cs A c B d).toArray) rfl (by kernel_rfl) (by kernel_rfl) (by kernel_rfl) (fun _ _ _ h => h) (yieldsIf_load_mid (by rfl) 60 (.tmp 1) rfl _ _ rfl (e.cs A c B d) _ (fun w' h' => rangeAt_later HR.out h' HL.out) Try.underlying60 rfl (by kernel_rfl)) (by assumption) ?_
      try simp only [Act.put, List.getElem_toArray, List.getElem_cons_zero, List.getElem_cons_succ, List.setIfInBounds_toArray, List.set_cons_zero, List.set_cons_succ]
      refine wpAnyH_ready (rs := [2]) (by kernel_rfl) (by simp) ?_
      refine AllReadyH.cons rfl (fun K hK => ?_) AllReadyH.nil
      go_simp
      try rw [← HV.out]
      have hp9 := EvAt.later (w' := _) HP.out (HB.out.trans (hHeld.mono HB.out.size))
      refine (HBA.out _ hp9).mono ?_
      rintro x w2 ⟨A2, c2, B2, d2, rfl, hbt, hb⟩
      have HBT := Lib.hid hbt
      have hb2 : Below W.heap.size W w2 := Below.trans hHeld (hb.mono hHeld.size)
      clear hb hp9 hbt
      try go_wp2_with fail
      refine hK.out _ _ hb2 (fun hHeld2 => ?_)
      clear hK K hHeld
      have hHeld := hHeld2
      clear hHeld2
      try simp only [Act.put, List.getElem_toArray, List.getElem_cons_zero, List.getElem_cons_succ, List.setIfInBounds_toArray, List.set_cons_zero, List.set_cons_succ]
      refine wpAnyH_ready (rs := [3]) (by kernel_rfl) (by simp) ?_
      refine AllReadyH.cons rfl (fun K hK => ?_) AllReadyH.nil
      go_simp
      try rw [← HV.out]
      have hp9 := EvAt.later (w' := w2) HP.out (HB.out.trans (hHeld.mono HB.out.size))
      refine (sameE_any e e.bare A c B d A2 c2 B2 d2 _ hp9 HBT.out).mono ?_
      rw [hs]
      rintro x w3 ⟨rfl, hb⟩
      have hb2 : Below W.heap.size W w3 := Below.trans hHeld (hb.mono hHeld.size)
      clear hb hp9
      try go_wp2_with fail
      refine hK.out _ _ hb2 (fun hHeld2 => ?_)
      clear hK K hHeld
      have hHeld := hHeld2
      clear hHeld2
      try simp only [Act.put, List.getElem_toArray, List.getElem_cons_zero, List.getElem_cons_succ, List.setIfInBounds_toArray, List.set_cons_zero, List.set_cons_succ]
      refine wpAnyH_take (i := 4) (v := ?_) rfl (by kernel_rfl) (by kernel_rfl) (by kernel_rfl) (fun _ _ _ h => h) (Or.inl ⟨by rfl, ?_⟩) (by assumption) ?_
      rotate_left
      · intro w hSw
        (try dsimp only at hSw)
        go_simp
        try (with_reducible rfl)
      try simp only [Act.put, List.getElem_toArray, List.getElem_cons_zero, List.getElem_cons_succ, List.setIfInBounds_toArray, List.set_cons_zero, List.set_cons_succ]
      refine wpAnyH_take (i := 5) (v := ?_) rfl (by kernel_rfl) (by kernel_rfl) (by kernel_rfl) (fun _ _ _ h => h) (Or.inl ⟨by rfl, ?_⟩) (by assumption) ?_
      rotate_left
      · intro w hSw
        (try dsimp only at hSw)
        go_simp
        try (with_reducible rfl)
      try simp only [Act.put, List.getElem_toArray, List.getElem_cons_zero, List.getElem_cons_succ, List.setIfInBounds_toArray, List.set_cons_zero, List.set_cons_succ]
      refine wpAnyH_take (i := 6) (v := .agg (e.cs A c B d).toArray) rfl (by kernel_rfl) (by kernel_rfl) (by kernel_rfl) (fun _ _ _ h => h) (yieldsIf_load_mid (by rfl) 60 (.tmp 1) rfl _ _ rfl (e.cs A c B d) _ (fun w' h' => rangeAt_later HR.out h' HL.out) Try.underlying60 rfl (by kernel_rfl)) (by assumption) ?_
      try simp only [Act.put, List.getElem_toArray, List.getElem_cons_zero, List.getElem_cons_succ, List.setIfInBounds_toArray, List.set_cons_zero, List.set_cons_succ]
      refine wpAnyH_ready (rs := [7]) (by kernel_rfl) (by simp) ?_
      refine AllReadyH.cons rfl (fun K hK => ?_) AllReadyH.nil
      go_simp
      try rw [← HV.out]
      have hp9 := EvAt.later (w' := w3) HP.out (HB.out.trans (hHeld.mono HB.out.size))
      refine (boundedE_any e A c B d _ hp9).mono ?_
      rw [hd]
      rintro x w4 ⟨rfl, hb⟩
      have hb2 : Below W.heap.size W w4 := Below.trans hHeld (hb.mono hHeld.size)
      clear hb hp9
      try go_wp2_with fail
      refine hK.out _ _ hb2 (fun hHeld2 => ?_)
      clear hK K hHeld
      have hHeld := hHeld2
      clear hHeld2
      try simp only [Act.put, List.getElem_toArray, List.getElem_cons_zero, List.getElem_cons_succ, List.setIfInBounds_toArray, List.set_cons_zero, List.set_cons_succ]
      refine wpAnyH_take (i := 8) (v := ?_) rfl (by kernel_rfl) (by kernel_rfl) (by kernel_rfl) (fun _ _ _ h => h) (Or.inl ⟨by rfl, ?_⟩) (by assumption) ?_
      rotate_left
      · intro w hSw
        (try dsimp only at hSw)
        go_simp
        try (with_reducible rfl)
      try simp only [Act.put, List.getElem_toArray, List.getElem_cons_zero, List.getElem_cons_succ, List.setIfInBounds_toArray, List.set_cons_zero, List.set_cons_succ]
      refine wpAnyH_take (i := 9) (v := ?_) rfl (by kernel_rfl) (by kernel_rfl) (by kernel_rfl) (fun _ _ _ h => h) (Or.inl ⟨by rfl, ?_⟩) (by assumption) ?_
      rotate_left
      · intro w hSw
        (try dsimp only at hSw)
        go_simp
        try (with_reducible rfl)
      try simp only [Act.put, List.getElem_toArray, List.getElem_cons_zero, List.getElem_cons_succ, List.setIfInBounds_toArray, List.set_cons_zero, List.set_cons_succ]
      refine wpAnyH_done (by kernel_rfl) ?_ _
      go_wp2_with fail
      go_ret
      exact ⟨ret_i (by rw [← HO.out]; simp [hs, hd]), HB.out.trans (hHeld.mono HB.out.size)⟩
end Go.Proofs.Ytbjneoeiognahaa

/-
  What Write of the document's own outbox does: contract over the program.
-/
import Derived.Test.YtjpnpaacekdeeaaDocOut
import Derived.Test.YtjpnpaacekdeeaaPlanSmall
namespace Go.Proofs.Ytjpnpaacekdeeaa
open Go.RowKit

theorem run_min3 (a b c K : Int) (hK : K = min (min a b) c) (ts : Array TypeId) (t : TypeId) (w : World) : (Builtin.min_ ts t #[.int .i64 a, .int .i64 b, .int .i64 c]).run Try.prog w = .ok (.int .i64 K) w := by
  rw [run_min_int3]
  congr 2
  split <;> split <;> (try split at *) <;> omega
/-- n bytes 0, anew. -/
theorem made_rd (w : World) (n : Nat) : Rd .u8 (w.alloc (.cells (madeCells #[.int .u8 0] n) 5)) (some ⟨w.heap.size, 0, none⟩) (List.replicate n 0) := by
  refine .inr ⟨_, _, rfl, fun i hi => ?_⟩
  rw [List.length_replicate] at hi
  rw [Nat.zero_add, (World.rowIs_made w (.int .u8 0) n 5).cell hi]
  simp [List.getD, hi]

/-- What a Write leaves. -/
def DWriteEnd (w : World) (B p : Nat) (v : Value) (o : Ou) (k : Nat) (ys : List Int) (e : Ending) (w' : World) : Prop :=
  ∃ v', e = .returned (.int .i64 (k : Int)) ∧ DoAt w' B p v' (o.more (ys.take k)) ∧ SC w w' (Oft p v) (Oft p v')

section
variable {w : World} {B p : Nat} {v : Value} {o : Ou}
set_option maxHeartbeats 1000000 in
theorem dwrite_any (h : DoAt w B p v o) (A : Option Addr) (m c : Nat) (ys : List Int) (hm : ys.length = m) (hr : Rd .u8 w A ys) (hle : m ≤ c) (hm2 : m ≤ 4611686018427387904) (k : Nat) (hk : (k : Int) = min (m : Int) o.room) :
    Calls Try.prog 18 #[.pointer (some ⟨p, 0, none⟩), .slice A m c] w (DWriteEnd w B p v o k ys) := by
  obtain ⟨A1, c1', hv⟩ := h.own.form
  cases hcl : o.cl
  · have hrr := Ou.room_range h.ok
    have hro := Ou.room_open hcl
    have hpo := Ou.places_open hcl
    have hkr : (k : Int) ≤ o.room := by omega
    have hmo := Ou.more_ok h.ok (ys := ys.take k) (by rw [List.length_take]; omega)
    have hkm : k ≤ m := by omega
    have hk4 : k ≤ 401 := by omega
    have hsl := slice_h A m c k (by omega)
    have hlt : (ys.take k).length = k := by rw [List.length_take]; omega
    have hl := h.ok.l
    have ha1 := h.ok.a1
    have ha2 := h.ok.a2
    have hb1 := h.ok.b1
    have hb2 := h.ok.b2
    rw [hpo] at ha2
    obtain ⟨n, hn⟩ : ∃ n, o.xs.length = n := ⟨_, rfl⟩
    have c0 := h.c0
    have c1 := h.c1
    have c2 := h.c2
    have c3 := h.c3
    rw [hcl] at c3
    rw [hv, hn] at c2
    have H := Lib.hid h
    have HRD := Lib.hid (hr.take k)
    have HLT := Lib.hid hlt
    have HMO := Lib.hid hmo
    have HN := Lib.hid hn
    have HV := Lib.hid hv
    rw [hn] at hl hv hro ha2
    obtain ⟨bf, hbf⟩ : ∃ x, o.buf = x := ⟨_, rfl⟩
    obtain ⟨ak, hak⟩ : ∃ x, o.ak = x := ⟨_, rfl⟩
    rw [hbf] at c0 hro hb1 hb2
    rw [hak] at c1 hro ha1 ha2
    have hx1 := run_min2 ak (n : Int) ak (by omega)
    have g1 : wrap64 ((n : Int) - ak) = (n : Int) - ak := wrap_at rfl (by omega) (by omega)
    have g2 : wrap64 (bf - ((n : Int) - ak)) = bf - ((n : Int) - ak) := wrap_at rfl (by omega) (by omega)
    have g3 : wrap64 (4096 - (n : Int)) = 4096 - (n : Int) := wrap_at rfl (by omega) (by omega)
    have hx2 := run_min3 (m : Int) (bf - ((n : Int) - ak)) (4096 - (n : Int)) (k : Int) (by rw [hk, hro]; omega)
    have hx3 := run_max2 (k : Int) 0 (k : Int) (by omega)
    clear h hr hm hrr hk hmo hlt hn hkr hcl hpo hro hbf hak ha1 ha2 hb1 hb2
    go_enter Try.func18, Try.ntmps18
    go_wp2_with fail
    go_quiet (fail)
    clear g1 g2 g3 hx1 hx2 c0 c1 c2 c3
    obtain ⟨k0, hk0⟩ : ∃ x, nq = x := ⟨_, rfl⟩
    rw [hk0]
    clear hk0
    go_wp2_with fail
    obtain ⟨W, hW⟩ : ∃ W, (w.drewN k0).drew = W := ⟨_, rfl⟩
    have hX : DoAt W B p v o := by rw [← hW]; exact (H.out.drewN k0).drewN 1
    have hrd : Rd .u8 W A (ys.take k) := by rw [← hW]; exact HRD.out
    have hgw : SC w W (Oft p v) (Oft p v) := by rw [← hW]; exact SC.of_below ⟨rfl, rfl, rfl, Nat.le_refl _, fun _ _ => rfl⟩
    have d1 := hX.c2
    have ho := hX.own
    rw [hv] at d1 ho
    obtain ⟨A', c', w', hrun, ho', hg', hb'⟩ := run_append_f (P := Try.prog) W .u8 22 22 5 (.int .u8 0) 1 Try.underlying22 info_byte rfl B (.slice A1 n c1') o.xs ho A k c (ys.take k) HLT.out hrd (by rw [HN.out]; unfold maxLen; omega) (by rw [HN.out]; omega) hX.size
    rw [HN.out] at hrun ho' hb'
    have hne : (Value.slice A1 n c1').ownBlock ≠ some p := by rw [← hv]; exact hX.ne
    have f1 : w'.frozen? ⟨p, 0 + 2, none⟩ = false := by
      rw [World.frozen?_of_block (hg'.block p hX.lt (fun e => hne e.symm))]
      exact hX.fr _
    have y1 := hg'.cell d1 (fun e => hne e.symm)
    have hnew : DoAt (w'.setCell ⟨p, 0 + 2, none⟩ (.slice A' (n + k) c')) B p (.slice A' (n + k) c') (o.more (ys.take k)) ∧ SC W (w'.setCell ⟨p, 0 + 2, none⟩ (.slice A' (n + k) c')) (Oft p v) (Oft p (.slice A' (n + k) c')) := by
      have ht : Trn W w' (fun k => (Value.slice A1 n c1').ownBlock = some k) := Trn.of_grown hg'
      have hrow := ht.rowIs hX.row hne
      have hlp := hX.lt
      have hne2 : (Value.slice A' (n + k) c').ownBlock ≠ some p := fun e => by
        rcases hb' p e with h1 | h1
        · exact hne h1
        · omega
      refine ⟨⟨(hrow.set 2 _).congr fun i hi => ?_, ?_, hX.ge, HMO.out⟩, ?_, ?_⟩
      · have : i = 0 ∨ i = 1 ∨ i = 2 ∨ i = 3 := by omega
        rcases this with rfl | rfl | rfl | rfl <;> simp [doF, Ou.more]
      · exact ho'.kept (setCell_one _ _ _ _) (.inr hne2)
      · refine ht.trans (Trn.of_grown (setCell_one w' p (0 + 2) _)) (fun q hq => .inr (by rw [hv]; exact hq)) (fun q _ hq => .inl (Option.some.inj hq).symm)
      · rintro q (rfl | hq)
        · exact .inl (.inl rfl)
        · rcases hb' q hq with h1 | h1
          · exact .inl (.inr (by rw [hv]; exact h1))
          · exact .inr h1
    have HNEW := Lib.hid hnew
    have HGW := Lib.hid hgw
    clear hnew hgw ho' hg' hb' hX hrd ho hne H HRD hv
    refine wp_region_held_drew (S := fun _ => True) (by kernel_rfl) trivial ?_
    intro hHeld
    rw [hW]
    clear hW
    refine wpAnyH_take (i := 0) (v := ?_) rfl (by kernel_rfl) (by kernel_rfl) (by kernel_rfl) (fun _ _ _ h => h) (Or.inl ⟨by rfl, ?_⟩) (by assumption) ?_
    rotate_left
    · intro w hSw
      (try dsimp only at hSw)
      go_simp
      try (with_reducible rfl)
    try simp only [Act.put, List.getElem_toArray, List.getElem_cons_zero, List.setIfInBounds_toArray, List.set_cons_zero, List.set_cons_succ]
    refine wpAnyH_take (i := 1) (v := ?_) rfl (by kernel_rfl) (by kernel_rfl) (by kernel_rfl) (fun _ _ _ h => h) (Or.inl ⟨by rfl, ?_⟩) (by assumption) ?_
    rotate_left
    · intro w hSw
      (try dsimp only at hSw)
      go_simp
      try (with_reducible rfl)
    try simp only [Act.put, List.getElem_toArray, List.getElem_cons_zero, List.getElem_cons_succ, List.setIfInBounds_toArray, List.set_cons_zero, List.set_cons_succ]
    refine wpAnyH_take (i := 2) (v := ?_) rfl (by kernel_rfl) (by kernel_rfl) (by kernel_rfl) (fun _ _ _ h => h) (Or.inl ⟨by rfl, ?_⟩) (by assumption) ?_
    rotate_left
    · intro w hSw
      (try dsimp only at hSw)
      go_simp
      try (with_reducible rfl)
    try simp only [Act.put, List.getElem_toArray, List.getElem_cons_zero, List.getElem_cons_succ, List.setIfInBounds_toArray, List.set_cons_zero, List.set_cons_succ]
    refine wpAnyH_take (i := 3) (v := ?_) rfl (by kernel_rfl) (by kernel_rfl) (by kernel_rfl) (fun _ _ _ h => h) (Or.inl ⟨by rfl, ?_⟩) (by assumption) ?_
    rotate_left
    · intro w hSw
      (try dsimp only at hSw)
      go_simp
      try (with_reducible rfl)
    try simp only [Act.put, List.getElem_toArray, List.getElem_cons_zero, List.getElem_cons_succ, List.setIfInBounds_toArray, List.set_cons_zero, List.set_cons_succ]
    refine wpAnyH_take (i := 5) (v := ?_) rfl (by kernel_rfl) (by kernel_rfl) (by kernel_rfl) (fun _ _ _ h => h) (Or.inl ⟨by rfl, ?_⟩) (by assumption) ?_
    rotate_left
    · intro w hSw
      (try dsimp only at hSw)
      go_simp
      try (with_reducible rfl)
    try simp only [Act.put, List.getElem_toArray, List.getElem_cons_zero, List.getElem_cons_succ, List.setIfInBounds_toArray, List.set_cons_zero, List.set_cons_succ]
    refine wpAnyH_take (i := 6) (v := ?_) rfl (by kernel_rfl) (by kernel_rfl) (by kernel_rfl) (fun _ _ _ h => h) (Or.inl ⟨by rfl, ?_⟩) (by assumption) ?_
    rotate_left
    · intro w hSw
      (try dsimp only at hSw)
      go_simp
      try (with_reducible rfl)
    try simp only [Act.put, List.getElem_toArray, List.getElem_cons_zero, List.getElem_cons_succ, List.setIfInBounds_toArray, List.set_cons_zero, List.set_cons_succ]
    refine wpAnyH_take (i := 7) (v := ?_) rfl (by kernel_rfl) (by kernel_rfl) (by kernel_rfl) (fun _ _ _ h => h) (Or.inl ⟨by rfl, ?_⟩) (by assumption) ?_
    rotate_left
    · intro w hSw
      (try dsimp only at hSw)
      go_simp
      try (with_reducible rfl)
    try simp only [Act.put, List.getElem_toArray, List.getElem_cons_zero, List.getElem_cons_succ, List.setIfInBounds_toArray, List.set_cons_zero, List.set_cons_succ]
    refine wpAnyH_ready (rs := [4]) (by kernel_rfl) (by simp) ?_
    refine AllReadyH.cons rfl (fun K hK => ?_) AllReadyH.nil
    go_simp
    refine hK.out _ _ trivial (fun hHeld2 => ?_)
    clear hK K hHeld
    have hHeld := hHeld2
    clear hHeld2
    try simp only [Act.put, List.getElem_toArray, List.getElem_cons_zero, List.getElem_cons_succ, List.setIfInBounds_toArray, List.set_cons_zero, List.set_cons_succ]
    refine wpAnyH_ready (rs := [8]) (by kernel_rfl) (by simp) ?_
    refine AllReadyH.cons rfl (fun K hK => ?_) AllReadyH.nil
    refine step_append_r _ (by rfl) (.tmp 46) (.tmp 49) 22 rfl _ _ _ rfl rfl hrun ?_
    refine hK.out _ _ trivial (fun hHeld2 => ?_)
    clear hK K hHeld
    have hHeld := hHeld2
    clear hHeld2
    try simp only [Act.put, List.getElem_toArray, List.getElem_cons_zero, List.getElem_cons_succ, List.setIfInBounds_toArray, List.set_cons_zero, List.set_cons_succ]
    refine wpAnyH_take (i := 9) (v := ?_) rfl (by kernel_rfl) (by kernel_rfl) (by kernel_rfl) (fun _ _ _ h => h) (Or.inl ⟨by rfl, ?_⟩) (by assumption) ?_
    rotate_left
    · intro w hSw
      (try dsimp only at hSw)
      go_simp
      try (with_reducible rfl)
    try simp only [Act.put, List.getElem_toArray, List.getElem_cons_zero, List.getElem_cons_succ, List.setIfInBounds_toArray, List.set_cons_zero, List.set_cons_succ]
    refine wpAnyH_take (i := 10) (v := ?_) rfl (by kernel_rfl) (by kernel_rfl) (by kernel_rfl) (fun _ _ _ h => h) (Or.inl ⟨by rfl, ?_⟩) (by assumption) ?_
    rotate_left
    · intro w hSw
      (try dsimp only at hSw)
      go_simp
      try (with_reducible rfl)
    try simp only [Act.put, List.getElem_toArray, List.getElem_cons_zero, List.getElem_cons_succ, List.setIfInBounds_toArray, List.set_cons_zero, List.set_cons_succ]
    refine wpAnyH_ready (rs := [11]) (by kernel_rfl) (by simp) ?_
    refine AllReadyH.cons rfl (fun K hK => ?_) AllReadyH.nil
    go_simp
    refine hK.out _ _ trivial (fun hHeld2 => ?_)
    clear hK K hHeld
    have hHeld := hHeld2
    clear hHeld2
    try simp only [Act.put, List.getElem_toArray, List.getElem_cons_zero, List.getElem_cons_succ, List.setIfInBounds_toArray, List.set_cons_zero, List.set_cons_succ]
    refine wpAnyH_done (by kernel_rfl) ?_ _
    go_wp2
    go_ret
    exact ⟨_, rfl, HNEW.out.1, HGW.out.trans HNEW.out.2⟩
  · have hz : k = 0 := by
      rw [Ou.room_shut hcl] at hk
      omega
    subst hz
    have he : o.more (ys.take 0) = o := by unfold Ou.more; simp
    have c3 := h.c3
    rw [hcl] at c3
    have H := Lib.hid (show DoAt w B p v (o.more (ys.take 0)) by rw [he]; exact h)
    clear h hr hm hk hcl he hv
    go_enter Try.func18, Try.ntmps18
    go_wp2
    go_ret
    exact ⟨v, rfl, H.out, SC.refl _ _⟩
end
end Go.Proofs.Ytjpnpaacekdeeaa

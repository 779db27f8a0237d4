/-
  What Write of package outbox does: contract over the program.
-/
import Derived.Test.YtjpnpaacekdeeaaOutbox
import Derived.Test.YtjpnpaacekdeeaaFresh
import Derived.Lib.SliceRun
import Derived.StillTailTactics
namespace Go.Proofs.Ytjpnpaacekdeeaa
open Go.RowKit

section
variable {w : World} {B p : Nat} {v : Value} {o : Ou}
theorem slice_h (A : Option Addr) (n c b : Nat) (hb : b ≤ c) (W : World) : (Instr.sliceAt 22 (.slice A n c) none (some (.int .i64 (b : Nat))) none).run Try.prog W = .ok (.slice A b c) W := by
  rw [run_sliceAt_slice _ _ _ _ _ _ Try.underlying22, run_slice_h (P := Try.prog) W 22 A n c Try.underlying22 .i64 (b : Int) (by omega) (by omega)]
  go_simp

/-- What a Write leaves. -/
def WriteEnd (w : World) (B p : Nat) (v : Value) (o : Ou) (k : Nat) (ys : List Int) (e : Ending) (w' : World) : Prop :=
  ∃ v', e = .returned (.int .i64 (k : Int)) ∧ OutAt w' B p v' (o.more (ys.take k)) ∧ SC w w' (Oft p v) (Oft p v')

set_option maxHeartbeats 1000000 in
theorem write_any (h : OutAt w B p v o) (A : Option Addr) (m c : Nat) (ys : List Int) (hm : ys.length = m) (hr : Rd .u8 w A ys) (hle : m ≤ c) (hm2 : m ≤ 9223372036854775807) (k : Nat) (hk : (k : Int) = min (m : Int) o.room) :
    Calls Try.prog 11 #[.pointer (some ⟨p, 0, none⟩), .slice A m c] w (WriteEnd w B p v o k ys) := by
  obtain ⟨A1, c1', hv⟩ := h.own.form
  have HR := Lib.hid (room_any h)
  have hrr := Ou.room_range h.ok
  have hmin := run_min2 (m : Int) o.room (k : Int) hk
  have hkr : (k : Int) ≤ o.room := by omega
  obtain ⟨R, hR⟩ : ∃ R, o.room = R := ⟨_, rfl⟩
  have hmo := Ou.more_ok h.ok (ys := ys.take k) (by rw [List.length_take]; omega)
  rw [hR] at HR hmin
  have hkm : k ≤ m := by omega
  have hk4 : k ≤ 401 := by omega
  have hsl := slice_h A m c k (by omega)
  have hlt : (ys.take k).length = k := by rw [List.length_take]; omega
  have hl := h.ok.l
  obtain ⟨n, hn⟩ : ∃ n, o.xs.length = n := ⟨_, rfl⟩
  have H := Lib.hid h
  have HRD := Lib.hid (hr.take k)
  have HLT := Lib.hid hlt
  have HMO := Lib.hid hmo
  have HN := Lib.hid hn
  have HV := Lib.hid hv
  rw [hn] at hl hv
  clear h hr hm hrr hk hR hmo hlt hn hkr
  go_enter Try.func11, Try.ntmps11
  go_wp2_with fail
  refine HR.out.mono ?_
  rintro e w' ⟨rfl, k0, rfl⟩
  go_wp2_with fail
  obtain ⟨W, hW⟩ : ∃ W, (w.drewN k0).drew = W := ⟨_, rfl⟩
  have hX : OutAt W B p v o := by rw [← hW]; exact (H.out.drewN k0).drewN 1
  have hrd : Rd .u8 W A (ys.take k) := by rw [← hW]; exact HRD.out
  have hgw : SC w W (Oft p v) (Oft p v) := by rw [← hW]; exact SC.of_below ⟨rfl, rfl, rfl, Nat.le_refl _, fun _ _ => rfl⟩
  have d1 := hX.c1
  have ho := hX.own
  rw [hv] at d1 ho
  obtain ⟨A', c', w', hrun, ho', hg', hb'⟩ := run_append_f (P := Try.prog) W .u8 22 22 5 (.int .u8 0) 1 Try.underlying22 info_byte rfl B (.slice A1 n c1') o.xs ho A k c (ys.take k) HLT.out hrd (by rw [HN.out]; unfold maxLen; omega) (by rw [HN.out]; omega) hX.size
  rw [HN.out] at hrun ho' hb'
  have hne : (Value.slice A1 n c1').ownBlock ≠ some p := by rw [← hv]; exact hX.ne
  have f1 : w'.frozen? ⟨p, 0 + 1, none⟩ = false := by
    rw [World.frozen?_of_block (hg'.block p hX.lt (fun e => hne e.symm))]
    exact hX.fr _
  have y1 := hg'.cell d1 (fun e => hne e.symm)
  have hnew : OutAt (w'.setCell ⟨p, 0 + 1, none⟩ (.slice A' (n + k) c')) B p (.slice A' (n + k) c') (o.more (ys.take k)) ∧ SC W (w'.setCell ⟨p, 0 + 1, none⟩ (.slice A' (n + k) c')) (Oft p v) (Oft p (.slice A' (n + k) c')) := by
    have ht : Trn W w' (fun k => (Value.slice A1 n c1').ownBlock = some k) := Trn.of_grown hg'
    have hrow := ht.rowIs hX.row hne
    have hlp := hX.lt
    have hne2 : (Value.slice A' (n + k) c').ownBlock ≠ some p := fun e => by
      rcases hb' p e with h1 | h1
      · exact hne h1
      · omega
    refine ⟨⟨(hrow.set 1 _).congr fun i hi => ?_, ?_, hX.ge, HMO.out⟩, ?_, ?_⟩
    · have : i = 0 ∨ i = 1 ∨ i = 2 ∨ i = 3 := by omega
      rcases this with rfl | rfl | rfl | rfl <;> simp [ouF, Ou.more]
    · exact ho'.kept (setCell_one _ _ _ _) (.inr hne2)
    · refine ht.trans (Trn.of_grown (setCell_one w' p (0 + 1) _)) (fun q hq => .inr (by rw [hv]; exact hq)) (fun q _ hq => .inl (Option.some.inj hq).symm)
    · rintro q (rfl | hq)
      · exact .inl (.inl rfl)
      · rcases hb' q hq with h1 | h1
        · exact .inl (.inr (by rw [hv]; exact h1))
        · exact .inr h1
  have HNEW := Lib.hid hnew
  have HGW := Lib.hid hgw
  clear hnew hgw ho' hg' hb' hX hrd ho hne H HRD hv
  refine wp_region_held_drew (S := fun _ => True) (by kernel_rfl) trivial ?_
  intro hHeld
  rw [hW]
  clear hW
  refine wpAnyH_take (i := 0) (v := ?_) rfl (by kernel_rfl) (by kernel_rfl) (by kernel_rfl) (fun _ _ _ h => h) (Or.inl ⟨by rfl, ?_⟩) (by assumption) ?_
  rotate_left
  · intro w hSw
    (try dsimp only at hSw)
    go_simp
    try (with_reducible rfl)
  try simp only [Act.put, List.getElem_toArray, List.getElem_cons_zero, List.setIfInBounds_toArray, List.set_cons_zero, List.set_cons_succ]
  refine wpAnyH_take (i := 1) (v := ?_) rfl (by kernel_rfl) (by kernel_rfl) (by kernel_rfl) (fun _ _ _ h => h) (Or.inl ⟨by rfl, ?_⟩) (by assumption) ?_
  rotate_left
  · intro w hSw
    (try dsimp only at hSw)
    go_simp
    try (with_reducible rfl)
  try simp only [Act.put, List.getElem_toArray, List.getElem_cons_zero, List.getElem_cons_succ, List.setIfInBounds_toArray, List.set_cons_zero, List.set_cons_succ]
  refine wpAnyH_take (i := 2) (v := ?_) rfl (by kernel_rfl) (by kernel_rfl) (by kernel_rfl) (fun _ _ _ h => h) (Or.inl ⟨by rfl, ?_⟩) (by assumption) ?_
  rotate_left
  · intro w hSw
    (try dsimp only at hSw)
    go_simp
    try (with_reducible rfl)
  try simp only [Act.put, List.getElem_toArray, List.getElem_cons_zero, List.getElem_cons_succ, List.setIfInBounds_toArray, List.set_cons_zero, List.set_cons_succ]
  refine wpAnyH_take (i := 3) (v := ?_) rfl (by kernel_rfl) (by kernel_rfl) (by kernel_rfl) (fun _ _ _ h => h) (Or.inl ⟨by rfl, ?_⟩) (by assumption) ?_
  rotate_left
  · intro w hSw
    (try dsimp only at hSw)
    go_simp
    try (with_reducible rfl)
  try simp only [Act.put, List.getElem_toArray, List.getElem_cons_zero, List.getElem_cons_succ, List.setIfInBounds_toArray, List.set_cons_zero, List.set_cons_succ]
  refine wpAnyH_take (i := 5) (v := ?_) rfl (by kernel_rfl) (by kernel_rfl) (by kernel_rfl) (fun _ _ _ h => h) (Or.inl ⟨by rfl, ?_⟩) (by assumption) ?_
  rotate_left
  · intro w hSw
    (try dsimp only at hSw)
    go_simp
    try (with_reducible rfl)
  try simp only [Act.put, List.getElem_toArray, List.getElem_cons_zero, List.getElem_cons_succ, List.setIfInBounds_toArray, List.set_cons_zero, List.set_cons_succ]
  refine wpAnyH_take (i := 6) (v := ?_) rfl (by kernel_rfl) (by kernel_rfl) (by kernel_rfl) (fun _ _ _ h => h) (Or.inl ⟨by rfl, ?_⟩) (by assumption) ?_
  rotate_left
  · intro w hSw
    (try dsimp only at hSw)
    go_simp
    try (with_reducible rfl)
  try simp only [Act.put, List.getElem_toArray, List.getElem_cons_zero, List.getElem_cons_succ, List.setIfInBounds_toArray, List.set_cons_zero, List.set_cons_succ]
  refine wpAnyH_take (i := 7) (v := ?_) rfl (by kernel_rfl) (by kernel_rfl) (by kernel_rfl) (fun _ _ _ h => h) (Or.inl ⟨by rfl, ?_⟩) (by assumption) ?_
  rotate_left
  · intro w hSw
    (try dsimp only at hSw)
    go_simp
    try (with_reducible rfl)
  try simp only [Act.put, List.getElem_toArray, List.getElem_cons_zero, List.getElem_cons_succ, List.setIfInBounds_toArray, List.set_cons_zero, List.set_cons_succ]
  refine wpAnyH_ready (rs := [4]) (by kernel_rfl) (by simp) ?_
  refine AllReadyH.cons rfl (fun K hK => ?_) AllReadyH.nil
  go_simp
  refine hK.out _ _ trivial (fun hHeld2 => ?_)
  clear hK K hHeld
  have hHeld := hHeld2
  clear hHeld2
  try simp only [Act.put, List.getElem_toArray, List.getElem_cons_zero, List.getElem_cons_succ, List.setIfInBounds_toArray, List.set_cons_zero, List.set_cons_succ]
  refine wpAnyH_ready (rs := [8]) (by kernel_rfl) (by simp) ?_
  refine AllReadyH.cons rfl (fun K hK => ?_) AllReadyH.nil
  refine step_append_r _ (by rfl) (.tmp 15) (.tmp 18) 22 rfl _ _ _ rfl rfl hrun ?_
  refine hK.out _ _ trivial (fun hHeld2 => ?_)
  clear hK K hHeld
  have hHeld := hHeld2
  clear hHeld2
  try simp only [Act.put, List.getElem_toArray, List.getElem_cons_zero, List.getElem_cons_succ, List.setIfInBounds_toArray, List.set_cons_zero, List.set_cons_succ]
  refine wpAnyH_take (i := 9) (v := ?_) rfl (by kernel_rfl) (by kernel_rfl) (by kernel_rfl) (fun _ _ _ h => h) (Or.inl ⟨by rfl, ?_⟩) (by assumption) ?_
  rotate_left
  · intro w hSw
    (try dsimp only at hSw)
    go_simp
    try (with_reducible rfl)
  try simp only [Act.put, List.getElem_toArray, List.getElem_cons_zero, List.getElem_cons_succ, List.setIfInBounds_toArray, List.set_cons_zero, List.set_cons_succ]
  refine wpAnyH_take (i := 10) (v := ?_) rfl (by kernel_rfl) (by kernel_rfl) (by kernel_rfl) (fun _ _ _ h => h) (Or.inl ⟨by rfl, ?_⟩) (by assumption) ?_
  rotate_left
  · intro w hSw
    (try dsimp only at hSw)
    go_simp
    try (with_reducible rfl)
  try simp only [Act.put, List.getElem_toArray, List.getElem_cons_zero, List.getElem_cons_succ, List.setIfInBounds_toArray, List.set_cons_zero, List.set_cons_succ]
  refine wpAnyH_ready (rs := [11]) (by kernel_rfl) (by simp) ?_
  refine AllReadyH.cons rfl (fun K hK => ?_) AllReadyH.nil
  go_simp
  refine hK.out _ _ trivial (fun hHeld2 => ?_)
  clear hK K hHeld
  have hHeld := hHeld2
  clear hHeld2
  try simp only [Act.put, List.getElem_toArray, List.getElem_cons_zero, List.getElem_cons_succ, List.setIfInBounds_toArray, List.set_cons_zero, List.set_cons_succ]
  refine wpAnyH_done (by kernel_rfl) ?_ _
  go_wp2
  go_ret
  exact ⟨_, rfl, HNEW.out.1, HGW.out.trans HNEW.out.2⟩
end
end Go.Proofs.Ytjpnpaacekdeeaa

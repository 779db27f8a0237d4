/-
  What find, Len, All and Add of package flight do: contracts over the program.
-/
import Derived.Test.YtlkoenlimdfifaaFlight
namespace Go.Proofs.Ytlkoenlimdfifaa
open Go.RowKit

/-- Four cells of a block. -/
def Bx (w : World) (b : Nat) (q : Qd) : Prop := w.cell? ⟨b, 0, none⟩ = some (.int .i64 q.n) ∧ w.cell? ⟨b, 1, none⟩ = some (.int .i64 q.f) ∧ w.cell? ⟨b, 2, none⟩ = some (.int .i64 q.t) ∧ w.cell? ⟨b, 3, none⟩ = some (.int .i64 q.a)
section
variable {w w' : World} {b : Nat} {q : Qd}
theorem Bx.of_block (h : Bx w b q) (e : w'.heap[b]? = w.heap[b]?) : Bx w' b q :=
  ⟨(World.cell?_of_block e).trans h.1, (World.cell?_of_block e).trans h.2.1, (World.cell?_of_block e).trans h.2.2.1, (World.cell?_of_block e).trans h.2.2.2⟩
theorem Bx.lt (h : Bx w b q) : b < w.heap.size := World.block_lt_of_cell? w _ h.1
theorem Bx.later (h : Bx w b q) (hb : Below w.heap.size w w') : Bx w' b q := h.of_block (hb.block b h.lt)
theorem Bx.new (w : World) (t : TypeId) (x y z u : Int) : Bx (w.alloc (.cells #[.int .i64 x, .int .i64 y, .int .i64 z, .int .i64 u] t)) w.heap.size ⟨x, y, z, u⟩ := by
  refine ⟨?_, ?_, ?_, ?_⟩ <;> go_simp
end
theorem info_tOutP : (Try.prog.info? tOutP).map (fun i => (i.zero, i.size, i.bytes)) = some (some (.agg #[.int .i64 0, .int .i64 0, .int .i64 0, .int .i64 0]), 4, 32) := info_fo

section
variable {w : World} {B p : Nat} {v : Value} {ps : List Qd}

set_option maxHeartbeats 400000 in
theorem flfind_any (h : FlA tFl tOutP w B p v ps) (n k : Int) (hm : ps.length ≤ 1099511627776) (hk : (∃ i : Nat, k = i ∧ FirstQ ps n i) ∨ (k = -1 ∧ NoneQ ps n)) :
    Calls Try.prog 68 #[.pointer (some ⟨p, 0, none⟩), .int .i64 n] w fun e w' => e = .returned (.int .i64 k) ∧ Below w.heap.size w w' := by
  obtain ⟨A, c, hv⟩ := h.own.form
  have hb := (Below.refl w.heap.size w).alloc (Nat.le_refl _) (.cells #[.int .i64 n] 3)
  have h1 := h.later hb
  have c0 := h1.c0
  have ho := h1.own
  rw [hv] at c0 ho
  have hx : (w.alloc (.cells #[.int .i64 n] 3)).cell? ⟨w.heap.size, 0, none⟩ = some (.int .i64 n) := by go_simp
  have HI := Lib.hid (flindex_any w.heap.size n k A ps.length c ho hx hm hk)
  have HB := Lib.hid hb
  obtain ⟨m, hm2⟩ : ∃ m, ps.length = m := ⟨_, rfl⟩
  rw [hm2] at c0 HI
  clear h h1 ho hb hk hv hm hm2
  go_enter Try.func68, Try.ntmps68
  go_wp2_with fail
  refine HI.out.mono ?_
  rintro e w' ⟨rfl, hb⟩
  have HB2 := Lib.hid (HB.out.trans (hb.mono (by rw [World.size_alloc]; omega)))
  clear hb
  go_wp2
  go_ret
  exact ⟨rfl, HB2.out⟩

theorem fllen_any (h : FlA tFl tOutP w B p v ps) : Calls Try.prog 42 #[.pointer (some ⟨p, 0, none⟩)] w fun e w' => e = .returned (.int .i64 (ps.length : Int)) ∧ w = w' := by
  obtain ⟨A, c, hv⟩ := h.own.form
  have c0 := h.c0
  rw [hv] at c0
  obtain ⟨m, hm⟩ : ∃ m, ps.length = m := ⟨_, rfl⟩
  rw [hm] at c0 ⊢
  clear h hv hm
  go_enter Try.func42, Try.ntmps42
  go_wp2
  go_ret
  exact ⟨rfl, rfl⟩

set_option maxHeartbeats 400000 in
theorem cloneQ_any (A : Option Addr) (n c : Nat) (h : OwnQ tOutP w B (.slice A n c) ps) (hb : n ≤ 1099511627776) :
    Calls Try.prog 71 #[.slice A n c] w fun e w' => ∃ A' c', e = .returned (.slice A' n c') ∧ OwnQ tOutP w' w.heap.size (.slice A' n c') ps ∧ Below w.heap.size w w' := by
  have ke := fun (w : World) (a : Option Addr) (n c : Nat) => Lib.run_eql_slice_nil (P := Try.prog) w 29 tOutP a n c 0 0 Try.underlying29
  cases A with
  | none =>
    rcases h.parts with ⟨hv, rfl⟩ | ⟨g, cap, cur, hv, _⟩
    · injection hv with _ h1 h2
      subst h1
      subst h2
      clear h hb
      go_enter Try.func71, Try.ntmps71
      go_wp2
      go_ret
      exact ⟨_, _, rfl, OwnQ.nil _ _ _, Below.refl _ _⟩
    · injection hv with hA _ _
      cases hA
  | some a =>
    obtain ⟨ha, _⟩ := h.heap
    have hl := h.len
    rw [ha] at h
    have hsr := h.src 0
    rw [List.drop_zero, Nat.zero_mul, ← ha] at hsr
    have h0 : OwnQ tOutP (w.alloc (.cells #[] tOutP)) w.heap.size (.slice (some ⟨w.heap.size, 0, none⟩) 0 0) [] := OwnQ.new w #[] _ [] rfl (by simp [maxLen])
    obtain ⟨A', c', w', hr, ho, hg, _⟩ := run_app4 (P := Try.prog) (w.alloc (.cells #[] tOutP)) 29 29 tOutP _ Try.underlying29 info_fo rfl w.heap.size _ [] h0 (some a) n c ps hl
      (fun _ => ⟨a, rfl, fun j u hj => cell_later ((Below.refl _ _).alloc (Nat.le_refl _) _) (hsr j u hj)⟩) (by simp; omega) (by simp)
    simp only [List.length_nil, Nat.zero_add, List.nil_append] at hr ho
    have HO := Lib.hid ho
    have HG := Lib.hid (((Below.refl _ _).alloc (Nat.le_refl _) (.cells #[] tOutP)).trans (grown_below hg (by simp) (by simp [Value.ownBlock])))
    clear h h0 ho hg hsr hl ha
    go_enter Try.func71, Try.ntmps71
    go_wp2_with (at_builtin; refine wpList_app_r rfl _ _ 29 29 rfl _ _ rfl rfl hr ?_)
    go_ret
    exact ⟨A', c', rfl, HO.out, HG.out⟩

set_option maxHeartbeats 400000 in
theorem flall_any (h : FlA tFl tOutP w B p v ps) (hb : ps.length ≤ 1099511627776) :
    Calls Try.prog 53 #[.pointer (some ⟨p, 0, none⟩)] w fun e w' => ∃ A' c', e = .returned (.slice A' ps.length c') ∧ OwnQ tOutP w' w.heap.size (.slice A' ps.length c') ps ∧ Below w.heap.size w w' := by
  obtain ⟨A, c, hv⟩ := h.own.form
  have c0 := h.c0
  have ho := h.own
  rw [hv] at c0 ho
  have HC := Lib.hid (cloneQ_any A ps.length c ho hb)
  clear h hb ho hv
  obtain ⟨n, hn⟩ : ∃ n, ps.length = n := ⟨_, rfl⟩
  rw [hn] at c0 HC ⊢
  clear hn
  go_enter Try.func53, Try.ntmps53
  go_wp2_with fail
  refine HC.out.mono ?_
  rintro e w' ⟨A', c', rfl, h1, h2⟩
  have H1 := Lib.hid h1
  have H2 := Lib.hid h2
  clear h1 h2
  go_wp2
  go_ret
  exact ⟨A', c', rfl, H1.out, H2.out⟩

set_option maxHeartbeats 400000 in
/-- Add, of a number that is there. -/
theorem fladd_no (h : FlA tFl tOutP w B p v ps) (x y z u : Int) (i : Nat) (hi : FirstQ ps x i) (hm : ps.length ≤ 1099511627776) :
    Calls Try.prog 45 #[.pointer (some ⟨p, 0, none⟩), .agg #[.int .i64 x, .int .i64 y, .int .i64 z, .int .i64 u]] w fun e w' => e = .returned (.bool false) ∧ Below w.heap.size w w' := by
  have hb := (Below.refl w.heap.size w).alloc (Nat.le_refl _) (.cells #[.int .i64 x, .int .i64 y, .int .i64 z, .int .i64 u] tOutP)
  have HF := Lib.hid (flfind_any (h.later hb) x (i : Int) hm (.inl ⟨i, rfl, hi⟩))
  have HB := Lib.hid hb
  have i0 : (0 : Int) ≤ (i : Int) := by omega
  clear h hb hm hi
  go_enter Try.func45, Try.ntmps45
  go_wp2_with fail
  refine HF.out.mono ?_
  rintro e w' ⟨rfl, hb⟩
  have HB2 := Lib.hid (HB.out.trans (hb.mono (by rw [World.size_alloc]; omega)))
  clear hb
  go_wp2
  go_ret
  exact ⟨rfl, HB2.out⟩

set_option maxHeartbeats 1000000 in
set_option maxRecDepth 10000 in
/-- Add, of a number that isn't there. -/
theorem fladd_yes (h : FlA tFl tOutP w B p v ps) (x y z u : Int) (hno : NoneQ ps x) (hm : ps.length ≤ 1099511627775) :
    Calls Try.prog 45 #[.pointer (some ⟨p, 0, none⟩), .agg #[.int .i64 x, .int .i64 y, .int .i64 z, .int .i64 u]] w fun e w' => e = .returned (.bool true) ∧ ∃ v', FlA tFl tOutP w' B p v' (ps ++ [⟨x, y, z, u⟩]) ∧ SC w w' (Fft p v) (Fft p v') := by
  have hb := (Below.refl w.heap.size w).alloc (Nat.le_refl _) (.cells #[.int .i64 x, .int .i64 y, .int .i64 z, .int .i64 u] tOutP)
  have HF := Lib.hid (flfind_any (h.later hb) x (-1) (by omega) (.inr ⟨rfl, hno⟩))
  obtain ⟨A, c, hv⟩ := h.own.form
  obtain ⟨n, hn⟩ : ∃ n, ps.length = n := ⟨_, rfl⟩
  rw [hn] at hm
  have HN := Lib.hid hn
  have HL := Lib.hid hm
  have HB := Lib.hid hb
  have H := Lib.hid h
  have HVB := Lib.hid (show ¬ v.ownBlock = some w.heap.size from fun e => by have := (h.own.lt _ e).2; omega)
  have HPB := Lib.hid (show w.heap.size ≠ (⟨p, 0, none⟩ : Addr).block from fun e => by have := h.lt; simp only at e; omega)
  rw [hn] at hv
  have HV := Lib.hid hv
  clear h hb hno hm hn hv
  go_enter Try.func45, Try.ntmps45
  go_wp2_with fail
  refine HF.out.mono ?_
  rintro e w2 ⟨rfl, hb⟩
  have HBB := Lib.hid (HB.out.trans (hb.mono (by rw [World.size_alloc]; omega)))
  have HX := Lib.hid (H.out.later HBB.out)
  have HBX := Lib.hid ((Bx.new w tOutP x y z u).later hb)
  clear hb H HB HF
  go_wp2_with fail
  obtain ⟨W, hW⟩ : ∃ W, w2.drew = W := ⟨_, rfl⟩
  have hX : FlA tFl tOutP W B p v ps := by rw [← hW]; exact HX.out.drewN 1
  have hgw : SC w W (Fft p v) (Fft p v) := by rw [← hW]; exact SC.of_below (HBB.out.trans ⟨rfl, rfl, rfl, Nat.le_refl _, fun _ _ => rfl⟩)
  have hs0 : Bx W w.heap.size ⟨x, y, z, u⟩ := by rw [← hW]; exact HBX.out
  have hsz : w.heap.size ≤ W.heap.size := by rw [← hW]; exact HBB.out.size
  have hbl : w.heap.size < W.heap.size := World.block_lt_of_cell? W _ hs0.1
  have c0 := hX.c0
  rw [HV.out] at c0
  obtain ⟨A', c', w3, hrun, ho, ht, hf⟩ := app_q (P := Try.prog) 29 29 _ Try.underlying29 (info_tOutP) rfl hX.own n HN.out (by have := HL.out; omega) hX.size ⟨x, y, z, u⟩
  rw [HV.out] at hrun
  have c0a := (hX.alloc (.cells #[.int .i64 x, .int .i64 y, .int .i64 z, .int .i64 u] tOutP)).c0
  rw [HV.out] at c0a
  obtain ⟨y1, y2, hnew⟩ := hX.put (by decide) ht ho hf
  have hs1 : Bx (W.alloc (.cells #[.int .i64 x, .int .i64 y, .int .i64 z, .int .i64 u] tOutP)) w.heap.size ⟨x, y, z, u⟩ := hs0.of_block (heap_alloc_old W _ hbl)
  have hs2 : Bx w3 w.heap.size ⟨x, y, z, u⟩ := hs0.of_block (ht.block _ hbl HVB.out)
  have hs3 : Bx (w3.setCell ⟨p, 0, none⟩ (.slice A' (n + 1) c')) w.heap.size ⟨x, y, z, u⟩ := hs2.of_block (heap_setCell_other _ _ _ _ HPB.out)
  have HNEW := Lib.hid hnew
  have HGW := Lib.hid hgw
  have S0 := Lib.hid (show Bx w2.drew w.heap.size ⟨x, y, z, u⟩ by rw [hW]; exact hs0)
  have S0W := Lib.hid hs0
  have S1 := Lib.hid hs1
  have S2 := Lib.hid hs2
  have S3 := Lib.hid hs3
  clear hX hgw hnew ho ht hf hs0 hs1 hs2 hs3 hsz hbl HX HBB HBX HVB HPB
  refine wp_region_held_drew (S := fun wi => wi.cell? ⟨w.heap.size, 0, none⟩ = some (.int .i64 x) ∧ wi.cell? ⟨w.heap.size, 1, none⟩ = some (.int .i64 y) ∧ wi.cell? ⟨w.heap.size, 2, none⟩ = some (.int .i64 z) ∧ wi.cell? ⟨w.heap.size, 3, none⟩ = some (.int .i64 u)) (by kernel_rfl) S0.out ?_
  intro hHeld
  rw [hW]
  clear hW
  refine wpAnyH_take (i := 0) (v := ?_) rfl (by kernel_rfl) (by kernel_rfl) (by kernel_rfl) (fun _ _ _ h => h) (Or.inl ⟨by rfl, ?_⟩) (by assumption) ?_
  rotate_left
  · intro w hSw
    (try dsimp only at hSw)
    go_simp
    try (with_reducible rfl)
  try simp only [Act.put, List.getElem_toArray, List.getElem_cons_zero, List.setIfInBounds_toArray, List.set_cons_zero, List.set_cons_succ]
  refine wpAnyH_take (i := 1) (v := ?_) rfl (by kernel_rfl) (by kernel_rfl) (by kernel_rfl) (fun _ _ _ h => h) (Or.inl ⟨by rfl, ?_⟩) (by assumption) ?_
  rotate_left
  · intro w hSw
    (try dsimp only at hSw)
    go_simp
    try (with_reducible rfl)
  try simp only [Act.put, List.getElem_toArray, List.getElem_cons_zero, List.getElem_cons_succ, List.setIfInBounds_toArray, List.set_cons_zero, List.set_cons_succ]
  refine wpAnyH_take (i := 2) (v := ?_) rfl (by kernel_rfl) (by kernel_rfl) (by kernel_rfl) (fun _ _ _ h => h) (Or.inl ⟨by rfl, ?_⟩) (by assumption) ?_
  rotate_left
  · intro w hSw
    (try dsimp only at hSw)
    go_simp
    try (with_reducible rfl)
  try simp only [Act.put, List.getElem_toArray, List.getElem_cons_zero, List.getElem_cons_succ, List.setIfInBounds_toArray, List.set_cons_zero, List.set_cons_succ]
  refine wpAnyH_take (i := 3) (v := ?_) rfl (by kernel_rfl) (by kernel_rfl) (by kernel_rfl) (fun _ _ _ h => h) (Or.inl ⟨by rfl, ?_⟩) (by assumption) ?_
  rotate_left
  · intro w hSw
    (try dsimp only at hSw)
    go_simp
    try (with_reducible rfl)
  try simp only [Act.put, List.getElem_toArray, List.getElem_cons_zero, List.getElem_cons_succ, List.setIfInBounds_toArray, List.set_cons_zero, List.set_cons_succ]
  refine wpAnyH_take (i := 5) (v := ?_) rfl (by kernel_rfl) (by kernel_rfl) (by kernel_rfl) (fun _ _ _ h => h) (Or.inl ⟨by rfl, ?_⟩) (by assumption) ?_
  rotate_left
  · intro w hSw
    (try dsimp only at hSw)
    go_simp
    try (with_reducible rfl)
  try simp only [Act.put, List.getElem_toArray, List.getElem_cons_zero, List.getElem_cons_succ, List.setIfInBounds_toArray, List.set_cons_zero, List.set_cons_succ]
  refine wpAnyH_ready (rs := [4, 6]) (by kernel_rfl) (by simp) ?_
  refine AllReadyH.cons rfl (fun K hK => ?_) (AllReadyH.cons rfl (fun K hK => ?_) AllReadyH.nil)
  · go_simp
    refine hK.out _ _ S0W.out (fun hHeld2 => ?_)
    clear hK K hHeld
    have hHeld := hHeld2
    clear hHeld2
    try simp only [Act.put, List.getElem_toArray, List.getElem_cons_zero, List.getElem_cons_succ, List.setIfInBounds_toArray, List.set_cons_zero, List.set_cons_succ]
    refine wpAnyH_ready (rs := [6]) (by kernel_rfl) (by simp) ?_
    refine AllReadyH.cons rfl (fun K hK => ?_) AllReadyH.nil
    go_simp
    refine hK.out _ _ S1.out (fun hHeld2 => ?_)
    clear hK K hHeld
    have hHeld := hHeld2
    clear hHeld2
    try simp only [Act.put, List.getElem_toArray, List.getElem_cons_zero, List.getElem_cons_succ, List.setIfInBounds_toArray, List.set_cons_zero, List.set_cons_succ]
    refine wpAnyH_ready (rs := [7]) (by kernel_rfl) (by simp) ?_
    refine AllReadyH.cons rfl (fun K hK => ?_) AllReadyH.nil
    refine step_app_r4 (by rfl) (.tmp 14) (.tmp 16) 29 rfl _ _ _ rfl rfl hrun ?_
    refine hK.out _ _ S2.out (fun hHeld2 => ?_)
    clear hK K hHeld
    have hHeld := hHeld2
    clear hHeld2
    try simp only [Act.put, List.getElem_toArray, List.getElem_cons_zero, List.getElem_cons_succ, List.setIfInBounds_toArray, List.set_cons_zero, List.set_cons_succ]
    refine wpAnyH_take (i := 8) (v := ?_) rfl (by kernel_rfl) (by kernel_rfl) (by kernel_rfl) (fun _ _ _ h => h) (Or.inl ⟨by rfl, ?_⟩) (by assumption) ?_
    rotate_left
    · intro w hSw
      (try dsimp only at hSw)
      go_simp
      try (with_reducible rfl)
    try simp only [Act.put, List.getElem_toArray, List.getElem_cons_zero, List.getElem_cons_succ, List.setIfInBounds_toArray, List.set_cons_zero, List.set_cons_succ]
    refine wpAnyH_take (i := 9) (v := ?_) rfl (by kernel_rfl) (by kernel_rfl) (by kernel_rfl) (fun _ _ _ h => h) (Or.inl ⟨by rfl, ?_⟩) (by assumption) ?_
    rotate_left
    · intro w hSw
      (try dsimp only at hSw)
      go_simp
      try (with_reducible rfl)
    try simp only [Act.put, List.getElem_toArray, List.getElem_cons_zero, List.getElem_cons_succ, List.setIfInBounds_toArray, List.set_cons_zero, List.set_cons_succ]
    refine wpAnyH_ready (rs := [10]) (by kernel_rfl) (by simp) ?_
    refine AllReadyH.cons rfl (fun K hK => ?_) AllReadyH.nil
    go_simp
    refine hK.out _ _ S3.out (fun hHeld2 => ?_)
    clear hK K hHeld
    have hHeld := hHeld2
    clear hHeld2
    try simp only [Act.put, List.getElem_toArray, List.getElem_cons_zero, List.getElem_cons_succ, List.setIfInBounds_toArray, List.set_cons_zero, List.set_cons_succ]
    refine wpAnyH_done (by kernel_rfl) ?_ _
    go_wp2
    go_ret
    exact ⟨rfl, _, HNEW.out.1, HGW.out.trans HNEW.out.2⟩
  · go_simp
    refine hK.out _ _ S1.out (fun hHeld2 => ?_)
    clear hK K hHeld
    have hHeld := hHeld2
    clear hHeld2
    try simp only [Act.put, List.getElem_toArray, List.getElem_cons_zero, List.getElem_cons_succ, List.setIfInBounds_toArray, List.set_cons_zero, List.set_cons_succ]
    refine wpAnyH_ready (rs := [4]) (by kernel_rfl) (by simp) ?_
    refine AllReadyH.cons rfl (fun K hK => ?_) AllReadyH.nil
    go_simp
    refine hK.out _ _ S1.out (fun hHeld2 => ?_)
    clear hK K hHeld
    have hHeld := hHeld2
    clear hHeld2
    try simp only [Act.put, List.getElem_toArray, List.getElem_cons_zero, List.getElem_cons_succ, List.setIfInBounds_toArray, List.set_cons_zero, List.set_cons_succ]
    refine wpAnyH_ready (rs := [7]) (by kernel_rfl) (by simp) ?_
    refine AllReadyH.cons rfl (fun K hK => ?_) AllReadyH.nil
    refine step_app_r4 (by rfl) (.tmp 14) (.tmp 16) 29 rfl _ _ _ rfl rfl hrun ?_
    refine hK.out _ _ S2.out (fun hHeld2 => ?_)
    clear hK K hHeld
    have hHeld := hHeld2
    clear hHeld2
    try simp only [Act.put, List.getElem_toArray, List.getElem_cons_zero, List.getElem_cons_succ, List.setIfInBounds_toArray, List.set_cons_zero, List.set_cons_succ]
    refine wpAnyH_take (i := 8) (v := ?_) rfl (by kernel_rfl) (by kernel_rfl) (by kernel_rfl) (fun _ _ _ h => h) (Or.inl ⟨by rfl, ?_⟩) (by assumption) ?_
    rotate_left
    · intro w hSw
      (try dsimp only at hSw)
      go_simp
      try (with_reducible rfl)
    try simp only [Act.put, List.getElem_toArray, List.getElem_cons_zero, List.getElem_cons_succ, List.setIfInBounds_toArray, List.set_cons_zero, List.set_cons_succ]
    refine wpAnyH_take (i := 9) (v := ?_) rfl (by kernel_rfl) (by kernel_rfl) (by kernel_rfl) (fun _ _ _ h => h) (Or.inl ⟨by rfl, ?_⟩) (by assumption) ?_
    rotate_left
    · intro w hSw
      (try dsimp only at hSw)
      go_simp
      try (with_reducible rfl)
    try simp only [Act.put, List.getElem_toArray, List.getElem_cons_zero, List.getElem_cons_succ, List.setIfInBounds_toArray, List.set_cons_zero, List.set_cons_succ]
    refine wpAnyH_ready (rs := [10]) (by kernel_rfl) (by simp) ?_
    refine AllReadyH.cons rfl (fun K hK => ?_) AllReadyH.nil
    go_simp
    refine hK.out _ _ S3.out (fun hHeld2 => ?_)
    clear hK K hHeld
    have hHeld := hHeld2
    clear hHeld2
    try simp only [Act.put, List.getElem_toArray, List.getElem_cons_zero, List.getElem_cons_succ, List.setIfInBounds_toArray, List.set_cons_zero, List.set_cons_succ]
    refine wpAnyH_done (by kernel_rfl) ?_ _
    go_wp2
    go_ret
    exact ⟨rfl, _, HNEW.out.1, HGW.out.trans HNEW.out.2⟩
end
end Go.Proofs.Ytlkoenlimdfifaa

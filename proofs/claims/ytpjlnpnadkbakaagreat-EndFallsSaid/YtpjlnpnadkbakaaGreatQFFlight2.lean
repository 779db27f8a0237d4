/-
  Flight2 · Flight3 · PathMath · PathMath2.
-/
import Derived.Test.YtpjlnpnadkbakaaGreatQFQuad
import Derived.Test.YtpjlnpnadkbakaaGreatQFMem
namespace Go.Proofs.YtpjlnpnadkbakaaGreat
set_option maxRecDepth 10000
open Go.RowKit
def Bx (w : World) (b : Nat) (q : Qd) : Prop := w.cell? ⟨b, 0, none⟩ = some (.int .i64 q.n) ∧ w.cell? ⟨b, 1, none⟩ = some (.int .i64 q.f) ∧ w.cell? ⟨b, 2, none⟩ = some (.int .i64 q.t) ∧ w.cell? ⟨b, 3, none⟩ = some (.int .i64 q.a)
section
variable {w w' : World} {b : Nat} {q : Qd}
theorem Bx.of_block (h : Bx w b q) (e : w'.heap[b]? = w.heap[b]?) : Bx w' b q :=
  ⟨(World.cell?_of_block e).trans h.1, (World.cell?_of_block e).trans h.2.1, (World.cell?_of_block e).trans h.2.2.1, (World.cell?_of_block e).trans h.2.2.2⟩
theorem Bx.lt (h : Bx w b q) : b < w.heap.size := World.block_lt_of_cell? w _ h.1
theorem Bx.later (h : Bx w b q) (hb : Below w.heap.size w w') : Bx w' b q := h.of_block (hb.block b h.lt)
theorem Bx.new (w : World) (t : TypeId) (x y z u : Int) : Bx (w.alloc (.cells #[.int .i64 x, .int .i64 y, .int .i64 z, .int .i64 u] t)) w.heap.size ⟨x, y, z, u⟩ := by
  refine ⟨?_, ?_, ?_, ?_⟩ <;> go_simp
end
theorem info_tOutP : (Tryz.prog.info? tOutP).map (fun i => (i.zero, i.size, i.bytes)) = some (some (.agg #[.int .i64 0, .int .i64 0, .int .i64 0, .int .i64 0]), 4, 32) := info_fo
section
variable {w : World} {B p : Nat} {v : Value} {ps : List Qd}
set_option maxHeartbeats 400000 in
theorem flfind_any (h : FlA tFl tOutP w B p v ps) (n k : Int) (hm : ps.length ≤ 1099511627776) (hk : (∃ i : Nat, k = i ∧ FirstQ ps n i) ∨ (k = -1 ∧ NoneQ ps n)) :
    Calls Tryz.prog 234 #[.pointer (some ⟨p, 0, none⟩), .int .i64 n] w fun e w' => e = .returned (.int .i64 k) ∧ Below w.heap.size w w' := by
  obtain ⟨A, c, hv⟩ := h.own.form
  have hb := (Below.refl w.heap.size w).alloc (Nat.le_refl _) (.cells #[.int .i64 n] 3)
  have h1 := h.later hb
  have c0 := h1.c0
  have ho := h1.own
  rw [hv] at c0 ho
  have hx : (w.alloc (.cells #[.int .i64 n] 3)).cell? ⟨w.heap.size, 0, none⟩ = some (.int .i64 n) := by go_simp
  have HI := Lib.hid (flindex_any w.heap.size n k A ps.length c ho hx hm hk)
  have HB := Lib.hid hb
  obtain ⟨m, hm2⟩ : ∃ m, ps.length = m := ⟨_, rfl⟩
  rw [hm2] at c0 HI
  clear h h1 ho hb hk hv hm hm2
  go_enter Tryz.func234, Tryz.ntmps234
  go_wp2_with fail
  refine HI.out.mono ?_
  rintro e w' ⟨rfl, hb⟩
  have HB2 := Lib.hid (HB.out.trans (hb.mono (by rw [World.size_alloc]; omega)))
  clear hb
  go_wp2
  go_ret
  exact ⟨rfl, HB2.out⟩
theorem fllen_any (h : FlA tFl tOutP w B p v ps) : Calls Tryz.prog 206 #[.pointer (some ⟨p, 0, none⟩)] w fun e w' => e = .returned (.int .i64 (ps.length : Int)) ∧ w = w' := by
  obtain ⟨A, c, hv⟩ := h.own.form
  have c0 := h.c0
  rw [hv] at c0
  obtain ⟨m, hm⟩ : ∃ m, ps.length = m := ⟨_, rfl⟩
  rw [hm] at c0 ⊢
  clear h hv hm
  go_enter Tryz.func206, Tryz.ntmps206
  go_wp2
  go_ret
  exact ⟨rfl, rfl⟩
set_option maxHeartbeats 400000 in
theorem cloneQ_any (A : Option Addr) (n c : Nat) (h : OwnQ tOutP w B (.slice A n c) ps) (hb : n ≤ 1099511627776) :
    Calls Tryz.prog 254 #[.slice A n c] w fun e w' => ∃ A' c', e = .returned (.slice A' n c') ∧ OwnQ tOutP w' w.heap.size (.slice A' n c') ps ∧ Below w.heap.size w w' := by
  have ke := fun (w : World) (a : Option Addr) (n c : Nat) => Lib.run_eql_slice_nil (P := Tryz.prog) w 107 tOutP a n c 0 0 Tryz.underlying107
  cases A with
  | none =>
    rcases h.parts with ⟨hv, rfl⟩ | ⟨g, cap, cur, hv, _⟩
    · injection hv with _ h1 h2
      subst h1
      subst h2
      clear h hb
      go_enter Tryz.func254, Tryz.ntmps254
      go_wp2
      go_ret
      exact ⟨_, _, rfl, OwnQ.nil _ _ _, Below.refl _ _⟩
    · injection hv with hA _ _
      cases hA
  | some a =>
    obtain ⟨ha, _⟩ := h.heap
    have hl := h.len
    rw [ha] at h
    have hsr := h.src 0
    rw [List.drop_zero, Nat.zero_mul, ← ha] at hsr
    have h0 : OwnQ tOutP (w.alloc (.cells #[] tOutP)) w.heap.size (.slice (some ⟨w.heap.size, 0, none⟩) 0 0) [] := OwnQ.new w #[] _ [] rfl (by simp [maxLen])
    obtain ⟨A', c', w', hr, ho, hg, _⟩ := run_app4 (P := Tryz.prog) (w.alloc (.cells #[] tOutP)) 107 107 tOutP _ Tryz.underlying107 info_fo rfl w.heap.size _ [] h0 (some a) n c ps hl
      (fun _ => ⟨a, rfl, fun j u hj => cell_later ((Below.refl _ _).alloc (Nat.le_refl _) _) (hsr j u hj)⟩) (by simp; omega) (by simp)
    simp only [List.length_nil, Nat.zero_add, List.nil_append] at hr ho
    have HO := Lib.hid ho
    have HG := Lib.hid (((Below.refl _ _).alloc (Nat.le_refl _) (.cells #[] tOutP)).trans (grown_below hg (by simp) (by simp [Value.ownBlock])))
    clear h h0 ho hg hsr hl ha
    go_enter Tryz.func254, Tryz.ntmps254
    go_wp2_with (at_builtin; refine wpList_app_r rfl _ _ 107 107 rfl _ _ rfl rfl hr ?_)
    go_ret
    exact ⟨A', c', rfl, HO.out, HG.out⟩
set_option maxHeartbeats 400000 in
theorem flall_any (h : FlA tFl tOutP w B p v ps) (hb : ps.length ≤ 1099511627776) :
    Calls Tryz.prog 207 #[.pointer (some ⟨p, 0, none⟩)] w fun e w' => ∃ A' c', e = .returned (.slice A' ps.length c') ∧ OwnQ tOutP w' w.heap.size (.slice A' ps.length c') ps ∧ Below w.heap.size w w' := by
  obtain ⟨A, c, hv⟩ := h.own.form
  have c0 := h.c0
  have ho := h.own
  rw [hv] at c0 ho
  have HC := Lib.hid (cloneQ_any A ps.length c ho hb)
  clear h hb ho hv
  obtain ⟨n, hn⟩ : ∃ n, ps.length = n := ⟨_, rfl⟩
  rw [hn] at c0 HC ⊢
  clear hn
  go_enter Tryz.func207, Tryz.ntmps207
  go_wp2_with fail
  refine HC.out.mono ?_
  rintro e w' ⟨A', c', rfl, h1, h2⟩
  have H1 := Lib.hid h1
  have H2 := Lib.hid h2
  clear h1 h2
  go_wp2
  go_ret
  exact ⟨A', c', rfl, H1.out, H2.out⟩
set_option maxHeartbeats 400000 in
theorem fladd_no (h : FlA tFl tOutP w B p v ps) (x y z u : Int) (i : Nat) (hi : FirstQ ps x i) (hm : ps.length ≤ 1099511627776) :
    Calls Tryz.prog 260 #[.pointer (some ⟨p, 0, none⟩), .agg #[.int .i64 x, .int .i64 y, .int .i64 z, .int .i64 u]] w fun e w' => e = .returned (.bool false) ∧ Below w.heap.size w w' := by
  have hb := (Below.refl w.heap.size w).alloc (Nat.le_refl _) (.cells #[.int .i64 x, .int .i64 y, .int .i64 z, .int .i64 u] tOutP)
  have HF := Lib.hid (flfind_any (h.later hb) x (i : Int) hm (.inl ⟨i, rfl, hi⟩))
  have HB := Lib.hid hb
  have i0 : (0 : Int) ≤ (i : Int) := by omega
  clear h hb hm hi
  go_enter Tryz.func260, Tryz.ntmps260
  go_wp2_with fail
  refine HF.out.mono ?_
  rintro e w' ⟨rfl, hb⟩
  have HB2 := Lib.hid (HB.out.trans (hb.mono (by rw [World.size_alloc]; omega)))
  clear hb
  go_wp2
  go_ret
  exact ⟨rfl, HB2.out⟩
set_option maxHeartbeats 1000000 in
theorem fladd_yes (h : FlA tFl tOutP w B p v ps) (x y z u : Int) (hno : NoneQ ps x) (hm : ps.length ≤ 1099511627775) :
    Calls Tryz.prog 260 #[.pointer (some ⟨p, 0, none⟩), .agg #[.int .i64 x, .int .i64 y, .int .i64 z, .int .i64 u]] w fun e w' => e = .returned (.bool true) ∧ ∃ v', FlA tFl tOutP w' B p v' (ps ++ [⟨x, y, z, u⟩]) ∧ SC w w' (Fft p v) (Fft p v') := by
  have hb := (Below.refl w.heap.size w).alloc (Nat.le_refl _) (.cells #[.int .i64 x, .int .i64 y, .int .i64 z, .int .i64 u] tOutP)
  have HF := Lib.hid (flfind_any (h.later hb) x (-1) (by omega) (.inr ⟨rfl, hno⟩))
  obtain ⟨A, c, hv⟩ := h.own.form
  obtain ⟨n, hn⟩ : ∃ n, ps.length = n := ⟨_, rfl⟩
  rw [hn] at hm
  have HN := Lib.hid hn
  have HL := Lib.hid hm
  have HB := Lib.hid hb
  have H := Lib.hid h
  have HVB := Lib.hid (show ¬ v.ownBlock = some w.heap.size from fun e => by have := (h.own.lt _ e).2; omega)
  have HPB := Lib.hid (show w.heap.size ≠ (⟨p, 0, none⟩ : Addr).block from fun e => by have := h.lt; simp only at e; omega)
  rw [hn] at hv
  have HV := Lib.hid hv
  clear h hb hno hm hn hv
  go_enter Tryz.func260, Tryz.ntmps260
  go_wp2_with fail
  refine HF.out.mono ?_
  rintro e w2 ⟨rfl, hb⟩
  have HBB := Lib.hid (HB.out.trans (hb.mono (by rw [World.size_alloc]; omega)))
  have HX := Lib.hid (H.out.later HBB.out)
  have HBX := Lib.hid ((Bx.new w tOutP x y z u).later hb)
  clear hb H HB HF
  go_wp2_with fail
  obtain ⟨W, hW⟩ : ∃ W, w2.drew = W := ⟨_, rfl⟩
  have hX : FlA tFl tOutP W B p v ps := by rw [← hW]; exact HX.out.drewN 1
  have hgw : SC w W (Fft p v) (Fft p v) := by rw [← hW]; exact SC.of_below (HBB.out.trans ⟨rfl, rfl, rfl, Nat.le_refl _, fun _ _ => rfl⟩)
  have hs0 : Bx W w.heap.size ⟨x, y, z, u⟩ := by rw [← hW]; exact HBX.out
  have hsz : w.heap.size ≤ W.heap.size := by rw [← hW]; exact HBB.out.size
  have hbl : w.heap.size < W.heap.size := World.block_lt_of_cell? W _ hs0.1
  have c0 := hX.c0
  rw [HV.out] at c0
  obtain ⟨A', c', w3, hrun, ho, ht, hf⟩ := app_q (P := Tryz.prog) 107 107 _ Tryz.underlying107 (info_tOutP) rfl hX.own n HN.out (by have := HL.out; omega) hX.size ⟨x, y, z, u⟩
  rw [HV.out] at hrun
  have c0a := (hX.alloc (.cells #[.int .i64 x, .int .i64 y, .int .i64 z, .int .i64 u] tOutP)).c0
  rw [HV.out] at c0a
  obtain ⟨y1, y2, hnew⟩ := hX.put (by decide) ht ho hf
  have hs1 : Bx (W.alloc (.cells #[.int .i64 x, .int .i64 y, .int .i64 z, .int .i64 u] tOutP)) w.heap.size ⟨x, y, z, u⟩ := hs0.of_block (heap_alloc_old W _ hbl)
  have hs2 : Bx w3 w.heap.size ⟨x, y, z, u⟩ := hs0.of_block (ht.block _ hbl HVB.out)
  have hs3 : Bx (w3.setCell ⟨p, 0, none⟩ (.slice A' (n + 1) c')) w.heap.size ⟨x, y, z, u⟩ := hs2.of_block (heap_setCell_other _ _ _ _ HPB.out)
  have HNEW := Lib.hid hnew
  have HGW := Lib.hid hgw
  have S0 := Lib.hid (show Bx w2.drew w.heap.size ⟨x, y, z, u⟩ by rw [hW]; exact hs0)
  have S0W := Lib.hid hs0
  have S1 := Lib.hid hs1
  have S2 := Lib.hid hs2
  have S3 := Lib.hid hs3
  clear hX hgw hnew ho ht hf hs0 hs1 hs2 hs3 hsz hbl HX HBB HBX HVB HPB
  refine wp_region_held_drew (S := fun wi => wi.cell? ⟨w.heap.size, 0, none⟩ = some (.int .i64 x) ∧ wi.cell? ⟨w.heap.size, 1, none⟩ = some (.int .i64 y) ∧ wi.cell? ⟨w.heap.size, 2, none⟩ = some (.int .i64 z) ∧ wi.cell? ⟨w.heap.size, 3, none⟩ = some (.int .i64 u)) (by kernel_rfl) S0.out ?_
  intro hHeld
  rw [hW]
  clear hW
  refine tkH 0 ?_
  refine tkH 1 ?_
  refine tkH 2 ?_
  refine tkH 3 ?_
  refine tkH 5 ?_
  refine wpAnyH_ready (rs := [4, 6]) (by kernel_rfl) (by simp) ?_
  refine AllReadyH.cons rfl (fun K hK => ?_) (AllReadyH.cons rfl (fun K hK => ?_) AllReadyH.nil)
  · go_simp
    refine hK.out _ _ S0W.out (fun hHeld2 => ?_)
    clear hK K hHeld
    have hHeld := hHeld2
    clear hHeld2
    try simp only [Act.put, List.getElem_toArray, List.getElem_cons_zero, List.getElem_cons_succ, List.setIfInBounds_toArray, List.set_cons_zero, List.set_cons_succ]
    refine wpAnyH_ready (rs := [6]) (by kernel_rfl) (by simp) ?_
    refine AllReadyH.cons rfl (fun K hK => ?_) AllReadyH.nil
    go_simp
    refine hK.out _ _ S1.out (fun hHeld2 => ?_)
    clear hK K hHeld
    have hHeld := hHeld2
    clear hHeld2
    try simp only [Act.put, List.getElem_toArray, List.getElem_cons_zero, List.getElem_cons_succ, List.setIfInBounds_toArray, List.set_cons_zero, List.set_cons_succ]
    refine wpAnyH_ready (rs := [7]) (by kernel_rfl) (by simp) ?_
    refine AllReadyH.cons rfl (fun K hK => ?_) AllReadyH.nil
    refine step_app_r4 (by rfl) (.tmp 14) (.tmp 16) 107 rfl _ _ _ rfl rfl hrun ?_
    refine hK.out _ _ S2.out (fun hHeld2 => ?_)
    clear hK K hHeld
    have hHeld := hHeld2
    clear hHeld2
    try simp only [Act.put, List.getElem_toArray, List.getElem_cons_zero, List.getElem_cons_succ, List.setIfInBounds_toArray, List.set_cons_zero, List.set_cons_succ]
    refine tkH 8 ?_
    refine tkH 9 ?_
    refine wpAnyH_ready (rs := [10]) (by kernel_rfl) (by simp) ?_
    refine AllReadyH.cons rfl (fun K hK => ?_) AllReadyH.nil
    go_simp
    refine hK.out _ _ S3.out (fun hHeld2 => ?_)
    clear hK K hHeld
    have hHeld := hHeld2
    clear hHeld2
    try simp only [Act.put, List.getElem_toArray, List.getElem_cons_zero, List.getElem_cons_succ, List.setIfInBounds_toArray, List.set_cons_zero, List.set_cons_succ]
    refine wpAnyH_done (by kernel_rfl) ?_ _
    go_wp2
    go_ret
    exact ⟨rfl, _, HNEW.out.1, HGW.out.trans HNEW.out.2⟩
  · go_simp
    refine hK.out _ _ S1.out (fun hHeld2 => ?_)
    clear hK K hHeld
    have hHeld := hHeld2
    clear hHeld2
    try simp only [Act.put, List.getElem_toArray, List.getElem_cons_zero, List.getElem_cons_succ, List.setIfInBounds_toArray, List.set_cons_zero, List.set_cons_succ]
    refine wpAnyH_ready (rs := [4]) (by kernel_rfl) (by simp) ?_
    refine AllReadyH.cons rfl (fun K hK => ?_) AllReadyH.nil
    go_simp
    refine hK.out _ _ S1.out (fun hHeld2 => ?_)
    clear hK K hHeld
    have hHeld := hHeld2
    clear hHeld2
    try simp only [Act.put, List.getElem_toArray, List.getElem_cons_zero, List.getElem_cons_succ, List.setIfInBounds_toArray, List.set_cons_zero, List.set_cons_succ]
    refine wpAnyH_ready (rs := [7]) (by kernel_rfl) (by simp) ?_
    refine AllReadyH.cons rfl (fun K hK => ?_) AllReadyH.nil
    refine step_app_r4 (by rfl) (.tmp 14) (.tmp 16) 107 rfl _ _ _ rfl rfl hrun ?_
    refine hK.out _ _ S2.out (fun hHeld2 => ?_)
    clear hK K hHeld
    have hHeld := hHeld2
    clear hHeld2
    try simp only [Act.put, List.getElem_toArray, List.getElem_cons_zero, List.getElem_cons_succ, List.setIfInBounds_toArray, List.set_cons_zero, List.set_cons_succ]
    refine tkH 8 ?_
    refine tkH 9 ?_
    refine wpAnyH_ready (rs := [10]) (by kernel_rfl) (by simp) ?_
    refine AllReadyH.cons rfl (fun K hK => ?_) AllReadyH.nil
    go_simp
    refine hK.out _ _ S3.out (fun hHeld2 => ?_)
    clear hK K hHeld
    have hHeld := hHeld2
    clear hHeld2
    try simp only [Act.put, List.getElem_toArray, List.getElem_cons_zero, List.getElem_cons_succ, List.setIfInBounds_toArray, List.set_cons_zero, List.set_cons_succ]
    refine wpAnyH_done (by kernel_rfl) ?_ _
    go_wp2
    go_ret
    exact ⟨rfl, _, HNEW.out.1, HGW.out.trans HNEW.out.2⟩
end
end Go.Proofs.YtpjlnpnadkbakaaGreat
namespace Go.Proofs.YtpjlnpnadkbakaaGreat
set_option maxRecDepth 10000
open Go.RowKit
structure TwoQ (e : TypeId) (w wr : World) (v1 : Value) (l1 : List Qd) (v2 : Value) (l2 : List Qd) : Prop where
  o1 : OwnQ e wr w.heap.size v1 l1
  o2 : OwnQ e wr w.heap.size v2 l2
  ap : ∀ g, v1.ownBlock = some g → v2.ownBlock ≠ some g
  bel : Below w.heap.size w wr
section
variable {e : TypeId} {w wr w' : World} {v1 v2 : Value} {l1 l2 : List Qd} {P : Program}
theorem TwoQ.start (e : TypeId) (w : World) : TwoQ e w w (.slice none 0 0) [] (.slice none 0 0) [] := ⟨OwnQ.nil _ _ _, OwnQ.nil _ _ _, fun g h => by simp [Value.ownBlock] at h, Below.refl _ _⟩
theorem TwoQ.later (h : TwoQ e w wr v1 l1 v2 l2) (hb : Below wr.heap.size wr w') : TwoQ e w w' v1 l1 v2 l2 := ⟨h.o1.later hb, h.o2.later hb, h.ap, h.bel.trans (hb.mono h.bel.size)⟩
theorem TwoQ.alloc (h : TwoQ e w wr v1 l1 v2 l2) (o : Obj) : TwoQ e w (wr.alloc o) v1 l1 v2 l2 := h.later ((Below.refl _ _).alloc (Nat.le_refl _) _)
end
section
variable {w : World} {B p : Nat} {v : Value} {ps : List Qd}
set_option maxHeartbeats 400000 in
theorem fldrop_any (h : FlA tFl tOutP w B p v ps) (hb : ps.length ≤ 1099511627776) :
    Calls Tryz.prog 170 #[.pointer (some ⟨p, 0, none⟩)] w fun e w' => ∃ A' c', e = .returned (.slice A' ps.length c') ∧ OwnQ tOutP w' w.heap.size (.slice A' ps.length c') ps ∧ FlA tFl tOutP w' B p (.slice none 0 0) [] ∧ SC w w' (Fft p v) (Fft p (.slice none 0 0)) := by
  have HA := Lib.hid (flall_any h hb)
  have H := Lib.hid h
  obtain ⟨n, hn⟩ : ∃ n, ps.length = n := ⟨_, rfl⟩
  rw [hn] at HA ⊢
  clear h hb hn
  go_enter Tryz.func170, Tryz.ntmps170
  go_wp2_with fail
  refine HA.out.mono ?_
  rintro e w1 ⟨A', c', rfl, h1, h2⟩
  obtain ⟨y1, y2, hnew⟩ := H.out.put (v' := .slice none 0 0) (qs := []) (by decide) (Trn.of_below h2) (OwnQ.nil _ _ _) (fun g hg => by simp [Value.ownBlock] at hg)
  have HNEW := Lib.hid hnew
  have HO := Lib.hid (show OwnQ tOutP (w1.setCell ⟨p, 0, none⟩ (.slice none 0 0)) w.heap.size (.slice A' n c') ps from h1.kept (setCell_one w1 p 0 _) (.inr (fun e => by have := (h1.lt p e).1; have := H.out.lt; omega)))
  clear h1 h2 hnew
  go_wp2
  go_ret
  exact ⟨A', c', rfl, HO.out, HNEW.out.1, HNEW.out.2⟩
end
end Go.Proofs.YtpjlnpnadkbakaaGreat
namespace Go.Proofs.YtpjlnpnadkbakaaGreat
set_option maxRecDepth 10000
structure Pa where
  up : Bool
  jo : Bool
  be : Bool
  sent : Int
  g : Gs
  wn : Wn
  fl : List Qd
structure Pa.ok (P : Pa) : Prop where
  s1 : 0 ≤ P.sent
  s2 : P.sent ≤ 65536
  g : P.g.ok
  w : P.wn.ok
  n : P.fl.length ≤ 1048576
def Pa.new (first most : Int) : Pa := ⟨false, false, false, 0, Gs.new first, Wn.new most, []⟩
def Pa.num (P : Pa) : Pa := ⟨P.up, P.jo, P.be, P.sent + 1, P.g, P.wn, P.fl⟩
def Pa.setUp (P : Pa) (b : Bool) : Pa := ⟨b, P.jo, P.be, P.sent, P.g, P.wn, P.fl⟩
def Pa.setJo (P : Pa) (b : Bool) : Pa := ⟨P.up, b, P.be, P.sent, P.g, P.wn, P.fl⟩
def Pa.setBe (P : Pa) (b : Bool) : Pa := ⟨P.up, P.jo, b, P.sent, P.g, P.wn, P.fl⟩
def Pa.setFl (P : Pa) (l : List Qd) : Pa := ⟨P.up, P.jo, P.be, P.sent, P.g, P.wn, l⟩
def Pa.setG (P : Pa) (g : Gs) : Pa := ⟨P.up, P.jo, P.be, P.sent, g, P.wn, P.fl⟩
def Pa.setW (P : Pa) (n : Wn) : Pa := ⟨P.up, P.jo, P.be, P.sent, P.g, n, P.fl⟩
def Pa.down (P : Pa) : Pa := (P.setFl []).setUp false
def Pa.out (P : Pa) (q : Qd) : Pa := P.setFl (P.fl ++ [q])
def Pa.acked (P : Pa) (i : Nat) (now : Int) : Pa := ⟨P.up, P.jo, false, P.sent, P.g.sample (now - (P.fl.getD i qz).a), P.wn.ack, goneQ P.fl i⟩
def Pa.late (P : Pa) (now : Int) : Pa := ⟨P.up, P.jo, true, P.sent, P.g.later, P.wn.loss, stayQ P.fl (now - P.g.wait)⟩
def Pa.usable (P : Pa) : Bool := P.up && P.jo && decide ((P.fl.length : Int) < P.wn.size) && decide (P.sent ≤ 65535)
def oneI (b : Bool) : Int := if b then 1 else 0
theorem stay_len (l : List Qd) (d : Int) : (stayQ l d).length ≤ l.length := List.length_filter_le _ _
theorem Pa.new_ok (first most : Int) : (Pa.new first most).ok := ⟨by simp [Pa.new], by simp [Pa.new], Gs.new_ok _, Wn.new_ok _, by simp [Pa.new]⟩
theorem Pa.ok.num {P : Pa} (h : P.ok) (hs : P.sent ≤ 65535) : P.num.ok := ⟨by have := h.s1; simp only [Pa.num]; omega, by simp only [Pa.num]; omega, h.g, h.w, h.n⟩
theorem Pa.ok.setUp {P : Pa} (h : P.ok) (b : Bool) : (P.setUp b).ok := ⟨h.s1, h.s2, h.g, h.w, h.n⟩
theorem Pa.ok.setJo {P : Pa} (h : P.ok) (b : Bool) : (P.setJo b).ok := ⟨h.s1, h.s2, h.g, h.w, h.n⟩
theorem Pa.ok.setBe {P : Pa} (h : P.ok) (b : Bool) : (P.setBe b).ok := ⟨h.s1, h.s2, h.g, h.w, h.n⟩
theorem Pa.ok.setFl {P : Pa} (h : P.ok) {l : List Qd} (hl : l.length ≤ 1048576) : (P.setFl l).ok := ⟨h.s1, h.s2, h.g, h.w, hl⟩
theorem Pa.ok.down {P : Pa} (h : P.ok) : P.down.ok := ⟨h.s1, h.s2, h.g, h.w, by simp [Pa.down, Pa.setFl, Pa.setUp]⟩
theorem Pa.ok.out {P : Pa} (h : P.ok) (q : Qd) (hn : P.fl.length < 1048576) : (P.out q).ok := h.setFl (by rw [List.length_append, List.length_singleton]; omega)
theorem Pa.ok.acked {P : Pa} (h : P.ok) (i : Nat) (now : Int) (hi : i < P.fl.length) : (P.acked i now).ok :=
  ⟨h.s1, h.s2, Gs.sample_ok h.g _, Wn.ack_ok h.w, by have := goneQ_len hi; have := h.n; simp only [Pa.acked]; omega⟩
theorem Pa.ok.late {P : Pa} (h : P.ok) (now : Int) : (P.late now).ok :=
  ⟨h.s1, h.s2, Gs.later_ok h.g, Wn.loss_ok h.w, by have := stay_len P.fl (now - P.g.wait); have := h.n; simp only [Pa.late]; omega⟩
end Go.Proofs.YtpjlnpnadkbakaaGreat
namespace Go.Proofs.YtpjlnpnadkbakaaGreat
set_option maxRecDepth 10000
def Pa.head (P : Pa) : List Int := [oneI P.up, oneI P.jo, oneI P.be, P.sent, P.g.mean, P.g.wait, P.wn.size, P.fl.length]
end Go.Proofs.YtpjlnpnadkbakaaGreat

/-
  Flight2 · Flight3 · PathMath · PathMath2.
-/
import Derived.Test.YtpjlnpnadkbakaaGreatQBQuad
import Derived.Test.YtpjlnpnadkbakaaGreatQBMem
namespace Go.Proofs.YtpjlnpnadkbakaaGreat
set_option maxRecDepth 10000
open Go.RowKit
def Bx (w : World) (b : Nat) (q : Qd) : Prop := w.cell? ⟨b, 0, none⟩ = some (.int .i64 q.n) ∧ w.cell? ⟨b, 1, none⟩ = some (.int .i64 q.f) ∧ w.cell? ⟨b, 2, none⟩ = some (.int .i64 q.t) ∧ w.cell? ⟨b, 3, none⟩ = some (.int .i64 q.a)
section
variable {w w' : World} {b : Nat} {q : Qd}
theorem Bx.of_block (h : Bx w b q) (e : w'.heap[b]? = w.heap[b]?) : Bx w' b q :=
  ⟨(World.cell?_of_block e).trans h.1, (World.cell?_of_block e).trans h.2.1, (World.cell?_of_block e).trans h.2.2.1, (World.cell?_of_block e).trans h.2.2.2⟩
theorem Bx.lt (h : Bx w b q) : b < w.heap.size := World.block_lt_of_cell? w _ h.1
theorem Bx.later (h : Bx w b q) (hb : Below w.heap.size w w') : Bx w' b q := h.of_block (hb.block b h.lt)
theorem Bx.new (w : World) (t : TypeId) (x y z u : Int) : Bx (w.alloc (.cells #[.int .i64 x, .int .i64 y, .int .i64 z, .int .i64 u] t)) w.heap.size ⟨x, y, z, u⟩ := by
  refine ⟨?_, ?_, ?_, ?_⟩ <;> go_simp
end
theorem info_tOutP : (Tryz.prog.info? tOutP).map (fun i => (i.zero, i.size, i.bytes)) = some (some (.agg #[.int .i64 0, .int .i64 0, .int .i64 0, .int .i64 0]), 4, 32) := info_fo
section
variable {w : World} {B p : Nat} {v : Value} {ps : List Qd}
set_option maxHeartbeats 400000 in
theorem flfind_any (h : FlA tFl tOutP w B p v ps) (n k : Int) (hm : ps.length ≤ 1099511627776) (hk : (∃ i : Nat, k = i ∧ FirstQ ps n i) ∨ (k = -1 ∧ NoneQ ps n)) :
    Calls Tryz.prog 234 #[.pointer (some ⟨p, 0, none⟩), .int .i64 n] w fun e w' => e = .returned (.int .i64 k) ∧ Below w.heap.size w w' := by
  obtain ⟨A, c, hv⟩ := h.own.form
  have hb := (Below.refl w.heap.size w).alloc (Nat.le_refl _) (.cells #[.int .i64 n] 3)
  have h1 := h.later hb
  have c0 := h1.c0
  have ho := h1.own
  rw [hv] at c0 ho
  have hx : (w.alloc (.cells #[.int .i64 n] 3)).cell? ⟨w.heap.size, 0, none⟩ = some (.int .i64 n) := by go_simp
  have HI := Lib.hid (flindex_any w.heap.size n k A ps.length c ho hx hm hk)
  have HB := Lib.hid hb
  obtain ⟨m, hm2⟩ : ∃ m, ps.length = m := ⟨_, rfl⟩
  rw [hm2] at c0 HI
  clear h h1 ho hb hk hv hm hm2
  go_enter Tryz.func234, Tryz.ntmps234
  go_wp2_with fail
  refine HI.out.mono ?_
  rintro e w' ⟨rfl, hb⟩
  have HB2 := Lib.hid (HB.out.trans (hb.mono (by rw [World.size_alloc]; omega)))
  clear hb
  go_wp2
  go_ret
  exact ⟨rfl, HB2.out⟩
theorem fllen_any (h : FlA tFl tOutP w B p v ps) : Calls Tryz.prog 206 #[.pointer (some ⟨p, 0, none⟩)] w fun e w' => e = .returned (.int .i64 (ps.length : Int)) ∧ w = w' := by
  obtain ⟨A, c, hv⟩ := h.own.form
  have c0 := h.c0
  rw [hv] at c0
  obtain ⟨m, hm⟩ : ∃ m, ps.length = m := ⟨_, rfl⟩
  rw [hm] at c0 ⊢
  clear h hv hm
  go_enter Tryz.func206, Tryz.ntmps206
  go_wp2
  go_ret
  exact ⟨rfl, rfl⟩
set_option maxHeartbeats 400000 in
theorem cloneQ_any (A : Option Addr) (n c : Nat) (h : OwnQ tOutP w B (.slice A n c) ps) (hb : n ≤ 1099511627776) :
    Calls Tryz.prog 254 #[.slice A n c] w fun e w' => ∃ A' c', e = .returned (.slice A' n c') ∧ OwnQ tOutP w' w.heap.size (.slice A' n c') ps ∧ Below w.heap.size w w' := by
  have ke := fun (w : World) (a : Option Addr) (n c : Nat) => Lib.run_eql_slice_nil (P := Tryz.prog) w 107 tOutP a n c 0 0 Tryz.underlying107
  cases A with
  | none =>
    rcases h.parts with ⟨hv, rfl⟩ | ⟨g, cap, cur, hv, _⟩
    · injection hv with _ h1 h2
      subst h1
      subst h2
      clear h hb
      go_enter Tryz.func254, Tryz.ntmps254
      go_wp2
      go_ret
      exact ⟨_, _, rfl, OwnQ.nil _ _ _, Below.refl _ _⟩
    · injection hv with hA _ _
      cases hA
  | some a =>
    obtain ⟨ha, _⟩ := h.heap
    have hl := h.len
    rw [ha] at h
    have hsr := h.src 0
    rw [List.drop_zero, Nat.zero_mul, ← ha] at hsr
    have h0 : OwnQ tOutP (w.alloc (.cells #[] tOutP)) w.heap.size (.slice (some ⟨w.heap.size, 0, none⟩) 0 0) [] := OwnQ.new w #[] _ [] rfl (by simp [maxLen])
    obtain ⟨A', c', w', hr, ho, hg, _⟩ := run_app4 (P := Tryz.prog) (w.alloc (.cells #[] tOutP)) 107 107 tOutP _ Tryz.underlying107 info_fo rfl w.heap.size _ [] h0 (some a) n c ps hl
      (fun _ => ⟨a, rfl, fun j u hj => cell_later ((Below.refl _ _).alloc (Nat.le_refl _) _) (hsr j u hj)⟩) (by simp; omega) (by simp)
    simp only [List.length_nil, Nat.zero_add, List.nil_append] at hr ho
    have HO := Lib.hid ho
    have HG := Lib.hid (((Below.refl _ _).alloc (Nat.le_refl _) (.cells #[] tOutP)).trans (grown_below hg (by simp) (by simp [Value.ownBlock])))
    clear h h0 ho hg hsr hl ha
    go_enter Tryz.func254, Tryz.ntmps254
    go_wp2_with (at_builtin; refine wpList_app_r rfl _ _ 107 107 rfl _ _ rfl rfl hr ?_)
    go_ret
    exact ⟨A', c', rfl, HO.out, HG.out⟩
set_option maxHeartbeats 400000 in
theorem flall_any (h : FlA tFl tOutP w B p v ps) (hb : ps.length ≤ 1099511627776) :
    Calls Tryz.prog 207 #[.pointer (some ⟨p, 0, none⟩)] w fun e w' => ∃ A' c', e = .returned (.slice A' ps.length c') ∧ OwnQ tOutP w' w.heap.size (.slice A' ps.length c') ps ∧ Below w.heap.size w w' := by
  obtain ⟨A, c, hv⟩ := h.own.form
  have c0 := h.c0
  have ho := h.own
  rw [hv] at c0 ho
  have HC := Lib.hid (cloneQ_any A ps.length c ho hb)
  clear h hb ho hv
  obtain ⟨n, hn⟩ : ∃ n, ps.length = n := ⟨_, rfl⟩
  rw [hn] at c0 HC ⊢
  clear hn
  go_enter Tryz.func207, Tryz.ntmps207
  go_wp2_with fail
  refine HC.out.mono ?_
  rintro e w' ⟨A', c', rfl, h1, h2⟩
  have H1 := Lib.hid h1
  have H2 := Lib.hid h2
  clear h1 h2
  go_wp2
  go_ret
  exact ⟨A', c', rfl, H1.out, H2.out⟩
set_option maxHeartbeats 400000 in
theorem fladd_no (h : FlA tFl tOutP w B p v ps) (x y z u : Int) (i : Nat) (hi : FirstQ ps x i) (hm : ps.length ≤ 1099511627776) :
    Calls Tryz.prog 260 #[.pointer (some ⟨p, 0, none⟩), .agg #[.int .i64 x, .int .i64 y, .int .i64 z, .int .i64 u]] w fun e w' => e = .returned (.bool false) ∧ Below w.heap.size w w' := by
  have hb := (Below.refl w.heap.size w).alloc (Nat.le_refl _) (.cells #[.int .i64 x, .int .i64 y, .int .i64 z, .int .i64 u] tOutP)
  have HF := Lib.hid (flfind_any (h.later hb) x (i : Int) hm (.inl ⟨i, rfl, hi⟩))
  have HB := Lib.hid hb
  have i0 : (0 : Int) ≤ (i : Int) := by omega
  clear h hb hm hi
  go_enter Tryz.func260, Tryz.ntmps260
  go_wp2_with fail
  refine HF.out.mono ?_
  rintro e w' ⟨rfl, hb⟩
  have HB2 := Lib.hid (HB.out.trans (hb.mono (by rw [World.size_alloc]; omega)))
  clear hb
  go_wp2
  go_ret
  exact ⟨rfl, HB2.out⟩
set_option maxHeartbeats 1000000 in
theorem fladd_yes (h : FlA tFl tOutP w B p v ps) (x y z u : Int) (hno : NoneQ ps x) (hm : ps.length ≤ 1099511627775) :
    Calls Tryz.prog 260 #[.pointer (some ⟨p, 0, none⟩), .agg #[.int .i64 x, .int .i64 y, .int .i64 z, .int .i64 u]] w fun e w' => e = .returned (.bool true) ∧ ∃ v', FlA tFl tOutP w' B p v' (ps ++ [⟨x, y, z, u⟩]) ∧ SC w w' (Fft p v) (Fft p v') := by
  have hb := (Below.refl w.heap.size w).alloc (Nat.le_refl _) (.cells #[.int .i64 x, .int .i64 y, .int .i64 z, .int .i64 u] tOutP)
  have HF := Lib.hid (flfind_any (h.later hb) x (-1) (by omega) (.inr ⟨rfl, hno⟩))
  obtain ⟨A, c, hv⟩ := h.own.form
  obtain ⟨n, hn⟩ : ∃ n, ps.length = n := ⟨_, rfl⟩
  rw [hn] at hm
  have HN := Lib.hid hn
  have HL := Lib.hid hm
  have HB := Lib.hid hb
  have H := Lib.hid h
  have HVB := Lib.hid (show ¬ v.ownBlock = some w.heap.size from fun e => by have := (h.own.lt _ e).2; omega)
  have HPB := Lib.hid (show w.heap.size ≠ (⟨p, 0, none⟩ : Addr).block from fun e => by have := h.lt; simp only at e; omega)
  rw [hn] at hv
  have HV := Lib.hid hv
  clear h hb hno hm hn hv
  go_enter Tryz.func260, Tryz.ntmps260
  go_wp2_with fail
  refine HF.out.mono ?_
  rintro e w2 ⟨rfl, hb⟩
  have HBB := Lib.hid (HB.out.trans (hb.mono (by rw [World.size_alloc]; omega)))
  have HX := Lib.hid (H.out.later HBB.out)
  have HBX := Lib.hid ((Bx.new w tOutP x y z u).later hb)
  clear hb H HB HF
  go_wp2_with fail
  obtain ⟨W, hW⟩ : ∃ W, w2.drew = W := ⟨_, rfl⟩
  have hX : FlA tFl tOutP W B p v ps := by rw [← hW]; exact HX.out.drewN 1
  have hgw : SC w W (Fft p v) (Fft p v) := by rw [← hW]; exact SC.of_below (HBB.out.trans ⟨rfl, rfl, rfl, Nat.le_refl _, fun _ _ => rfl⟩)
  have hs0 : Bx W w.heap.size ⟨x, y, z, u⟩ := by rw [← hW]; exact HBX.out
  have hsz : w.heap.size ≤ W.heap.size := by rw [← hW]; exact HBB.out.size
  have hbl : w.heap.size < W.heap.size := World.block_lt_of_cell? W _ hs0.1
  have c0 := hX.c0
  rw [HV.out] at c0
  obtain ⟨A', c', w3, hrun, ho, ht, hf⟩ := app_q (P := Tryz.prog) 107 107 _ Tryz.underlying107 (info_tOutP) rfl hX.own n HN.out (by have := HL.out; omega) hX.size ⟨x, y, z, u⟩
  rw [HV.out] at hrun
  have c0a := (hX.alloc (.cells #[.int .i64 x, .int .i64 y, .int .i64 z, .int .i64 u] tOutP)).c0
  rw [HV.out] at c0a
  obtain ⟨y1, y2, hnew⟩ := hX.put (by decide) ht ho hf
  have hs1 : Bx (W.alloc (.cells #[.int .i64 x, .int .i64 y, .int .i64 z, .int .i64 u] tOutP)) w.heap.size ⟨x, y, z, u⟩ := hs0.of_block (heap_alloc_old W _ hbl)
  have hs2 : Bx w3 w.heap.size ⟨x, y, z, u⟩ := hs0.of_block (ht.block _ hbl HVB.out)
  have hs3 : Bx (w3.setCell ⟨p, 0, none⟩ (.slice A' (n + 1) c')) w.heap.size ⟨x, y, z, u⟩ := hs2.of_block (heap_setCell_other _ _ _ _ HPB.out)
  have HNEW := Lib.hid hnew
  have HGW := Lib.hid hgw
  have S0 := Lib.hid (show Bx w2.drew w.heap.size ⟨x, y, z, u⟩ by rw [hW]; exact hs0)
  have S0W := Lib.hid hs0
  have S1 := Lib.hid hs1
  have S2 := Lib.hid hs2
  have S3 := Lib.hid hs3
  clear hX hgw hnew ho ht hf hs0 hs1 hs2 hs3 hsz hbl HX HBB HBX HVB HPB
  refine wp_region_held_drew (S := fun wi => wi.cell? ⟨w.heap.size, 0, none⟩ = some (.int .i64 x) ∧ wi.cell? ⟨w.heap.size, 1, none⟩ = some (.int .i64 y) ∧ wi.cell? ⟨w.heap.size, 2, none⟩ = some (.int .i64 z) ∧ wi.cell? ⟨w.heap.size, 3, none⟩ = some (.int .i64 u)) (by kernel_rfl) S0.out ?_
  intro hHeld
  rw [hW]
  clear hW
  refine tkH 0 ?_
  refine tkH 1 ?_
  refine tkH 2 ?_
  refine tkH 3 ?_
  refine tkH 5 ?_
  refine wpAnyH_ready (rs := [4, 6]) (by kernel_rfl) (by simp) ?_
  refine AllReadyH.cons rfl (fun K hK => ?_) (AllReadyH.cons rfl (fun K hK => ?_) AllReadyH.nil)
  · go_simp
    refine hK.out _ _ S0W.out (fun hHeld2 => ?_)
    clear hK K hHeld
    have hHeld := hHeld2
    clear hHeld2
    try simp only [Act.put, List.getElem_toArray, List.getElem_cons_zero, List.getElem_cons_succ, List.setIfInBounds_toArray, List.set_cons_zero, List.set_cons_succ]
    refine wpAnyH_ready (rs := [6]) (by kernel_rfl) (by simp) ?_
    refine AllReadyH.cons rfl (fun K hK => ?_) AllReadyH.nil
    go_simp
    refine hK.out _ _ S1.out (fun hHeld2 => ?_)
    clear hK K hHeld
    have hHeld := hHeld2
    clear hHeld2
    try simp only [Act.put, List.getElem_toArray, List.getElem_cons_zero, List.getElem_cons_succ, List.setIfInBounds_toArray, List.set_cons_zero, List.set_cons_succ]
    refine wpAnyH_ready (rs := [7]) (by kernel_rfl) (by simp) ?_
    refine AllReadyH.cons rfl (fun K hK => ?_) AllReadyH.nil
    refine step_app_r4 (by rfl) (.tmp 14) (.tmp 16) 107 rfl _ _ _ rfl rfl hrun ?_
    refine hK.out _ _ S2.out (fun hHeld2 => ?_)
    clear hK K hHeld
    have hHeld := hHeld2
    clear hHeld2
    try simp only [Act.put, List.getElem_toArray, List.getElem_cons_zero, List.getElem_cons_succ, List.setIfInBounds_toArray, List.set_cons_zero, List.set_cons_succ]
    refine tkH 8 ?_
    refine tkH 9 ?_
    refine wpAnyH_ready (rs := [10]) (by kernel_rfl) (by simp) ?_
    refine AllReadyH.cons rfl (fun K hK => ?_) AllReadyH.nil
    go_simp
    refine hK.out _ _ S3.out (fun hHeld2 => ?_)
    clear hK K hHeld
    have hHeld := hHeld2
    clear hHeld2
    try simp only [Act.put, List.getElem_toArray, List.getElem_cons_zero, List.getElem_cons_succ, List.setIfInBounds_toArray, List.set_cons_zero, List.set_cons_succ]
    refine wpAnyH_done (by kernel_rfl) ?_ _
    go_wp2
    go_ret
    exact ⟨rfl, _, HNEW.out.1, HGW.out.trans HNEW.out.2⟩
  · go_simp
    refine hK.out _ _ S1.out (fun hHeld2 => ?_)
    clear hK K hHeld
    have hHeld := hHeld2
    clear hHeld2
    try simp only [Act.put, List.getElem_toArray, List.getElem_cons_zero, List.getElem_cons_succ, List.setIfInBounds_toArray, List.set_cons_zero, List.set_cons_succ]
    refine wpAnyH_ready (rs := [4]) (by kernel_rfl) (by simp) ?_
    refine AllReadyH.cons rfl (fun K hK => ?_) AllReadyH.nil
    go_simp
    refine hK.out _ _ S1.out (fun hHeld2 => ?_)
    clear hK K hHeld
    have hHeld := hHeld2
    clear hHeld2
    try simp only [Act.put, List.getElem_toArray, List.getElem_cons_zero, List.getElem_cons_succ, List.setIfInBounds_toArray, List.set_cons_zero, List.set_cons_succ]
    refine wpAnyH_ready (rs := [7]) (by kernel_rfl) (by simp) ?_
    refine AllReadyH.cons rfl (fun K hK => ?_) AllReadyH.nil
    refine step_app_r4 (by rfl) (.tmp 14) (.tmp 16) 107 rfl _ _ _ rfl rfl hrun ?_
    refine hK.out _ _ S2.out (fun hHeld2 => ?_)
    clear hK K hHeld
    have hHeld := hHeld2
    clear hHeld2
    try simp only [Act.put, List.getElem_toArray, List.getElem_cons_zero, List.getElem_cons_succ, List.setIfInBounds_toArray, List.set_cons_zero, List.set_cons_succ]
    refine tkH 8 ?_
    refine tkH 9 ?_
    refine wpAnyH_ready (rs := [10]) (by kernel_rfl) (by simp) ?_
    refine AllReadyH.cons rfl (fun K hK => ?_) AllReadyH.nil
    go_simp
    refine hK.out _ _ S3.out (fun hHeld2 => ?_)
    clear hK K hHeld
    have hHeld := hHeld2
    clear hHeld2
    try simp only [Act.put, List.getElem_toArray, List.getElem_cons_zero, List.getElem_cons_succ, List.setIfInBounds_toArray, List.set_cons_zero, List.set_cons_succ]
    refine wpAnyH_done (by kernel_rfl) ?_ _
    go_wp2
    go_ret
    exact ⟨rfl, _, HNEW.out.1, HGW.out.trans HNEW.out.2⟩
end
end Go.Proofs.YtpjlnpnadkbakaaGreat
namespace Go.Proofs.YtpjlnpnadkbakaaGreat
set_option maxRecDepth 10000
open Go.RowKit
structure TwoQ (e : TypeId) (w wr : World) (v1 : Value) (l1 : List Qd) (v2 : Value) (l2 : List Qd) : Prop where
  o1 : OwnQ e wr w.heap.size v1 l1
  o2 : OwnQ e wr w.heap.size v2 l2
  ap : ∀ g, v1.ownBlock = some g → v2.ownBlock ≠ some g
  bel : Below w.heap.size w wr
section
variable {e : TypeId} {w wr w' : World} {v1 v2 : Value} {l1 l2 : List Qd} {P : Program}
theorem TwoQ.swap (h : TwoQ e w wr v1 l1 v2 l2) : TwoQ e w wr v2 l2 v1 l1 := ⟨h.o2, h.o1, fun g h2 h1 => h.ap g h1 h2, h.bel⟩
theorem TwoQ.start (e : TypeId) (w : World) : TwoQ e w w (.slice none 0 0) [] (.slice none 0 0) [] := ⟨OwnQ.nil _ _ _, OwnQ.nil _ _ _, fun g h => by simp [Value.ownBlock] at h, Below.refl _ _⟩
theorem TwoQ.later (h : TwoQ e w wr v1 l1 v2 l2) (hb : Below wr.heap.size wr w') : TwoQ e w w' v1 l1 v2 l2 := ⟨h.o1.later hb, h.o2.later hb, h.ap, h.bel.trans (hb.mono h.bel.size)⟩
theorem TwoQ.alloc (h : TwoQ e w wr v1 l1 v2 l2) (o : Obj) : TwoQ e w (wr.alloc o) v1 l1 v2 l2 := h.later ((Below.refl _ _).alloc (Nat.le_refl _) _)
theorem TwoQ.app (h : TwoQ e w wr v1 l1 v2 l2) (t ty : TypeId) (z : Value) (ht : P.underlying t = some (.slice e)) (hinfo : (P.info? e).map (fun i => (i.zero, i.size, i.bytes)) = some (some z, 4, 32)) (hzs : z.cells.size = 4)
    (n : Nat) (hn : l1.length = n) (hle : n ≤ 1099511627776) (q : Qd) :
    ∃ A' c' w', (Builtin.append_ #[t, t] ty #[v1, .slice (some ⟨wr.heap.size, 0, none⟩) 1 1]).run P (wr.alloc (.cells #[.int .i64 q.n, .int .i64 q.f, .int .i64 q.t, .int .i64 q.a] e)) = .ok (.slice A' (n + 1) c') w' ∧ TwoQ e w w' (.slice A' (n + 1) c') (l1 ++ [q]) v2 l2 ∧ Trn wr w' (fun k => v1.ownBlock = some k) := by
  obtain ⟨A', c', w', hr, ho, htr, hf⟩ := app_q (P := P) t ty z ht hinfo hzs h.o1 n hn hle h.bel.size q
  refine ⟨A', c', w', hr, ⟨ho, h.o2.trn htr (fun g h2 h1 => h.ap g h1 h2), fun g hg h2 => ?_, h.bel.trans (htr.below h.bel.size (fun k hk => (h.o1.lt k hk).1))⟩, htr⟩
  rcases hf g hg with h1 | h1
  · exact h.ap g h1 h2
  · have := (h.o2.lt g h2).2
    omega
end
theorem take_nextQ (ps : List Qd) (i : Nat) (hi : i < ps.length) : ps.take (i + 1) = ps.take i ++ [ps.getD i qz] := by
  rw [List.take_add_one]
  simp [List.getD, hi]
theorem lateQ_next (ps : List Qd) (d : Int) (i : Nat) (hi : i < ps.length) : lateQ (ps.take (i + 1)) d = lateQ (ps.take i) d ++ (if (ps.getD i qz).a ≤ d then [ps.getD i qz] else []) := by
  rw [take_nextQ ps i hi]
  unfold lateQ
  rw [List.filter_append]
  congr 1
  obtain ⟨q, hq⟩ : ∃ q, ps.getD i qz = q := ⟨_, rfl⟩
  rw [hq]
  by_cases h : q.a ≤ d <;> simp [h]
theorem stayQ_next (ps : List Qd) (d : Int) (i : Nat) (hi : i < ps.length) : stayQ (ps.take (i + 1)) d = stayQ (ps.take i) d ++ (if (ps.getD i qz).a ≤ d then [] else [ps.getD i qz]) := by
  rw [take_nextQ ps i hi]
  unfold stayQ
  rw [List.filter_append]
  congr 1
  obtain ⟨q, hq⟩ : ∃ q, ps.getD i qz = q := ⟨_, rfl⟩
  rw [hq]
  by_cases h : q.a ≤ d <;> simp [h]
theorem lateQ_len (ps : List Qd) (d : Int) (i : Nat) : (lateQ (ps.take i) d).length ≤ ps.length := Nat.le_trans (List.length_filter_le _ _) (by rw [List.length_take]; omega)
theorem stayQ_len (ps : List Qd) (d : Int) (i : Nat) : (stayQ (ps.take i) d).length ≤ ps.length := Nat.le_trans (List.length_filter_le _ _) (by rw [List.length_take]; omega)
set_option maxHeartbeats 400000 in
theorem fllate_one (at_ now wait : Int) (w : World) (h1 : -1099511627776 ≤ now ∧ now ≤ 1099511627776) (h2 : -1099511627776 ≤ wait ∧ wait ≤ 1099511627776) :
    Calls Tryz.prog 238 #[.int .i64 at_, .int .i64 now, .int .i64 wait] w fun e w' => e = .returned (.bool (decide (at_ ≤ now - wait))) ∧ w = w' := by
  obtain ⟨L, hL⟩ : ∃ L, now - wait = L := ⟨_, rfl⟩
  have hw := wrap_q hL (by omega) (by omega)
  rw [hL]
  rcases Int.lt_trichotomy wait 0 with h | h | h
  · have k1 : ¬ (wait > 0) := by omega
    have k2 : ¬ (L < now) := by omega
    clear hL h1 h2
    go_enter Tryz.func238, Tryz.ntmps238
    go_wp2
    go_ret
    exact ⟨rfl, rfl⟩
  · subst h
    have hw2 : wrap64 now = L := wrap_q (by omega) (by omega) (by omega)
    clear hL h1 h2 hw
    go_enter Tryz.func238, Tryz.ntmps238
    go_wp2
    go_ret
    exact ⟨rfl, rfl⟩
  · have k1 : wait > 0 := h
    have k2 : ¬ (L > now) := by omega
    have k3 : ¬ (wait < 0) := by omega
    clear hL h1 h2 h
    go_enter Tryz.func238, Tryz.ntmps238
    go_wp2
    go_ret
    exact ⟨rfl, rfl⟩
section
variable {w : World} {B p : Nat} {v : Value} {ps : List Qd}
set_option maxHeartbeats 400000 in
theorem fldrop_any (h : FlA tFl tOutP w B p v ps) (hb : ps.length ≤ 1099511627776) :
    Calls Tryz.prog 170 #[.pointer (some ⟨p, 0, none⟩)] w fun e w' => ∃ A' c', e = .returned (.slice A' ps.length c') ∧ OwnQ tOutP w' w.heap.size (.slice A' ps.length c') ps ∧ FlA tFl tOutP w' B p (.slice none 0 0) [] ∧ SC w w' (Fft p v) (Fft p (.slice none 0 0)) := by
  have HA := Lib.hid (flall_any h hb)
  have H := Lib.hid h
  obtain ⟨n, hn⟩ : ∃ n, ps.length = n := ⟨_, rfl⟩
  rw [hn] at HA ⊢
  clear h hb hn
  go_enter Tryz.func170, Tryz.ntmps170
  go_wp2_with fail
  refine HA.out.mono ?_
  rintro e w1 ⟨A', c', rfl, h1, h2⟩
  obtain ⟨y1, y2, hnew⟩ := H.out.put (v' := .slice none 0 0) (qs := []) (by decide) (Trn.of_below h2) (OwnQ.nil _ _ _) (fun g hg => by simp [Value.ownBlock] at hg)
  have HNEW := Lib.hid hnew
  have HO := Lib.hid (show OwnQ tOutP (w1.setCell ⟨p, 0, none⟩ (.slice none 0 0)) w.heap.size (.slice A' n c') ps from h1.kept (setCell_one w1 p 0 _) (.inr (fun e => by have := (h1.lt p e).1; have := H.out.lt; omega)))
  clear h1 h2 hnew
  go_wp2
  go_ret
  exact ⟨A', c', rfl, HO.out, HNEW.out.1, HNEW.out.2⟩
set_option maxHeartbeats 2000000 in
set_option maxRecDepth 100000 in
theorem fllate_ap (h : FlA tFl tOutP w B p v ps) (now wait d : Int) (h1 : -1099511627776 ≤ now ∧ now ≤ 1099511627776) (h2 : -1099511627776 ≤ wait ∧ wait ≤ 1099511627776) (hd : d = now - wait) (hb : ps.length ≤ 1099511627775) :
    Calls Tryz.prog 161 #[.pointer (some ⟨p, 0, none⟩), .int .i64 now, .int .i64 wait] w fun e w' => ∃ A' m c', e = .returned (.slice A' m c') ∧ OwnQ tOutP w' w.heap.size (.slice A' m c') (lateQ ps d) ∧ ∃ v', FlA tFl tOutP w' B p v' (stayQ ps d) ∧ SC w w' (Fft p v) (Fft p v') ∧ ∀ g, (Value.slice A' m c').ownBlock = some g → ¬ Fft p v' g := by
  have HLT := Lib.hid (fun a W => hd ▸ fllate_one a now wait W h1 h2)
  obtain ⟨A, c, hv⟩ := h.own.form
  obtain ⟨n, hn⟩ : ∃ n, ps.length = n := ⟨_, rfl⟩
  have c0 := h.c0
  rw [hv, hn] at c0
  rw [hn] at hb
  have HCELL := Lib.hid (show ∀ (W : World) k, Below w.heap.size w W → k < n → ∃ g, A = some ⟨g, 0, none⟩ ∧ W.cell? ⟨g, k * 4, none⟩ = some (.int .i64 (ps.getD k qz).n) ∧ W.cell? ⟨g, k * 4 + 1, none⟩ = some (.int .i64 (ps.getD k qz).f) ∧ W.cell? ⟨g, k * 4 + 2, none⟩ = some (.int .i64 (ps.getD k qz).t) ∧ W.cell? ⟨g, k * 4 + 3, none⟩ = some (.int .i64 (ps.getD k qz).a) from fun W k hb hk => by
    have h1 := (h.later hb).own
    rw [hv, hn] at h1
    obtain ⟨g, rfl, _⟩ := h1.at (by omega)
    exact ⟨g, rfl, h1.cells k hk⟩)
  have HPUT := Lib.hid (show ∀ (W : World) A1 m1 c1 A2 m2 c2, TwoQ tOutP w W (.slice A1 m1 c1) (lateQ ps d) (.slice A2 m2 c2) (stayQ ps d) → W.cell? ⟨p, 0, none⟩ = some v ∧ W.frozen? ⟨p, 0, none⟩ = false ∧ OwnQ tOutP (W.setCell ⟨p, 0, none⟩ (.slice A2 m2 c2)) w.heap.size (.slice A1 m1 c1) (lateQ ps d) ∧ FlA tFl tOutP (W.setCell ⟨p, 0, none⟩ (.slice A2 m2 c2)) B p (.slice A2 m2 c2) (stayQ ps d) ∧ SC w (W.setCell ⟨p, 0, none⟩ (.slice A2 m2 c2)) (Fft p v) (Fft p (.slice A2 m2 c2)) ∧ (∀ g, (Value.slice A1 m1 c1).ownBlock = some g → ¬ Fft p (.slice A2 m2 c2) g) from fun W A1 m1 c1 A2 m2 c2 hT => by
    obtain ⟨y1, y2, y3, y4⟩ := h.put (v' := .slice A2 m2 c2) (by decide) (Trn.of_below hT.bel) (hT.o2.less h.size) (fun g hg => .inr (hT.o2.lt g hg).1)
    exact ⟨y1, y2, hT.o1.kept (setCell_one W p 0 _) (.inr (fun e => by have := (hT.o1.lt p e).1; have := h.lt; omega)), y3, y4, fun g hg hF => hF.elim (fun e => by have := (hT.o1.lt g hg).1; have := h.lt; omega) (fun e => hT.ap g hg e)⟩)
  have HST := Lib.hid (show ∀ k, k < n → lateQ (ps.take (k + 1)) d = lateQ (ps.take k) d ++ (if (ps.getD k qz).a ≤ d then [ps.getD k qz] else []) ∧ stayQ (ps.take (k + 1)) d = stayQ (ps.take k) d ++ (if (ps.getD k qz).a ≤ d then [] else [ps.getD k qz]) ∧ (lateQ (ps.take k) d).length ≤ 1099511627775 ∧ (stayQ (ps.take k) d).length ≤ 1099511627775 from fun k hk => ⟨lateQ_next ps d k (by omega), stayQ_next ps d k (by omega), by have := lateQ_len ps d k; omega, by have := stayQ_len ps d k; omega⟩)
  have HEND := Lib.hid (show ps.take n = ps by rw [← hn, List.take_length])
  have HV := Lib.hid hv
  clear h hv hn h1 h2 hd
  go_enter Tryz.func161, Tryz.ntmps161
  go_wp2
  go_loopw [7, 8, 16] (fun gv lv iv wr => ∃ (i : Nat) (A1 : Option Addr) (m1 c1 : Nat) (A2 : Option Addr) (m2 c2 : Nat), i ≤ n ∧ iv = .int .i64 i ∧ gv = .slice A1 m1 c1 ∧ lv = .slice A2 m2 c2 ∧ Hid (TwoQ tOutP w wr (.slice A1 m1 c1) (lateQ (ps.take i) d) (.slice A2 m2 c2) (stayQ (ps.take i) d))) (fun _ _ iv _ => n - (intOf iv).toNat)
  case atStart => exact ⟨0, none, 0, 0, none, 0, 0, by omega, rfl, rfl, rfl, Lib.hid (TwoQ.start _ _)⟩
  case round =>
    obtain ⟨i, A1, m1, c1, A2, m2, c2, hi, rfl, rfl, rfl, hT⟩ := hrel
    by_cases hin : i < n
    · obtain ⟨g, rfl, y1, y2, y3, y4⟩ := HCELL.out wr i hT.out.bel hin
      obtain ⟨hs1, hs2, hl1, hl2⟩ := HST.out i hin
      obtain ⟨⟨x, y, z, u⟩, hxy⟩ : ∃ q, ps.getD i qz = q := ⟨_, rfl⟩
      rw [hxy] at y1 y2 y3 y4 hs1 hs2
      simp only [] at y1 y2 y3 y4 hs1 hs2
      have hT1 := hT.out.alloc (.cells #[.int .i64 x, .int .i64 y, .int .i64 z, .int .i64 u] tOutP)
      have hlt := HLT.out u (wr.alloc (.cells #[.int .i64 x, .int .i64 y, .int .i64 z, .int .i64 u] tOutP))
      have bx0 : Bx (wr.alloc (.cells #[.int .i64 x, .int .i64 y, .int .i64 z, .int .i64 u] tOutP)) wr.heap.size ⟨x, y, z, u⟩ := Bx.new _ _ _ _ _ _
      have b0 := bx0.1
      have b1 := bx0.2.1
      have b2 := bx0.2.2.1
      have b3 := bx0.2.2.2
      simp only [] at b0 b1 b2 b3
      have i1 : (i : Int) < (n : Int) := by omega
      have i2 : (0 : Int) ≤ (i : Int) := by omega
      have HNX := Lib.hid (show i + 1 ≤ n by omega)
      have HI := Lib.hid hin
      have HIW := Lib.hid (show wrap64 ((i : Int) + 1) = ((i + 1 : Nat) : Int) from wrap_q (by omega) (by omega) (by omega))
      by_cases hle : u ≤ d
      · rw [if_pos hle] at hs1 hs2
        rw [List.append_nil] at hs2
        rw [decide_eq_true hle] at hlt
        obtain ⟨A', c', w', hr, hT2, _⟩ := hT1.app (P := Tryz.prog) 107 107 _ Tryz.underlying107 info_fo rfl m1 hT.out.o1.len (by rw [← hT.out.o1.len]; omega) ⟨x, y, z, u⟩
        rw [World.size_alloc] at hr
        rw [← hs1, ← hs2] at hT2
        have HT2 := Lib.hid hT2
        have HC := Lib.hid hlt
        clear hs1 hs2 hl1 hl2 hT2 hT1 hT bx0 hle hxy hi hin hlt
        go_wp2_with fail
        refine HC.out.mono ?_
        rintro e w9 ⟨rfl, rfl⟩
        go_wp2_with (at_builtin; refine wpList_app_r rfl _ _ 107 107 rfl _ _ rfl rfl hr ?_)
        clear hr
        go_roundw
        case rel => exact ⟨i + 1, A', m1 + 1, c', A2, m2, c2, HNX.out, by first | rfl | (rw [HIW.out]) | go_num, rfl, rfl, HT2⟩
        case measure => have := HI.out; simp [intOf]; omega
      · rw [if_neg hle] at hs1 hs2
        rw [List.append_nil] at hs1
        rw [decide_eq_false hle] at hlt
        obtain ⟨A', c', w', hr, hT2, _⟩ := hT1.swap.app (P := Tryz.prog) 107 107 _ Tryz.underlying107 info_fo rfl m2 hT.out.o2.len (by rw [← hT.out.o2.len]; omega) ⟨x, y, z, u⟩
        rw [World.size_alloc] at hr
        rw [← hs1, ← hs2] at hT2
        have HT2 := Lib.hid hT2.swap
        have HC := Lib.hid hlt
        clear hs1 hs2 hl1 hl2 hT2 hT1 hT bx0 hle hxy hi hin hlt
        go_wp2_with fail
        refine HC.out.mono ?_
        rintro e w9 ⟨rfl, rfl⟩
        go_wp2_with (at_builtin; refine wpList_app_r rfl _ _ 107 107 rfl _ _ rfl rfl hr ?_)
        clear hr
        go_roundw
        case rel => exact ⟨i + 1, A1, m1, c1, A', m2 + 1, c', HNX.out, by first | rfl | (rw [HIW.out]) | go_num, rfl, rfl, HT2⟩
        case measure => have := HI.out; simp [intOf]; omega
    · have : i = n := by omega
      subst this
      have hT' := hT.out
      rw [HEND.out] at hT'
      obtain ⟨q1, q2, q3⟩ := HPUT.out wr _ _ _ _ _ _ hT'
      have HP := Lib.hid q3
      rw [HV.out] at q1
      have j1 : ¬ ((i : Int) < (i : Int)) := by omega
      clear hT' hT hi hin q3
      go_wp2
      go_ret
      exact ⟨_, _, _, rfl, HP.out.1, _, HP.out.2.1, HP.out.2.2.1, HP.out.2.2.2⟩
end
end Go.Proofs.YtpjlnpnadkbakaaGreat
namespace Go.Proofs.YtpjlnpnadkbakaaGreat
set_option maxRecDepth 10000
structure Pa where
  up : Bool
  jo : Bool
  be : Bool
  sent : Int
  g : Gs
  wn : Wn
  fl : List Qd
structure Pa.ok (P : Pa) : Prop where
  s1 : 0 ≤ P.sent
  s2 : P.sent ≤ 65536
  g : P.g.ok
  w : P.wn.ok
  n : P.fl.length ≤ 1048576
def Pa.new (first most : Int) : Pa := ⟨false, false, false, 0, Gs.new first, Wn.new most, []⟩
def Pa.num (P : Pa) : Pa := ⟨P.up, P.jo, P.be, P.sent + 1, P.g, P.wn, P.fl⟩
def Pa.setUp (P : Pa) (b : Bool) : Pa := ⟨b, P.jo, P.be, P.sent, P.g, P.wn, P.fl⟩
def Pa.setJo (P : Pa) (b : Bool) : Pa := ⟨P.up, b, P.be, P.sent, P.g, P.wn, P.fl⟩
def Pa.setBe (P : Pa) (b : Bool) : Pa := ⟨P.up, P.jo, b, P.sent, P.g, P.wn, P.fl⟩
def Pa.setFl (P : Pa) (l : List Qd) : Pa := ⟨P.up, P.jo, P.be, P.sent, P.g, P.wn, l⟩
def Pa.setG (P : Pa) (g : Gs) : Pa := ⟨P.up, P.jo, P.be, P.sent, g, P.wn, P.fl⟩
def Pa.setW (P : Pa) (n : Wn) : Pa := ⟨P.up, P.jo, P.be, P.sent, P.g, n, P.fl⟩
def Pa.down (P : Pa) : Pa := (P.setFl []).setUp false
def Pa.out (P : Pa) (q : Qd) : Pa := P.setFl (P.fl ++ [q])
def Pa.acked (P : Pa) (i : Nat) (now : Int) : Pa := ⟨P.up, P.jo, false, P.sent, P.g.sample (now - (P.fl.getD i qz).a), P.wn.ack, goneQ P.fl i⟩
def Pa.lates (P : Pa) (now : Int) : List Qd := lateQ P.fl (now - P.g.wait)
def Pa.late (P : Pa) (now : Int) : Pa := ⟨P.up, P.jo, true, P.sent, P.g.later, P.wn.loss, stayQ P.fl (now - P.g.wait)⟩
def Pa.usable (P : Pa) : Bool := P.up && P.jo && decide ((P.fl.length : Int) < P.wn.size) && decide (P.sent ≤ 65535)
def oneI (b : Bool) : Int := if b then 1 else 0
theorem stay_all {l : List Qd} {d : Int} (h : lateQ l d = []) : stayQ l d = l := by
  unfold lateQ at h
  unfold stayQ
  rw [List.filter_eq_self]
  intro q hq
  have := (List.filter_eq_nil_iff.1 h) q hq
  simp only [decide_eq_true_eq] at this
  simp [this]
theorem stay_len (l : List Qd) (d : Int) : (stayQ l d).length ≤ l.length := List.length_filter_le _ _
theorem Pa.new_ok (first most : Int) : (Pa.new first most).ok := ⟨by simp [Pa.new], by simp [Pa.new], Gs.new_ok _, Wn.new_ok _, by simp [Pa.new]⟩
theorem Pa.ok.num {P : Pa} (h : P.ok) (hs : P.sent ≤ 65535) : P.num.ok := ⟨by have := h.s1; simp only [Pa.num]; omega, by simp only [Pa.num]; omega, h.g, h.w, h.n⟩
theorem Pa.ok.setUp {P : Pa} (h : P.ok) (b : Bool) : (P.setUp b).ok := ⟨h.s1, h.s2, h.g, h.w, h.n⟩
theorem Pa.ok.setJo {P : Pa} (h : P.ok) (b : Bool) : (P.setJo b).ok := ⟨h.s1, h.s2, h.g, h.w, h.n⟩
theorem Pa.ok.setBe {P : Pa} (h : P.ok) (b : Bool) : (P.setBe b).ok := ⟨h.s1, h.s2, h.g, h.w, h.n⟩
theorem Pa.ok.setFl {P : Pa} (h : P.ok) {l : List Qd} (hl : l.length ≤ 1048576) : (P.setFl l).ok := ⟨h.s1, h.s2, h.g, h.w, hl⟩
theorem Pa.ok.down {P : Pa} (h : P.ok) : P.down.ok := ⟨h.s1, h.s2, h.g, h.w, by simp [Pa.down, Pa.setFl, Pa.setUp]⟩
theorem Pa.ok.out {P : Pa} (h : P.ok) (q : Qd) (hn : P.fl.length < 1048576) : (P.out q).ok := h.setFl (by rw [List.length_append, List.length_singleton]; omega)
theorem Pa.ok.acked {P : Pa} (h : P.ok) (i : Nat) (now : Int) (hi : i < P.fl.length) : (P.acked i now).ok :=
  ⟨h.s1, h.s2, Gs.sample_ok h.g _, Wn.ack_ok h.w, by have := goneQ_len hi; have := h.n; simp only [Pa.acked]; omega⟩
theorem Pa.ok.late {P : Pa} (h : P.ok) (now : Int) : (P.late now).ok :=
  ⟨h.s1, h.s2, Gs.later_ok h.g, Wn.loss_ok h.w, by have := stay_len P.fl (now - P.g.wait); have := h.n; simp only [Pa.late]; omega⟩
def Pa.lateN (P : Pa) (now : Int) : Pa := if (P.lates now).length = 0 then P else P.late now
theorem Pa.ok.lateN {P : Pa} (h : P.ok) (now : Int) : (P.lateN now).ok := by
  unfold Pa.lateN
  split
  · exact h
  · exact h.late now
theorem Pa.lateN_no {P : Pa} {now : Int} (h : (P.lates now).length = 0) : P.setFl (stayQ P.fl (now - P.g.wait)) = P.lateN now := by
  unfold Pa.lateN
  rw [if_pos h, stay_all (List.eq_nil_of_length_eq_zero h)]
  rfl
theorem Pa.lateN_yes {P : Pa} {now : Int} (h : ¬ (P.lates now).length = 0) : ((((P.setFl (stayQ P.fl (now - P.g.wait))).setG P.g.later).setW P.wn.loss).setBe true) = P.lateN now := by
  unfold Pa.lateN
  rw [if_neg h]
  rfl
end Go.Proofs.YtpjlnpnadkbakaaGreat
namespace Go.Proofs.YtpjlnpnadkbakaaGreat
set_option maxRecDepth 10000
def Pa.head (P : Pa) : List Int := [oneI P.up, oneI P.jo, oneI P.be, P.sent, P.g.mean, P.g.wait, P.wn.size, P.fl.length]
end Go.Proofs.YtpjlnpnadkbakaaGreat

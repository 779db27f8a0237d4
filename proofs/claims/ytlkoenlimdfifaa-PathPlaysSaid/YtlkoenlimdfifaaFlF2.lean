/-
  What Take and Late of the document's own flight do: contracts over the program.
-/
import Derived.Test.YtlkoenlimdfifaaFlF
namespace Go.Proofs.Ytlkoenlimdfifaa
open Go.RowKit

section
variable {ty : TypeId} {m0 o : Nat} {ff : Nat → Value} {w : World} {B p : Nat} {v : Value} {ps : List Qd}

set_option maxHeartbeats 1000000 in
/-- Take, of a number that isn't there. -/
theorem ffltake_no (h : FlF ty tOutR m0 o ff w B p v ps) (x : Int) (hno : NoneQ ps x) (hm : ps.length ≤ 1099511627775) :
    Calls Try.prog 59 #[.pointer (some ⟨p, o, none⟩), .int .i64 x] w fun e w' => e = .returned (.tuple #[.agg #[.int .i64 0, .int .i64 0, .int .i64 0, .int .i64 0], .bool false]) ∧ Below w.heap.size w w' := by
  obtain ⟨A, c, hv⟩ := h.own.form
  obtain ⟨n, hn⟩ : ∃ n, ps.length = n := ⟨_, rfl⟩
  rw [hn] at hv hm
  have hb := (Below.refl w.heap.size w).alloc (Nat.le_refl _) (.cells #[.int .i64 0, .int .i64 0, .int .i64 0, .int .i64 0] tOutR)
  have c0 := (h.later hb).co
  rw [hv] at c0
  have HCELL := Lib.hid (show ∀ (W : World) k, Below w.heap.size w W → k < n → ∃ g, A = some ⟨g, 0, none⟩ ∧ W.cell? ⟨g, k * 4, none⟩ = some (.int .i64 (ps.getD k qz).n) ∧ W.cell? ⟨g, k * 4 + 1, none⟩ = some (.int .i64 (ps.getD k qz).f) ∧ W.cell? ⟨g, k * 4 + 2, none⟩ = some (.int .i64 (ps.getD k qz).t) ∧ W.cell? ⟨g, k * 4 + 3, none⟩ = some (.int .i64 (ps.getD k qz).a) from fun W k hb hk => by
    have h1 := (h.later hb).own
    rw [hv] at h1
    obtain ⟨g, rfl, _⟩ := h1.at (by omega)
    exact ⟨g, rfl, h1.cells k hk⟩)
  have HB := Lib.hid hb
  have HR0 := Lib.hid (row4_new w tOutR qz)
  have HNO := Lib.hid hno
  have HN := Lib.hid hn
  clear h hv hn hb hno
  go_enter Try.func59, Try.ntmps59
  go_wp2
  go_loopw [13] (fun iv wr => ∃ (i : Nat), i ≤ n ∧ iv = .int .i64 i ∧ Hid (Below w.heap.size w wr) ∧ Hid (wr.rowIs w.heap.size tOutR 4 (qdF qz))) (fun iv _ => n - (intOf iv).toNat)
  case atStart => exact ⟨0, by omega, rfl, HB, HR0⟩
  case round =>
    obtain ⟨i, hi, rfl, hb, hr⟩ := hrel
    by_cases hin : i < n
    · obtain ⟨g, rfl, y1, y2, y3, y4⟩ := HCELL.out wr i hb.out (by omega)
      have hsz : w.heap.size ≤ wr.heap.size := hb.out.size
      have i1 : (i : Int) < (n : Int) := by omega
      have i2 : (0 : Int) ≤ (i : Int) := by omega
      have hqn := HNO.out i (by rw [HN.out]; exact hin)
      obtain ⟨⟨qn, qf, qt, qa⟩, hq⟩ : ∃ q, ps.getD i qz = q := ⟨_, rfl⟩
      rw [hq] at y1 y2 y3 y4 hqn
      simp only [] at y1 y2 y3 y4 hqn
      have HB1 := Lib.hid (hb.out.alloc hsz (.cells #[.int .i64 qn, .int .i64 qf, .int .i64 qt, .int .i64 qa] tOutR))
      have HR1 := Lib.hid (hr.out.alloc (.cells #[.int .i64 qn, .int .i64 qf, .int .i64 qt, .int .i64 qa] tOutR))
      obtain ⟨e0, e1, e2, e3⟩ := Bx.new wr tOutR qn qf qt qa
      simp only [] at e0 e1 e2 e3
      have HNX := Lib.hid (show i + 1 ≤ n by omega)
      have HNN := Lib.hid (show i < n by omega)
      have HIW := Lib.hid (show wrap64 ((i : Int) + 1) = ((i + 1 : Nat) : Int) from wrap_q (by omega) (by omega) (by omega))
      clear hr hb hq hsz hi hin
      go_wp2
      go_roundw
      case rel => exact ⟨i + 1, HNX.out, by first | rfl | (rw [HIW.out]) | go_num, HB1, HR1⟩
      case measure => have := HNN.out; simp [intOf]; omega
    · have : i = n := by omega
      subst this
      have j1 : ¬ ((i : Int) < (i : Int)) := by omega
      have HBB := Lib.hid hb.out
      obtain ⟨x0, x1, x2, x3⟩ := row4_cells hr.out
      simp only [qz] at x0 x1 x2 x3
      have f0 : ∀ k, wr.frozen? ⟨w.heap.size, k, none⟩ = false := fun k => hr.out.frozen k
      clear hi hin hb c0
      go_wp2_with fail
      change bodyPost _ _ _ _ _ (st4 wr w.heap.size qz)
      refine bodyPost_ret (v := .tuple #[qv qz, .bool false]) ?_ rfl ⟨rfl, HBB.out.trans ((st4_trn wr w.heap.size qz).below HBB.out.size (fun k hk => by omega))⟩
      rw [results_cell_tmp rfl]
      have hl := row4_load (P := Try.prog) (st4_row hr.out qz) tOutR _ Try.underlying59 rfl size_outR
      clear x0 x1 x2 x3 f0
      simp [asAddr, hl]

set_option maxHeartbeats 2000000 in
set_option maxRecDepth 10000 in
/-- Take, of a number that is there. -/
theorem ffltake_yes (h : FlF ty tOutR m0 o ff w B p v ps) (x : Int) (i0 : Nat) (hi0 : FirstQ ps x i0) (q : Qd) (hq0 : ps.getD i0 qz = q) (hm : ps.length ≤ 1099511627775) :
    Calls Try.prog 59 #[.pointer (some ⟨p, o, none⟩), .int .i64 x] w fun e w' => e = .returned (.tuple #[.agg #[.int .i64 q.n, .int .i64 q.f, .int .i64 q.t, .int .i64 q.a], .bool true]) ∧ ∃ v', FlF ty tOutR m0 o ff w' B p v' (goneQ ps i0) ∧ SC w w' (Fft p v) (Fft p v') := by
  obtain ⟨qn0, qf0, qt0, qa0⟩ := q
  have hqn0 : qn0 = x := by have := hi0.eq; rw [hq0] at this; exact this
  subst hqn0
  simp only []
  obtain ⟨A, c, hv⟩ := h.own.form
  obtain ⟨n, hn⟩ : ∃ n, ps.length = n := ⟨_, rfl⟩
  have hlt := hi0.lt
  have hown := h.own
  rw [hn] at hv hm hlt
  have hb := (Below.refl w.heap.size w).alloc (Nat.le_refl _) (.cells #[.int .i64 0, .int .i64 0, .int .i64 0, .int .i64 0] tOutR)
  have c0 := (h.later hb).co
  rw [hv] at c0 hown
  have HCELL := Lib.hid (show ∀ (W : World) k, Below w.heap.size w W → k < n → ∃ g, A = some ⟨g, 0, none⟩ ∧ W.cell? ⟨g, k * 4, none⟩ = some (.int .i64 (ps.getD k qz).n) ∧ W.cell? ⟨g, k * 4 + 1, none⟩ = some (.int .i64 (ps.getD k qz).f) ∧ W.cell? ⟨g, k * 4 + 2, none⟩ = some (.int .i64 (ps.getD k qz).t) ∧ W.cell? ⟨g, k * 4 + 3, none⟩ = some (.int .i64 (ps.getD k qz).a) from fun W k hb hk => by
    have h1 := (h.later hb).own
    rw [hv] at h1
    obtain ⟨g, rfl, _⟩ := h1.at (by omega)
    exact ⟨g, rfl, h1.cells k hk⟩)
  obtain ⟨g, rfl, _⟩ := hown.at (by omega)
  have HB := Lib.hid hb
  have HR0 := Lib.hid (row4_new w tOutR qz)
  have HI := Lib.hid hi0
  have HL := Lib.hid hlt
  have HQ0 := Lib.hid hq0
  have HN := Lib.hid hn
  have H := Lib.hid h
  have HV := Lib.hid hv
  have HPL := Lib.hid h.lt
  clear h hv hn hb hi0 hlt hown hq0
  go_enter Try.func59, Try.ntmps59
  go_wp2
  go_loopw [13] (fun iv wr => ∃ (i : Nat), i ≤ i0 ∧ iv = .int .i64 i ∧ Hid (Below w.heap.size w wr) ∧ Hid (wr.rowIs w.heap.size tOutR 4 (qdF qz))) (fun iv _ => n - (intOf iv).toNat)
  case atStart => exact ⟨0, by omega, rfl, HB, HR0⟩
  case round =>
    obtain ⟨i, hi, rfl, hb, hr⟩ := hrel
    have hL := HL.out
    obtain ⟨g', hg', y1, y2, y3, y4⟩ := HCELL.out wr i hb.out (by omega)
    obtain rfl : g = g' := by injection hg' with e; injection e
    have hsz : w.heap.size ≤ wr.heap.size := hb.out.size
    have i1 : (i : Int) < (n : Int) := by omega
    have i2 : (0 : Int) ≤ (i : Int) := by omega
    by_cases he : i = i0
    · subst he
      rw [HQ0.out] at y1 y2 y3 y4
      simp only [] at y1 y2 y3 y4
      obtain ⟨W0, hW0⟩ : ∃ W, wr.alloc (.cells #[.int .i64 qn0, .int .i64 qf0, .int .i64 qt0, .int .i64 qa0] tOutR) = W := ⟨_, rfl⟩
      have hb1 : Below w.heap.size w W0 := by rw [← hW0]; exact hb.out.alloc hsz _
      have hr1 : W0.rowIs w.heap.size tOutR 4 (qdF qz) := by rw [← hW0]; exact hr.out.alloc _
      have hr7 : W0.rowIs wr.heap.size tOutR 4 (qdF ⟨qn0, qf0, qt0, qa0⟩) := by rw [← hW0]; exact row4_new wr tOutR ⟨qn0, qf0, qt0, qa0⟩
      obtain ⟨e0, e1, e2, e3⟩ := row4_cells hr7
      simp only [] at e0 e1 e2 e3
      have HB1 := Lib.hid hb1
      have HR1 := Lib.hid hr1
      have HR7 := Lib.hid hr7
      have HSZ := Lib.hid hsz
      obtain ⟨j, hj⟩ : ∃ j, j = i + 1 := ⟨_, rfl⟩
      have hiw : wrap64 ((i : Int) + 1) = (j : Int) := wrap_q (by omega) (by omega) (by omega)
      obtain ⟨m, hm2⟩ : ∃ m, j + m = n := ⟨n - j, by omega⟩
      have hiw2 : IntKind.i64.wrap ((i : Int) + 1) = (j : Int) := (IntWalk.i64_left _).trans hiw
      have HJ := Lib.hid hj
      have HM2 := Lib.hid hm2
      clear hr hb hr1 hb1 hr7 hi hj hm2 hL hsz
      go_wp2_with fail
      -- the region: two appends, and the store
      obtain ⟨W, hW⟩ : ∃ W, W0.drew = W := ⟨_, rfl⟩
      have hbW : Below w.heap.size w W := by rw [← hW]; exact HB1.out.trans ⟨rfl, rfl, rfl, Nat.le_refl _, fun _ _ => rfl⟩
      have hX : FlF ty tOutR m0 o ff W B p v ps := H.out.later hbW
      have d0 := hX.co
      have ho := hX.own
      rw [HV.out] at d0 ho
      have hcap := ho.cap
      have hj := HJ.out
      have hm2 := HM2.out
      have hnl := HN.out
      obtain ⟨S, hS⟩ : ∃ S, (if c = j then some (⟨g, 0, none⟩ : Addr) else (some (⟨g, 0, none⟩ : Addr)).map (·.add (j * 4))) = S := ⟨_, rfl⟩
      have hl2 := fun W => slice_h4 (P := Try.prog) 51 Try.underlying51 sizeOutR (some ⟨g, 0, none⟩) n c i (by omega) W
      have hl3 := fun W => slice_l4 (P := Try.prog) 51 Try.underlying51 sizeOutR (some ⟨g, 0, none⟩) n c j m hm2 W
      rw [hS] at hl3
      obtain ⟨A1, c1, w1, hrun1, ho1, hg1, hf1⟩ := run_app4 (P := Try.prog) W 51 51 tOutR _ Try.underlying51 info_tOutR rfl W.heap.size (.slice none 0 0) [] (OwnQ.nil _ _ _) (some ⟨g, 0, none⟩) i c (ps.take i) (by rw [List.length_take]; omega) (fun h0 => (ho.cut i (by omega)).src0 h0) (by simp; omega) (Nat.le_refl _)
      rw [List.nil_append] at ho1
      rw [show ([] : List Qd).length + i = i by simp] at hrun1 ho1
      have hb1 : Below W.heap.size W w1 := (Trn.of_grown hg1).below (Nat.le_refl _) (fun k hk => by simp [Value.ownBlock] at hk)
      have d1 := (hX.later hb1).co
      rw [HV.out] at d1
      have hsrc : 0 < m → ∃ ad, S = some ad ∧ ∀ k u, (qds (ps.drop j))[k]? = some u → w1.cell? (ad.add k) = some u := fun h0 => by
        rw [if_neg (by omega)] at hS
        refine ⟨⟨g, j * 4, none⟩, by rw [← hS]; simp [Addr.add_lit], ?_⟩
        have := (ho.later hb1).src j
        exact this
      obtain ⟨A2, c2, w2, hrun2, ho2, hg2, hf2⟩ := run_app4 (P := Try.prog) w1 51 51 tOutR _ Try.underlying51 info_tOutR rfl W.heap.size (.slice A1 i c1) (ps.take i) ho1 S m (c - j) (ps.drop j) (by rw [List.length_drop]; omega) hsrc (by rw [List.length_take]; omega) hb1.size
      rw [show (ps.take i).length + m = i + m by rw [List.length_take]; omega] at hrun2 ho2
      rw [show ps.take i ++ ps.drop j = goneQ ps i by rw [hj]; rfl] at ho2
      have hb2 : Below W.heap.size W w2 := hb1.trans ((Trn.of_grown hg2).below hb1.size (fun k hk => (ho1.lt k hk).1))
      obtain ⟨z1, z2, z3, z4⟩ := hX.put (Trn.of_below hb2) (ho2.less hX.size) (fun k hk => .inr (ho2.lt k hk).1)
      rw [HV.out] at z1
      obtain ⟨w4, hw4⟩ : ∃ w4, w2.setCell ⟨p, o, none⟩ (.slice A2 (i + m) c2) = w4 := ⟨_, rfl⟩
      rw [hw4] at z3 z4
      have hk4 : ∀ k, w.heap.size ≤ k → k < W.heap.size → w4.heap[k]? = W.heap[k]? := fun k h1 h2 => by
        rw [← hw4]
        have := HPL.out
        exact (heap_setCell_other _ _ _ _ (show k ≠ p by omega)).trans (hb2.block k h2)
      have hr7 := HR7.out.of_block ((hk4 _ HSZ.out (by rw [← hW]; exact HR7.out.lt)).trans (by rw [← hW]; rfl))
      have hr0 := HR1.out.of_block ((hk4 _ (Nat.le_refl _) (by rw [← hW]; exact HR1.out.lt)).trans (by rw [← hW]; rfl))
      have HR70 := Lib.hid hr7
      have HR00 := Lib.hid hr0
      have HF4 := Lib.hid z3
      have HS4 := Lib.hid (show SC w w4 (Fft p v) (Fft p (.slice A2 (i + m) c2)) from (SC.of_below (hbW)).trans z4)
      have HGE := Lib.hid (show w.heap.size ≤ W.heap.size ∧ ∀ k, (Value.slice A2 (i + m) c2).ownBlock = some k → W.heap.size ≤ k from ⟨hbW.size, fun k hk => (ho2.lt k hk).1⟩)
      have HNE := Lib.hid (show w.heap.size < W.heap.size from by rw [← hW]; exact HR1.out.lt)
      clear hbW hX ho hcap hj hm2 hnl hS ho1 hg1 hf1 hb1 hsrc ho2 hg2 hf2 hb2 z3 z4 hk4 hr7 hr0 H HB1 HR1 HR7 HCELL
      refine wp_region_held_drew (S := fun _ => True) (by kernel_rfl) trivial ?_
      intro hHeld
      rw [hW]
      clear hW
      refine wpAnyH_take (i := 0) (v := ?_) rfl (by kernel_rfl) (by kernel_rfl) (by kernel_rfl) (fun _ _ _ h => h) (Or.inl ⟨by rfl, ?_⟩) (by assumption) ?_
      rotate_left
      · intro w hSw
        (try dsimp only at hSw)
        go_simp
        try (with_reducible rfl)
      try simp only [Act.put, List.getElem_toArray, List.getElem_cons_zero, List.setIfInBounds_toArray, List.set_cons_zero, List.set_cons_succ]
      refine wpAnyH_take (i := 1) (v := ?_) rfl (by kernel_rfl) (by kernel_rfl) (by kernel_rfl) (fun _ _ _ h => h) (Or.inl ⟨by rfl, ?_⟩) (by assumption) ?_
      rotate_left
      · intro w hSw
        (try dsimp only at hSw)
        go_simp
        try (with_reducible rfl)
      try simp only [Act.put, List.getElem_toArray, List.getElem_cons_zero, List.getElem_cons_succ, List.setIfInBounds_toArray, List.set_cons_zero, List.set_cons_succ]
      refine wpAnyH_take (i := 2) (v := ?_) rfl (by kernel_rfl) (by kernel_rfl) (by kernel_rfl) (fun _ _ _ h => h) (Or.inl ⟨by rfl, ?_⟩) (by assumption) ?_
      rotate_left
      · intro w hSw
        (try dsimp only at hSw)
        go_simp
        try (with_reducible rfl)
      try simp only [Act.put, List.getElem_toArray, List.getElem_cons_zero, List.getElem_cons_succ, List.setIfInBounds_toArray, List.set_cons_zero, List.set_cons_succ]
      refine wpAnyH_take (i := 3) (v := ?_) rfl (by kernel_rfl) (by kernel_rfl) (by kernel_rfl) (fun _ _ _ h => h) (Or.inl ⟨by rfl, ?_⟩) (by assumption) ?_
      rotate_left
      · intro w hSw
        (try dsimp only at hSw)
        go_simp
        try (with_reducible rfl)
      try simp only [Act.put, List.getElem_toArray, List.getElem_cons_zero, List.getElem_cons_succ, List.setIfInBounds_toArray, List.set_cons_zero, List.set_cons_succ]
      refine wpAnyH_take (i := 5) (v := ?_) rfl (by kernel_rfl) (by kernel_rfl) (by kernel_rfl) (fun _ _ _ h => h) (Or.inl ⟨by rfl, ?_⟩) (by assumption) ?_
      rotate_left
      · intro w hSw
        (try dsimp only at hSw)
        go_simp
        try (with_reducible rfl)
      try simp only [Act.put, List.getElem_toArray, List.getElem_cons_zero, List.getElem_cons_succ, List.setIfInBounds_toArray, List.set_cons_zero, List.set_cons_succ]
      refine wpAnyH_take (i := 8) (v := ?_) rfl (by kernel_rfl) (by kernel_rfl) (by kernel_rfl) (fun _ _ _ h => h) (Or.inl ⟨by rfl, ?_⟩) (by assumption) ?_
      rotate_left
      · intro w hSw
        (try dsimp only at hSw)
        go_simp
        try (with_reducible rfl)
      try simp only [Act.put, List.getElem_toArray, List.getElem_cons_zero, List.getElem_cons_succ, List.setIfInBounds_toArray, List.set_cons_zero, List.set_cons_succ]
      refine wpAnyH_take (i := 9) (v := ?_) rfl (by kernel_rfl) (by kernel_rfl) (by kernel_rfl) (fun _ _ _ h => h) (Or.inl ⟨by rfl, ?_⟩) (by assumption) ?_
      rotate_left
      · intro w hSw
        (try dsimp only at hSw)
        go_simp
        try (with_reducible rfl)
      try simp only [Act.put, List.getElem_toArray, List.getElem_cons_zero, List.getElem_cons_succ, List.setIfInBounds_toArray, List.set_cons_zero, List.set_cons_succ]
      refine wpAnyH_take (i := 10) (v := ?_) rfl (by kernel_rfl) (by kernel_rfl) (by kernel_rfl) (fun _ _ _ h => h) (Or.inl ⟨by rfl, ?_⟩) (by assumption) ?_
      rotate_left
      · intro w hSw
        (try dsimp only at hSw)
        go_simp
        try (with_reducible rfl)
      try simp only [Act.put, List.getElem_toArray, List.getElem_cons_zero, List.getElem_cons_succ, List.setIfInBounds_toArray, List.set_cons_zero, List.set_cons_succ]
      refine wpAnyH_take (i := 12) (v := ?_) rfl (by kernel_rfl) (by kernel_rfl) (by kernel_rfl) (fun _ _ _ h => h) (Or.inl ⟨by rfl, ?_⟩) (by assumption) ?_
      rotate_left
      · intro w hSw
        (try dsimp only at hSw)
        go_simp
        try (with_reducible rfl)
      try simp only [Act.put, List.getElem_toArray, List.getElem_cons_zero, List.getElem_cons_succ, List.setIfInBounds_toArray, List.set_cons_zero, List.set_cons_succ]
      refine wpAnyH_take (i := 13) (v := ?_) rfl (by kernel_rfl) (by kernel_rfl) (by kernel_rfl) (fun _ _ _ h => h) (Or.inl ⟨by rfl, ?_⟩) (by assumption) ?_
      rotate_left
      · intro w hSw
        (try dsimp only at hSw)
        go_simp
        try (with_reducible rfl)
      try simp only [Act.put, List.getElem_toArray, List.getElem_cons_zero, List.getElem_cons_succ, List.setIfInBounds_toArray, List.set_cons_zero, List.set_cons_succ]
      refine wpAnyH_ready (rs := [4, 11]) (by kernel_rfl) (by simp) ?_
      refine AllReadyH.cons rfl (fun K hK => ?_) (AllReadyH.cons rfl (fun K hK => ?_) AllReadyH.nil)
      · go_simp
        refine hK.out _ _ trivial (fun hHeld2 => ?_)
        clear hK K hHeld
        have hHeld := hHeld2
        clear hHeld2
        try simp only [Act.put, List.getElem_toArray, List.getElem_cons_zero, List.getElem_cons_succ, List.setIfInBounds_toArray, List.set_cons_zero, List.set_cons_succ]
        refine wpAnyH_take (i := 6) (v := ?_) rfl (by kernel_rfl) (by kernel_rfl) (by kernel_rfl) (fun _ _ _ h => h) (Or.inl ⟨by rfl, ?_⟩) (by assumption) ?_
        rotate_left
        · intro w hSw
          (try dsimp only at hSw)
          go_simp
          try (with_reducible rfl)
        try simp only [Act.put, List.getElem_toArray, List.getElem_cons_zero, List.getElem_cons_succ, List.setIfInBounds_toArray, List.set_cons_zero, List.set_cons_succ]
        refine wpAnyH_ready (rs := [7, 11]) (by kernel_rfl) (by simp) ?_
        refine AllReadyH.cons rfl (fun K hK => ?_) (AllReadyH.cons rfl (fun K hK => ?_) AllReadyH.nil)
        · refine step_app_r4 (by rfl) (.const (.slice none 0 0)) (.tmp 28) 51 rfl _ _ _ rfl rfl hrun1 ?_
          refine hK.out _ _ trivial (fun hHeld2 => ?_)
          clear hK K hHeld
          have hHeld := hHeld2
          clear hHeld2
          try simp only [Act.put, List.getElem_toArray, List.getElem_cons_zero, List.getElem_cons_succ, List.setIfInBounds_toArray, List.set_cons_zero, List.set_cons_succ]
          refine wpAnyH_ready (rs := [11]) (by kernel_rfl) (by simp) ?_
          refine AllReadyH.cons rfl (fun K hK => ?_) AllReadyH.nil
          · go_simp
            refine hK.out _ _ trivial (fun hHeld2 => ?_)
            clear hK K hHeld
            have hHeld := hHeld2
            clear hHeld2
            try simp only [Act.put, List.getElem_toArray, List.getElem_cons_zero, List.getElem_cons_succ, List.setIfInBounds_toArray, List.set_cons_zero, List.set_cons_succ]
            refine wpAnyH_take (i := 14) (v := ?_) rfl (by kernel_rfl) (by kernel_rfl) (by kernel_rfl) (fun _ _ _ h => h) (Or.inl ⟨by rfl, ?_⟩) (by assumption) ?_
            rotate_left
            · intro w hSw
              (try dsimp only at hSw)
              go_simp
              try (with_reducible rfl)
            try simp only [Act.put, List.getElem_toArray, List.getElem_cons_zero, List.getElem_cons_succ, List.setIfInBounds_toArray, List.set_cons_zero, List.set_cons_succ]
            refine wpAnyH_ready (rs := [15]) (by kernel_rfl) (by simp) ?_
            refine AllReadyH.cons rfl (fun K hK => ?_) AllReadyH.nil
            refine step_app_r4 (by rfl) (.tmp 29) (.tmp 36) 51 rfl _ _ _ rfl rfl hrun2 ?_
            refine hK.out _ _ trivial (fun hHeld2 => ?_)
            clear hK K hHeld
            have hHeld := hHeld2
            clear hHeld2
            try simp only [Act.put, List.getElem_toArray, List.getElem_cons_zero, List.getElem_cons_succ, List.setIfInBounds_toArray, List.set_cons_zero, List.set_cons_succ]
            refine wpAnyH_take (i := 16) (v := ?_) rfl (by kernel_rfl) (by kernel_rfl) (by kernel_rfl) (fun _ _ _ h => h) (Or.inl ⟨by rfl, ?_⟩) (by assumption) ?_
            rotate_left
            · intro w hSw
              (try dsimp only at hSw)
              go_simp
              try (with_reducible rfl)
            try simp only [Act.put, List.getElem_toArray, List.getElem_cons_zero, List.getElem_cons_succ, List.setIfInBounds_toArray, List.set_cons_zero, List.set_cons_succ]
            refine wpAnyH_take (i := 17) (v := ?_) rfl (by kernel_rfl) (by kernel_rfl) (by kernel_rfl) (fun _ _ _ h => h) (Or.inl ⟨by rfl, ?_⟩) (by assumption) ?_
            rotate_left
            · intro w hSw
              (try dsimp only at hSw)
              go_simp
              try (with_reducible rfl)
            try simp only [Act.put, List.getElem_toArray, List.getElem_cons_zero, List.getElem_cons_succ, List.setIfInBounds_toArray, List.set_cons_zero, List.set_cons_succ]
            refine wpAnyH_ready (rs := [18]) (by kernel_rfl) (by simp) ?_
            refine AllReadyH.cons rfl (fun K hK => ?_) AllReadyH.nil
            go_simp
            refine hK.out _ _ trivial (fun hHeld2 => ?_)
            clear hK K hHeld
            have hHeld := hHeld2
            clear hHeld2
            try simp only [Act.put, List.getElem_toArray, List.getElem_cons_zero, List.getElem_cons_succ, List.setIfInBounds_toArray, List.set_cons_zero, List.set_cons_succ]
            refine wpAnyH_done (by kernel_rfl) ?_ _
            obtain ⟨e0, e1, e2, e3⟩ := row4_cells HR70.out
            obtain ⟨x0, x1, x2, x3⟩ := row4_cells HR00.out
            simp only [qz] at e0 e1 e2 e3 x0 x1 x2 x3
            have f0 : ∀ k, w4.frozen? ⟨w.heap.size, k, none⟩ = false := fun k => HR00.out.frozen k
            go_wp2_with fail
            change bodyPost _ _ _ _ _ (st4 w4 w.heap.size ⟨qn0, qf0, qt0, qa0⟩)
            have hst := st4_trn w4 w.heap.size ⟨qn0, qf0, qt0, qa0⟩
            have hnot : ∀ k, Fft p (Value.slice A2 (i + m) c2) k → ¬ (k = w.heap.size) := fun k hk => by
              have hpl := HPL.out
              have hge := HGE.out
              have hne := HNE.out
              rcases hk with rfl | hk
              · omega
              · have := hge.2 k hk; omega
            refine bodyPost_ret (v := .tuple #[qv ⟨qn0, qf0, qt0, qa0⟩, .bool true]) ?_ rfl ⟨rfl, _, HF4.out.kept hst hnot, HS4.out.trn.trans hst (fun _ h => h) (fun k hk e => by omega), HS4.out.sub⟩
            rw [results_cell_tmp rfl]
            have hl := row4_load (P := Try.prog) (st4_row HR00.out ⟨qn0, qf0, qt0, qa0⟩) tOutR _ Try.underlying59 rfl size_outR
            clear e0 e1 e2 e3 x0 x1 x2 x3 f0 hw4 hst hnot
            simp [asAddr, hl]
        · go_simp
          refine hK.out _ _ trivial (fun hHeld2 => ?_)
          clear hK K hHeld
          have hHeld := hHeld2
          clear hHeld2
          try simp only [Act.put, List.getElem_toArray, List.getElem_cons_zero, List.getElem_cons_succ, List.setIfInBounds_toArray, List.set_cons_zero, List.set_cons_succ]
          refine wpAnyH_take (i := 14) (v := ?_) rfl (by kernel_rfl) (by kernel_rfl) (by kernel_rfl) (fun _ _ _ h => h) (Or.inl ⟨by rfl, ?_⟩) (by assumption) ?_
          rotate_left
          · intro w hSw
            (try dsimp only at hSw)
            go_simp
            try (with_reducible rfl)
          try simp only [Act.put, List.getElem_toArray, List.getElem_cons_zero, List.getElem_cons_succ, List.setIfInBounds_toArray, List.set_cons_zero, List.set_cons_succ]
          refine wpAnyH_ready (rs := [7]) (by kernel_rfl) (by simp) ?_
          refine AllReadyH.cons rfl (fun K hK => ?_) AllReadyH.nil
          · refine step_app_r4 (by rfl) (.const (.slice none 0 0)) (.tmp 28) 51 rfl _ _ _ rfl rfl hrun1 ?_
            refine hK.out _ _ trivial (fun hHeld2 => ?_)
            clear hK K hHeld
            have hHeld := hHeld2
            clear hHeld2
            try simp only [Act.put, List.getElem_toArray, List.getElem_cons_zero, List.getElem_cons_succ, List.setIfInBounds_toArray, List.set_cons_zero, List.set_cons_succ]
            refine wpAnyH_ready (rs := [15]) (by kernel_rfl) (by simp) ?_
            refine AllReadyH.cons rfl (fun K hK => ?_) AllReadyH.nil
            refine step_app_r4 (by rfl) (.tmp 29) (.tmp 36) 51 rfl _ _ _ rfl rfl hrun2 ?_
            refine hK.out _ _ trivial (fun hHeld2 => ?_)
            clear hK K hHeld
            have hHeld := hHeld2
            clear hHeld2
            try simp only [Act.put, List.getElem_toArray, List.getElem_cons_zero, List.getElem_cons_succ, List.setIfInBounds_toArray, List.set_cons_zero, List.set_cons_succ]
            refine wpAnyH_take (i := 16) (v := ?_) rfl (by kernel_rfl) (by kernel_rfl) (by kernel_rfl) (fun _ _ _ h => h) (Or.inl ⟨by rfl, ?_⟩) (by assumption) ?_
            rotate_left
            · intro w hSw
              (try dsimp only at hSw)
              go_simp
              try (with_reducible rfl)
            try simp only [Act.put, List.getElem_toArray, List.getElem_cons_zero, List.getElem_cons_succ, List.setIfInBounds_toArray, List.set_cons_zero, List.set_cons_succ]
            refine wpAnyH_take (i := 17) (v := ?_) rfl (by kernel_rfl) (by kernel_rfl) (by kernel_rfl) (fun _ _ _ h => h) (Or.inl ⟨by rfl, ?_⟩) (by assumption) ?_
            rotate_left
            · intro w hSw
              (try dsimp only at hSw)
              go_simp
              try (with_reducible rfl)
            try simp only [Act.put, List.getElem_toArray, List.getElem_cons_zero, List.getElem_cons_succ, List.setIfInBounds_toArray, List.set_cons_zero, List.set_cons_succ]
            refine wpAnyH_ready (rs := [18]) (by kernel_rfl) (by simp) ?_
            refine AllReadyH.cons rfl (fun K hK => ?_) AllReadyH.nil
            go_simp
            refine hK.out _ _ trivial (fun hHeld2 => ?_)
            clear hK K hHeld
            have hHeld := hHeld2
            clear hHeld2
            try simp only [Act.put, List.getElem_toArray, List.getElem_cons_zero, List.getElem_cons_succ, List.setIfInBounds_toArray, List.set_cons_zero, List.set_cons_succ]
            refine wpAnyH_done (by kernel_rfl) ?_ _
            obtain ⟨e0, e1, e2, e3⟩ := row4_cells HR70.out
            obtain ⟨x0, x1, x2, x3⟩ := row4_cells HR00.out
            simp only [qz] at e0 e1 e2 e3 x0 x1 x2 x3
            have f0 : ∀ k, w4.frozen? ⟨w.heap.size, k, none⟩ = false := fun k => HR00.out.frozen k
            go_wp2_with fail
            change bodyPost _ _ _ _ _ (st4 w4 w.heap.size ⟨qn0, qf0, qt0, qa0⟩)
            have hst := st4_trn w4 w.heap.size ⟨qn0, qf0, qt0, qa0⟩
            have hnot : ∀ k, Fft p (Value.slice A2 (i + m) c2) k → ¬ (k = w.heap.size) := fun k hk => by
              have hpl := HPL.out
              have hge := HGE.out
              have hne := HNE.out
              rcases hk with rfl | hk
              · omega
              · have := hge.2 k hk; omega
            refine bodyPost_ret (v := .tuple #[qv ⟨qn0, qf0, qt0, qa0⟩, .bool true]) ?_ rfl ⟨rfl, _, HF4.out.kept hst hnot, HS4.out.trn.trans hst (fun _ h => h) (fun k hk e => by omega), HS4.out.sub⟩
            rw [results_cell_tmp rfl]
            have hl := row4_load (P := Try.prog) (st4_row HR00.out ⟨qn0, qf0, qt0, qa0⟩) tOutR _ Try.underlying59 rfl size_outR
            clear e0 e1 e2 e3 x0 x1 x2 x3 f0 hw4 hst hnot
            simp [asAddr, hl]
      · go_simp
        refine hK.out _ _ trivial (fun hHeld2 => ?_)
        clear hK K hHeld
        have hHeld := hHeld2
        clear hHeld2
        try simp only [Act.put, List.getElem_toArray, List.getElem_cons_zero, List.getElem_cons_succ, List.setIfInBounds_toArray, List.set_cons_zero, List.set_cons_succ]
        refine wpAnyH_take (i := 14) (v := ?_) rfl (by kernel_rfl) (by kernel_rfl) (by kernel_rfl) (fun _ _ _ h => h) (Or.inl ⟨by rfl, ?_⟩) (by assumption) ?_
        rotate_left
        · intro w hSw
          (try dsimp only at hSw)
          go_simp
          try (with_reducible rfl)
        try simp only [Act.put, List.getElem_toArray, List.getElem_cons_zero, List.getElem_cons_succ, List.setIfInBounds_toArray, List.set_cons_zero, List.set_cons_succ]
        refine wpAnyH_ready (rs := [4]) (by kernel_rfl) (by simp) ?_
        refine AllReadyH.cons rfl (fun K hK => ?_) AllReadyH.nil
        · go_simp
          refine hK.out _ _ trivial (fun hHeld2 => ?_)
          clear hK K hHeld
          have hHeld := hHeld2
          clear hHeld2
          try simp only [Act.put, List.getElem_toArray, List.getElem_cons_zero, List.getElem_cons_succ, List.setIfInBounds_toArray, List.set_cons_zero, List.set_cons_succ]
          refine wpAnyH_take (i := 6) (v := ?_) rfl (by kernel_rfl) (by kernel_rfl) (by kernel_rfl) (fun _ _ _ h => h) (Or.inl ⟨by rfl, ?_⟩) (by assumption) ?_
          rotate_left
          · intro w hSw
            (try dsimp only at hSw)
            go_simp
            try (with_reducible rfl)
          try simp only [Act.put, List.getElem_toArray, List.getElem_cons_zero, List.getElem_cons_succ, List.setIfInBounds_toArray, List.set_cons_zero, List.set_cons_succ]
          refine wpAnyH_ready (rs := [7]) (by kernel_rfl) (by simp) ?_
          refine AllReadyH.cons rfl (fun K hK => ?_) AllReadyH.nil
          · refine step_app_r4 (by rfl) (.const (.slice none 0 0)) (.tmp 28) 51 rfl _ _ _ rfl rfl hrun1 ?_
            refine hK.out _ _ trivial (fun hHeld2 => ?_)
            clear hK K hHeld
            have hHeld := hHeld2
            clear hHeld2
            try simp only [Act.put, List.getElem_toArray, List.getElem_cons_zero, List.getElem_cons_succ, List.setIfInBounds_toArray, List.set_cons_zero, List.set_cons_succ]
            refine wpAnyH_ready (rs := [15]) (by kernel_rfl) (by simp) ?_
            refine AllReadyH.cons rfl (fun K hK => ?_) AllReadyH.nil
            refine step_app_r4 (by rfl) (.tmp 29) (.tmp 36) 51 rfl _ _ _ rfl rfl hrun2 ?_
            refine hK.out _ _ trivial (fun hHeld2 => ?_)
            clear hK K hHeld
            have hHeld := hHeld2
            clear hHeld2
            try simp only [Act.put, List.getElem_toArray, List.getElem_cons_zero, List.getElem_cons_succ, List.setIfInBounds_toArray, List.set_cons_zero, List.set_cons_succ]
            refine wpAnyH_take (i := 16) (v := ?_) rfl (by kernel_rfl) (by kernel_rfl) (by kernel_rfl) (fun _ _ _ h => h) (Or.inl ⟨by rfl, ?_⟩) (by assumption) ?_
            rotate_left
            · intro w hSw
              (try dsimp only at hSw)
              go_simp
              try (with_reducible rfl)
            try simp only [Act.put, List.getElem_toArray, List.getElem_cons_zero, List.getElem_cons_succ, List.setIfInBounds_toArray, List.set_cons_zero, List.set_cons_succ]
            refine wpAnyH_take (i := 17) (v := ?_) rfl (by kernel_rfl) (by kernel_rfl) (by kernel_rfl) (fun _ _ _ h => h) (Or.inl ⟨by rfl, ?_⟩) (by assumption) ?_
            rotate_left
            · intro w hSw
              (try dsimp only at hSw)
              go_simp
              try (with_reducible rfl)
            try simp only [Act.put, List.getElem_toArray, List.getElem_cons_zero, List.getElem_cons_succ, List.setIfInBounds_toArray, List.set_cons_zero, List.set_cons_succ]
            refine wpAnyH_ready (rs := [18]) (by kernel_rfl) (by simp) ?_
            refine AllReadyH.cons rfl (fun K hK => ?_) AllReadyH.nil
            go_simp
            refine hK.out _ _ trivial (fun hHeld2 => ?_)
            clear hK K hHeld
            have hHeld := hHeld2
            clear hHeld2
            try simp only [Act.put, List.getElem_toArray, List.getElem_cons_zero, List.getElem_cons_succ, List.setIfInBounds_toArray, List.set_cons_zero, List.set_cons_succ]
            refine wpAnyH_done (by kernel_rfl) ?_ _
            obtain ⟨e0, e1, e2, e3⟩ := row4_cells HR70.out
            obtain ⟨x0, x1, x2, x3⟩ := row4_cells HR00.out
            simp only [qz] at e0 e1 e2 e3 x0 x1 x2 x3
            have f0 : ∀ k, w4.frozen? ⟨w.heap.size, k, none⟩ = false := fun k => HR00.out.frozen k
            go_wp2_with fail
            change bodyPost _ _ _ _ _ (st4 w4 w.heap.size ⟨qn0, qf0, qt0, qa0⟩)
            have hst := st4_trn w4 w.heap.size ⟨qn0, qf0, qt0, qa0⟩
            have hnot : ∀ k, Fft p (Value.slice A2 (i + m) c2) k → ¬ (k = w.heap.size) := fun k hk => by
              have hpl := HPL.out
              have hge := HGE.out
              have hne := HNE.out
              rcases hk with rfl | hk
              · omega
              · have := hge.2 k hk; omega
            refine bodyPost_ret (v := .tuple #[qv ⟨qn0, qf0, qt0, qa0⟩, .bool true]) ?_ rfl ⟨rfl, _, HF4.out.kept hst hnot, HS4.out.trn.trans hst (fun _ h => h) (fun k hk e => by omega), HS4.out.sub⟩
            rw [results_cell_tmp rfl]
            have hl := row4_load (P := Try.prog) (st4_row HR00.out ⟨qn0, qf0, qt0, qa0⟩) tOutR _ Try.underlying59 rfl size_outR
            clear e0 e1 e2 e3 x0 x1 x2 x3 f0 hw4 hst hnot
            simp [asAddr, hl]
    · have hqn : ¬ ((ps.getD i qz).n = qn0) := HI.out.no i (by omega)
      obtain ⟨⟨qn, qf, qt, qa⟩, hq⟩ : ∃ q, ps.getD i qz = q := ⟨_, rfl⟩
      rw [hq] at y1 y2 y3 y4 hqn
      simp only [] at y1 y2 y3 y4 hqn
      have HB1 := Lib.hid (hb.out.alloc hsz (.cells #[.int .i64 qn, .int .i64 qf, .int .i64 qt, .int .i64 qa] tOutR))
      have HR1 := Lib.hid (hr.out.alloc (.cells #[.int .i64 qn, .int .i64 qf, .int .i64 qt, .int .i64 qa] tOutR))
      obtain ⟨e0, e1, e2, e3⟩ := Bx.new wr tOutR qn qf qt qa
      simp only [] at e0 e1 e2 e3
      have HNX := Lib.hid (show i + 1 ≤ i0 by omega)
      have HNN := Lib.hid (show i < n by omega)
      have HIW := Lib.hid (show wrap64 ((i : Int) + 1) = ((i + 1 : Nat) : Int) from wrap_q (by omega) (by omega) (by omega))
      clear hr hb hq hsz hi he hL
      go_wp2
      go_roundw
      case rel => exact ⟨i + 1, HNX.out, by first | rfl | (rw [HIW.out]) | go_num, HB1, HR1⟩
      case measure => have := HNN.out; simp [intOf]; omega

set_option maxHeartbeats 2000000 in
set_option maxRecDepth 100000 in
theorem ffllate_any (h : FlF ty tOutR m0 o ff w B p v ps) (now wait d : Int) (h1 : -1099511627776 ≤ now ∧ now ≤ 1099511627776) (h2 : -1099511627776 ≤ wait ∧ wait ≤ 1099511627776) (hd : d = now - wait) (hb : ps.length ≤ 1099511627775) :
    Calls Try.prog 62 #[.pointer (some ⟨p, o, none⟩), .int .i64 now, .int .i64 wait] w fun e w' => ∃ A' m c', e = .returned (.slice A' m c') ∧ OwnQ tOutR w' w.heap.size (.slice A' m c') (lateQ ps d) ∧ ∃ v', FlF ty tOutR m0 o ff w' B p v' (stayQ ps d) ∧ SC w w' (Fft p v) (Fft p v') := by
  have hww : wrap64 (now - wait) = d := wrap_q hd.symm (by omega) (by omega)
  obtain ⟨A, c, hv⟩ := h.own.form
  obtain ⟨n, hn⟩ : ∃ n, ps.length = n := ⟨_, rfl⟩
  have c0 := h.co
  rw [hv, hn] at c0
  rw [hn] at hb
  have HCELL := Lib.hid (show ∀ (W : World) k, Below w.heap.size w W → k < n → ∃ g, A = some ⟨g, 0, none⟩ ∧ W.cell? ⟨g, k * 4, none⟩ = some (.int .i64 (ps.getD k qz).n) ∧ W.cell? ⟨g, k * 4 + 1, none⟩ = some (.int .i64 (ps.getD k qz).f) ∧ W.cell? ⟨g, k * 4 + 2, none⟩ = some (.int .i64 (ps.getD k qz).t) ∧ W.cell? ⟨g, k * 4 + 3, none⟩ = some (.int .i64 (ps.getD k qz).a) from fun W k hb hk => by
    have h1 := (h.later hb).own
    rw [hv, hn] at h1
    obtain ⟨g, rfl, _⟩ := h1.at (by omega)
    exact ⟨g, rfl, h1.cells k hk⟩)
  have HPUT := Lib.hid (show ∀ (W : World) A1 m1 c1 A2 m2 c2, TwoQ tOutR w W (.slice A1 m1 c1) (lateQ ps d) (.slice A2 m2 c2) (stayQ ps d) → W.cell? ⟨p, o, none⟩ = some v ∧ W.frozen? ⟨p, o, none⟩ = false ∧ OwnQ tOutR (W.setCell ⟨p, o, none⟩ (.slice A2 m2 c2)) w.heap.size (.slice A1 m1 c1) (lateQ ps d) ∧ FlF ty tOutR m0 o ff (W.setCell ⟨p, o, none⟩ (.slice A2 m2 c2)) B p (.slice A2 m2 c2) (stayQ ps d) ∧ SC w (W.setCell ⟨p, o, none⟩ (.slice A2 m2 c2)) (Fft p v) (Fft p (.slice A2 m2 c2)) from fun W A1 m1 c1 A2 m2 c2 hT => by
    obtain ⟨y1, y2, y3, y4⟩ := h.put (v' := .slice A2 m2 c2) (Trn.of_below hT.bel) (hT.o2.less h.size) (fun g hg => .inr (hT.o2.lt g hg).1)
    exact ⟨y1, y2, hT.o1.kept (setCell_one W p o _) (.inr (fun e => by have := (hT.o1.lt p e).1; have := h.lt; omega)), y3, y4⟩)
  have HST := Lib.hid (show ∀ k, k < n → lateQ (ps.take (k + 1)) d = lateQ (ps.take k) d ++ (if (ps.getD k qz).a ≤ d then [ps.getD k qz] else []) ∧ stayQ (ps.take (k + 1)) d = stayQ (ps.take k) d ++ (if (ps.getD k qz).a ≤ d then [] else [ps.getD k qz]) ∧ (lateQ (ps.take k) d).length ≤ 1099511627775 ∧ (stayQ (ps.take k) d).length ≤ 1099511627775 from fun k hk => ⟨lateQ_next ps d k (by omega), stayQ_next ps d k (by omega), by have := lateQ_len ps d k; omega, by have := stayQ_len ps d k; omega⟩)
  have HEND := Lib.hid (show ps.take n = ps by rw [← hn, List.take_length])
  have HV := Lib.hid hv
  clear h hv hn h1 h2 hd
  go_enter Try.func62, Try.ntmps62
  go_wp2
  go_loopw [7, 8, 16] (fun gv lv iv wr => ∃ (i : Nat) (A1 : Option Addr) (m1 c1 : Nat) (A2 : Option Addr) (m2 c2 : Nat), i ≤ n ∧ iv = .int .i64 i ∧ gv = .slice A1 m1 c1 ∧ lv = .slice A2 m2 c2 ∧ Hid (TwoQ tOutR w wr (.slice A1 m1 c1) (lateQ (ps.take i) d) (.slice A2 m2 c2) (stayQ (ps.take i) d))) (fun _ _ iv _ => n - (intOf iv).toNat)
  case atStart => exact ⟨0, none, 0, 0, none, 0, 0, by omega, rfl, rfl, rfl, Lib.hid (TwoQ.start _ _)⟩
  case round =>
    obtain ⟨i, A1, m1, c1, A2, m2, c2, hi, rfl, rfl, rfl, hT⟩ := hrel
    by_cases hin : i < n
    · obtain ⟨g, rfl, y1, y2, y3, y4⟩ := HCELL.out wr i hT.out.bel hin
      obtain ⟨hs1, hs2, hl1, hl2⟩ := HST.out i hin
      obtain ⟨⟨x, y, z, u⟩, hxy⟩ : ∃ q, ps.getD i qz = q := ⟨_, rfl⟩
      rw [hxy] at y1 y2 y3 y4 hs1 hs2
      simp only [] at y1 y2 y3 y4 hs1 hs2
      have hT1 := hT.out.alloc (.cells #[.int .i64 x, .int .i64 y, .int .i64 z, .int .i64 u] tOutR)
      have bx0 : Bx (wr.alloc (.cells #[.int .i64 x, .int .i64 y, .int .i64 z, .int .i64 u] tOutR)) wr.heap.size ⟨x, y, z, u⟩ := Bx.new _ _ _ _ _ _
      have b0 := bx0.1
      have b1 := bx0.2.1
      have b2 := bx0.2.2.1
      have b3 := bx0.2.2.2
      simp only [] at b0 b1 b2 b3
      have i1 : (i : Int) < (n : Int) := by omega
      have i2 : (0 : Int) ≤ (i : Int) := by omega
      have HNX := Lib.hid (show i + 1 ≤ n by omega)
      have HI := Lib.hid hin
      have HIW := Lib.hid (show wrap64 ((i : Int) + 1) = ((i + 1 : Nat) : Int) from wrap_q (by omega) (by omega) (by omega))
      by_cases hle : u ≤ d
      · rw [if_pos hle] at hs1 hs2
        rw [List.append_nil] at hs2
        obtain ⟨A', c', w', hr, hT2, _⟩ := hT1.app (P := Try.prog) 51 51 _ Try.underlying51 info_tOutR rfl m1 hT.out.o1.len (by rw [← hT.out.o1.len]; omega) ⟨x, y, z, u⟩
        rw [World.size_alloc] at hr
        rw [← hs1, ← hs2] at hT2
        have HT2 := Lib.hid hT2
        clear hs1 hs2 hl1 hl2 hT2 hT1 hT bx0 hxy hi hin
        go_wp2_with (at_builtin; refine wpList_app_r rfl _ _ 51 51 rfl _ _ rfl rfl hr ?_)
        clear hr
        go_roundw
        case rel => exact ⟨i + 1, A', m1 + 1, c', A2, m2, c2, HNX.out, by first | rfl | (rw [HIW.out]) | go_num, rfl, rfl, HT2⟩
        case measure => have := HI.out; simp [intOf]; omega
      · rw [if_neg hle] at hs1 hs2
        rw [List.append_nil] at hs1
        obtain ⟨A', c', w', hr, hT2, _⟩ := hT1.swap.app (P := Try.prog) 51 51 _ Try.underlying51 info_tOutR rfl m2 hT.out.o2.len (by rw [← hT.out.o2.len]; omega) ⟨x, y, z, u⟩
        rw [World.size_alloc] at hr
        rw [← hs1, ← hs2] at hT2
        have HT2 := Lib.hid hT2.swap
        clear hs1 hs2 hl1 hl2 hT2 hT1 hT bx0 hxy hi hin
        go_wp2_with (at_builtin; refine wpList_app_r rfl _ _ 51 51 rfl _ _ rfl rfl hr ?_)
        clear hr
        go_roundw
        case rel => exact ⟨i + 1, A1, m1, c1, A', m2 + 1, c', HNX.out, by first | rfl | (rw [HIW.out]) | go_num, rfl, rfl, HT2⟩
        case measure => have := HI.out; simp [intOf]; omega
    · have : i = n := by omega
      subst this
      have hT' := hT.out
      rw [HEND.out] at hT'
      obtain ⟨q1, q2, q3⟩ := HPUT.out wr _ _ _ _ _ _ hT'
      have HP := Lib.hid q3
      rw [HV.out] at q1
      have j1 : ¬ ((i : Int) < (i : Int)) := by omega
      clear hT' hT hi hin q3
      go_wp2
      go_ret
      exact ⟨_, _, _, rfl, HP.out.1, _, HP.out.2.1, HP.out.2.2⟩
end
end Go.Proofs.Ytlkoenlimdfifaa

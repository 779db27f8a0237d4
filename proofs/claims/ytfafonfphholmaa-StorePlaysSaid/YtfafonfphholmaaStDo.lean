/-
  What the acts of a store do, behind what speaks against them (the function literals of Append, Sync, Cut, Drop): contracts over the program.
-/
import Derived.Test.YtfafonfphholmaaStAct
import Derived.Deep.DeepCutAuto
namespace Go.Proofs.Ytfafonfphholmaa
open Go.RowKit Go.Maps

section
variable {w w1 w2 : World} {B p m : Nat} {L : List Ent} {fu : Bool} {lf : Int} {de : Bool}

/-- A new entry. -/
theorem StoreAt.ins (h : StoreAt w B p m L fu lf de) {e : Ent} (hn : ∀ x ∈ L, x.k.n ≠ e.k.n) (hc : Cont w1 B e) (hle : e.k.s ≤ e.k.xs.length) (hb1 : Below w.heap.size w w1) (hnew : ∀ k, e.foot k → w.heap.size ≤ k)
    (hm : w2.ownsMap Try.prog 3 ptr m (L.length + 1) ((DL L).put (.int .i64 e.k.n) (.lit (.int .i64 (e.b : Nat))))) (hg : w1.grownBy w2 (some m)) (hmany : L.length < 1099511627776) :
    StoreAt w2 B p m (insB (·.k.n) e L) fu lf de ∧ SC w w2 (Foot p m L) (Foot p m (insB (·.k.n) e L)) := by
  obtain ⟨hpm, hpe⟩ := h.p_ne
  have hme := h.m_ne
  have hlt := h.foot_lt
  have h1 := h.later hb1
  have t2 := Trn.of_grown hg
  have hme1 : ¬ e.foot m := fun hk => by have := hnew m hk; have := (hlt m (.inr (.inl rfl))).2; omega
  refine ⟨⟨t2.rowIs h1.row (by simp; exact fun e => hpm e.symm), ?_, ?_, ?_, ?_, h.gep, h.gem, h.left, ?_, ?_⟩, ?_, ?_⟩
  · rw [DL_put hn] at hm
    rw [length_insB]
    exact hm
  · intro x hx
    rcases mem_insB.1 hx with rfl | hx'
    · exact hc.kept t2 (fun k hk e1 => by cases e1; exact hme1 hk)
    · exact (h1.each x hx').kept t2 (fun k hk e1 => by cases e1; exact hme x hx' hk)
  · exact pairwise_insB h.rise hn (fun y _ hlt => hlt) (fun y _ hlt => hlt) h.rise
  · refine pairwise_insB h.apart hn (fun y hy _ k hk hk' => ?_) (fun y hy _ k hk hk' => ?_) h.rise
    · have := hnew k hk; have := ((h.each y hy).foot_lt k hk').2; omega
    · have := hnew k hk'; have := ((h.each y hy).foot_lt k hk).2; omega
  · rw [length_insB]; omega
  · intro x hx
    rcases mem_insB.1 hx with rfl | hx'
    · exact hle
    · exact h.sle x hx'
  · exact (Trn.of_below (F := fun _ => False) hb1).trans t2 (fun _ h => h.elim) (fun k _ hk => by cases hk; exact .inr (.inl rfl))
  · rintro k (rfl | rfl | ⟨x, hx, hk⟩)
    · exact .inl (.inl rfl)
    · exact .inl (.inr (.inl rfl))
    · rcases mem_insB.1 hx with rfl | hx'
      · exact .inr (hnew k hk)
      · exact .inl (.inr (.inr ⟨x, hx', hk⟩))

theorem StoreAt.sc_p (_h : StoreAt w B p m L fu lf de) (ht : Trn w w1 (fun k => k = p)) : SC w w1 (Foot p m L) (Foot p m L) := ⟨ht.mono (fun _ _ hk => .inl hk), fun _ h => .inl h⟩

theorem tight {n : Nat} {D : DataW Unit} (h : w.ownsMap Try.prog 3 ptr m n D) : w.ownsMap Try.prog 3 ptr m (Maps.size D) D := by
  obtain ⟨es, clock, hb, F, hs, rfl⟩ := h
  exact ⟨es, clock, hb, F, by simp [Maps.size, length_sorted], rfl⟩

/-- An entry that goes. -/
theorem StoreAt.gone (h : StoreAt w B p m L fu lf de) (n : Int) (hm : w1.ownsMap Try.prog 3 ptr m L.length ((DL L).del (.int .i64 n))) (hg : w.grownBy w1 (some m)) :
    StoreAt w1 B p m (L.filter fun e => decide (e.k.n ≠ n)) fu lf de ∧ SC w w1 (Foot p m L) (Foot p m (L.filter fun e => decide (e.k.n ≠ n))) := by
  obtain ⟨hpm, hpe⟩ := h.p_ne
  have hme := h.m_ne
  have t2 := Trn.of_grown hg
  rw [DL_del] at hm
  have hm' := tight hm
  rw [DL_size] at hm'
  have hmem : ∀ x, x ∈ (L.filter fun e => decide (e.k.n ≠ n)) → x ∈ L := fun x hx => (List.mem_filter.1 hx).1
  refine ⟨⟨t2.rowIs h.row (by simp; exact fun e => hpm e.symm), hm', fun x hx => ?_, h.rise.filter _, h.apart.filter _, h.gep, h.gem, h.left, Nat.le_trans (List.length_filter_le _ _) h.many, fun x hx => h.sle x (hmem x hx)⟩, ?_, ?_⟩
  · exact (h.each x (hmem x hx)).kept t2 (fun k hk e1 => by cases e1; exact hme x (hmem x hx) hk)
  · exact t2.mono (fun k _ hk => by cases hk; exact .inr (.inl rfl))
  · rintro k (rfl | rfl | ⟨x, hx, hk⟩)
    · exact .inl (.inl rfl)
    · exact .inl (.inr (.inl rfl))
    · exact .inl (.inr (.inr ⟨x, hmem x hx, hk⟩))

/-- The list with one entry turned. -/
def updE (n : Int) (e1 : Ent) (L : List Ent) : List Ent := L.map fun x => if x.k.n = n then e1 else x
theorem StoreAt.upd' (h : StoreAt w B p m L fu lf de) {e0 e1 : Ent} (he : e0 ∈ L) (hn : e1.k.n = e0.k.n) (hb : e1.b = e0.b) (hc : Cont w1 B e1) (hle : e1.k.s ≤ e1.k.xs.length) (ht : Trn w w1 e0.foot)
    (hf : ∀ g, e1.v.ownBlock = some g → e0.v.ownBlock = some g ∨ w.heap.size ≤ g) : StoreAt w1 B p m (updE e0.k.n e1 L) fu lf de ∧ SC w w1 (Foot p m L) (Foot p m (updE e0.k.n e1 L)) := h.upd he hn hb hc hle ht hf
theorem trn_drew {w w1 : World} {k : Nat} {F : Nat → Prop} (h : Trn (w.drewN k) w1 F) : Trn w w1 F := ⟨h.os, h.tape, h.output, h.size, h.block⟩

set_option maxRecDepth 10000 in
/-- Sync's. -/
theorem syncdo_any (h : StoreAt w B p m L fu lf de) (e : Ent) (he : e ∈ L) (q0 q1 : Nat) (h0 : w.cell? ⟨q0, 0, none⟩ = some (.pointer (some ⟨p, 0, none⟩))) (h1 : w.cell? ⟨q1, 0, none⟩ = some (.int .i64 e.k.n)) :
    Calls Try.prog 31 #[.pointer (some ⟨q0, 0, none⟩), .pointer (some ⟨q1, 0, none⟩)] w fun x w' => x = .returned (.tuple #[]) ∧ (StoreAt w' B p m (updE e.k.n e.settle L) fu lf de ∧ SC w w' (Foot p m L) (Foot p m (updE e.k.n e.settle L))) := by
  have s0 := h.s0
  have hl := look_some (h.drewN 1) he
  have hc := (h.drewN 1).each e he
  have HS := Lib.hid (settle_any hc)
  have H := Lib.hid h
  have HE := Lib.hid he
  obtain ⟨n, hn⟩ : ∃ n, e.k.n = n := ⟨_, rfl⟩
  obtain ⟨b, hb⟩ : ∃ b, e.b = b := ⟨_, rfl⟩
  have HN := Lib.hid hn
  have HB := Lib.hid hb
  rw [hn] at h1 hl ⊢
  rw [hb] at hl HS
  clear h he hc hn hb
  go_enter Try.func31, Try.ntmps31
  go_wp2_with fail
  refine still_tail 6 (by kernel_rfl) (by kernel_rfl) ?_
  intro W hW
  have d0 : W.cell? ⟨q0, 0, none⟩ = some (.pointer (some ⟨p, 0, none⟩)) := by rw [hW]; exact h0
  have d1 : W.cell? ⟨q1, 0, none⟩ = some (.int .i64 n) := by rw [hW]; exact h1
  have d2 : W.cell? ⟨p, 0, none⟩ = some (.map (some m)) := by rw [hW]; exact s0
  have d3 : (Instr.lookup 44 (.map (some m)) (.int .i64 n) false).run Try.prog W = .ok (.pointer (some ⟨b, 0, none⟩)) W := by rw [hW]; exact hl
  have HS2 : Hid (Calls Try.prog 32 #[.pointer (some ⟨b, 0, none⟩)] W fun x w' => x = .returned (.tuple #[]) ∧ Cont w' B e.settle ∧ Trn (w.drewN 1) w' fun k => k = b) := by
    rw [hW]; exact HS
  clear hW h0 h1 s0 hl HS
  simp only [List.take_succ_cons, List.take_zero, List.drop_succ_cons, List.drop_zero]
  repeat still_step
  refine wpStill_nil ?_
  go_wp2_with fail
  refine HS2.out.mono ?_
  rintro x w' ⟨rfl, hc, ht⟩
  have HC := Lib.hid hc
  have HT := Lib.hid ht
  clear hc ht
  go_wp2_with fail
  go_end0
  refine ⟨rfl, ?_⟩
  have := H.out.upd' HE.out (e1 := e.settle) rfl rfl HC.out (Nat.le_refl _) ((trn_drew HT.out).mono (fun k _ hk => .inl (hk.trans HB.out.symm))) (fun g hg => .inl hg)
  rw [HN.out] at this
  exact this

set_option maxRecDepth 10000 in
/-- Cut's. -/
theorem cutdo_any (h : StoreAt w B p m L fu lf de) (e : Ent) (he : e ∈ L) (j : Nat) (hj : j ≤ e.k.xs.length) (q0 q1 q2 : Nat) (h0 : w.cell? ⟨q0, 0, none⟩ = some (.pointer (some ⟨p, 0, none⟩))) (h1 : w.cell? ⟨q1, 0, none⟩ = some (.int .i64 e.k.n)) (h2 : w.cell? ⟨q2, 0, none⟩ = some (.int .i64 j)) :
    Calls Try.prog 34 #[.pointer (some ⟨q0, 0, none⟩), .pointer (some ⟨q1, 0, none⟩), .pointer (some ⟨q2, 0, none⟩)] w fun x w' => x = .returned (.tuple #[]) ∧ (StoreAt w' B p m (updE e.k.n (e.cut j) L) fu lf de ∧ SC w w' (Foot p m L) (Foot p m (updE e.k.n (e.cut j) L))) := by
  have s0 := h.s0
  have hl := look_some (h.drewN 1) he
  have hc := (h.drewN 1).each e he
  have HS := Lib.hid (cutc_any hc j hj)
  have H := Lib.hid h
  have HE := Lib.hid he
  have HJ := Lib.hid hj
  obtain ⟨n, hn⟩ : ∃ n, e.k.n = n := ⟨_, rfl⟩
  obtain ⟨b, hb⟩ : ∃ b, e.b = b := ⟨_, rfl⟩
  have HN := Lib.hid hn
  have HB := Lib.hid hb
  rw [hn] at h1 hl ⊢
  rw [hb] at hl HS
  clear h he hc hn hb hj
  go_enter Try.func34, Try.ntmps34
  go_wp2_with fail
  refine still_tail 7 (by kernel_rfl) (by kernel_rfl) ?_
  intro W hW
  have d0 : W.cell? ⟨q0, 0, none⟩ = some (.pointer (some ⟨p, 0, none⟩)) := by rw [hW]; exact h0
  have d1 : W.cell? ⟨q1, 0, none⟩ = some (.int .i64 n) := by rw [hW]; exact h1
  have d4 : W.cell? ⟨q2, 0, none⟩ = some (.int .i64 j) := by rw [hW]; exact h2
  have d2 : W.cell? ⟨p, 0, none⟩ = some (.map (some m)) := by rw [hW]; exact s0
  have d3 : (Instr.lookup 44 (.map (some m)) (.int .i64 n) false).run Try.prog W = .ok (.pointer (some ⟨b, 0, none⟩)) W := by rw [hW]; exact hl
  have HS2 : Hid (Calls Try.prog 35 #[.pointer (some ⟨b, 0, none⟩), .int .i64 j] W fun x w' => x = .returned (.tuple #[]) ∧ Cont w' B (e.cut j) ∧ Trn (w.drewN 1) w' fun k => k = b) := by
    rw [hW]; exact HS
  clear hW h0 h1 h2 s0 hl HS
  simp only [List.take_succ_cons, List.take_zero, List.drop_succ_cons, List.drop_zero]
  repeat still_step
  refine wpStill_nil ?_
  go_wp2_with fail
  refine HS2.out.mono ?_
  rintro x w' ⟨rfl, hc, ht⟩
  have HC := Lib.hid hc
  have HT := Lib.hid ht
  clear hc ht
  go_wp2_with fail
  go_end0
  refine ⟨rfl, ?_⟩
  have := H.out.upd' HE.out (e1 := e.cut j) rfl rfl HC.out (by have := HJ.out; simp [Ent.cut, Blk.cut]; omega) ((trn_drew HT.out).mono (fun k _ hk => .inl (hk.trans HB.out.symm))) (fun g hg => .inl (first_block hg))
  rw [HN.out] at this
  exact this

set_option maxRecDepth 10000 in
/-- Drop's. -/
theorem dropdo_any (h : StoreAt w B p m L fu lf de) (n : Int) (hn1 : -9223372036854775808 ≤ n) (hn2 : n ≤ 9223372036854775807) (q0 q1 : Nat) (h0 : w.cell? ⟨q0, 0, none⟩ = some (.pointer (some ⟨p, 0, none⟩))) (h1 : w.cell? ⟨q1, 0, none⟩ = some (.int .i64 n)) :
    Calls Try.prog 36 #[.pointer (some ⟨q0, 0, none⟩), .pointer (some ⟨q1, 0, none⟩)] w fun x w' => x = .returned (.tuple #[]) ∧ (StoreAt w' B p m (L.filter fun e => decide (e.k.n ≠ n)) fu lf de ∧ SC w w' (Foot p m L) (Foot p m (L.filter fun e => decide (e.k.n ≠ n)))) := by
  have s0 := h.s0
  have h' := h.drewN 1
  obtain ⟨w2, hrun, hm2, ht2⟩ := h'.map.drop keyI Try.underlying44 (keyN hn1 hn2) 0
  have HG := Lib.hid (h'.gone n hm2 ht2.grown)
  clear h h' hm2 ht2 hn1 hn2
  go_enter Try.func36, Try.ntmps36
  go_wp2_with fail
  refine still_tail 5 (by kernel_rfl) (by kernel_rfl) ?_
  intro W hW
  have d0 : W.cell? ⟨q0, 0, none⟩ = some (.pointer (some ⟨p, 0, none⟩)) := by rw [hW]; exact h0
  have d1 : W.cell? ⟨q1, 0, none⟩ = some (.int .i64 n) := by rw [hW]; exact h1
  have d2 : W.cell? ⟨p, 0, none⟩ = some (.map (some m)) := by rw [hW]; exact s0
  have d3 : (Builtin.delete_ #[44, 3] 0 #[.map (some m), .int .i64 n]).run Try.prog W = .ok (.tuple #[]) w2 := by rw [hW]; exact hrun
  clear hW h0 h1 s0 hrun
  simp only [List.take_succ_cons, List.take_zero, List.drop_succ_cons, List.drop_zero]
  repeat still_step
  refine wpStill_nil ?_
  go_wp2
  go_end0
  exact ⟨rfl, HG.out.1, ⟨trn_drew HG.out.2.trn, HG.out.2.sub⟩⟩
end
end Go.Proofs.Ytfafonfphholmaa

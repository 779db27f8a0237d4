/-
  Outbox · Plan · OutWrite.
-/
import Derived.Test.YtpjlnpnadkbakaaGreatRows
import Derived.Test.YtpjlnpnadkbakaaGreatQBRangesMath
import Derived.Test.YtpjlnpnadkbakaaGreatQBPair
import Derived.Test.YtpjlnpnadkbakaaGreatQBMem
import Derived.Test.YtpjlnpnadkbakaaGreatQBCopy
import Derived.Test.YtpjlnpnadkbakaaGreatQBQuad
import Derived.Deep.OwnRows
import Derived.Deep.QuietTactic
import Derived.Deep.RegionHeld3
import Derived.BigQuiet
import Derived.IntWalk
import Derived.Test.YtpjlnpnadkbakaaGreatQBSets
import Derived.OwnWalk
import Derived.Test.YtpjlnpnadkbakaaGreatQBFresh
import Derived.Lib.SliceRun
import Derived.StillTailTactics
namespace Go.Proofs.YtpjlnpnadkbakaaGreat
set_option maxRecDepth 10000
open Go.RowKit
abbrev tOut : TypeId := 145
def ouF (o : Ou) (v : Value) (i : Nat) : Value := if i = 0 then .int .i64 o.buf else if i = 1 then v else if i = 2 then .bool o.cl else .int .i64 o.ak
structure OutAt (w : World) (B p : Nat) (v : Value) (o : Ou) : Prop where
  row : w.rowIs p tOut 4 (ouF o v)
  own : Own .u8 5 w B v o.xs
  ge : B ≤ p
  ok : o.ok
def Oft (p : Nat) (v : Value) (k : Nat) : Prop := k = p ∨ v.ownBlock = some k
section
variable {w w' : World} {B p : Nat} {v : Value} {o : Ou} {F : Nat → Prop}
theorem OutAt.lt (h : OutAt w B p v o) : p < w.heap.size := h.row.lt
theorem OutAt.ne (h : OutAt w B p v o) : v.ownBlock ≠ some p := by
  rcases h.own.2 with ⟨hv, _⟩ | ⟨g, cap, cur, hv, _, hh, _⟩
  · rw [hv]; simp [Value.ownBlock]
  · rw [hv]
    intro he
    simp only [Value.ownBlock, Option.some.injEq] at he
    subst he
    obtain ⟨cur', hh', _⟩ := h.row
    rw [hh] at hh'
    injection hh' with hh'
    injection hh' with _ ht
    exact absurd ht (by decide)
theorem OutAt.kept (h : OutAt w B p v o) (ht : Trn w w' F) (hf : ∀ k, Oft p v k → ¬ F k) : OutAt w' B p v o :=
  ⟨ht.rowIs h.row (hf _ (.inl rfl)), ht.own h.own (fun g hg => hf g (.inr hg)), h.ge, h.ok⟩
theorem OutAt.later (h : OutAt w B p v o) (hb : Below w.heap.size w w') : OutAt w' B p v o := h.kept (Trn.of_below (F := fun _ => False) hb) (fun _ _ => id)
theorem OutAt.drewN (h : OutAt w B p v o) (n : Nat) : OutAt (w.drewN n) B p v o := h.later ⟨rfl, rfl, rfl, Nat.le_refl _, fun _ _ => rfl⟩
theorem OutAt.foot_lt (h : OutAt w B p v o) : ∀ k, Oft p v k → B ≤ k ∧ k < w.heap.size := by
  rintro k (rfl | hk)
  · exact ⟨h.ge, h.lt⟩
  · exact h.own.lt k hk
theorem OutAt.size (h : OutAt w B p v o) : B ≤ w.heap.size := Nat.le_trans h.ge (Nat.le_of_lt h.lt)
theorem sc_p (hg : w.grownBy w' (some p)) : SC w w' (Oft p v) (Oft p v) := ⟨(Trn.of_grown hg).mono (fun _ _ hk => .inl (Option.some.inj hk).symm), fun _ hk => .inl hk⟩
theorem OutAt.c0 (h : OutAt w B p v o) : w.cell? ⟨p, 0, none⟩ = some (.int .i64 o.buf) := World.rowIs.cell (i := 0) h.row (by omega)
theorem OutAt.c1 (h : OutAt w B p v o) : w.cell? ⟨p, 0 + 1, none⟩ = some v := World.rowIs.cell (i := 1) h.row (by omega)
theorem OutAt.c2 (h : OutAt w B p v o) : w.cell? ⟨p, 0 + 2, none⟩ = some (.bool o.cl) := World.rowIs.cell (i := 2) h.row (by omega)
theorem OutAt.c3 (h : OutAt w B p v o) : w.cell? ⟨p, 0 + 3, none⟩ = some (.int .i64 o.ak) := World.rowIs.cell (i := 3) h.row (by omega)
theorem OutAt.fr (h : OutAt w B p v o) (i : Nat) : w.frozen? ⟨p, i, none⟩ = false := World.rowIs.frozen h.row i
theorem OutAt.keepv (h : OutAt w B p v o) (a : Addr) (ha : a.block = p) (x : Value) : Own .u8 5 (w.setCell a x) B v o.xs := by
  obtain ⟨b, i, s⟩ := a
  simp only at ha
  subst ha
  cases s with
  | none => exact h.own.kept (setCell_one _ _ _ _) (.inr h.ne)
  | some s =>
    refine World.ownsRow.kept h.own (row := some b) ⟨rfl, rfl, rfl, by simp, fun k hk hne => heap_setCell_other _ _ _ _ (fun e => hne (by simp [e]))⟩ (.inr h.ne)
theorem OutAt.set2 (h : OutAt w B p v o) : OutAt (w.setCell ⟨p, 0 + 2, none⟩ (.bool true)) B p v o.shut :=
  ⟨(h.row.set 2 _).congr fun i hi => by
    have : i = 0 ∨ i = 1 ∨ i = 2 ∨ i = 3 := by omega
    rcases this with rfl | rfl | rfl | rfl <;> simp [ouF, Ou.shut], h.keepv _ rfl _, h.ge, Ou.shut_ok h.ok⟩
theorem OutAt.set3 (h : OutAt w B p v o) {n : Int} (hn : 0 ≤ n ∧ n ≤ o.places) : OutAt (w.setCell ⟨p, 0 + 3, none⟩ (.int .i64 (max o.ak n))) B p v (o.ack n) := by
  have hk := Ou.ack_ok h.ok n
  unfold Ou.ack at hk ⊢
  rw [if_pos hn] at hk ⊢
  exact ⟨(h.row.set 3 _).congr fun i hi => by
    have : i = 0 ∨ i = 1 ∨ i = 2 ∨ i = 3 := by omega
    rcases this with rfl | rfl | rfl | rfl <;> simp [ouF], h.keepv _ rfl _, h.ge, hk⟩
end
theorem newout_any (m : Int) (w : World) : Calls Tryz.prog 89 #[.int .i64 m] w fun e w' => e = .returned (.pointer (some ⟨w.heap.size, 0, none⟩)) ∧ OutAt w' w.heap.size w.heap.size (.slice none 0 0) (Ou.new m) ∧ Below w.heap.size w w' ∧ w'.heap.size = w.heap.size + 1 := by
  have hm := run_max2 m 1 _ rfl
  have hok := Ou.new_ok m
  unfold Ou.new at hok ⊢
  obtain ⟨M, hM⟩ : ∃ M, max m 1 = M := ⟨_, rfl⟩
  rw [hM] at hm hok ⊢
  have hn := run_min2 M 400 _ rfl
  obtain ⟨K, hK⟩ : ∃ K, min M 400 = K := ⟨_, rfl⟩
  rw [hK] at hn hok ⊢
  have HK := Lib.hid hok
  clear hM hK hok
  go_enter Tryz.func89, Tryz.ntmps89
  go_wp2
  go_ret
  refine ⟨rfl, ⟨?_, Own.nil _ _ _ _, Nat.le_refl _, HK.out⟩, (Below.refl _ _).alloc (Nat.le_refl _) _, by simp⟩
  exact World.rowIs_alloc w _ _ _ (fun i hi => by
    have : i < 4 := hi
    match i, this with
    | 0, _ | 1, _ | 2, _ | 3, _ => rfl)
section
variable {w : World} {B p : Nat} {v : Value} {o : Ou}
theorem closed_any (h : OutAt w B p v o) : Calls Tryz.prog 77 #[.pointer (some ⟨p, 0, none⟩)] w fun e w' => e = .returned (.bool o.cl) ∧ w = w' := by
  have c2 := h.c2
  clear h
  go_enter Tryz.func77, Tryz.ntmps77
  go_wp2
  go_ret
  exact ⟨rfl, rfl⟩
theorem acked_any (h : OutAt w B p v o) : Calls Tryz.prog 78 #[.pointer (some ⟨p, 0, none⟩)] w fun e w' => e = .returned (.int .i64 o.ak) ∧ w = w' := by
  have c3 := h.c3
  clear h
  go_enter Tryz.func78, Tryz.ntmps78
  go_wp2
  go_ret
  exact ⟨rfl, rfl⟩
theorem len_any (h : OutAt w B p v o) : Calls Tryz.prog 128 #[.pointer (some ⟨p, 0, none⟩)] w fun e w' => e = .returned (.int .i64 (o.xs.length : Int)) ∧ w = w' := by
  obtain ⟨A, c, hv⟩ := h.own.form
  have c1 := h.c1
  rw [hv] at c1
  obtain ⟨n, hn⟩ : ∃ n, o.xs.length = n := ⟨_, rfl⟩
  rw [hn] at c1 ⊢
  clear h hv hn
  go_enter Tryz.func128, Tryz.ntmps128
  go_wp2
  go_ret
  exact ⟨rfl, rfl⟩
theorem close_any (h : OutAt w B p v o) : Calls Tryz.prog 68 #[.pointer (some ⟨p, 0, none⟩)] w fun e w' => e = .returned (.bool (!o.cl)) ∧ OutAt w' B p v o.shut ∧ w.grownBy w' (some p) := by
  have c2 := h.c2
  have f2 := h.fr (0 + 2)
  have H := Lib.hid h
  clear h
  cases hc : o.cl
  · rw [hc] at c2
    have HC := Lib.hid hc
    clear hc
    go_enter Tryz.func68, Tryz.ntmps68
    go_wp2
    go_ret
    exact ⟨rfl, H.out.set2, setCell_one _ _ _ _⟩
  · rw [hc] at c2
    have e : o.shut = o := by obtain ⟨a, b, c, d⟩ := o; simp only at hc; subst hc; rfl
    have HE := Lib.hid e
    clear hc e
    go_enter Tryz.func68, Tryz.ntmps68
    go_wp2
    go_ret
    exact ⟨rfl, by rw [HE.out]; exact H.out, World.grownBy.refl _ _⟩
theorem places_any (h : OutAt w B p v o) : Calls Tryz.prog 79 #[.pointer (some ⟨p, 0, none⟩)] w fun e w' => e = .returned (.int .i64 o.places) ∧ w = w' := by
  obtain ⟨A, c, hv⟩ := h.own.form
  have c1 := h.c1
  have c2 := h.c2
  have hl := h.ok.l
  unfold Ou.places
  rw [hv] at c1
  obtain ⟨n, hn⟩ : ∃ n, o.xs.length = n := ⟨_, rfl⟩
  rw [hn] at c1 hl ⊢
  obtain ⟨k, hk⟩ : ∃ k, o.cl = k := ⟨_, rfl⟩
  rw [hk] at c2 ⊢
  clear h hv hn hk
  cases k
  · go_enter Tryz.func79, Tryz.ntmps79
    go_wp2
    go_ret
    exact ⟨ret_i (by simp), rfl⟩
  · go_enter Tryz.func79, Tryz.ntmps79
    go_wp2
    go_ret
    exact ⟨ret_i (by simp), rfl⟩
theorem open_any (h : OutAt w B p v o) (n : Int) : Calls Tryz.prog 221 #[.pointer (some ⟨p, 0, none⟩), .int .i64 n] w fun e w' => e = .returned (.int .i64 (o.till n)) ∧ w = w' := by
  obtain ⟨A, c, hv⟩ := h.own.form
  have c1 := h.c1
  rw [hv] at c1
  have HP := places_any h
  unfold Ou.till
  obtain ⟨l, hn⟩ : ∃ n, o.xs.length = n := ⟨_, rfl⟩
  rw [hn] at c1 ⊢
  obtain ⟨P, hP⟩ : ∃ P, o.places = P := ⟨_, rfl⟩
  rw [hP] at HP ⊢
  have HP' := Lib.hid HP
  have hm := run_max2 n 0 _ rfl
  obtain ⟨M, hM⟩ : ∃ M, max n 0 = M := ⟨_, rfl⟩
  rw [hM] at hm ⊢
  clear h hv hn hP hM HP
  by_cases hle : (l : Int) ≤ n
  · rw [if_pos hle]
    go_enter Tryz.func221, Tryz.ntmps221
    go_wp2_with fail
    refine HP'.out.mono ?_
    rintro e w' ⟨rfl, rfl⟩
    go_wp2
    go_ret
    exact ⟨rfl, rfl⟩
  · rw [if_neg hle]
    go_enter Tryz.func221, Tryz.ntmps221
    go_wp2
    go_ret
    exact ⟨rfl, rfl⟩
theorem ack_any (h : OutAt w B p v o) (n : Int) : Calls Tryz.prog 76 #[.pointer (some ⟨p, 0, none⟩), .int .i64 n] w fun e w' => e = .returned (.bool (o.may n)) ∧ OutAt w' B p v (o.ack n) ∧ w.grownBy w' (some p) := by
  have c3 := h.c3
  have f3 := h.fr (0 + 3)
  have HP := Lib.hid (places_any h)
  have H := Lib.hid h
  unfold Ou.may
  by_cases hn : 0 ≤ n ∧ n ≤ o.places
  · have H3 := Lib.hid (h.set3 hn)
    rw [decide_eq_true hn]
    obtain ⟨P, hP⟩ : ∃ P, o.places = P := ⟨_, rfl⟩
    rw [hP] at HP hn
    obtain ⟨k, hk⟩ : ∃ k, o.ak = k := ⟨_, rfl⟩
    rw [hk] at c3 H3
    have hm := run_max2 k n _ rfl
    obtain ⟨M, hM⟩ : ∃ M, max k n = M := ⟨_, rfl⟩
    rw [hM] at hm H3
    obtain ⟨n1, n2⟩ := hn
    have q1 : ¬ n < 0 := by omega
    have q2 : ¬ n > P := by omega
    clear h hP hk hM
    go_enter Tryz.func76, Tryz.ntmps76
    go_wp2_with fail
    refine HP.out.mono ?_
    rintro e w' ⟨rfl, rfl⟩
    go_wp2
    go_ret
    exact ⟨rfl, H3.out, setCell_one _ _ _ _⟩
  · rw [decide_eq_false hn]
    have he : o.ack n = o := by unfold Ou.ack; rw [if_neg hn]
    rw [he]
    have HN := Lib.hid hn
    clear he hn c3 f3
    by_cases q1 : n < 0
    · clear h
      go_enter Tryz.func76, Tryz.ntmps76
      go_wp2
      go_ret
      exact ⟨rfl, H.out, World.grownBy.refl _ _⟩
    · have q2 : n > o.places := by have := HN.out; omega
      obtain ⟨P, hP⟩ : ∃ P, o.places = P := ⟨_, rfl⟩
      rw [hP] at HP q2
      clear h hP
      go_enter Tryz.func76, Tryz.ntmps76
      go_wp2_with fail
      refine HP.out.mono ?_
      rintro e w' ⟨rfl, rfl⟩
      go_wp2
      go_ret
      exact ⟨rfl, H.out, World.grownBy.refl _ _⟩
set_option maxHeartbeats 1000000 in
theorem room_any (h : OutAt w B p v o) : Calls Tryz.prog 136 #[.pointer (some ⟨p, 0, none⟩)] w fun e w' => e = .returned (.int .i64 o.room) ∧ ∃ k, w' = w.drewN k := by
  obtain ⟨A, c, hv⟩ := h.own.form
  have c0 := h.c0
  have c1 := h.c1
  have c2 := h.c2
  have c3 := h.c3
  have l1 := h.ok.l
  have l2 := h.ok.w
  have l3 := h.ok.b2
  have l4 := Ou.places_range h.ok
  have l5 := h.ok.a2
  have l6 := h.ok.a1
  have l7 := h.ok.b1
  unfold Ou.room
  rw [hv] at c1
  obtain ⟨n, hn⟩ : ∃ n, o.xs.length = n := ⟨_, rfl⟩
  rw [hn] at c1 l1 l2 ⊢
  obtain ⟨b, hb⟩ : ∃ b, o.buf = b := ⟨_, rfl⟩
  rw [hb] at c0 l2 l3 l7 ⊢
  obtain ⟨k, hk⟩ : ∃ k, o.ak = k := ⟨_, rfl⟩
  rw [hk] at c3 l2 l5 l6 ⊢
  have hm := run_min2 (b - ((n : Int) - k)) (4096 - (n : Int)) _ rfl
  obtain ⟨M, hM⟩ : ∃ M, min (b - ((n : Int) - k)) (4096 - (n : Int)) = M := ⟨_, rfl⟩
  rw [hM] at hm ⊢
  obtain ⟨q, hq⟩ : ∃ q, o.cl = q := ⟨_, rfl⟩
  rw [hq] at c2 ⊢
  clear h hv hn hb hk hM hq
  cases q
  · go_enter Tryz.func136, Tryz.ntmps136
    go_wp2_with fail
    go_quiet (fail)
    go_wp2_with fail
    go_quiet (fail)
    go_wp2
    go_ret
    exact ⟨ret_i (by simp), _, rfl⟩
  · go_enter Tryz.func136, Tryz.ntmps136
    go_wp2
    go_ret
    exact ⟨ret_i (by simp), 0, rfl⟩
end
end Go.Proofs.YtpjlnpnadkbakaaGreat
namespace Go.Proofs.YtpjlnpnadkbakaaGreat
set_option maxRecDepth 10000
open Go.RowKit
abbrev tPlan : TypeId := 189
def plF (q : Nat) (s : Int) (i : Nat) : Value := if i = 0 then .pointer (some ⟨q, 0, none⟩) else .int .i64 s
structure PlanAt (w : World) (B p q : Nat) (v : Value) (P : Pl) : Prop where
  row : w.rowIs p tPlan 2 (plF q P.sent)
  set : SetAt w B q v P.ls
  ge : B ≤ p
  ok : P.ok
def Pft (p q : Nat) (v : Value) (k : Nat) : Prop := k = p ∨ k = q ∨ v.ownBlock = some k
section
variable {w w' : World} {B p q : Nat} {v v' : Value} {P : Pl} {F : Nat → Prop}
theorem PlanAt.lt (h : PlanAt w B p q v P) : p < w.heap.size := h.row.lt
theorem PlanAt.pq (h : PlanAt w B p q v P) : p ≠ q := row_ne h.row h.set.row (by decide)
theorem PlanAt.vp (h : PlanAt w B p q v P) : v.ownBlock ≠ some p := own_not_row h.set.own h.row (by decide)
theorem PlanAt.kept (h : PlanAt w B p q v P) (ht : Trn w w' F) (hf : ∀ k, Pft p q v k → ¬ F k) : PlanAt w' B p q v P :=
  ⟨ht.rowIs h.row (hf _ (.inl rfl)), h.set.trn ht (hf _ (.inr (.inl rfl))) (fun g hg => hf g (.inr (.inr hg))), h.ge, h.ok⟩
theorem PlanAt.later (h : PlanAt w B p q v P) (hb : Below w.heap.size w w') : PlanAt w' B p q v P := h.kept (Trn.of_below (F := fun _ => False) hb) (fun _ _ => id)
theorem PlanAt.drewN (h : PlanAt w B p q v P) (n : Nat) : PlanAt (w.drewN n) B p q v P := h.later ⟨rfl, rfl, rfl, Nat.le_refl _, fun _ _ => rfl⟩
theorem PlanAt.foot_lt (h : PlanAt w B p q v P) : ∀ k, Pft p q v k → B ≤ k ∧ k < w.heap.size := by
  rintro k (rfl | rfl | hk)
  · exact ⟨h.ge, h.lt⟩
  · exact ⟨h.set.ge, h.set.lt⟩
  · exact h.set.own.lt k hk
theorem PlanAt.size (h : PlanAt w B p q v P) : B ≤ w.heap.size := Nat.le_trans h.ge (Nat.le_of_lt h.lt)
theorem sc_chg (h : Chg w w' q v v') : SC w w' (Pft p q v) (Pft p q v') :=
  ⟨⟨h.os, h.tape, h.output, h.size, fun k hk hn => h.block k hk (fun e => hn (.inr (.inl e))) (fun e => hn (.inr (.inr e.symm)))⟩, by
    rintro k (rfl | rfl | hk)
    · exact .inl (.inl rfl)
    · exact .inl (.inr (.inl rfl))
    · exact (h.fresh k hk).imp (fun h => .inr (.inr h)) id⟩
theorem PlanAt.chg (h : PlanAt w B p q v P) {qs : List (Int × Int)} (hs : SetAt w' B q v' qs) (hc : Chg w w' q v v') (hk : (Pl.mk qs P.sent).ok) : PlanAt w' B p q v' ⟨qs, P.sent⟩ :=
  ⟨World.rowIs.of_block h.row (hc.block p h.lt h.pq (fun e => h.vp e.symm)), hs, h.ge, hk⟩
theorem PlanAt.c0 (h : PlanAt w B p q v P) : w.cell? ⟨p, 0, none⟩ = some (.pointer (some ⟨q, 0, none⟩)) := World.rowIs.cell (i := 0) h.row (by omega)
theorem PlanAt.c1 (h : PlanAt w B p q v P) : w.cell? ⟨p, 0 + 1, none⟩ = some (.int .i64 P.sent) := World.rowIs.cell (i := 1) h.row (by omega)
theorem PlanAt.fr (h : PlanAt w B p q v P) (i : Nat) : w.frozen? ⟨p, i, none⟩ = false := World.rowIs.frozen h.row i
theorem PlanAt.set1 (h : PlanAt w B p q v P) {s : Int} (hk : (Pl.mk P.ls s).ok) : PlanAt (w.setCell ⟨p, 0 + 1, none⟩ (.int .i64 s)) B p q v ⟨P.ls, s⟩ :=
  ⟨(h.row.set 1 _).congr fun i hi => by
    have : i = 0 ∨ i = 1 := by omega
    rcases this with rfl | rfl <;> simp [plF], h.set.trn (Trn.of_grown (setCell_one w p (0 + 1) _)) (fun e => h.pq (Option.some.inj e)) (fun g hg e => h.vp (by rw [hg]; exact e.symm)), h.ge, hk⟩
theorem sc_set1 (s : Value) : SC w (w.setCell ⟨p, 0 + 1, none⟩ s) (Pft p q v) (Pft p q v) := ⟨(Trn.of_grown (setCell_one w p (0 + 1) s)).mono (fun _ _ hk => .inl (Option.some.inj hk).symm), fun _ hk => .inl hk⟩
end
theorem newplan_any (w : World) : Calls Tryz.prog 90 #[] w fun e w' => e = .returned (.pointer (some ⟨w.heap.size + 1, 0, none⟩)) ∧ PlanAt w' w.heap.size (w.heap.size + 1) w.heap.size (.slice none 0 0) Pl.new ∧ Below w.heap.size w w' ∧ w'.heap.size = w.heap.size + 2 := by
  have HN := Lib.hid (newset_any w w.heap.size (Nat.le_refl _))
  obtain ⟨B, hB⟩ : ∃ B, w.heap.size = B := ⟨_, rfl⟩
  rw [hB] at HN ⊢
  clear hB
  go_enter Tryz.func90, Tryz.ntmps90
  go_wp2_with fail
  refine HN.out.mono ?_
  rintro e w1 ⟨rfl, hs, hb, hz⟩
  have HS := Lib.hid hs
  have HB := Lib.hid hb
  have HZ := Lib.hid hz
  clear hs hb hz HN
  go_wp2
  go_ret
  have hz := HZ.out
  refine ⟨by rw [hz]; rfl, ⟨?_, HS.out.alloc _, by omega, Pl.new_ok⟩, HB.out.alloc (by omega) _, by simp [hz]⟩
  rw [← hz]
  exact World.rowIs_alloc w1 _ _ _ (fun i hi => by
    have : i < 2 := hi
    match i, this with
    | 0, _ | 1, _ => rfl)
theorem quiet_eq' {P : Program} {f : Nat} {args : Array Value} {w : World} {n : Nat} {v : Value} (h : Calls P f args (w.drewN n) fun e w' => e = .returned v ∧ w.drewN n = w') :
    Calls P f args (w.drewN n) fun e w'' => e = .returned v ∧ ∃ m, w'' = w.drewN m := Calls.quiet_of_same (h.mono fun _ _ ⟨h1, h2⟩ => ⟨h1, h2.symm⟩)
section
variable {w : World} {B p q : Nat} {v : Value} {P : Pl} {B' po : Nat} {vo : Value} {o : Ou}
theorem sent_any (h : PlanAt w B p q v P) : Calls Tryz.prog 131 #[.pointer (some ⟨p, 0, none⟩)] w fun e w' => e = .returned (.int .i64 P.sent) ∧ w = w' := by
  have c1 := h.c1
  clear h
  go_enter Tryz.func131, Tryz.ntmps131
  go_wp2
  go_ret
  exact ⟨rfl, rfl⟩
theorem lost_any (h : PlanAt w B p q v P) (f t : Int) : Calls Tryz.prog 160 #[.pointer (some ⟨p, 0, none⟩), .int .i64 f, .int .i64 t] w fun e w' => e = .returned (.tuple #[]) ∧ ∃ v', PlanAt w' B p q v' (P.lost f t) ∧ SC w w' (Pft p q v) (Pft p q v') := by
  have hA : ∀ W, W = w.drew → Calls Tryz.prog 154 #[.pointer (some ⟨q, 0, none⟩), .int .i64 f, .int .i64 (min t P.sent)] W fun e w' => e = .returned (.tuple #[]) ∧ ∃ v', PlanAt w' B p q v' (P.lost f t) ∧ SC w w' (Pft p q v) (Pft p q v') := by
    intro W hW
    have hX : PlanAt W B p q v P := by rw [hW]; exact h.drewN 1
    have hgw : SC w W (Pft p q v) (Pft p q v) := by rw [hW]; exact SC.of_below ⟨rfl, rfl, rfl, Nat.le_refl _, fun _ _ => rfl⟩
    refine (add_any q v P.ls B f (min t P.sent) W hX.set hX.set.norm.len hX.size).mono ?_
    rintro e w' ⟨rfl, v', qs, h1, h2, h3, _⟩
    have hN := addN_norm h.ok.norm f (min t P.sent)
    have : qs = addN P.ls f (min t P.sent) := Norm.ext h1.norm hN.1 (fun k => by rw [h3 k, hN.2 k])
    subst this
    exact ⟨rfl, v', hX.chg h1 h2 (Pl.lost_ok h.ok f t), hgw.trans (sc_chg h2)⟩
  have HA := Lib.hid hA
  have c0 := h.c0
  have c1 := h.c1
  clear hA h
  have hm := run_min2 t P.sent _ rfl
  obtain ⟨M, hM⟩ : ∃ M, min t P.sent = M := ⟨_, rfl⟩
  obtain ⟨s, hs⟩ : ∃ s, P.sent = s := ⟨_, rfl⟩
  rw [hM] at hm HA
  rw [hs] at c1 hm
  clear hM hs
  go_enter Tryz.func160, Tryz.ntmps160
  go_wp2_with fail
  refine still_tail 11 (by kernel_rfl) (by kernel_rfl) ?_
  intro W hW
  have d0 : W.cell? ⟨p, 0, none⟩ = some (.pointer (some ⟨q, 0, none⟩)) := by rw [hW]; exact c0
  have d1 : W.cell? ⟨p, 0 + 1, none⟩ = some (.int .i64 s) := by rw [hW]; exact c1
  have HA2 := Lib.hid (HA.out W hW)
  clear hW HA c0 c1
  simp only [List.take_succ_cons, List.take_zero, List.drop_succ_cons, List.drop_zero]
  repeat still_step
  refine wpStill_nil ?_
  go_wp2_with fail
  refine HA2.out.mono ?_
  rintro e w' ⟨rfl, v', h1, h2⟩
  have H1 := Lib.hid h1
  have H2 := Lib.hid h2
  clear h1 h2
  go_wp2
  go_end0
  exact ⟨rfl, v', H1.out, H2.out⟩
theorem reach_any (h : OutAt w B p v o) (f t c : Int) (hf : 0 ≤ f ∧ f ≤ 1099511627776) (hc : 1 ≤ c ∧ c ≤ 64) : Calls Tryz.prog 220 #[.pointer (some ⟨p, 0, none⟩), .int .i64 f, .int .i64 t, .int .i64 c] w fun e w' => e = .returned (.int .i64 (reachI o f t c)) ∧ w = w' := by
  have HL := Lib.hid (len_any h)
  have HC := Lib.hid (closed_any h)
  have hl := h.ok.l
  unfold reachI
  obtain ⟨n, hn⟩ : ∃ n, o.xs.length = n := ⟨_, rfl⟩
  rw [hn] at HL hl ⊢
  obtain ⟨k, hk⟩ : ∃ k, o.cl = k := ⟨_, rfl⟩
  rw [hk] at HC ⊢
  clear h hn hk
  have hm1 := run_min2 (f + c) t _ rfl
  have hm2 := run_min2 (f + c + 1) t _ rfl
  obtain ⟨M1, hM1⟩ : ∃ M, min (f + c) t = M := ⟨_, rfl⟩
  obtain ⟨M2, hM2⟩ : ∃ M, min (f + c + 1) t = M := ⟨_, rfl⟩
  have hw1 : wrap64 (f + c) = f + c := by unfold wrap64; omega
  have hw2 : wrap64 (f + c + 1) = f + c + 1 := by unfold wrap64; omega
  obtain ⟨r, hr⟩ : ∃ r, min (if k = true ∧ f ≤ (n : Int) ∧ (n : Int) ≤ f + c then f + c + 1 else f + c) t = r := ⟨_, rfl⟩
  rw [hr]
  have hr1 : ¬ (k = true ∧ f ≤ (n : Int) ∧ (n : Int) ≤ f + c) → r = M1 := fun h => by rw [← hr, if_neg h, hM1]
  have hr2 : (k = true ∧ f ≤ (n : Int) ∧ (n : Int) ≤ f + c) → r = M2 := fun h => by rw [← hr, if_pos h, hM2]
  rw [hM1] at hm1
  rw [hM2] at hm2
  obtain ⟨g, hg⟩ : ∃ g, f + c = g := ⟨_, rfl⟩
  rw [hg] at hm1 hm2 hw1 hw2 hr1 hr2
  have HR1 := Lib.hid hr1
  have HR2 := Lib.hid hr2
  have hg1 : g ≤ 1099511627840 ∧ 0 ≤ g := by omega
  have HG := Lib.hid hg
  clear hr1 hr2 hr hM1 hM2
  cases k
  · go_enter Tryz.func220, Tryz.ntmps220
    go_wp2_with fail
    refine HL.out.mono ?_
    rintro e w' ⟨rfl, rfl⟩
    go_wp2_with fail
    refine HC.out.mono ?_
    rintro e w' ⟨rfl, rfl⟩
    go_wp2
    go_ret
    exact ⟨ret_i (HR1.out (by simp)).symm, rfl⟩
  · by_cases h1 : f ≤ (n : Int)
    · by_cases h2 : (n : Int) ≤ g
      · go_enter Tryz.func220, Tryz.ntmps220
        go_wp2_with fail
        refine HL.out.mono ?_
        rintro e w' ⟨rfl, rfl⟩
        go_wp2_with fail
        refine HC.out.mono ?_
        rintro e w' ⟨rfl, rfl⟩
        go_wp2
        go_ret
        exact ⟨ret_i (HR2.out (by simp; omega)).symm, rfl⟩
      · go_enter Tryz.func220, Tryz.ntmps220
        go_wp2_with fail
        refine HL.out.mono ?_
        rintro e w' ⟨rfl, rfl⟩
        go_wp2_with fail
        refine HC.out.mono ?_
        rintro e w' ⟨rfl, rfl⟩
        go_wp2
        go_ret
        exact ⟨ret_i (HR1.out (by simp; omega)).symm, rfl⟩
    · go_enter Tryz.func220, Tryz.ntmps220
      go_wp2_with fail
      refine HL.out.mono ?_
      rintro e w' ⟨rfl, rfl⟩
      go_wp2_with fail
      refine HC.out.mono ?_
      rintro e w' ⟨rfl, rfl⟩
      go_wp2
      go_ret
      exact ⟨ret_i (HR1.out (by simp; omega)).symm, rfl⟩
def NextEnd (w : World) (B p q : Nat) (v : Value) (x : Nx) (e : Ending) (w' : World) : Prop :=
  e = .returned (.tuple #[.int .i64 x.f, .int .i64 x.t, .bool x.ok]) ∧ ∃ v', PlanAt w' B p q v' x.p ∧ SC w w' (Pft p q v) (Pft p q v')
set_option maxHeartbeats 1000000 in
theorem next_any (h : PlanAt w B p q v P) (ho : OutAt w B' po vo o) (hd : ∀ k, Oft po vo k → ¬ Pft p q v k) (l c : Int) :
    Calls Tryz.prog 142 #[.pointer (some ⟨p, 0, none⟩), .pointer (some ⟨po, 0, none⟩), .int .i64 l, .int .i64 c] w (NextEnd w B p q v (P.next o l c)) := by
  have hm1 := run_max2 c 1 _ rfl
  obtain ⟨M, hM⟩ : ∃ M, max c 1 = M := ⟨_, rfl⟩
  have hm2 := run_min2 M 64 (chk c) (by unfold chk; rw [hM])
  rw [hM] at hm1
  clear hM
  have hcr := Pl.chk_range c
  have hCUT : ∀ W, W = w.drew → Calls Tryz.prog 218 #[.pointer (some ⟨q, 0, none⟩), .int .i64 0, .int .i64 o.ak] W fun e w' => e = .returned (.tuple #[]) ∧ ∃ v', PlanAt w' B p q v' ⟨cutN P.ls 0 o.ak, P.sent⟩ ∧ OutAt w' B' po vo o ∧ SC w w' (Pft p q v) (Pft p q v') ∧ (∀ k, Oft po vo k → ¬ Pft p q v' k) := by
    intro W hW
    have hX : PlanAt W B p q v P := by rw [hW]; exact h.drewN 1
    have hO : OutAt W B' po vo o := by rw [hW]; exact ho.drewN 1
    have hgw : SC w W (Pft p q v) (Pft p q v) := by rw [hW]; exact SC.of_below ⟨rfl, rfl, rfl, Nat.le_refl _, fun _ _ => rfl⟩
    refine (setcut_any q v P.ls B 0 o.ak W hX.set hX.set.norm.len hX.size).mono ?_
    rintro e w' ⟨rfl, v', qs, h1, h2, h3, _⟩
    have hN := cutN_norm h.ok.norm 0 o.ak
    have : qs = cutN P.ls 0 o.ak := Norm.ext h1.norm hN.1 (fun k => by rw [h3 k, hN.2 k])
    subst this
    have hsc := sc_chg (p := p) h2
    exact ⟨rfl, v', hX.chg h1 h2 (Pl.cut_ok h.ok 0 o.ak), hO.kept hsc.trn hd, hgw.trans hsc, fun k hk => hsc.out (hO.foot_lt k hk).2 (hd k hk)⟩
  have HCUT := Lib.hid hCUT
  have HACK := Lib.hid (show ∀ W, W = w.drew → Calls Tryz.prog 78 #[.pointer (some ⟨po, 0, none⟩)] W fun e w' => e = .returned (.int .i64 o.ak) ∧ w' = W from fun W hW => by
    rw [hW]
    exact (acked_any (ho.drewN 1)).mono fun _ _ h => ⟨h.1, h.2.symm⟩)
  have c0 := h.c0
  have HOK := Lib.hid h.ok
  have HOO := Lib.hid ho.ok
  clear hCUT h ho hd
  obtain ⟨ak, hak⟩ : ∃ ak, o.ak = ak := ⟨_, rfl⟩
  unfold Pl.next
  rw [hak] at HCUT HACK ⊢
  have HAK := Lib.hid hak
  clear hak
  obtain ⟨C, hC⟩ : ∃ C, chk c = C := ⟨_, rfl⟩
  rw [hC] at hm2 hcr ⊢
  clear hC
  obtain ⟨L, hL⟩ : ∃ L, cutN P.ls 0 ak = L := ⟨_, rfl⟩
  rw [hL] at HCUT ⊢
  have hLok : (Pl.mk L P.sent).ok := by rw [← hL, ← HAK.out]; exact Pl.cut_ok HOK.out 0 o.ak
  have HLOK := Lib.hid hLok
  clear hL hLok
  obtain ⟨T, hT⟩ : ∃ T, o.till l = T := ⟨_, rfl⟩
  have HT := Lib.hid hT
  rw [hT]
  clear hT
  obtain ⟨X, hX⟩ : ∃ X, Pl.step L P.sent T C o = X := ⟨_, rfl⟩
  rw [hX]
  have HX := Lib.hid hX
  clear hX
  rcases L with _ | ⟨q0, qs⟩
  all_goals
    go_enter Tryz.func142, Tryz.ntmps142
    go_wp2_with fail
    refine still_tail 6 (by kernel_rfl) (by kernel_rfl) ?_
    intro W hW
    have d0 : W.cell? ⟨p, 0, none⟩ = some (.pointer (some ⟨q, 0, none⟩)) := by rw [hW]; exact c0
    have HC2 := Lib.hid (HCUT.out W hW)
    have HA2 := Lib.hid (HACK.out W hW)
    clear hW HCUT HACK c0
    simp only [List.take_succ_cons, List.take_zero, List.drop_succ_cons, List.drop_zero]
    still_step
    still_step
    still_step
    still_step
    still_step
    still_call HA2.out
    refine wpStill_nil ?_
    go_wp2_with fail
    refine HC2.out.mono ?_
    rintro e w1 ⟨rfl, v1, h1, o1, s1, x1⟩
    have e0 := h1.c0
    have e1 := h1.c1
    have H1 := Lib.hid h1
    have O1 := Lib.hid o1
    have S1 := Lib.hid s1
    have X1 := Lib.hid x1
    clear h1 o1 s1 x1 HA2 HC2 d0
    go_wp2_with fail
  · refine (first_none q v1 B w1 H1.out.set).mono ?_
    rintro e w2 ⟨rfl, b2⟩
    have h2 := H1.out.later b2
    have o2 := O1.out.later b2
    have H2 := Lib.hid h2
    have O2 := Lib.hid o2
    have S2 := Lib.hid (S1.out.trans (SC.of_below b2))
    clear b2 h2 o2 e0 e1 H1 O1 S1
    go_wp2_with fail
    have b3 : Below w2.heap.size w2 (w2.alloc (.cells #[.int .i64 0, .int .i64 0] 143)) := (Below.refl _ _).alloc (Nat.le_refl _) _
    have h3 := H2.out.later b3
    have o3 := O2.out.later b3
    have s3 := S2.out.trans (SC.of_below b3)
    obtain ⟨W3, hW3⟩ : ∃ W, (w2.alloc (.cells #[.int .i64 0, .int .i64 0] 143)) = W := ⟨_, rfl⟩
    rw [hW3] at h3 o3 s3 ⊢
    have f1 := h3.c1
    have HOP := Lib.hid (show ∀ n, Calls Tryz.prog 221 #[.pointer (some ⟨po, 0, none⟩), .int .i64 l] (W3.drewN n) fun e w' => e = .returned (.int .i64 T) ∧ W3.drewN n = w' from fun n => by
      rw [← HT.out]
      exact open_any (o3.drewN n) l)
    have H3 := Lib.hid h3
    have O3 := Lib.hid o3
    have S3 := Lib.hid s3
    clear b3 hW3 h3 o3 s3 H2 O2 S2
    go_quiet ((go_at_call 221; exact quiet_eq' (HOP.out _)))
    obtain ⟨s, hs⟩ : ∃ s, P.sent = s := ⟨_, rfl⟩
    have hT := Pl.till_range HOO.out l
    have hs0 := HOK.out.s0
    have hs1 := HOK.out.s1
    rw [HT.out] at hT
    rw [hs] at hs0 hs1 f1 HX H3 HLOK ⊢
    have hXX := HX.out
    unfold Pl.step at hXX
    by_cases hlt : s < T
    · have hr := Pl.reach_range o hcr.1 hlt
      rw [if_pos hlt] at hXX
      go_wp2_with fail
      refine (reach_any (O3.out.drewN _) s T C ⟨hs0, by omega⟩ hcr).mono ?_
      obtain ⟨r, hrr⟩ : ∃ r, reachI o s T C = r := ⟨_, rfl⟩
      rw [hrr] at hr hXX ⊢
      rintro e w' ⟨rfl, rfl⟩
      have hok : (Pl.mk [] r).ok := ⟨Norm.nil, by simp only []; omega, by simp only []; omega, fun k h => absurd h (ins_nil _)⟩
      have h4 := (H3.out.drewN nq).set1 hok
      have s4 := S3.out.trans ((SC.of_below ⟨rfl, rfl, rfl, Nat.le_refl _, fun _ _ => rfl⟩ : SC W3 (W3.drewN nq) (Pft p q v1) (Pft p q v1)).trans (sc_set1 (.int .i64 r)))
      have H4 := Lib.hid h4
      have S4 := Lib.hid s4
      have f4 := H3.out.fr (0 + 1)
      have HXX := Lib.hid hXX
      clear h4 s4 hXX
      go_wp2_with fail
      go_quiet (fail)
      go_wp2
      go_ret3
      rw [← HXX.out]
      exact ⟨rfl, v1, H4.out.drewN _, S4.out.trans (SC.of_below ⟨rfl, rfl, rfl, Nat.le_refl _, fun _ _ => rfl⟩)⟩
    · rw [if_neg hlt] at hXX
      have HXX := Lib.hid hXX
      clear hXX
      go_wp2
      go_ret3
      rw [← HXX.out]
      exact ⟨rfl, v1, H3.out.drewN _, S3.out.trans (SC.of_below ⟨rfl, rfl, rfl, Nat.le_refl _, fun _ _ => rfl⟩)⟩
  · refine (first_some q v1 q0 qs B w1 H1.out.set).mono ?_
    rintro e w2 ⟨rfl, b2⟩
    have h2 := H1.out.later b2
    have o2 := O1.out.later b2
    have H2 := Lib.hid h2
    have O2 := Lib.hid o2
    have S2 := Lib.hid (S1.out.trans (SC.of_below b2))
    clear b2 h2 o2 e0 e1 H1 O1 S1
    obtain ⟨f0, t0⟩ := q0
    have hm := Pl.mem_range HLOK.out List.mem_cons_self
    have hs1 := HOK.out.s1
    simp only [] at hm ⊢
    go_wp2_with fail
    have b3 : Below w2.heap.size w2 (w2.alloc (.cells #[.int .i64 f0, .int .i64 t0] 143)) := (Below.refl _ _).alloc (Nat.le_refl _) _
    have h3 := H2.out.later b3
    have o3 := O2.out.later b3
    have s3 := S2.out.trans (SC.of_below b3)
    have k0 : (w2.alloc (.cells #[.int .i64 f0, .int .i64 t0] 143)).cell? ⟨w2.heap.size, 0, none⟩ = some (.int .i64 f0) := by go_simp
    have k1 : (w2.alloc (.cells #[.int .i64 f0, .int .i64 t0] 143)).cell? ⟨w2.heap.size, 1, none⟩ = some (.int .i64 t0) := by go_simp
    have hbx : ∀ k, Pft p q v1 k → k ≠ w2.heap.size := fun k hk => by have := (H2.out.foot_lt k hk).2; omega
    have hsz : (w2.alloc (.cells #[.int .i64 f0, .int .i64 t0] 143)).heap.size = w2.heap.size + 1 := by simp
    obtain ⟨W3, hW3⟩ : ∃ W, (w2.alloc (.cells #[.int .i64 f0, .int .i64 t0] 143)) = W := ⟨_, rfl⟩
    rw [hW3] at h3 o3 s3 k0 k1 hsz ⊢
    obtain ⟨bx, hbx'⟩ : ∃ b, w2.heap.size = b := ⟨_, rfl⟩
    rw [hbx'] at k0 k1 hbx hsz ⊢
    have H3 := Lib.hid h3
    have O3 := Lib.hid o3
    have S3 := Lib.hid s3
    have HBX := Lib.hid hbx
    have HSZ := Lib.hid hsz
    clear b3 hW3 h3 o3 s3 H2 O2 S2 hbx hbx' hsz
    have hr := Pl.reach_range o hcr.1 hm.2.1
    refine (reach_any O3.out f0 t0 C ⟨by omega, by omega⟩ hcr).mono ?_
    have hXX := HX.out
    unfold Pl.step at hXX
    simp only [] at hXX
    obtain ⟨r, hrr⟩ : ∃ r, reachI o f0 t0 C = r := ⟨_, rfl⟩
    rw [hrr] at hr hXX ⊢
    have HXX := Lib.hid hXX
    clear hXX HX hrr
    rintro e w' ⟨rfl, rfl⟩
    obtain ⟨s, hs⟩ : ∃ s, P.sent = s := ⟨_, rfl⟩
    rw [hs] at H3 HLOK HXX
    have hCUT : ∀ W, W = W3.drew → Calls Tryz.prog 218 #[.pointer (some ⟨q, 0, none⟩), .int .i64 f0, .int .i64 r] W fun e w' => e = .returned (.tuple #[]) ∧ ∃ v', PlanAt w' B p q v' ⟨cutN ((f0, t0) :: qs) f0 r, s⟩ ∧ SC w w' (Pft p q v) (Pft p q v') ∧ w'.cell? ⟨bx, 0, none⟩ = some (.int .i64 f0) := by
      intro W hW
      have hX : PlanAt W B p q v1 ⟨(f0, t0) :: qs, s⟩ := by rw [hW]; exact H3.out.drewN 1
      have hgw : SC W3 W (Pft p q v1) (Pft p q v1) := by rw [hW]; exact SC.of_below ⟨rfl, rfl, rfl, Nat.le_refl _, fun _ _ => rfl⟩
      refine (setcut_any q v1 _ B f0 r W hX.set hX.set.norm.len hX.size).mono ?_
      rintro e w' ⟨rfl, v', qs', h1, h2, h3, _⟩
      have hN := cutN_norm HLOK.out.norm f0 r
      have : qs' = cutN ((f0, t0) :: qs) f0 r := Norm.ext h1.norm hN.1 (fun k => by rw [h3 k, hN.2 k])
      subst this
      have hsc := sc_chg (p := p) h2
      refine ⟨rfl, v', hX.chg h1 h2 (Pl.cut_ok HLOK.out f0 r), S3.out.trans (hgw.trans hsc), ?_⟩
      have hc : W.cell? ⟨bx, 0, none⟩ = some (.int .i64 f0) := by rw [hW]; exact k0
      rw [← hc]
      exact World.cell?_of_block (hsc.trn.block bx (by rw [hW]; show bx < W3.heap.size; have := HSZ.out; omega) (fun e => HBX.out _ e rfl))
    have HCUT := Lib.hid hCUT
    have c3 := H3.out.c0
    clear hCUT
    go_wp2_with fail
    refine still_tail 7 (by kernel_rfl) (by kernel_rfl) ?_
    intro W hW
    have d0 : W.cell? ⟨p, 0, none⟩ = some (.pointer (some ⟨q, 0, none⟩)) := by rw [hW]; exact c3
    have d1 : W.cell? ⟨bx, 0, none⟩ = some (.int .i64 f0) := by rw [hW]; exact k0
    have HC2 := Lib.hid (HCUT.out W hW)
    clear hW HCUT c3 k0 k1
    simp only [List.take_succ_cons, List.take_zero, List.drop_succ_cons, List.drop_zero]
    repeat still_step
    refine wpStill_nil ?_
    go_wp2_with fail
    refine HC2.out.mono ?_
    rintro e w4 ⟨rfl, v2, h4, s4, k4⟩
    have H4 := Lib.hid h4
    have S4 := Lib.hid s4
    clear h4 s4 HC2 d0 d1
    go_wp2
    go_ret3
    rw [← HXX.out]
    exact ⟨rfl, v2, H4.out, S4.out⟩
end
end Go.Proofs.YtpjlnpnadkbakaaGreat
namespace Go.Proofs.YtpjlnpnadkbakaaGreat
set_option maxRecDepth 10000
open Go.RowKit
section
variable {w : World} {B p : Nat} {v : Value} {o : Ou}
theorem slice_h (A : Option Addr) (n c b : Nat) (hb : b ≤ c) (W : World) : (Instr.sliceAt 29 (.slice A n c) none (some (.int .i64 (b : Nat))) none).run Tryz.prog W = .ok (.slice A b c) W := by
  rw [run_sliceAt_slice _ _ _ _ _ _ Tryz.underlying29, run_slice_h (P := Tryz.prog) W 29 A n c Tryz.underlying29 .i64 (b : Int) (by omega) (by omega)]
  go_simp
def WriteEnd (w : World) (B p : Nat) (v : Value) (o : Ou) (k : Nat) (ys : List Int) (e : Ending) (w' : World) : Prop :=
  ∃ v', e = .returned (.int .i64 (k : Int)) ∧ OutAt w' B p v' (o.more (ys.take k)) ∧ SC w w' (Oft p v) (Oft p v')
set_option maxHeartbeats 1000000 in
theorem write_any (h : OutAt w B p v o) (A : Option Addr) (m c : Nat) (ys : List Int) (hm : ys.length = m) (hr : Rd .u8 w A ys) (hle : m ≤ c) (hm2 : m ≤ 9223372036854775807) (k : Nat) (hk : (k : Int) = min (m : Int) o.room) :
    Calls Tryz.prog 64 #[.pointer (some ⟨p, 0, none⟩), .slice A m c] w (WriteEnd w B p v o k ys) := by
  obtain ⟨A1, c1', hv⟩ := h.own.form
  have HR := Lib.hid (room_any h)
  have hrr := Ou.room_range h.ok
  have hmin := run_min2 (m : Int) o.room (k : Int) hk
  have hkr : (k : Int) ≤ o.room := by omega
  obtain ⟨R, hR⟩ : ∃ R, o.room = R := ⟨_, rfl⟩
  have hmo := Ou.more_ok h.ok (ys := ys.take k) (by rw [List.length_take]; omega)
  rw [hR] at HR hmin
  have hkm : k ≤ m := by omega
  have hk4 : k ≤ 401 := by omega
  have hsl := slice_h A m c k (by omega)
  have hlt : (ys.take k).length = k := by rw [List.length_take]; omega
  have hl := h.ok.l
  obtain ⟨n, hn⟩ : ∃ n, o.xs.length = n := ⟨_, rfl⟩
  have H := Lib.hid h
  have HRD := Lib.hid (hr.take k)
  have HLT := Lib.hid hlt
  have HMO := Lib.hid hmo
  have HN := Lib.hid hn
  have HV := Lib.hid hv
  rw [hn] at hl hv
  clear h hr hm hrr hk hR hmo hlt hn hkr
  go_enter Tryz.func64, Tryz.ntmps64
  go_wp2_with fail
  refine HR.out.mono ?_
  rintro e w' ⟨rfl, k0, rfl⟩
  go_wp2_with fail
  obtain ⟨W, hW⟩ : ∃ W, (w.drewN k0).drew = W := ⟨_, rfl⟩
  have hX : OutAt W B p v o := by rw [← hW]; exact (H.out.drewN k0).drewN 1
  have hrd : Rd .u8 W A (ys.take k) := by rw [← hW]; exact HRD.out
  have hgw : SC w W (Oft p v) (Oft p v) := by rw [← hW]; exact SC.of_below ⟨rfl, rfl, rfl, Nat.le_refl _, fun _ _ => rfl⟩
  have d1 := hX.c1
  have ho := hX.own
  rw [hv] at d1 ho
  obtain ⟨A', c', w', hrun, ho', hg', hb'⟩ := run_append_f (P := Tryz.prog) W .u8 29 29 5 (.int .u8 0) 1 Tryz.underlying29 info_byte rfl B (.slice A1 n c1') o.xs ho A k c (ys.take k) HLT.out hrd (by rw [HN.out]; unfold maxLen; omega) (by rw [HN.out]; omega) hX.size
  rw [HN.out] at hrun ho' hb'
  have hne : (Value.slice A1 n c1').ownBlock ≠ some p := by rw [← hv]; exact hX.ne
  have f1 : w'.frozen? ⟨p, 0 + 1, none⟩ = false := by
    rw [World.frozen?_of_block (hg'.block p hX.lt (fun e => hne e.symm))]
    exact hX.fr _
  have y1 := hg'.cell d1 (fun e => hne e.symm)
  have hnew : OutAt (w'.setCell ⟨p, 0 + 1, none⟩ (.slice A' (n + k) c')) B p (.slice A' (n + k) c') (o.more (ys.take k)) ∧ SC W (w'.setCell ⟨p, 0 + 1, none⟩ (.slice A' (n + k) c')) (Oft p v) (Oft p (.slice A' (n + k) c')) := by
    have ht : Trn W w' (fun k => (Value.slice A1 n c1').ownBlock = some k) := Trn.of_grown hg'
    have hrow := ht.rowIs hX.row hne
    have hlp := hX.lt
    have hne2 : (Value.slice A' (n + k) c').ownBlock ≠ some p := fun e => by
      rcases hb' p e with h1 | h1
      · exact hne h1
      · omega
    refine ⟨⟨(hrow.set 1 _).congr fun i hi => ?_, ?_, hX.ge, HMO.out⟩, ?_, ?_⟩
    · have : i = 0 ∨ i = 1 ∨ i = 2 ∨ i = 3 := by omega
      rcases this with rfl | rfl | rfl | rfl <;> simp [ouF, Ou.more]
    · exact ho'.kept (setCell_one _ _ _ _) (.inr hne2)
    · refine ht.trans (Trn.of_grown (setCell_one w' p (0 + 1) _)) (fun q hq => .inr (by rw [hv]; exact hq)) (fun q _ hq => .inl (Option.some.inj hq).symm)
    · rintro q (rfl | hq)
      · exact .inl (.inl rfl)
      · rcases hb' q hq with h1 | h1
        · exact .inl (.inr (by rw [hv]; exact h1))
        · exact .inr h1
  have HNEW := Lib.hid hnew
  have HGW := Lib.hid hgw
  clear hnew hgw ho' hg' hb' hX hrd ho hne H HRD hv
  refine wp_region_held_drew (S := fun _ => True) (by kernel_rfl) trivial ?_
  intro hHeld
  rw [hW]
  clear hW
  refine tkH 0 ?_
  refine tkH 1 ?_
  refine tkH 2 ?_
  refine tkH 3 ?_
  refine tkH 5 ?_
  refine tkH 6 ?_
  refine tkH 7 ?_
  refine wpAnyH_ready (rs := [4]) (by kernel_rfl) (by simp) ?_
  refine AllReadyH.cons rfl (fun K hK => ?_) AllReadyH.nil
  go_simp
  refine hK.out _ _ trivial (fun hHeld2 => ?_)
  clear hK K hHeld
  have hHeld := hHeld2
  clear hHeld2
  try simp only [Act.put, List.getElem_toArray, List.getElem_cons_zero, List.getElem_cons_succ, List.setIfInBounds_toArray, List.set_cons_zero, List.set_cons_succ]
  refine wpAnyH_ready (rs := [8]) (by kernel_rfl) (by simp) ?_
  refine AllReadyH.cons rfl (fun K hK => ?_) AllReadyH.nil
  refine step_append_r _ (by rfl) (.tmp 15) (.tmp 18) 29 rfl _ _ _ rfl rfl hrun ?_
  refine hK.out _ _ trivial (fun hHeld2 => ?_)
  clear hK K hHeld
  have hHeld := hHeld2
  clear hHeld2
  try simp only [Act.put, List.getElem_toArray, List.getElem_cons_zero, List.getElem_cons_succ, List.setIfInBounds_toArray, List.set_cons_zero, List.set_cons_succ]
  refine tkH 9 ?_
  refine tkH 10 ?_
  refine wpAnyH_ready (rs := [11]) (by kernel_rfl) (by simp) ?_
  refine AllReadyH.cons rfl (fun K hK => ?_) AllReadyH.nil
  go_simp
  refine hK.out _ _ trivial (fun hHeld2 => ?_)
  clear hK K hHeld
  have hHeld := hHeld2
  clear hHeld2
  try simp only [Act.put, List.getElem_toArray, List.getElem_cons_zero, List.getElem_cons_succ, List.setIfInBounds_toArray, List.set_cons_zero, List.set_cons_succ]
  refine wpAnyH_done (by kernel_rfl) ?_ _
  go_wp2
  go_ret
  exact ⟨_, rfl, HNEW.out.1, HGW.out.trans HNEW.out.2⟩
end
end Go.Proofs.YtpjlnpnadkbakaaGreat

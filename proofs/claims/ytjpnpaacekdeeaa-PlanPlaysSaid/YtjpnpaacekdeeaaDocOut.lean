/-
  The document's own outbox in memory ('DoAt'), and what NewOutbox, Places, Open, Ack, Write of it do: contracts over the program.
-/
import Derived.Test.YtjpnpaacekdeeaaOutWrite
import Derived.Test.YtjpnpaacekdeeaaPlan
namespace Go.Proofs.Ytjpnpaacekdeeaa
open Go.RowKit

abbrev tDOut : TypeId := 53
/-- The cells of the document's Outbox. -/
def doF (o : Ou) (v : Value) (i : Nat) : Value := if i = 0 then .int .i64 o.buf else if i = 1 then .int .i64 o.ak else if i = 2 then v else .bool o.cl
structure DoAt (w : World) (B p : Nat) (v : Value) (o : Ou) : Prop where
  row : w.rowIs p tDOut 4 (doF o v)
  own : Own .u8 5 w B v o.xs
  ge : B ≤ p
  ok : o.ok

section
variable {w w' : World} {B p : Nat} {v : Value} {o : Ou} {F : Nat → Prop}
theorem DoAt.lt (h : DoAt w B p v o) : p < w.heap.size := h.row.lt
theorem DoAt.ne (h : DoAt w B p v o) : v.ownBlock ≠ some p := by
  rcases h.own.2 with ⟨hv, _⟩ | ⟨g, cap, cur, hv, _, hh, _⟩
  · rw [hv]; simp [Value.ownBlock]
  · rw [hv]
    intro he
    simp only [Value.ownBlock, Option.some.injEq] at he
    subst he
    obtain ⟨cur', hh', _⟩ := h.row
    rw [hh] at hh'
    injection hh' with hh'
    injection hh' with _ ht
    exact absurd ht (by decide)
theorem DoAt.kept (h : DoAt w B p v o) (ht : Trn w w' F) (hf : ∀ k, Oft p v k → ¬ F k) : DoAt w' B p v o :=
  ⟨ht.rowIs h.row (hf _ (.inl rfl)), ht.own h.own (fun g hg => hf g (.inr hg)), h.ge, h.ok⟩
theorem DoAt.later (h : DoAt w B p v o) (hb : Below w.heap.size w w') : DoAt w' B p v o := h.kept (Trn.of_below (F := fun _ => False) hb) (fun _ _ => id)
theorem DoAt.drewN (h : DoAt w B p v o) (n : Nat) : DoAt (w.drewN n) B p v o := h.later ⟨rfl, rfl, rfl, Nat.le_refl _, fun _ _ => rfl⟩
theorem DoAt.foot_lt (h : DoAt w B p v o) : ∀ k, Oft p v k → B ≤ k ∧ k < w.heap.size := by
  rintro k (rfl | hk)
  · exact ⟨h.ge, h.lt⟩
  · exact h.own.lt k hk
theorem DoAt.less {B' : Nat} (h : DoAt w B p v o) (hB : B' ≤ B) : DoAt w B' p v o := ⟨h.row, h.own.less hB, Nat.le_trans hB h.ge, h.ok⟩
theorem DoAt.size (h : DoAt w B p v o) : B ≤ w.heap.size := Nat.le_trans h.ge (Nat.le_of_lt h.lt)
theorem DoAt.c0 (h : DoAt w B p v o) : w.cell? ⟨p, 0, none⟩ = some (.int .i64 o.buf) := World.rowIs.cell (i := 0) h.row (by omega)
theorem DoAt.c1 (h : DoAt w B p v o) : w.cell? ⟨p, 0 + 1, none⟩ = some (.int .i64 o.ak) := World.rowIs.cell (i := 1) h.row (by omega)
theorem DoAt.c2 (h : DoAt w B p v o) : w.cell? ⟨p, 0 + 2, none⟩ = some v := World.rowIs.cell (i := 2) h.row (by omega)
theorem DoAt.c3 (h : DoAt w B p v o) : w.cell? ⟨p, 0 + 3, none⟩ = some (.bool o.cl) := World.rowIs.cell (i := 3) h.row (by omega)
theorem DoAt.fr (h : DoAt w B p v o) (i : Nat) : w.frozen? ⟨p, i, none⟩ = false := World.rowIs.frozen h.row i
theorem DoAt.keepv (h : DoAt w B p v o) (i : Nat) (x : Value) : Own .u8 5 (w.setCell ⟨p, i, none⟩ x) B v o.xs := h.own.kept (setCell_one _ _ _ _) (.inr h.ne)
theorem DoAt.set3 (h : DoAt w B p v o) : DoAt (w.setCell ⟨p, 0 + 3, none⟩ (.bool true)) B p v o.shut :=
  ⟨(h.row.set 3 _).congr fun i hi => by
    have : i = 0 ∨ i = 1 ∨ i = 2 ∨ i = 3 := by omega
    rcases this with rfl | rfl | rfl | rfl <;> simp [doF, Ou.shut], h.keepv _ _, h.ge, Ou.shut_ok h.ok⟩
theorem DoAt.set1 (h : DoAt w B p v o) {n : Int} (hn : 0 ≤ n ∧ n ≤ o.places) : DoAt (w.setCell ⟨p, 0 + 1, none⟩ (.int .i64 (max o.ak n))) B p v (o.ack n) := by
  have hk := Ou.ack_ok h.ok n
  unfold Ou.ack at hk ⊢
  rw [if_pos hn] at hk ⊢
  exact ⟨(h.row.set 1 _).congr fun i hi => by
    have : i = 0 ∨ i = 1 ∨ i = 2 ∨ i = 3 := by omega
    rcases this with rfl | rfl | rfl | rfl <;> simp [doF], h.keepv _ _, h.ge, hk⟩
end

theorem docclamp_any (n a b K : Int) (w : World) (hK : K = min (max n a) b) : Calls Try.prog 35 #[.int .i64 n, .int .i64 a, .int .i64 b] w fun e w' => e = .returned (.int .i64 K) ∧ w = w' := by
  have m1 := run_max2 n a _ rfl
  obtain ⟨M, hM⟩ : ∃ M, max n a = M := ⟨_, rfl⟩
  rw [hM] at m1 hK
  have m2 := run_min2 M b K hK
  clear hM hK
  go_enter Try.func35, Try.ntmps35
  go_wp2
  go_ret
  exact ⟨rfl, rfl⟩

theorem newdout_any (m : Int) (w : World) : Calls Try.prog 17 #[.int .i64 m] w fun e w' => e = .returned (.pointer (some ⟨w.heap.size, 0, none⟩)) ∧ DoAt w' w.heap.size w.heap.size (.slice none 0 0) (Ou.new m) ∧ Below w.heap.size w w' ∧ w'.heap.size = w.heap.size + 1 := by
  have hok := Ou.new_ok m
  unfold Ou.new at hok ⊢
  have HC := Lib.hid (docclamp_any m 1 400 _ w rfl)
  obtain ⟨K, hK⟩ : ∃ K, min (max m 1) 400 = K := ⟨_, rfl⟩
  rw [hK] at HC hok ⊢
  have HK := Lib.hid hok
  clear hK hok
  go_enter Try.func17, Try.ntmps17
  go_wp2_with fail
  refine HC.out.mono ?_
  rintro e w1 ⟨rfl, rfl⟩
  go_wp2
  go_ret
  refine ⟨rfl, ⟨?_, Own.nil _ _ _ _, Nat.le_refl _, HK.out⟩, (Below.refl _ _).alloc (Nat.le_refl _) _, by simp⟩
  exact World.rowIs_alloc w _ _ _ (fun i hi => by
    have : i < 4 := hi
    match i, this with
    | 0, _ | 1, _ | 2, _ | 3, _ => rfl)

section
variable {w : World} {B p : Nat} {v : Value} {o : Ou}

theorem dplaces_any (h : DoAt w B p v o) : Calls Try.prog 37 #[.pointer (some ⟨p, 0, none⟩)] w fun e w' => e = .returned (.int .i64 o.places) ∧ w = w' := by
  obtain ⟨A, c, hv⟩ := h.own.form
  have c2 := h.c2
  have c3 := h.c3
  have hl := h.ok.l
  unfold Ou.places
  rw [hv] at c2
  obtain ⟨n, hn⟩ : ∃ n, o.xs.length = n := ⟨_, rfl⟩
  rw [hn] at c2 hl ⊢
  obtain ⟨k, hk⟩ : ∃ k, o.cl = k := ⟨_, rfl⟩
  rw [hk] at c3 ⊢
  clear h hv hn hk
  cases k
  · go_enter Try.func37, Try.ntmps37
    go_wp2
    go_ret
    exact ⟨ret_i (by simp), rfl⟩
  · go_enter Try.func37, Try.ntmps37
    go_wp2
    go_ret
    exact ⟨ret_i (by simp), rfl⟩
theorem dopen_any (h : DoAt w B p v o) (n : Int) : Calls Try.prog 40 #[.pointer (some ⟨p, 0, none⟩), .int .i64 n] w fun e w' => e = .returned (.int .i64 (o.till n)) ∧ w = w' := by
  obtain ⟨A, c, hv⟩ := h.own.form
  have c2 := h.c2
  rw [hv] at c2
  have HP := dplaces_any h
  unfold Ou.till
  obtain ⟨l, hn⟩ : ∃ n, o.xs.length = n := ⟨_, rfl⟩
  rw [hn] at c2 ⊢
  obtain ⟨P, hP⟩ : ∃ P, o.places = P := ⟨_, rfl⟩
  rw [hP] at HP ⊢
  have HP' := Lib.hid HP
  have hm := run_max2 n 0 _ rfl
  obtain ⟨M, hM⟩ : ∃ M, max n 0 = M := ⟨_, rfl⟩
  rw [hM] at hm ⊢
  clear h hv hn hP hM HP
  by_cases hle : (l : Int) ≤ n
  · rw [if_pos hle]
    go_enter Try.func40, Try.ntmps40
    go_wp2_with fail
    refine HP'.out.mono ?_
    rintro e w' ⟨rfl, rfl⟩
    go_wp2
    go_ret
    exact ⟨rfl, rfl⟩
  · rw [if_neg hle]
    go_enter Try.func40, Try.ntmps40
    go_wp2
    go_ret
    exact ⟨rfl, rfl⟩
theorem dack_any (h : DoAt w B p v o) (n : Int) : Calls Try.prog 21 #[.pointer (some ⟨p, 0, none⟩), .int .i64 n] w fun e w' => e = .returned (.bool (o.may n)) ∧ DoAt w' B p v (o.ack n) ∧ SC w w' (Oft p v) (Oft p v) := by
  have c1 := h.c1
  have f1 := h.fr (0 + 1)
  have HP := Lib.hid (dplaces_any h)
  have H := Lib.hid h
  unfold Ou.may
  by_cases hn : 0 ≤ n ∧ n ≤ o.places
  · have H3 := Lib.hid (h.set1 hn)
    rw [decide_eq_true hn]
    obtain ⟨P, hP⟩ : ∃ P, o.places = P := ⟨_, rfl⟩
    rw [hP] at HP hn
    obtain ⟨k, hk⟩ : ∃ k, o.ak = k := ⟨_, rfl⟩
    rw [hk] at c1 H3
    have hm := run_max2 k n _ rfl
    obtain ⟨M, hM⟩ : ∃ M, max k n = M := ⟨_, rfl⟩
    rw [hM] at hm H3
    obtain ⟨n1, n2⟩ := hn
    have q1 : ¬ n < 0 := by omega
    have q2 : ¬ n > P := by omega
    clear h hP hk hM
    go_enter Try.func21, Try.ntmps21
    go_wp2_with fail
    refine HP.out.mono ?_
    rintro e w' ⟨rfl, rfl⟩
    go_wp2
    go_ret
    exact ⟨rfl, H3.out, sc_p (setCell_one _ _ _ _)⟩
  · rw [decide_eq_false hn]
    have he : o.ack n = o := by unfold Ou.ack; rw [if_neg hn]
    rw [he]
    have HN := Lib.hid hn
    clear he hn c1 f1
    by_cases q1 : n < 0
    · clear h
      go_enter Try.func21, Try.ntmps21
      go_wp2
      go_ret
      exact ⟨rfl, H.out, SC.refl _ _⟩
    · have q2 : n > o.places := by have := HN.out; omega
      obtain ⟨P, hP⟩ : ∃ P, o.places = P := ⟨_, rfl⟩
      rw [hP] at HP q2
      clear h hP
      go_enter Try.func21, Try.ntmps21
      go_wp2_with fail
      refine HP.out.mono ?_
      rintro e w' ⟨rfl, rfl⟩
      go_wp2
      go_ret
      exact ⟨rfl, H.out, SC.refl _ _⟩
end
end Go.Proofs.Ytjpnpaacekdeeaa

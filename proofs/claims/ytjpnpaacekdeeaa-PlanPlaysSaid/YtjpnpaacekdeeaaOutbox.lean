/-
  An outbox in memory ('OutAt'), and what New, Write, Close, Closed, Len, Places, Open, Ack, Acked of package outbox do: contracts over the program.
-/
import Derived.Test.YtjpnpaacekdeeaaRows
import Derived.Test.YtjpnpaacekdeeaaOutMath
import Derived.Test.YtjpnpaacekdeeaaMinMax
import Derived.Test.YtjpnpaacekdeeaaTrn
import Derived.Test.YtjpnpaacekdeeaaCopy
import Derived.Test.YtjpnpaacekdeeaaTail
import Derived.Deep.OwnRows
import Derived.Deep.QuietTactic
import Derived.Deep.RegionHeld3
import Derived.BigQuiet
import Derived.IntWalk
namespace Go.Proofs.Ytjpnpaacekdeeaa
open Go.RowKit


abbrev tOut : TypeId := 66
/-- The cells of an Outbox. -/
def ouF (o : Ou) (v : Value) (i : Nat) : Value := if i = 0 then .int .i64 o.buf else if i = 1 then v else if i = 2 then .bool o.cl else .int .i64 o.ak
/-- Block p is the outbox o, from B on the call's own; its bytes are the slice v. -/
structure OutAt (w : World) (B p : Nat) (v : Value) (o : Ou) : Prop where
  row : w.rowIs p tOut 4 (ouF o v)
  own : Own .u8 5 w B v o.xs
  ge : B ≤ p
  ok : o.ok
/-- Its blocks. -/
def Oft (p : Nat) (v : Value) (k : Nat) : Prop := k = p ∨ v.ownBlock = some k

section
variable {w w' : World} {B p : Nat} {v : Value} {o : Ou} {F : Nat → Prop}
theorem OutAt.lt (h : OutAt w B p v o) : p < w.heap.size := h.row.lt
theorem OutAt.ne (h : OutAt w B p v o) : v.ownBlock ≠ some p := by
  rcases h.own.2 with ⟨hv, _⟩ | ⟨g, cap, cur, hv, _, hh, _⟩
  · rw [hv]; simp [Value.ownBlock]
  · rw [hv]
    intro he
    simp only [Value.ownBlock, Option.some.injEq] at he
    subst he
    obtain ⟨cur', hh', _⟩ := h.row
    rw [hh] at hh'
    injection hh' with hh'
    injection hh' with _ ht
    exact absurd ht (by decide)
theorem OutAt.kept (h : OutAt w B p v o) (ht : Trn w w' F) (hf : ∀ k, Oft p v k → ¬ F k) : OutAt w' B p v o :=
  ⟨ht.rowIs h.row (hf _ (.inl rfl)), ht.own h.own (fun g hg => hf g (.inr hg)), h.ge, h.ok⟩
theorem OutAt.later (h : OutAt w B p v o) (hb : Below w.heap.size w w') : OutAt w' B p v o := h.kept (Trn.of_below (F := fun _ => False) hb) (fun _ _ => id)
theorem OutAt.drewN (h : OutAt w B p v o) (n : Nat) : OutAt (w.drewN n) B p v o := h.later ⟨rfl, rfl, rfl, Nat.le_refl _, fun _ _ => rfl⟩
theorem OutAt.foot_lt (h : OutAt w B p v o) : ∀ k, Oft p v k → B ≤ k ∧ k < w.heap.size := by
  rintro k (rfl | hk)
  · exact ⟨h.ge, h.lt⟩
  · exact h.own.lt k hk
theorem OutAt.size (h : OutAt w B p v o) : B ≤ w.heap.size := Nat.le_trans h.ge (Nat.le_of_lt h.lt)
theorem OutAt.bel {v' : Value} {B0 : Nat} (h : OutAt w B p v o) (hsc : SC w w' (Oft p v) (Oft p v')) (hB : B0 ≤ B) : Below B0 w w' := (hsc.below h.size (fun k hk => (h.foot_lt k hk).1)).mono hB
/-- A store into the outbox's own block. -/
theorem sc_p (hg : w.grownBy w' (some p)) : SC w w' (Oft p v) (Oft p v) := ⟨(Trn.of_grown hg).mono (fun _ _ hk => .inl (Option.some.inj hk).symm), fun _ hk => .inl hk⟩
theorem OutAt.c0 (h : OutAt w B p v o) : w.cell? ⟨p, 0, none⟩ = some (.int .i64 o.buf) := World.rowIs.cell (i := 0) h.row (by omega)
theorem OutAt.c1 (h : OutAt w B p v o) : w.cell? ⟨p, 0 + 1, none⟩ = some v := World.rowIs.cell (i := 1) h.row (by omega)
theorem OutAt.c2 (h : OutAt w B p v o) : w.cell? ⟨p, 0 + 2, none⟩ = some (.bool o.cl) := World.rowIs.cell (i := 2) h.row (by omega)
theorem OutAt.c3 (h : OutAt w B p v o) : w.cell? ⟨p, 0 + 3, none⟩ = some (.int .i64 o.ak) := World.rowIs.cell (i := 3) h.row (by omega)
theorem OutAt.fr (h : OutAt w B p v o) (i : Nat) : w.frozen? ⟨p, i, none⟩ = false := World.rowIs.frozen h.row i
theorem OutAt.keepv (h : OutAt w B p v o) (a : Addr) (ha : a.block = p) (x : Value) : Own .u8 5 (w.setCell a x) B v o.xs := by
  obtain ⟨b, i, s⟩ := a
  simp only at ha
  subst ha
  cases s with
  | none => exact h.own.kept (setCell_one _ _ _ _) (.inr h.ne)
  | some s =>
    refine World.ownsRow.kept h.own (row := some b) ⟨rfl, rfl, rfl, by simp, fun k hk hne => heap_setCell_other _ _ _ _ (fun e => hne (by simp [e]))⟩ (.inr h.ne)
theorem OutAt.set2 (h : OutAt w B p v o) : OutAt (w.setCell ⟨p, 0 + 2, none⟩ (.bool true)) B p v o.shut :=
  ⟨(h.row.set 2 _).congr fun i hi => by
    have : i = 0 ∨ i = 1 ∨ i = 2 ∨ i = 3 := by omega
    rcases this with rfl | rfl | rfl | rfl <;> simp [ouF, Ou.shut], h.keepv _ rfl _, h.ge, Ou.shut_ok h.ok⟩
theorem OutAt.set3 (h : OutAt w B p v o) {n : Int} (hn : 0 ≤ n ∧ n ≤ o.places) : OutAt (w.setCell ⟨p, 0 + 3, none⟩ (.int .i64 (max o.ak n))) B p v (o.ack n) := by
  have hk := Ou.ack_ok h.ok n
  unfold Ou.ack at hk ⊢
  rw [if_pos hn] at hk ⊢
  exact ⟨(h.row.set 3 _).congr fun i hi => by
    have : i = 0 ∨ i = 1 ∨ i = 2 ∨ i = 3 := by omega
    rcases this with rfl | rfl | rfl | rfl <;> simp [ouF], h.keepv _ rfl _, h.ge, hk⟩
end

theorem newout_any (m : Int) (w : World) : Calls Try.prog 10 #[.int .i64 m] w fun e w' => e = .returned (.pointer (some ⟨w.heap.size, 0, none⟩)) ∧ OutAt w' w.heap.size w.heap.size (.slice none 0 0) (Ou.new m) ∧ Below w.heap.size w w' ∧ w'.heap.size = w.heap.size + 1 := by
  have hm := run_max2 m 1 _ rfl
  have hok := Ou.new_ok m
  unfold Ou.new at hok ⊢
  obtain ⟨M, hM⟩ : ∃ M, max m 1 = M := ⟨_, rfl⟩
  rw [hM] at hm hok ⊢
  have hn := run_min2 M 400 _ rfl
  obtain ⟨K, hK⟩ : ∃ K, min M 400 = K := ⟨_, rfl⟩
  rw [hK] at hn hok ⊢
  have HK := Lib.hid hok
  clear hM hK hok
  go_enter Try.func10, Try.ntmps10
  go_wp2
  go_ret
  refine ⟨rfl, ⟨?_, Own.nil _ _ _ _, Nat.le_refl _, HK.out⟩, (Below.refl _ _).alloc (Nat.le_refl _) _, by simp⟩
  exact World.rowIs_alloc w _ _ _ (fun i hi => by
    have : i < 4 := hi
    match i, this with
    | 0, _ | 1, _ | 2, _ | 3, _ => rfl)

section
variable {w : World} {B p : Nat} {v : Value} {o : Ou}

theorem closed_any (h : OutAt w B p v o) : Calls Try.prog 45 #[.pointer (some ⟨p, 0, none⟩)] w fun e w' => e = .returned (.bool o.cl) ∧ w = w' := by
  have c2 := h.c2
  clear h
  go_enter Try.func45, Try.ntmps45
  go_wp2
  go_ret
  exact ⟨rfl, rfl⟩
theorem acked_any (h : OutAt w B p v o) : Calls Try.prog 29 #[.pointer (some ⟨p, 0, none⟩)] w fun e w' => e = .returned (.int .i64 o.ak) ∧ w = w' := by
  have c3 := h.c3
  clear h
  go_enter Try.func29, Try.ntmps29
  go_wp2
  go_ret
  exact ⟨rfl, rfl⟩
theorem len_any (h : OutAt w B p v o) : Calls Try.prog 44 #[.pointer (some ⟨p, 0, none⟩)] w fun e w' => e = .returned (.int .i64 (o.xs.length : Int)) ∧ w = w' := by
  obtain ⟨A, c, hv⟩ := h.own.form
  have c1 := h.c1
  rw [hv] at c1
  obtain ⟨n, hn⟩ : ∃ n, o.xs.length = n := ⟨_, rfl⟩
  rw [hn] at c1 ⊢
  clear h hv hn
  go_enter Try.func44, Try.ntmps44
  go_wp2
  go_ret
  exact ⟨rfl, rfl⟩
theorem close_any (h : OutAt w B p v o) : Calls Try.prog 19 #[.pointer (some ⟨p, 0, none⟩)] w fun e w' => e = .returned (.bool (!o.cl)) ∧ OutAt w' B p v o.shut ∧ w.grownBy w' (some p) := by
  have c2 := h.c2
  have f2 := h.fr (0 + 2)
  have H := Lib.hid h
  clear h
  cases hc : o.cl
  · rw [hc] at c2
    have HC := Lib.hid hc
    clear hc
    go_enter Try.func19, Try.ntmps19
    go_wp2
    go_ret
    exact ⟨rfl, H.out.set2, setCell_one _ _ _ _⟩
  · rw [hc] at c2
    have e : o.shut = o := by obtain ⟨a, b, c, d⟩ := o; simp only at hc; subst hc; rfl
    have HE := Lib.hid e
    clear hc e
    go_enter Try.func19, Try.ntmps19
    go_wp2
    go_ret
    exact ⟨rfl, by rw [HE.out]; exact H.out, World.grownBy.refl _ _⟩
theorem places_any (h : OutAt w B p v o) : Calls Try.prog 36 #[.pointer (some ⟨p, 0, none⟩)] w fun e w' => e = .returned (.int .i64 o.places) ∧ w = w' := by
  obtain ⟨A, c, hv⟩ := h.own.form
  have c1 := h.c1
  have c2 := h.c2
  have hl := h.ok.l
  unfold Ou.places
  rw [hv] at c1
  obtain ⟨n, hn⟩ : ∃ n, o.xs.length = n := ⟨_, rfl⟩
  rw [hn] at c1 hl ⊢
  obtain ⟨k, hk⟩ : ∃ k, o.cl = k := ⟨_, rfl⟩
  rw [hk] at c2 ⊢
  clear h hv hn hk
  cases k
  · go_enter Try.func36, Try.ntmps36
    go_wp2
    go_ret
    exact ⟨ret_i (by simp), rfl⟩
  · go_enter Try.func36, Try.ntmps36
    go_wp2
    go_ret
    exact ⟨ret_i (by simp), rfl⟩
theorem open_any (h : OutAt w B p v o) (n : Int) : Calls Try.prog 32 #[.pointer (some ⟨p, 0, none⟩), .int .i64 n] w fun e w' => e = .returned (.int .i64 (o.till n)) ∧ w = w' := by
  obtain ⟨A, c, hv⟩ := h.own.form
  have c1 := h.c1
  rw [hv] at c1
  have HP := places_any h
  unfold Ou.till
  obtain ⟨l, hn⟩ : ∃ n, o.xs.length = n := ⟨_, rfl⟩
  rw [hn] at c1 ⊢
  obtain ⟨P, hP⟩ : ∃ P, o.places = P := ⟨_, rfl⟩
  rw [hP] at HP ⊢
  have HP' := Lib.hid HP
  have hm := run_max2 n 0 _ rfl
  obtain ⟨M, hM⟩ : ∃ M, max n 0 = M := ⟨_, rfl⟩
  rw [hM] at hm ⊢
  clear h hv hn hP hM HP
  by_cases hle : (l : Int) ≤ n
  · rw [if_pos hle]
    go_enter Try.func32, Try.ntmps32
    go_wp2_with fail
    refine HP'.out.mono ?_
    rintro e w' ⟨rfl, rfl⟩
    go_wp2
    go_ret
    exact ⟨rfl, rfl⟩
  · rw [if_neg hle]
    go_enter Try.func32, Try.ntmps32
    go_wp2
    go_ret
    exact ⟨rfl, rfl⟩
theorem ack_any (h : OutAt w B p v o) (n : Int) : Calls Try.prog 20 #[.pointer (some ⟨p, 0, none⟩), .int .i64 n] w fun e w' => e = .returned (.bool (o.may n)) ∧ OutAt w' B p v (o.ack n) ∧ w.grownBy w' (some p) := by
  have c3 := h.c3
  have f3 := h.fr (0 + 3)
  have HP := Lib.hid (places_any h)
  have H := Lib.hid h
  unfold Ou.may
  by_cases hn : 0 ≤ n ∧ n ≤ o.places
  · have H3 := Lib.hid (h.set3 hn)
    rw [decide_eq_true hn]
    obtain ⟨P, hP⟩ : ∃ P, o.places = P := ⟨_, rfl⟩
    rw [hP] at HP hn
    obtain ⟨k, hk⟩ : ∃ k, o.ak = k := ⟨_, rfl⟩
    rw [hk] at c3 H3
    have hm := run_max2 k n _ rfl
    obtain ⟨M, hM⟩ : ∃ M, max k n = M := ⟨_, rfl⟩
    rw [hM] at hm H3
    obtain ⟨n1, n2⟩ := hn
    have q1 : ¬ n < 0 := by omega
    have q2 : ¬ n > P := by omega
    clear h hP hk hM
    go_enter Try.func20, Try.ntmps20
    go_wp2_with fail
    refine HP.out.mono ?_
    rintro e w' ⟨rfl, rfl⟩
    go_wp2
    go_ret
    exact ⟨rfl, H3.out, setCell_one _ _ _ _⟩
  · rw [decide_eq_false hn]
    have he : o.ack n = o := by unfold Ou.ack; rw [if_neg hn]
    rw [he]
    have HN := Lib.hid hn
    clear he hn c3 f3
    by_cases q1 : n < 0
    · clear h
      go_enter Try.func20, Try.ntmps20
      go_wp2
      go_ret
      exact ⟨rfl, H.out, World.grownBy.refl _ _⟩
    · have q2 : n > o.places := by have := HN.out; omega
      obtain ⟨P, hP⟩ : ∃ P, o.places = P := ⟨_, rfl⟩
      rw [hP] at HP q2
      clear h hP
      go_enter Try.func20, Try.ntmps20
      go_wp2_with fail
      refine HP.out.mono ?_
      rintro e w' ⟨rfl, rfl⟩
      go_wp2
      go_ret
      exact ⟨rfl, H.out, World.grownBy.refl _ _⟩

set_option maxHeartbeats 1000000 in
theorem room_any (h : OutAt w B p v o) : Calls Try.prog 27 #[.pointer (some ⟨p, 0, none⟩)] w fun e w' => e = .returned (.int .i64 o.room) ∧ ∃ k, w' = w.drewN k := by
  obtain ⟨A, c, hv⟩ := h.own.form
  have c0 := h.c0
  have c1 := h.c1
  have c2 := h.c2
  have c3 := h.c3
  have l1 := h.ok.l
  have l2 := h.ok.w
  have l3 := h.ok.b2
  have l4 := Ou.places_range h.ok
  have l5 := h.ok.a2
  have l6 := h.ok.a1
  have l7 := h.ok.b1
  unfold Ou.room
  rw [hv] at c1
  obtain ⟨n, hn⟩ : ∃ n, o.xs.length = n := ⟨_, rfl⟩
  rw [hn] at c1 l1 l2 ⊢
  obtain ⟨b, hb⟩ : ∃ b, o.buf = b := ⟨_, rfl⟩
  rw [hb] at c0 l2 l3 l7 ⊢
  obtain ⟨k, hk⟩ : ∃ k, o.ak = k := ⟨_, rfl⟩
  rw [hk] at c3 l2 l5 l6 ⊢
  have hm := run_min2 (b - ((n : Int) - k)) (4096 - (n : Int)) _ rfl
  obtain ⟨M, hM⟩ : ∃ M, min (b - ((n : Int) - k)) (4096 - (n : Int)) = M := ⟨_, rfl⟩
  rw [hM] at hm ⊢
  obtain ⟨q, hq⟩ : ∃ q, o.cl = q := ⟨_, rfl⟩
  rw [hq] at c2 ⊢
  clear h hv hn hb hk hM hq
  cases q
  · go_enter Try.func27, Try.ntmps27
    go_wp2_with fail
    go_quiet (fail)
    go_wp2_with fail
    go_quiet (fail)
    go_wp2
    go_ret
    exact ⟨ret_i (by simp), _, rfl⟩
  · go_enter Try.func27, Try.ntmps27
    go_wp2
    go_ret
    exact ⟨ret_i (by simp), 0, rfl⟩
end
end Go.Proofs.Ytjpnpaacekdeeaa

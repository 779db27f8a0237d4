/-
  What settle, cut, tear, lost, clone make of a content; act, where the act is done or stops at the Fuse; Fuse: contracts over the program.
-/
import Derived.Test.YtfafonfphholmaaStBase
import Derived.Test.YtfafonfphholmaaBase
import Derived.Lib.SliceRun
import Derived.IntWalk
namespace Go.Proofs.Ytfafonfphholmaa
open Go.RowKit Go.Maps

/-- A settled one. -/
def Blk.settle (k : Blk) : Blk := ⟨k.n, k.xs, k.xs.length, true⟩
def Ent.settle (e : Ent) : Ent := ⟨e.k.settle, e.b, e.v⟩

section
variable {w : World} {B : Nat} {e : Ent}

theorem Cont.set12 (h : Cont w B e) (x : Int) (hx : x = (e.k.xs.length : Nat)) : Cont ((w.setCell ⟨e.b, 0 + 1, none⟩ (.int .i64 x)).setCell ⟨e.b, 0 + 2, none⟩ (.bool true)) B e.settle ∧ Trn w ((w.setCell ⟨e.b, 0 + 1, none⟩ (.int .i64 x)).setCell ⟨e.b, 0 + 2, none⟩ (.bool true)) (fun k => k = e.b) := by
  subst hx
  have t1 : Trn w ((w.setCell ⟨e.b, 0 + 1, none⟩ (.int .i64 (e.k.xs.length : Nat))).setCell ⟨e.b, 0 + 2, none⟩ (.bool true)) (fun k => k = e.b) :=
    ((Trn.of_grown (setCell_one w e.b (0 + 1) _)).trans (Trn.of_grown (setCell_one _ e.b (0 + 2) _)) (G := fun k => k = e.b) (fun k hk => by simp at hk; exact hk.symm) (fun k _ hk => by simp at hk; exact hk.symm))
  have hne : ∀ g, e.v.ownBlock = some g → ¬ g = e.b := fun g hg e1 => h.ne h.row (by decide) (by rw [hg, e1])
  refine ⟨⟨?_, t1.own h.own hne, h.ge, h.len, h.num⟩, t1⟩
  exact ((h.row.set 1 _).set 2 _).congr fun i hi => by
    have : i = 0 ∨ i = 1 ∨ i = 2 := by omega
    rcases this with rfl | rfl | rfl <;> simp [conF, Ent.settle, Blk.settle]

set_option maxRecDepth 10000 in
theorem settle_any (h : Cont w B e) : Calls Try.prog 32 #[.pointer (some ⟨e.b, 0, none⟩)] w fun x w' => x = .returned (.tuple #[]) ∧ Cont w' B e.settle ∧ Trn w w' (fun k => k = e.b) := by
  obtain ⟨A, c, hv⟩ := h.own.form
  have c0 := h.c0
  have fr := h.fr
  have c1 := h.c1
  have c2 := h.c2
  have H := Lib.hid h
  rw [hv] at c0
  obtain ⟨b, hb⟩ : ∃ b, e.b = b := ⟨_, rfl⟩
  have h2 := fun (x : Int) hx => h.set12 x hx
  rw [hb] at c0 c1 c2 fr h2 ⊢
  obtain ⟨n, hn⟩ : ∃ n, e.k.xs.length = n := ⟨_, rfl⟩
  rw [hn] at c0
  have H2 := Lib.hid (h2 (n : Nat) (by rw [hn]))
  have HF := Lib.hid fr
  have f1 := fr (0 + 1)
  have f2 := fr (0 + 2)
  clear h hb hn hv h2 fr
  go_enter Try.func32, Try.ntmps32
  go_wp2
  go_end0
  exact ⟨rfl, H2.out⟩

set_option maxRecDepth 10000 in
theorem lost_any (h : Cont w B e) : Calls Try.prog 40 #[.pointer (some ⟨e.b, 0, none⟩)] w fun x w' => x = .returned (.bool (decide (e.k.xs.length = 0) && !e.k.f)) ∧ w = w' := by
  obtain ⟨A, c, hv⟩ := h.own.form
  have c0 := h.c0
  have c2 := h.c2
  rw [hv] at c0
  obtain ⟨b, hb⟩ : ∃ b, e.b = b := ⟨_, rfl⟩
  obtain ⟨n, hn⟩ : ∃ n, e.k.xs.length = n := ⟨_, rfl⟩
  obtain ⟨f, hf⟩ : ∃ f, e.k.f = f := ⟨_, rfl⟩
  rw [hb] at c0 c2 ⊢
  rw [hn] at c0 ⊢
  rw [hf] at c2 ⊢
  clear h hb hn hv hf
  by_cases h0 : n = 0
  · subst h0
    cases f <;>
    · go_enter Try.func40, Try.ntmps40
      go_wp2
      go_ret
      exact ⟨rfl, rfl⟩
  · have h1 : ((n : Int) == 0) = false := by simpa using h0
    rw [decide_eq_false h0]
    go_enter Try.func40, Try.ntmps40
    go_wp2
    go_ret
    exact ⟨rfl, rfl⟩

/-- The first n bytes of a row. -/
theorem Own.first {q : IntKind} {ty : TypeId} {w : World} {B len c n : Nat} {A : Option Addr} {xs : List Int} (h : Own q ty w B (.slice A len c) xs) (hn : n ≤ len) : Own q ty w B (.slice A n c) (xs.take n) := by
  obtain ⟨A', c', hv⟩ := h.form
  injection hv with _ h2 _
  subst h2
  have hl : (xs.take n).length = n := by rw [List.length_take]; omega
  refine ⟨by simp [cel], ?_⟩
  rw [hl]
  rcases h.2 with ⟨hv, h0⟩ | ⟨g, cap, cur, hv, hg, hh, r1, r2, r3, r4⟩
  · injection hv with h1 h2 h3
    left
    exact ⟨by rw [h1, h3]; congr; omega, by omega⟩
  · injection hv with h1 h2 h3
    subst h1; subst h3
    refine .inr ⟨g, c, cur, rfl, hg, hh, by omega, r2, r3, ?_⟩
    simp only [Nat.mul_one] at r4 ⊢
    rw [show cel q (xs.take n) = (cel q xs).take n from by simp [cel], ← r4, List.take_take, Nat.min_eq_left hn]

def Blk.cut (k : Blk) (n : Nat) : Blk := ⟨k.n, k.xs.take n, n, true⟩
/-- How many bytes a crash leaves. -/
def Blk.kept (k : Blk) (keep : Int) : Nat := k.s + (min (max keep 0) ((k.xs.length : Int) - k.s)).toNat
def Blk.tear (k : Blk) (keep : Int) : Blk := ⟨k.n, k.xs.take (k.kept keep), k.s, k.f⟩
/-- A slice's first n. -/
def Value.first (v : Value) (n : Nat) : Value := match v with | .slice A _ c => .slice A n c | v => v
def Ent.cut (e : Ent) (n : Nat) : Ent := ⟨e.k.cut n, e.b, Value.first e.v n⟩
def Ent.tear (e : Ent) (keep : Int) : Ent := ⟨e.k.tear keep, e.b, Value.first e.v (e.k.kept keep)⟩
theorem first_block {v : Value} {n g : Nat} (h : (Value.first v n).ownBlock = some g) : v.ownBlock = some g := by
  unfold Value.first at h
  split at h
  · rename_i A _ c
    cases A with
    | none => simp [Value.ownBlock] at h
    | some a => simpa [Value.ownBlock] using h
  · exact h

theorem Cont.set0 (h : Cont w B e) {A : Option Addr} {c n : Nat} (hv : e.v = .slice A e.k.xs.length c) (hn : n ≤ e.k.xs.length) :
    Cont (w.setCell ⟨e.b, 0, none⟩ (.slice A n c)) B ⟨⟨e.k.n, e.k.xs.take n, e.k.s, e.k.f⟩, e.b, Value.first e.v n⟩ ∧ Trn w (w.setCell ⟨e.b, 0, none⟩ (.slice A n c)) (fun k => k = e.b) := by
  have t1 : Trn w (w.setCell ⟨e.b, 0, none⟩ (.slice A n c)) (fun k => k = e.b) := (Trn.of_grown (setCell_one w e.b 0 _)).mono (fun k _ hk => by simp at hk; exact hk.symm)
  have hl : (e.k.xs.take n).length = n := by rw [List.length_take]; omega
  have ho := h.own
  rw [hv] at ho
  have hne : ∀ g, (Value.first e.v n).ownBlock = some g → ¬ g = e.b := fun g hg e1 => h.ne h.row (by decide) (by rw [first_block hg, e1])
  have hne' : ∀ g, (Value.slice A n c).ownBlock = some g → ¬ g = e.b := fun g hg => hne g (by rw [hv]; exact hg)
  refine ⟨⟨?_, ?_, h.ge, by have := h.len; simp only; omega, h.num⟩, t1⟩
  · exact (h.row.set 0 _).congr fun i hi => by
      have : i = 0 ∨ i = 1 ∨ i = 2 := by omega
      rcases this with rfl | rfl | rfl <;> simp [conF, hv, Value.first]
  · rw [hv]
    exact t1.own (ho.first hn) hne'

/-- Two steps on one content. -/
theorem trn2 {w1 w2 : World} {b : Nat} (h : Trn w w1 (fun k => k = b)) (h' : Trn w1 w2 (fun k => k = b)) : Trn w w2 (fun k => k = b) := h.trans h' (fun _ h => h) (fun _ _ h => h)

theorem Own.slice_cap {q : IntKind} {ty : TypeId} {len c : Nat} {A : Option Addr} {xs : List Int} (h : Own q ty w B (.slice A len c) xs) : len ≤ c ∧ c ≤ 9223372036854775807 := by
  refine ⟨h.cap, ?_⟩
  rcases h.2 with ⟨hv, _⟩ | ⟨g, cap, cur, hv, _, _, _, hm, _⟩
  · injection hv with _ _ h3; omega
  · injection hv with _ _ h3
    unfold maxLen at hm; omega

set_option maxRecDepth 10000 in
theorem cutc_any (h : Cont w B e) (n : Nat) (hn : n ≤ e.k.xs.length) : Calls Try.prog 35 #[.pointer (some ⟨e.b, 0, none⟩), .int .i64 n] w fun x w' => x = .returned (.tuple #[]) ∧ Cont w' B (e.cut n) ∧ Trn w w' (fun k => k = e.b) := by
  obtain ⟨A, c, hv⟩ := h.own.form
  have c0 := h.c0
  have f0 := h.fr 0
  have ho := h.own
  rw [hv] at c0 ho
  obtain ⟨hc1, hc2⟩ := ho.slice_cap
  have h1 := h.set0 hv hn
  have H1 := Lib.hid h1
  obtain ⟨L, hL⟩ : ∃ L, e.k.xs.length = L := ⟨_, rfl⟩
  obtain ⟨b, hb⟩ : ∃ b, e.b = b := ⟨_, rfl⟩
  have hl : (e.k.xs.take n).length = n := by rw [List.length_take]; omega
  have HS := Lib.hid (settle_any h1.1)
  rw [hL] at c0 hn hc1
  rw [hb] at c0 f0 HS H1 ⊢
  have i1 : (n : Int) ≤ (L : Int) := by omega
  have i2 : (n : Int) ≤ (c : Int) := by omega
  have HL := Lib.hid hl
  have HB := Lib.hid hb
  clear h h1 ho hv hL hb hl
  go_enter Try.func35, Try.ntmps35
  go_wp2_with fail
  refine HS.out.mono ?_
  rintro x w2 ⟨rfl, hc, ht⟩
  go_wp2_with fail
  go_end0
  refine ⟨rfl, ?_, trn2 H1.out.2 ht⟩
  have e1 : Ent.settle ⟨⟨e.k.n, e.k.xs.take n, e.k.s, e.k.f⟩, e.b, Value.first e.v n⟩ = e.cut n := by simp [Ent.settle, Blk.settle, Ent.cut, Blk.cut, HL.out]
  rw [← e1, Ent.settle]
  rw [Ent.settle] at hc
  simp only at hc ⊢
  rw [HB.out]
  exact hc

theorem run_max2 (a b K : Int) (hK : K = max a b) (ts : Array TypeId) (t : TypeId) (w : World) : (Builtin.max_ ts t #[.int .i64 a, .int .i64 b]).run Try.prog w = .ok (.int .i64 K) w := by
  rw [run_max_int2]
  congr 2
  split <;> omega
theorem run_min2 (a b K : Int) (hK : K = min a b) (ts : Array TypeId) (t : TypeId) (w : World) : (Builtin.min_ ts t #[.int .i64 a, .int .i64 b]).run Try.prog w = .ok (.int .i64 K) w := by
  rw [run_min_int2]
  congr 2
  split <;> omega

set_option maxRecDepth 10000 in
theorem tear_any (h : Cont w B e) (hle : e.k.s ≤ e.k.xs.length) (keep : Int) : Calls Try.prog 37 #[.pointer (some ⟨e.b, 0, none⟩), .int .i64 keep] w fun x w' => x = .returned (.tuple #[]) ∧ Cont w' B (e.tear keep) ∧ Trn w w' (fun k => k = e.b) := by
  obtain ⟨A, c, hv⟩ := h.own.form
  have c0 := h.c0
  have c1 := h.c1
  have f0 := h.fr 0
  have ho := h.own
  rw [hv] at c0 ho
  obtain ⟨hc1, hc2⟩ := ho.slice_cap
  obtain ⟨L, hL⟩ : ∃ L, e.k.xs.length = L := ⟨_, rfl⟩
  obtain ⟨s, hs⟩ : ∃ s, e.k.s = s := ⟨_, rfl⟩
  obtain ⟨K, hK⟩ : ∃ K, (min (max keep 0) ((L : Int) - s)).toNat = K := ⟨_, rfl⟩
  have hkp : e.k.kept keep = s + K := by unfold Blk.kept; rw [hL, hs, hK]
  have h1 := h.set0 hv (n := s + K) (by omega)
  have e1 : (⟨⟨e.k.n, e.k.xs.take (s + K), e.k.s, e.k.f⟩, e.b, Value.first e.v (s + K)⟩ : Ent) = e.tear keep := by simp [Ent.tear, Blk.tear, hkp]
  rw [e1] at h1
  have hlen := h.len
  have H1 : ∀ n, Hid (Cont ((w.drewN n).setCell ⟨e.b, 0, none⟩ (.slice A (s + K) c)) B (e.tear keep) ∧ Trn w ((w.drewN n).setCell ⟨e.b, 0, none⟩ (.slice A (s + K) c)) (fun k => k = e.b)) := fun n => Lib.hid ⟨h1.1.kept (F := fun _ => False) (Trn.of_below ⟨rfl, rfl, rfl, Nat.le_refl _, fun _ _ => rfl⟩) (fun _ _ h => h), ⟨h1.2.os, h1.2.tape, h1.2.output, h1.2.size, h1.2.block⟩⟩
  obtain ⟨b, hb⟩ : ∃ b, e.b = b := ⟨_, rfl⟩
  have m1 := run_max2 keep 0 _ rfl
  have m2 := run_min2 (max keep 0) ((L : Int) - s) K (by omega)
  rw [hL] at c0 hle hc1 hlen
  rw [hs] at c1 hle
  rw [hb] at c0 c1 f0 H1 ⊢
  obtain ⟨T, hT⟩ : ∃ T, s + K = T := ⟨_, rfl⟩
  rw [hT] at H1
  have i2 : (T : Int) ≤ (c : Int) := by omega
  have i3 : IntKind.i64.wrap ((s : Int) + (K : Int)) = (T : Int) := by rw [IntKind.wrap_i64]; omega
  clear hT
  obtain ⟨M, hM⟩ : ∃ M, max keep 0 = M := ⟨_, rfl⟩
  rw [hM] at m1 m2
  clear h h1 ho hv hL hs hb e1 hkp hM hK
  go_enter Try.func37, Try.ntmps37
  go_wp2_with fail
  go_quiet (fail)
  clear m1 m2
  go_wp2_with fail
  refine still_tail 14 (by kernel_rfl) (by kernel_rfl) ?_
  intro W hW
  have d1 : W.cell? ⟨b, 0 + 1, none⟩ = some (.int .i64 (s : Nat)) := by rw [hW]; exact c1
  have d0 : W.cell? ⟨b, 0, none⟩ = some (.slice A L c) := by rw [hW]; exact c0
  have g0 : W.frozen? ⟨b, 0, none⟩ = false := by rw [hW]; exact f0
  have HW := Lib.hid (show W = w.drewN (nq + 1) from hW)
  clear hW c0 c1 f0
  simp only [List.take_succ_cons, List.take_zero, List.drop_succ_cons, List.drop_zero]
  repeat still_step
  refine wpStill_nil ?_
  go_wp2
  go_end0
  refine ⟨rfl, ?_⟩
  rw [HW.out]
  exact (H1 _).out
end
end Go.Proofs.Ytfafonfphholmaa

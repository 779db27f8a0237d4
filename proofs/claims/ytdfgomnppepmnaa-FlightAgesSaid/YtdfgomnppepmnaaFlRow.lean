/-
  A flight and rows of Outs that share nothing with it ('FT': one row; 'FR': two); a variable beside them ('FB'). Contracts over the program.
-/
import Derived.Test.YtdfgomnppepmnaaFlSame
import Derived.Test.YtdfgomnppepmnaaSep
namespace Go.Proofs.Ytdfgomnppepmnaa
open Go.RowKit

/-- One number of an argument. -/
theorem ArgI.cellAt2 {w w' : World} {A : Option Addr} {n c : Nat} {xs : List Int} (h : ArgI .i64 8 w A n c xs) (hb : Below w.heap.size w w') (k : Nat) (hk : k < n) : ∃ b off, A = some ⟨b, off, none⟩ ∧ w'.cell? ⟨b, off + k, none⟩ = some (.int .i64 (xs.getD k 0)) := by
  obtain ⟨b, off, hA, hc⟩ := (h.rd.later hb).some_ (by rw [h.len]; omega)
  exact ⟨b, off, hA, hc k (by rw [h.len]; exact hk)⟩
theorem ArgI.cellAt3 {w w' : World} {b off n c : Nat} {xs : List Int} (h : ArgI .i64 8 w (some ⟨b, off, none⟩) n c xs) (hb : Below w.heap.size w w') (k : Nat) (hk : k < n) : w'.cell? ⟨b, off + k, none⟩ = some (.int .i64 (xs.getD k 0)) := by
  obtain ⟨b', off', hA, hc⟩ := h.cellAt2 hb k hk
  injection hA with hA
  injection hA with h1 h2 _
  subst h1
  subst h2
  exact hc

/-- The flight ps, and a row ts that lies elsewhere, laid since W. -/
structure FT (W w : World) (p : Nat) (v : Value) (ps : List Qd) (tv : Value) (ts : List Qd) : Prop where
  fl : FlA tFl tOutP w W.heap.size p v ps
  ow : OwnQ tOutP w W.heap.size tv ts
  ap : ∀ g, tv.ownBlock = some g → ¬ Fft p v g
  bel : Below W.heap.size W w

section
variable {W w w' : World} {p : Nat} {v v' tv tv' : Value} {ps ps' ts ts' : List Qd}
theorem FT.later (h : FT W w p v ps tv ts) (hb : Below w.heap.size w w') : FT W w' p v ps tv ts := ⟨h.fl.later hb, h.ow.later hb, h.ap, h.bel.trans (hb.mono h.bel.size)⟩
theorem FT.drewN (h : FT W w p v ps tv ts) (n : Nat) : FT W (w.drewN n) p v ps tv ts := h.later ⟨rfl, rfl, rfl, Nat.le_refl _, fun _ _ => rfl⟩
theorem FT.alloc (h : FT W w p v ps tv ts) (o : Obj) : FT W (w.alloc o) p v ps tv ts := h.later ((Below.refl _ _).alloc (Nat.le_refl _) _)
theorem FT.lf (h : FT W w p v ps tv ts) : ∀ k, Fft p v k → k < w.heap.size := fun k hk => (h.fl.foot_lt k hk).2
theorem FT.turn (h : FT W w p v ps tv ts) (h1 : FlA tFl tOutP w' W.heap.size p v' ps') (hsc : SC w w' (Fft p v) (Fft p v')) : FT W w' p v' ps' tv ts :=
  ⟨h1, h.ow.trn hsc.trn h.ap, fun g hg => hsc.out (h.ow.lt g hg).2 (h.ap g hg), h.bel.trans (h.fl.bel hsc (Nat.le_refl _))⟩
/-- A row that was laid anew. -/
theorem FT.row (h : FT W w p v ps tv ts) (hb : Below w.heap.size w w') (ho : OwnQ tOutP w' w.heap.size tv' ts') : FT W w' p v ps tv' ts' :=
  ⟨h.fl.later hb, ho.less h.bel.size, fun g hg hf => by have := (ho.lt g hg).1; have := h.lf g hf; omega, h.bel.trans (hb.mono h.bel.size)⟩
/-- append of one that was just laid. -/
theorem FT.app (h : FT W w p v ps tv ts) (n : Nat) (hn : ts.length = n) (hle : n ≤ 1099511627776) (q : Qd) :
    ∃ A' c' w', (Builtin.append_ #[31, 31] 31 #[tv, .slice (some ⟨w.heap.size, 0, none⟩) 1 1]).run Try.prog (w.alloc (.cells #[.int .i64 q.n, .int .i64 q.f, .int .i64 q.t, .int .i64 q.a] tOutP)) = .ok (.slice A' (n + 1) c') w' ∧ FT W w' p v ps (.slice A' (n + 1) c') (ts ++ [q]) := by
  obtain ⟨A', c', w', hr, ho, ht, hf⟩ := app_q (P := Try.prog) 31 31 _ Try.underlying31 info_fo rfl h.ow n hn hle h.bel.size q
  refine ⟨A', c', w', hr, h.fl.kept ht (fun k hk e => h.ap k e hk), ho, fun g hg hk => ?_, h.bel.trans (ht.below h.bel.size (fun k hk => (h.ow.lt k hk).1))⟩
  rcases hf g hg with h1 | h1
  · exact h.ap g h1 hk
  · have := h.lf g hk; omega
end

/-- A variable of four numbers beside a flight. -/
structure FB (w : World) (p : Nat) (v : Value) (b : Nat) (q : Qd) : Prop where
  bx : Bx w b q
  nf : ¬ Fft p v b
section
variable {w w' : World} {p b : Nat} {v v' : Value} {q : Qd}
theorem FB.later (h : FB w p v b q) (hb : Below w.heap.size w w') : FB w' p v b q := ⟨h.bx.later hb, h.nf⟩
theorem FB.turn (h : FB w p v b q) (hsc : SC w w' (Fft p v) (Fft p v')) : FB w' p v' b q := ⟨h.bx.of_block (hsc.trn.block b h.bx.lt h.nf), hsc.out h.bx.lt h.nf⟩
end

/-- The flight ps, and two rows that lie elsewhere. -/
structure FR (W w : World) (p : Nat) (v : Value) (ps : List Qd) (v1 : Value) (l1 : List Qd) (v2 : Value) (l2 : List Qd) : Prop where
  fl : FlA tFl tOutP w W.heap.size p v ps
  o1 : OwnQ tOutP w W.heap.size v1 l1
  o2 : OwnQ tOutP w W.heap.size v2 l2
  a1 : ∀ g, v1.ownBlock = some g → ¬ Fft p v g
  a2 : ∀ g, v2.ownBlock = some g → ¬ Fft p v g
  bel : Below W.heap.size W w
section
variable {W w w' : World} {p : Nat} {v v' v1 v2 : Value} {ps ps' l1 l2 : List Qd}
theorem FR.later (h : FR W w p v ps v1 l1 v2 l2) (hb : Below w.heap.size w w') : FR W w' p v ps v1 l1 v2 l2 := ⟨h.fl.later hb, h.o1.later hb, h.o2.later hb, h.a1, h.a2, h.bel.trans (hb.mono h.bel.size)⟩
theorem FR.drewN (h : FR W w p v ps v1 l1 v2 l2) (n : Nat) : FR W (w.drewN n) p v ps v1 l1 v2 l2 := h.later ⟨rfl, rfl, rfl, Nat.le_refl _, fun _ _ => rfl⟩
theorem FR.turn (h : FR W w p v ps v1 l1 v2 l2) (h1 : FlA tFl tOutP w' W.heap.size p v' ps') (hsc : SC w w' (Fft p v) (Fft p v')) : FR W w' p v' ps' v1 l1 v2 l2 :=
  ⟨h1, h.o1.trn hsc.trn h.a1, h.o2.trn hsc.trn h.a2, fun g hg => hsc.out (h.o1.lt g hg).2 (h.a1 g hg), fun g hg => hsc.out (h.o2.lt g hg).2 (h.a2 g hg), h.bel.trans (h.fl.bel hsc (Nat.le_refl _))⟩
/-- Two rows that were laid behind the flight. -/
theorem FR.of (h : FlA tFl tOutP w W.heap.size p v ps) (hb : Below W.heap.size W w) (hT : TwoQ tOutP w w' v1 l1 v2 l2) : FR W w' p v ps v1 l1 v2 l2 :=
  ⟨h.later hT.bel, hT.o1.less hb.size, hT.o2.less hb.size, fun g hg hf => by have := (hT.o1.lt g hg).1; have := (h.foot_lt g hf).2; omega, fun g hg hf => by have := (hT.o2.lt g hg).1; have := (h.foot_lt g hf).2; omega, hb.trans (hT.bel.mono hb.size)⟩
end

/-- All numbers are unlike, and none is 1 or 99. -/
structure Unl (ps : List Qd) : Prop where
  ne : ∀ i j, i < j → j < ps.length → (ps.getD i qz).n ≠ (ps.getD j qz).n
  one : ∀ i, i < ps.length → (ps.getD i qz).n ≠ 1 ∧ (ps.getD i qz).n ≠ 99
section
variable {ps : List Qd}
theorem Unl.first (h : Unl ps) (k : Nat) (hk : k < ps.length) : FirstQ ps (ps.getD k qz).n k := ⟨hk, rfl, fun j hj => h.ne j k hj hk⟩
theorem goneQ_getD (ps : List Qd) (k j : Nat) (hk : k < ps.length) : (goneQ ps k).getD j qz = if j < k then ps.getD j qz else ps.getD (j + 1) qz := by
  unfold goneQ
  simp only [List.getD_eq_getElem?_getD]
  by_cases h : j < k
  · rw [if_pos h, List.getElem?_append_left (by rw [List.length_take]; omega), List.getElem?_take, if_pos h]
  · rw [if_neg h, List.getElem?_append_right (by rw [List.length_take]; omega), List.length_take, List.getElem?_drop]
    congr 2
    omega
theorem Unl.gone (h : Unl ps) (k : Nat) (hk : k < ps.length) : Unl (goneQ ps k) := by
  have hl := goneQ_len hk
  refine ⟨fun i j hij hj => ?_, fun i hi => ?_⟩
  · rw [goneQ_getD ps k i hk, goneQ_getD ps k j hk]
    split <;> split
    · exact h.ne i j hij (by omega)
    · exact h.ne i (j + 1) (by omega) (by omega)
    · omega
    · exact h.ne (i + 1) (j + 1) (by omega) (by omega)
  · rw [goneQ_getD ps k i hk]
    split
    · exact h.one i (by omega)
    · exact h.one (i + 1) (by omega)
theorem Unl.free (h : Unl ps) (k : Nat) (hk : k < ps.length) : NoneQ (goneQ ps k) (ps.getD k qz).n := by
  have hl := goneQ_len hk
  intro j hj
  rw [goneQ_getD ps k j hk]
  split
  · exact h.ne j k (by omega) hk
  · exact fun e => h.ne k (j + 1) (by omega) (by omega) e.symm
theorem getD_app_lt (ps qs : List Qd) (i : Nat) (h : i < ps.length) : (ps ++ qs).getD i qz = ps.getD i qz := by
  simp only [List.getD_eq_getElem?_getD]
  rw [List.getElem?_append_left h]
theorem getD_app_new (ps : List Qd) (q : Qd) : (ps ++ [q]).getD ps.length qz = q := by
  simp [List.getD_eq_getElem?_getD]
theorem Unl.app (h : Unl ps) (q : Qd) (hq : NoneQ ps q.n) (h1 : q.n ≠ 1 ∧ q.n ≠ 99) : Unl (ps ++ [q]) := by
  have hl : (ps ++ [q]).length = ps.length + 1 := by simp
  refine ⟨fun i j hij hj => ?_, fun i hi => ?_⟩
  · rw [getD_app_lt ps [q] i (by omega)]
    by_cases e : j = ps.length
    · rw [e, getD_app_new]
      exact hq i (by omega)
    · rw [getD_app_lt ps [q] j (by omega)]
      exact h.ne i j hij (by omega)
  · by_cases e : i = ps.length
    · rw [e, getD_app_new]; exact h1
    · rw [getD_app_lt ps [q] i (by omega)]
      exact h.one i (by omega)
theorem Unl.nil : Unl [] := ⟨fun i j _ hj => by simp at hj, fun i hi => by simp at hi⟩
end
end Go.Proofs.Ytdfgomnppepmnaa

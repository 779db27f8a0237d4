/-
  Quad · Tail · Flight.
-/
import Derived.Test.YtpjlnpnadkbakaaGreatQBMem
import Derived.Laws.CopyOwn
import Derived.Deep.OwnRows
import Derived.Handy
import Derived.StillTailTactics
import Derived.Test.YtpjlnpnadkbakaaGreatRows
import Derived.Deep.QuietTactic
import Derived.Deep.RegionHeld3
import Derived.Lib.SliceRun
import Derived.BigQuiet
import Derived.IntWalk
import Derived.WalkLawsBesides
namespace Go.Proofs.YtpjlnpnadkbakaaGreat
set_option maxRecDepth 10000
open Go.RowKit
structure Qd where
  n : Int
  f : Int
  t : Int
  a : Int
theorem Qd.same {x y : Qd} (h1 : x.n = y.n) (h2 : x.f = y.f) (h3 : x.t = y.t) (h4 : x.a = y.a) : x = y := by
  cases x; cases y; simp_all
def qz : Qd := ⟨0, 0, 0, 0⟩
def qd (q : Qd) : List Value := [.int .i64 q.n, .int .i64 q.f, .int .i64 q.t, .int .i64 q.a]
def qds (ps : List Qd) : List Value := ps.flatMap qd
def qv (q : Qd) : Value := .agg #[.int .i64 q.n, .int .i64 q.f, .int .i64 q.t, .int .i64 q.a]
theorem qds_nil : qds [] = [] := rfl
theorem qds_cons (p : Qd) (ps : List Qd) : qds (p :: ps) = .int .i64 p.n :: .int .i64 p.f :: .int .i64 p.t :: .int .i64 p.a :: qds ps := by simp [qds, qd]
theorem qds_len (ps : List Qd) : (qds ps).length = ps.length * 4 := by
  induction ps with
  | nil => rfl
  | cons p ps ih => rw [qds_cons]; simp only [List.length_cons]; rw [ih]; omega
theorem qds_app (a b : List Qd) : qds (a ++ b) = qds a ++ qds b := by simp [qds]
theorem qds_take (ps : List Qd) (k : Nat) : (qds ps).take (k * 4) = qds (ps.take k) := by
  induction ps generalizing k with
  | nil => simp [qds_nil]
  | cons p ps ih =>
    cases k with
    | zero => simp [qds_nil]
    | succ k => rw [show (k + 1) * 4 = k * 4 + 1 + 1 + 1 + 1 by omega, qds_cons, List.take_succ_cons, List.take_succ_cons, List.take_succ_cons, List.take_succ_cons, ih, List.take_succ_cons, qds_cons]
theorem qds_drop (ps : List Qd) (k : Nat) : (qds ps).drop (k * 4) = qds (ps.drop k) := by
  induction ps generalizing k with
  | nil => simp [qds_nil]
  | cons p ps ih =>
    cases k with
    | zero => simp
    | succ k => rw [show (k + 1) * 4 = k * 4 + 1 + 1 + 1 + 1 by omega, qds_cons, List.drop_succ_cons, List.drop_succ_cons, List.drop_succ_cons, List.drop_succ_cons, ih, List.drop_succ_cons]
theorem qds_get (ps : List Qd) (i : Nat) (hi : i < ps.length) : (qds ps)[i * 4]? = some (.int .i64 (ps.getD i qz).n) ∧ (qds ps)[i * 4 + 1]? = some (.int .i64 (ps.getD i qz).f) ∧ (qds ps)[i * 4 + 2]? = some (.int .i64 (ps.getD i qz).t) ∧ (qds ps)[i * 4 + 3]? = some (.int .i64 (ps.getD i qz).a) := by
  induction ps generalizing i with
  | nil => simp at hi
  | cons p ps ih =>
    cases i with
    | zero => simp [qds_cons]
    | succ i =>
      have := ih i (by simpa using hi)
      rw [qds_cons, show (i + 1) * 4 = i * 4 + 4 by omega]
      simpa using this
theorem qds_one (ps : List Qd) : ∀ u ∈ qds ps, u.oneCell' = true := by
  intro u hu
  simp only [qds, qd, List.mem_flatMap] at hu
  obtain ⟨p, _, hp⟩ := hu
  simp only [List.mem_cons, List.not_mem_nil, or_false] at hp
  rcases hp with rfl | rfl | rfl | rfl <;> rfl
def OwnQ (e : TypeId) (w : World) (B : Nat) (v : Value) (ps : List Qd) : Prop := w.ownsRow B e 4 v ps.length (qds ps)
section
variable {e : TypeId} {w w' : World} {B : Nat} {v : Value} {ps qs : List Qd} {F F' : Nat → Prop}
theorem OwnQ.nil (e : TypeId) (w : World) (B : Nat) : OwnQ e w B (.slice none 0 0) [] := World.ownsRow_nil w B e 4
theorem OwnQ.parts (h : OwnQ e w B v ps) : (v = .slice none 0 0 ∧ ps = []) ∨
    ∃ g cap, ∃ cur : List Value, v = .slice (some ⟨g, 0, none⟩) ps.length cap ∧ B ≤ g ∧ w.heap[g]? = some (.cells cur.toArray e (0, 0)) ∧ ps.length ≤ cap ∧ cap ≤ maxLen ∧ cur.length = cap * 4 ∧ cur.take (ps.length * 4) = qds ps := by
  rcases h.2 with ⟨rfl, h0⟩ | ⟨g, cap, cur, rfl, h1, h2, h3, h4, h5, h6⟩
  · exact .inl ⟨rfl, List.eq_nil_of_length_eq_zero h0⟩
  · exact .inr ⟨g, cap, cur.toList, rfl, h1, by simpa using h2, h3, h4, by simpa using h5, h6⟩
theorem OwnQ.of {g cap n : Nat} {cur : List Value} (hB : B ≤ g) (hg : w.heap[g]? = some (.cells cur.toArray e (0, 0))) (hn : ps.length = n) (hc : n ≤ cap) (hm : cap ≤ maxLen) (hl : cur.length = cap * 4) (ht : cur.take (n * 4) = qds ps) :
    OwnQ e w B (.slice (some ⟨g, 0, none⟩) n cap) ps := by
  subst hn
  exact ⟨qds_len ps, .inr ⟨g, cap, cur.toArray, rfl, hB, hg, hc, hm, by simpa using hl, by simpa using ht⟩⟩
theorem OwnQ.form (h : OwnQ e w B v ps) : ∃ A c, v = .slice A ps.length c := by
  rcases h.parts with ⟨rfl, rfl⟩ | ⟨g, cap, cur, rfl, _⟩
  · exact ⟨none, 0, rfl⟩
  · exact ⟨_, _, rfl⟩
theorem OwnQ.len {A : Option Addr} {n c : Nat} (h : OwnQ e w B (.slice A n c) ps) : ps.length = n := by
  obtain ⟨A', c', hv⟩ := h.form
  injection hv with _ h2 _
  exact h2.symm
theorem OwnQ.drewN (h : OwnQ e w B v ps) (n : Nat) : OwnQ e (w.drewN n) B v ps := h
theorem OwnQ.kept {row : Option Nat} (h : OwnQ e w B v ps) (hg : w.grownBy w' row) (hne : v.ownBlock = none ∨ v.ownBlock ≠ row) : OwnQ e w' B v ps := World.ownsRow.kept h hg hne
theorem OwnQ.later (h : OwnQ e w B v ps) (hb : Below w.heap.size w w') : OwnQ e w' B v ps :=
  h.kept (row := none) ⟨hb.os, hb.tape, hb.output, hb.size, fun i hi _ => hb.block i hi⟩ (by cases v.ownBlock <;> simp)
theorem OwnQ.alloc (h : OwnQ e w B v ps) (o : Obj) : OwnQ e (w.alloc o) B v ps := World.ownsRow.alloc h o
theorem OwnQ.lt (h : OwnQ e w B v ps) : ∀ g, v.ownBlock = some g → B ≤ g ∧ g < w.heap.size := World.ownsRow.lt h
theorem OwnQ.less {B' : Nat} (h : OwnQ e w B v ps) (hB : B' ≤ B) : OwnQ e w B' v ps := by
  refine ⟨h.1, ?_⟩
  rcases h.2 with h2 | ⟨g, cap, cur, hv, hg, r⟩
  · exact .inl h2
  · exact .inr ⟨g, cap, cur, hv, Nat.le_trans hB hg, r⟩
theorem OwnQ.trn (h : OwnQ e w B v ps) (ht : Trn w w' F) (hn : ∀ g, v.ownBlock = some g → ¬ F g) : OwnQ e w' B v ps := by
  refine ⟨h.1, ?_⟩
  rcases h.2 with h2 | ⟨g, cap, cur, rfl, hB, hg, r⟩
  · exact .inl h2
  · exact .inr ⟨g, cap, cur, rfl, hB, by rw [ht.block g (Array.getElem?_eq_some_iff.1 hg).1 (hn g rfl)]; exact hg, r⟩
theorem OwnQ.not_row {t : TypeId} {b : Nat} (h : OwnQ e w B v ps) {f : Nat → Value} {n : Nat} (hr : w.rowIs b t n f) (ht : e ≠ t) : v.ownBlock ≠ some b := by
  rcases h.parts with ⟨rfl, _⟩ | ⟨g, cap, cur, rfl, _, hh, _⟩
  · simp [Value.ownBlock]
  · intro he
    simp only [Value.ownBlock, Option.some.injEq] at he
    subst he
    obtain ⟨cur', hh', _⟩ := hr
    rw [hh] at hh'
    injection hh' with hh'
    injection hh' with _ ht'
    exact ht ht'
theorem OwnQ.cells {g n c : Nat} (h : OwnQ e w B (.slice (some ⟨g, 0, none⟩) n c) ps) (i : Nat) (hi : i < n) :
    w.cell? ⟨g, i * 4, none⟩ = some (.int .i64 (ps.getD i qz).n) ∧ w.cell? ⟨g, i * 4 + 1, none⟩ = some (.int .i64 (ps.getD i qz).f) ∧ w.cell? ⟨g, i * 4 + 2, none⟩ = some (.int .i64 (ps.getD i qz).t) ∧ w.cell? ⟨g, i * 4 + 3, none⟩ = some (.int .i64 (ps.getD i qz).a) := by
  have hn := h.len
  have h' : w.ownsRow B e 4 (.slice (some ⟨g, 0, none⟩) n c) n (qds ps) := by unfold OwnQ at h; rw [hn] at h; exact h
  have hg := qds_get ps i (by omega)
  exact ⟨(h'.cellAt (i * 4) (by omega)).trans hg.1, (h'.cellAt (i * 4 + 1) (by omega)).trans hg.2.1, (h'.cellAt (i * 4 + 2) (by omega)).trans hg.2.2.1, (h'.cellAt (i * 4 + 3) (by omega)).trans hg.2.2.2⟩
theorem OwnQ.at {A : Option Addr} {n c : Nat} (h : OwnQ e w B (.slice A n c) ps) (h0 : 0 < n) : ∃ g, A = some ⟨g, 0, none⟩ ∧ B ≤ g ∧ g < w.heap.size := by
  have hn := h.len
  rcases h.parts with ⟨_, rfl⟩ | ⟨g, cap, cur, hv, hB, _⟩
  · simp at hn; omega
  · injection hv with hA _ _
    subst hA
    exact ⟨g, rfl, hB, (h.lt g rfl).2⟩
theorem OwnQ.fr {g n c : Nat} (h : OwnQ e w B (.slice (some ⟨g, 0, none⟩) n c) ps) (i : Nat) : w.frozen? ⟨g, i, none⟩ = false := by
  have hn := h.len
  have h' : w.ownsRow B e 4 (.slice (some ⟨g, 0, none⟩) n c) n (qds ps) := by unfold OwnQ at h; rw [hn] at h; exact h
  exact h'.frozenAt i
theorem OwnQ.src {g n c : Nat} (h : OwnQ e w B (.slice (some ⟨g, 0, none⟩) n c) ps) (k : Nat) : ∀ j v, (qds (ps.drop k))[j]? = some v → w.cell? ((⟨g, k * 4, none⟩ : Addr).add j) = some v := by
  intro j v hj
  have hn := h.len
  have h' : w.ownsRow B e 4 (.slice (some ⟨g, 0, none⟩) n c) n (qds ps) := by unfold OwnQ at h; rw [hn] at h; exact h
  have hl : k * 4 + j < n * 4 := by
    have := (List.getElem?_eq_some_iff.1 hj).1
    rw [qds_len, List.length_drop] at this
    omega
  rw [Addr.add_lit, h'.cellAt _ hl, ← hj, ← qds_drop, List.getElem?_drop]
theorem OwnQ.cap {A : Option Addr} {n c : Nat} (h : OwnQ e w B (.slice A n c) ps) : n ≤ c ∧ c ≤ maxLen := by
  rcases h.parts with ⟨hv, rfl⟩ | ⟨g, cap, cur, hv, _, _, h1, h2, _⟩
  · injection hv with _ h2 h3
    subst h2; subst h3
    exact ⟨Nat.le_refl _, by unfold maxLen; omega⟩
  · injection hv with _ h3 h4
    subst h4; subst h3
    exact ⟨h1, h2⟩
theorem OwnQ.heap {a : Addr} {n c : Nat} (h : OwnQ e w B (.slice (some a) n c) ps) : a = ⟨a.block, 0, none⟩ ∧ ∃ cur : List Value, w.heap[a.block]? = some (.cells cur.toArray e (0, 0)) ∧ cur.length = c * 4 ∧ cur.take (n * 4) = qds ps ∧ B ≤ a.block ∧ n ≤ c ∧ c ≤ maxLen ∧ ps.length = n := by
  rcases h.parts with ⟨hv, _⟩ | ⟨g, cap, cur, hv, h1, h2, h3, h4, h5, h6⟩
  · injection hv with hA _ _
    cases hA
  · injection hv with hA hn hc
    injection hA with hA
    subst hA
    subst hc
    rw [hn]
    rw [← hn] at h3 h6
    exact ⟨rfl, cur, h2, h5, by rw [hn] at h6; exact h6, h1, by omega, h4, rfl⟩
theorem OwnQ.new (w : World) (cs : Array Value) (e : TypeId) (ps : List Qd) (hc : cs.toList = qds ps) (hl : ps.length ≤ maxLen) : OwnQ e (w.alloc (.cells cs e)) w.heap.size (.slice (some ⟨w.heap.size, 0, none⟩) ps.length ps.length) ps := by
  have := World.ownsRow_lit (base := w.heap.size) (e := e) (size := 4) w cs ps.length (Nat.le_refl _) hl (by rw [← Array.length_toList, hc, qds_len])
  rwa [hc] at this
theorem OwnQ.cut {A : Option Addr} {n c : Nat} (h : OwnQ e w B (.slice A n c) ps) (i : Nat) (hi : i ≤ n) : OwnQ e w B (.slice A i c) (ps.take i) := by
  have hl := h.len
  have htl : (ps.take i).length = i := by rw [List.length_take]; omega
  cases A with
  | none =>
    rcases h.parts with ⟨hv, rfl⟩ | ⟨g, cap, cur, hv, _⟩
    · injection hv with _ h1 h2
      subst h1
      subst h2
      obtain rfl : i = 0 := by omega
      exact OwnQ.nil _ _ _
    · injection hv with hA _ _
      cases hA
  | some a =>
    obtain ⟨ha, cur, hg, hc, ht, hB, hnc, hcm, _⟩ := h.heap
    rw [ha]
    refine OwnQ.of hB hg htl (by omega) hcm hc ?_
    rw [← qds_take, ← ht, List.take_take]
    congr 1
    omega
theorem OwnQ.store {g n c : Nat} (h : OwnQ e w B (.slice (some ⟨g, 0, none⟩) n c) ps) (i : Nat) (hi : i < n) (x : Int) :
    OwnQ e (w.setCell ⟨g, i * 4, none⟩ (.int .i64 x)) B (.slice (some ⟨g, 0, none⟩) n c) (ps.set i ⟨x, (ps.getD i qz).f, (ps.getD i qz).t, (ps.getD i qz).a⟩) := by
  have hn := h.len
  have h' : w.ownsRow B e 4 (.slice (some ⟨g, 0, none⟩) n c) n (qds ps) := by unfold OwnQ at h; rw [hn] at h; exact h
  have h2 := (World.ownsRow.stored h' (i * 4) (.int .i64 x)).1
  unfold OwnQ
  rw [List.length_set, hn]
  have he : (qds ps).set (i * 4) (.int .i64 x) = qds (ps.set i ⟨x, (ps.getD i qz).f, (ps.getD i qz).t, (ps.getD i qz).a⟩) := by
    clear h h' h2
    induction ps generalizing i n with
    | nil => simp [qds_nil]
    | cons p ps ih =>
      cases i with
      | zero => simp [qds_cons]
      | succ i =>
        rw [qds_cons, show (i + 1) * 4 = i * 4 + 4 by omega]
        have := ih (n := n - 1) i (by omega) (by simp at hn; omega)
        simp only [List.set_cons_succ, List.getD_cons_succ, qds_cons]
        rw [this]
  rw [he] at h2
  exact h2
end
theorem splice_ahead4 {α : Type} (L : List α) (o k : Nat) (cs : List α) (ho : o ≤ L.length) (hk : k ≤ o) : (splice L o cs).take k = L.take k := by
  unfold splice
  rw [List.take_append_of_le_length (by rw [List.length_take]; omega), List.take_take]
  congr 1
  omega
section
variable {P : Program} (w : World)
theorem run_app4 (t ty e : TypeId) (z : Value) (ht : P.underlying t = some (.slice e)) (hinfo : (P.info? e).map (fun i => (i.zero, i.size, i.bytes)) = some (some z, 4, 32)) (hzs : z.cells.size = 4)
    (B : Nat) (v : Value) (ps : List Qd) (hown : OwnQ e w B v ps) (A : Option Addr) (m c : Nat) (qs : List Qd) (hm : qs.length = m) (hsrc : 0 < m → ∃ ad, A = some ad ∧ ∀ j u, (qds qs)[j]? = some u → w.cell? (ad.add j) = some u)
    (hb : (ps.length + m) * 32 ≤ 140737488355328) (hB : B ≤ w.heap.size) :
    ∃ A' c' w', (Builtin.append_ #[t, t] ty #[v, .slice A m c]).run P w = .ok (.slice A' (ps.length + m) c') w' ∧ OwnQ e w' B (.slice A' (ps.length + m) c') (ps ++ qs) ∧ w.grownBy w' v.ownBlock ∧ (∀ g, (Value.slice A' (ps.length + m) c').ownBlock = some g → v.ownBlock = some g ∨ w.heap.size ≤ g) := by
  obtain ⟨i, hi, hz0, hz2, hz3⟩ := info_parts hinfo
  have hmax : ps.length + m ≤ maxLen := by unfold maxLen; omega
  have hlen : (ps ++ qs).length = ps.length + m := by simp [hm]
  have hnil : ∀ (A : Option Addr), m = 0 → (Builtin.append_ #[t, t] ty #[v, .slice A m c]).run P w = .ok v w := by
    intro A h0
    subst h0
    rcases hown.parts with ⟨rfl, rfl⟩ | ⟨g, cap, cur, rfl, _, _, hnc, _⟩
    · cases A <;> simp [Builtin.append_, run_underlying ht, sizeOf, typeInfo, hi, Builtin.lenOf, Builtin.firstCells, loadCells, loadCellsFrom]
    · cases A <;> simp [Builtin.append_, run_underlying ht, sizeOf, typeInfo, hi, Builtin.lenOf, Builtin.firstCells, hnc, storeCells, loadCells, loadCellsFrom]
  by_cases h0 : m = 0
  · have hq : qs = [] := List.eq_nil_of_length_eq_zero (by omega)
    have hr := hnil A h0
    subst hq
    subst h0
    obtain ⟨A', c', rfl⟩ := hown.form
    exact ⟨A', c', w, by simpa using hr, by simpa using hown, World.grownBy.refl _ _, fun g hg => .inl hg⟩
  · obtain ⟨ad, rfl, hsr⟩ := hsrc (by omega)
    replace hsrc := hsr
    have hlc : (qds qs).length = m * 4 := by rw [qds_len, hm]
    obtain ⟨v', w', hrun, h2, h3, _⟩ := run_append_own (P := P) w B t ty e i z 4 32 ht hi hz0 hz2 hz3 hzs (by omega) v ps.length (qds ps) hown ad m c (qds qs) hlc hsrc (qds_one qs) hmax hb hB
    have ho : OwnQ e w' B v' (ps ++ qs) := by
      unfold OwnQ; rw [hlen, qds_app]; exact h2
    obtain ⟨A', c', rfl⟩ := ho.form
    rw [hlen] at hrun ho
    refine ⟨A', c', w', hrun, ho, h3, ?_⟩
    rcases hown.parts with ⟨rfl, rfl⟩ | ⟨b, cap, cur, rfl, _, hbk, hnc, _, hcs, htake⟩
    · obtain ⟨v2, w2, hrun2, h4, _, _⟩ := run_append_own (P := P) w w.heap.size t ty e i z 4 32 ht hi hz0 hz2 hz3 hzs (by omega) (.slice none 0 0) 0 (qds []) (World.ownsRow_nil _ _ _ _) ad m c (qds qs) hlc hsrc (qds_one qs) (by simpa using hmax) (by simpa using hb) (Nat.le_refl _)
      rw [hrun2] at hrun
      injection hrun with hv _
      subst hv
      intro g hg
      exact .inr (World.ownsRow.lt h4 g hg).1
    · by_cases hroom : ps.length + m ≤ cap
      · have hr1 := run_append_room (P := P) w t ty e i ht hi b ps.length cap cur.toArray hbk ad m c (qds qs) (by rw [hz2]; exact hlc) hsrc (qds_one qs) hroom (by rw [hz2, hlc, List.size_toArray, hcs]; omega)
        rw [hr1] at hrun
        injection hrun with hv _
        intro g hg
        rw [← hv] at hg
        exact .inl (by simpa [Value.ownBlock] using hg)
      · have holds := World.ownsRow.cells hown (g := b) rfl
        have hr1 := run_append_grow (P := P) w t ty e i z ht hi hz0 ⟨b, 0, none⟩ ps.length cap (qds ps) (by rw [hz2, qds_len]) holds ad m c (qds qs) (by rw [hz2]; exact hlc) hsrc (by omega) (by unfold maxLen at hmax; omega) (growslice_fits (by omega) (by rw [hz3]; exact hb))
        rw [hr1] at hrun
        injection hrun with hv _
        intro g hg
        right
        rw [← hv] at hg
        simp [Value.ownBlock] at hg
        omega
theorem run_app4_fits (t ty e : TypeId) (z : Value) (ht : P.underlying t = some (.slice e)) (hinfo : (P.info? e).map (fun i => (i.zero, i.size, i.bytes)) = some (some z, 4, 32))
    (B g n c : Nat) (ps : List Qd) (hown : OwnQ e w B (.slice (some ⟨g, 0, none⟩) n c) ps) (A : Option Addr) (m mc : Nat) (qs : List Qd) (hm : qs.length = m) (hsrc : 0 < m → ∃ ad, A = some ad ∧ ∀ j u, (qds qs)[j]? = some u → w.cell? (ad.add j) = some u) (hroom : n + m ≤ c) :
    ∃ w', (Builtin.append_ #[t, t] ty #[.slice (some ⟨g, 0, none⟩) n c, .slice A m mc]).run P w = .ok (.slice (some ⟨g, 0, none⟩) (n + m) c) w' ∧ OwnQ e w' B (.slice (some ⟨g, 0, none⟩) (n + m) c) (ps ++ qs) ∧ w.grownBy w' (some g) := by
  obtain ⟨i, hi, hz0, hz2, hz3⟩ := info_parts hinfo
  have hl := hown.len
  by_cases h0 : m = 0
  · have hq : qs = [] := List.eq_nil_of_length_eq_zero (by omega)
    subst hq
    subst h0
    refine ⟨w, ?_, by simpa using hown, World.grownBy.refl _ _⟩
    cases A <;> simp [Builtin.append_, run_underlying ht, sizeOf, typeInfo, hi, Builtin.lenOf, Builtin.firstCells, hown.cap.1, storeCells, loadCells, loadCellsFrom]
  · obtain ⟨ad, rfl, hsr⟩ := hsrc (by omega)
    have h' : w.ownsRow B e 4 (.slice (some ⟨g, 0, none⟩) n c) n (qds ps) := by unfold OwnQ at hown; rw [hl] at hown; exact hown
    obtain ⟨w', hr, h2, h3⟩ := run_append_fits (P := P) w B t ty e i 4 ht hi hz2 g n c (qds ps) h' ad m mc (qds qs) (by rw [qds_len, hm]) hsr (qds_one qs) hroom
    refine ⟨w', hr, ?_, h3⟩
    unfold OwnQ
    rw [List.length_append, hl, hm, qds_app]
    exact h2
theorem run_clear4 (t e : TypeId) (z : Value) (ht : P.underlying t = some (.slice e)) (hv : ∀ w, (zeroValue e).run P w = .ok z w) (hz : z.cells = #[.int .i64 0, .int .i64 0, .int .i64 0, .int .i64 0])
    (dp : Option Addr) (n c g o : Nat) (cur : List Value) (t' : TypeId) (hg : w.heap[g]? = some (.cells cur.toArray t' (0, 0))) (hpos : 0 < n → dp = some ⟨g, o, none⟩) (hfit : o + n * 4 ≤ cur.length) :
    ∃ w' Z, (∀ ty, (Builtin.clear_ #[t] ty #[.slice dp n c]).run P w = .ok (.tuple #[]) w') ∧ Z.length = n * 4 ∧ w'.heap[g]? = some (.cells (splice cur o Z).toArray t' (0, 0)) ∧ w.grownBy w' (some g) ∧ w'.heap.size = w.heap.size := by
  cases n with
  | zero =>
    refine ⟨w, [], fun ty => ?_, rfl, by simpa [splice] using hg, World.grownBy.refl _ _, rfl⟩
    cases dp <;> simp [Builtin.clear_, run_underlying ht]
  | succ n =>
    obtain rfl := hpos (by omega)
    have hlen : (Builtin.zeroCells z.cells (n + 1)).toList.length = (n + 1) * 4 := by rw [Array.length_toList, size_zeroCells, hz]; rfl
    have hone : ∀ v ∈ (Builtin.zeroCells z.cells (n + 1)).toList, v.oneCell' = true := by
      intro v hv
      rw [hz] at hv
      simp only [Builtin.zeroCells, Array.toList_map, List.mem_map] at hv
      obtain ⟨i, _, rfl⟩ := hv
      have : i % 4 = 0 ∨ i % 4 = 1 ∨ i % 4 = 2 ∨ i % 4 = 3 := by omega
      rcases this with h | h | h | h <;> simp [h, Value.oneCell']
    have hst := run_storeCells_at P g o t' (Builtin.zeroCells z.cells (n + 1)).toList 0 cur.toArray w hg (by rw [hlen]; simpa using hfit) hone
    refine ⟨w.setRow g (splice cur o (Builtin.zeroCells z.cells (n + 1)).toList).toArray, _, fun ty => ?_, hlen, setRow_heap w g _ _ t' _ hg, ⟨rfl, rfl, rfl, by simp [World.setRow], fun j _ hj => setRow_other w g j _ (fun e => hj (by rw [e]))⟩, by simp [World.setRow]⟩
    simp only [Nat.add_zero] at hst
    simp [Builtin.clear_, run_underlying ht, hv, hst, splice]
end
section
variable {P : Program} {w : World} {e : TypeId} {B : Nat} {v : Value} {ps : List Qd}
theorem app_q (t ty : TypeId) (z : Value) (ht : P.underlying t = some (.slice e)) (hinfo : (P.info? e).map (fun i => (i.zero, i.size, i.bytes)) = some (some z, 4, 32)) (hzs : z.cells.size = 4)
    (h : OwnQ e w B v ps) (n : Nat) (hn : ps.length = n) (hle : n ≤ 1099511627776) (hB : B ≤ w.heap.size) (q : Qd) :
    ∃ A' c' w', (Builtin.append_ #[t, t] ty #[v, .slice (some ⟨w.heap.size, 0, none⟩) 1 1]).run P (w.alloc (.cells #[.int .i64 q.n, .int .i64 q.f, .int .i64 q.t, .int .i64 q.a] e)) = .ok (.slice A' (n + 1) c') w' ∧ OwnQ e w' B (.slice A' (n + 1) c') (ps ++ [q]) ∧
      Trn w w' (fun k => v.ownBlock = some k) ∧ (∀ g, (Value.slice A' (n + 1) c').ownBlock = some g → v.ownBlock = some g ∨ w.heap.size ≤ g) := by
  have h1 : OwnQ e (w.alloc (.cells #[.int .i64 q.n, .int .i64 q.f, .int .i64 q.t, .int .i64 q.a] e)) B v ps := h.alloc _
  obtain ⟨A', c', w', hr, ho, hg, hf⟩ := run_app4 (P := P) (w.alloc (.cells #[.int .i64 q.n, .int .i64 q.f, .int .i64 q.t, .int .i64 q.a] e)) t ty e z ht hinfo hzs B v ps h1 (some ⟨w.heap.size, 0, none⟩) 1 1 [q] rfl
    (fun _ => ⟨_, rfl, fun j u hj => by
      rw [Addr.add_lit, Nat.zero_add]
      have : (qds [q]) = [.int .i64 q.n, .int .i64 q.f, .int .i64 q.t, .int .i64 q.a] := rfl
      rw [this] at hj
      match j, hj with
      | 0, hj => simp at hj; subst hj; go_simp
      | 1, hj => simp at hj; subst hj; go_simp
      | 2, hj => simp at hj; subst hj; go_simp
      | 3, hj => simp at hj; subst hj; go_simp
      | j + 4, hj => simp at hj⟩) (by omega) (by rw [World.size_alloc]; omega)
  rw [hn] at hr ho hf
  exact ⟨A', c', w', hr, ho, (Trn.of_below (F := fun k => v.ownBlock = some k) ((Below.refl _ _).alloc (Nat.le_refl _) _)).trans (Trn.of_grown hg) (fun _ h => h) (fun _ _ h => h),
    fun g hg' => (hf g hg').imp id (fun h => by rw [World.size_alloc] at h; omega)⟩
end
section
variable {P : Program}
theorem wpList_app_r {w : World} {ops : Array Oper} {rest : List Oper} {o : Oper} {a : Act} {Q : Exit → Act → World → Prop} (hgd : o.guard = none) (d s : Operand) (t t' : TypeId)
    (ho : o.op = .call { callee := .builtin .append, args := #[d, s], argTypes := #[t, t'] }) (v u : Value) (hd : a.eval d = v) (hs : a.eval s = u) {v' : Value} {w' : World}
    (hr : (Builtin.append_ #[t, t'] o.type #[v, u]).run P w = .ok v' w') (h : wpList P ops Q rest (a.put o.dst v') w') : wpList P ops Q (o :: rest) a w := by
  refine wpList_plain hgd fun _ hK => ?_
  unfold Oper.wp execOp
  simp only [ho, resolve, invoke, builtin, Sem.run_bind, Sem.run_pure, Result.andThen_ok, List.map_toArray, List.map_cons, List.map_nil, hd, hs, hr]
  exact hK _ _ h
theorem slice_l4 (t : TypeId) (ht : P.underlying t = some (.slice (P.elem t))) (hs : ∀ w, (sizeOf (P.elem t)).run P w = .ok 4 w) (A : Option Addr) (n c i m : Nat) (h : i + m = n) (W : World) :
    (Instr.sliceAt t (.slice A n c) (some (.int .i64 (i : Nat))) none none).run P W = .ok (.slice (if c = i then A else A.map (·.add (i * 4))) m (c - i)) W := by
  obtain rfl : m = n - i := by omega
  rw [run_sliceAt_slice _ _ _ _ _ _ ht, run_slice_l (P := P) W t A n c ht .i64 (i : Int) (by omega) (by omega)]
  simp [hs, sliced, Result.andThen]
theorem slice_h4 (t : TypeId) (ht : P.underlying t = some (.slice (P.elem t))) (hs : ∀ w, (sizeOf (P.elem t)).run P w = .ok 4 w) (A : Option Addr) (n c i : Nat) (h : i ≤ c) (W : World) :
    (Instr.sliceAt t (.slice A n c) none (some (.int .i64 (i : Nat))) none).run P W = .ok (.slice A i c) W := by
  rw [run_sliceAt_slice _ _ _ _ _ _ ht, run_slice_h (P := P) W t A n c ht .i64 (i : Int) (by omega) (by omega)]
  cases A with
  | none => simp [hs, sliced, Result.andThen]
  | some a =>
    simp [hs, sliced, Result.andThen]
    intro _
    go_simp
theorem slice_lh4 (t : TypeId) (ht : P.underlying t = some (.slice (P.elem t))) (hs : ∀ w, (sizeOf (P.elem t)).run P w = .ok 4 w) (A : Option Addr) (n c i j m : Nat) (h : i + m = j) (hj : j ≤ c) (W : World) :
    (Instr.sliceAt t (.slice A n c) (some (.int .i64 (i : Nat))) (some (.int .i64 (j : Nat))) none).run P W = .ok (.slice (if c = i then A else A.map (·.add (i * 4))) m (c - i)) W := by
  obtain rfl : m = j - i := by omega
  rw [run_sliceAt_slice _ _ _ _ _ _ ht, run_slice_lh (P := P) W t A n c ht .i64 .i64 (i : Int) (j : Int) (by omega) (by omega) (by omega)]
  simp [hs, sliced, Result.andThen]
theorem slice_lhm4 (t : TypeId) (ht : P.underlying t = some (.slice (P.elem t))) (hs : ∀ w, (sizeOf (P.elem t)).run P w = .ok 4 w) (A : Option Addr) (n c i j k : Nat) (h : i ≤ j) (hj : j ≤ k) (hk : k ≤ c) (W : World) :
    (Instr.sliceAt t (.slice A n c) (some (.int .i64 (i : Nat))) (some (.int .i64 (j : Nat))) (some (.int .i64 (k : Nat)))).run P W = .ok (sliced A i j k 4) W := by
  rw [run_sliceAt_slice _ _ _ _ _ _ ht, run_slice_lhm (P := P) W t A n c ht .i64 .i64 .i64 (i : Int) (j : Int) (k : Int) (by omega) (by omega) (by omega) (by omega)]
  simp [hs, Result.andThen]
theorem step_app_r4 {w w' : World} {ops : Array Oper} {o : Oper} {a : Act} {K : Act → World → Prop} {Q : Exit → Act → World → Prop} {E : Prop} (hw : Region.wanted o (yielded ops a.tmps) = true) (s x : Operand) (t : TypeId)
    (ho : o.op = .call { callee := .builtin .append, args := #[s, x], argTypes := #[t, t] }) (v vx v' : Value) (hs : a.eval s = v) (hx : a.eval x = vx) (hrun : (Builtin.append_ #[t, t] o.type #[v, vx]).run P w = .ok v' w') (h : K (a.put o.dst v') w') :
    if Region.wanted o (yielded ops a.tmps) = true then Oper.wp P o a w K Q else E := by
  rw [if_pos hw]
  unfold Oper.wp execOp
  simp only [ho, resolve, invoke, builtin, Sem.run_bind, Sem.run_pure, Result.andThen_ok, List.map_toArray, List.map_cons, List.map_nil, hs, hx, hrun]
  exact h
end
end Go.Proofs.YtpjlnpnadkbakaaGreat
namespace Go.Proofs.YtpjlnpnadkbakaaGreat
set_option maxRecDepth 10000
open Go.RowKit
theorem still_tail {P : Program} {id : Nat} {Q : Exit → Act → World → Prop} {a : Act} {w : World} {l : List Oper} (n : Nat) (hm : P.follows .mixedOrders = true) (hB : Region.lexTailB .any l.toArray n = true)
    (h : ∀ W : World, W = w.drew → wpStill P l.toArray W (fun a' => wpList P l.toArray Q (l.drop n) a' W) (l.take n) a) : (Code.region id l.toArray true).wp P Q a w :=
  wp_region_still_tail n hm hB (h _ rfl)
end Go.Proofs.YtpjlnpnadkbakaaGreat
namespace Go.Proofs.YtpjlnpnadkbakaaGreat
set_option maxRecDepth 10000
open Go.RowKit
theorem wrap_q {n m : Int} (h : n = m) (h1 : -9223372036854775808 ≤ m) (h2 : m ≤ 9223372036854775807) : wrap64 n = m := by
  rw [h]
  exact IntWalk.wrap64_in (by omega) (by omega)
abbrev tOutP : TypeId := 181
abbrev tFl : TypeId := 235
structure FlA (ty e : TypeId) (w : World) (B p : Nat) (v : Value) (ps : List Qd) : Prop where
  row : w.rowIs p ty 1 (fun _ => v)
  own : OwnQ e w B v ps
  ge : B ≤ p
def Fft (p : Nat) (v : Value) (k : Nat) : Prop := k = p ∨ v.ownBlock = some k
structure FirstQ (ps : List Qd) (n : Int) (i : Nat) : Prop where
  lt : i < ps.length
  eq : (ps.getD i qz).n = n
  no : ∀ j, j < i → (ps.getD j qz).n ≠ n
def NoneQ (ps : List Qd) (n : Int) : Prop := ∀ j, j < ps.length → (ps.getD j qz).n ≠ n
def lateQ (ps : List Qd) (d : Int) : List Qd := ps.filter fun q => decide (q.a ≤ d)
def stayQ (ps : List Qd) (d : Int) : List Qd := ps.filter fun q => !decide (q.a ≤ d)
def goneQ (ps : List Qd) (i : Nat) : List Qd := ps.take i ++ ps.drop (i + 1)
theorem goneQ_len {ps : List Qd} {i : Nat} (h : i < ps.length) : (goneQ ps i).length = ps.length - 1 := by simp [goneQ]; omega
theorem info_fo : (Tryz.prog.info? tOutP).map (fun i => (i.zero, i.size, i.bytes)) = some (some (.agg #[.int .i64 0, .int .i64 0, .int .i64 0, .int .i64 0]), 4, 32) := by kernel_rfl
section
variable {ty e : TypeId} {w w' : World} {B B' p : Nat} {v v' : Value} {ps qs : List Qd} {F : Nat → Prop}
theorem FlA.lt (h : FlA ty e w B p v ps) : p < w.heap.size := h.row.lt
theorem FlA.kept (h : FlA ty e w B p v ps) (ht : Trn w w' F) (hf : ∀ k, Fft p v k → ¬ F k) : FlA ty e w' B p v ps :=
  ⟨ht.rowIs h.row (hf _ (.inl rfl)), h.own.trn ht (fun g hg => hf g (.inr hg)), h.ge⟩
theorem FlA.later (h : FlA ty e w B p v ps) (hb : Below w.heap.size w w') : FlA ty e w' B p v ps := h.kept (Trn.of_below (F := fun _ => False) hb) (fun _ _ => id)
theorem FlA.drewN (h : FlA ty e w B p v ps) (n : Nat) : FlA ty e (w.drewN n) B p v ps := h.later ⟨rfl, rfl, rfl, Nat.le_refl _, fun _ _ => rfl⟩
theorem FlA.alloc (h : FlA ty e w B p v ps) (o : Obj) : FlA ty e (w.alloc o) B p v ps := h.later ((Below.refl _ _).alloc (Nat.le_refl _) _)
theorem FlA.less (h : FlA ty e w B p v ps) (hB : B' ≤ B) : FlA ty e w B' p v ps := ⟨h.row, h.own.less hB, Nat.le_trans hB h.ge⟩
theorem FlA.foot_lt (h : FlA ty e w B p v ps) : ∀ k, Fft p v k → B ≤ k ∧ k < w.heap.size := by
  rintro k (rfl | hk)
  · exact ⟨h.ge, h.lt⟩
  · exact h.own.lt k hk
theorem FlA.size (h : FlA ty e w B p v ps) : B ≤ w.heap.size := Nat.le_trans h.ge (Nat.le_of_lt h.lt)
theorem FlA.c0 (h : FlA ty e w B p v ps) : w.cell? ⟨p, 0, none⟩ = some v := World.rowIs.cell (i := 0) h.row (by omega)
theorem FlA.fr (h : FlA ty e w B p v ps) (i : Nat) : w.frozen? ⟨p, i, none⟩ = false := World.rowIs.frozen h.row i
theorem FlA.put (h : FlA ty e w B p v ps) (hne : e ≠ ty) (ht : Trn w w' (fun k => v.ownBlock = some k)) (hv : OwnQ e w' B v' qs) (hf : ∀ g, v'.ownBlock = some g → v.ownBlock = some g ∨ w.heap.size ≤ g) :
    w'.cell? ⟨p, 0, none⟩ = some v ∧ w'.frozen? ⟨p, 0, none⟩ = false ∧ FlA ty e (w'.setCell ⟨p, 0, none⟩ v') B p v' qs ∧ SC w (w'.setCell ⟨p, 0, none⟩ v') (Fft p v) (Fft p v') := by
  have hr : w'.rowIs p ty 1 (fun _ => v) := ht.rowIs h.row (h.own.not_row h.row hne)
  have hp : v'.ownBlock ≠ some p := hv.not_row hr hne
  refine ⟨World.rowIs.cell (i := 0) hr (by omega), World.rowIs.frozen hr 0, ⟨(hr.set 0 v').congr fun i hi => by simp [show i = 0 by omega], hv.kept (setCell_one w' p 0 v') (.inr hp), h.ge⟩, ⟨?_, ?_⟩⟩
  · exact ht.trans (Trn.of_grown (setCell_one w' p 0 v')) (fun k hk => .inr hk) (fun k _ hk => .inl (Option.some.inj hk).symm)
  · rintro k (rfl | hk)
    · exact .inl (.inl rfl)
    · exact (hf k hk).imp .inr id
end
theorem newfl_any (w : World) : Calls Tryz.prog 169 #[] w fun e w' => e = .returned (.pointer (some ⟨w.heap.size, 0, none⟩)) ∧ FlA tFl tOutP w' w.heap.size w.heap.size (.slice none 0 0) [] ∧ Below w.heap.size w w' ∧ w'.heap.size = w.heap.size + 1 := by
  go_enter Tryz.func169, Tryz.ntmps169
  go_wp2
  go_ret
  refine ⟨rfl, ⟨?_, OwnQ.nil _ _ _, Nat.le_refl _⟩, (Below.refl _ _).alloc (Nat.le_refl _) _, by simp⟩
  exact World.rowIs_alloc w _ _ _ (fun i hi => by
    have : i < 1 := hi
    match i, this with
    | 0, _ => rfl)
theorem flclo_any (b : Nat) (n x y z u : Int) (w : World) (h : w.cell? ⟨b, 0, none⟩ = some (.int .i64 n)) :
    Calls Tryz.prog 271 #[.agg #[.int .i64 x, .int .i64 y, .int .i64 z, .int .i64 u], .pointer (some ⟨b, 0, none⟩)] w fun e w' => e = .returned (.bool (decide (x = n))) ∧ Below w.heap.size w w' := by
  have h1 := (World.block_lt_of_cell? w _ h : b < w.heap.size)
  have hb := (Below.refl w.heap.size w).alloc (Nat.le_refl _) (.cells #[.int .i64 x, .int .i64 y, .int .i64 z, .int .i64 u] tOutP)
  have h2 := cell_later ((Below.refl w.heap.size w).alloc (Nat.le_refl _) (.cells #[.int .i64 x, .int .i64 y, .int .i64 z, .int .i64 u] tOutP)) h
  have HB := Lib.hid hb
  clear hb
  go_enter Tryz.func271, Tryz.ntmps271
  go_wp2
  go_ret
  exact ⟨ret_b (by first | rfl | (rw [Bool.eq_iff_iff]; simp)), HB.out⟩
section
variable {w : World} {B p : Nat} {v : Value} {ps : List Qd}
set_option maxHeartbeats 1000000 in
theorem flindex_any (b : Nat) (n k : Int) (A : Option Addr) (m c : Nat) (hown : OwnQ tOutP w B (.slice A m c) ps) (hc : w.cell? ⟨b, 0, none⟩ = some (.int .i64 n)) (hm : m ≤ 1099511627776) (hk : (∃ i : Nat, k = i ∧ FirstQ ps n i) ∨ (k = -1 ∧ NoneQ ps n)) :
    Calls Tryz.prog 270 #[.slice A m c, .func (.func 271) #[] #[.pointer (some ⟨b, 0, none⟩)]] w fun e w' => e = .returned (.int .i64 k) ∧ Below w.heap.size w w' := by
  have hlen := hown.len
  have HCELL := Lib.hid (show ∀ (W : World) i, Below w.heap.size w W → i < m → ∃ g, A = some ⟨g, 0, none⟩ ∧ W.cell? ⟨g, i * 4, none⟩ = some (.int .i64 (ps.getD i qz).n) ∧ W.cell? ⟨g, i * 4 + 1, none⟩ = some (.int .i64 (ps.getD i qz).f) ∧ W.cell? ⟨g, i * 4 + 2, none⟩ = some (.int .i64 (ps.getD i qz).t) ∧ W.cell? ⟨g, i * 4 + 3, none⟩ = some (.int .i64 (ps.getD i qz).a) from fun W i hb hi => by
    have h1 := hown.later hb
    obtain ⟨g, rfl, _⟩ := h1.at (by omega)
    exact ⟨g, rfl, h1.cells i hi⟩)
  have HC := Lib.hid (show ∀ (W : World), Below w.heap.size w W → W.cell? ⟨b, 0, none⟩ = some (.int .i64 n) from fun W hb => cell_later hb hc)
  have HEND := Lib.hid (show (∀ j, j < m → (ps.getD j qz).n ≠ n) → k = -1 from fun h => by
    rcases hk with ⟨i, _, hi⟩ | ⟨h1, _⟩
    · exact absurd hi.eq (h i (by have := hi.lt; omega))
    · exact h1)
  have HHIT := Lib.hid (show ∀ i : Nat, i < m → (ps.getD i qz).n = n → (∀ j, j < i → (ps.getD j qz).n ≠ n) → k = i from fun i hi he hn => by
    rcases hk with ⟨i', h1, hi'⟩ | ⟨_, h1⟩
    · rcases Nat.lt_trichotomy i i' with h | h | h
      · exact absurd he (hi'.no i h)
      · omega
      · exact absurd hi'.eq (hn i' h)
    · exact absurd he (h1 i (by omega)))
  clear hown hk hc hlen
  go_enter Tryz.func270, Tryz.ntmps270
  go_wp2
  go_loopw [8] (fun iv wr => ∃ (i : Nat), i ≤ m ∧ iv = .int .i64 i ∧ Hid (∀ j, j < i → (ps.getD j qz).n ≠ n) ∧ Hid (Below w.heap.size w wr)) (fun iv _ => m - (intOf iv).toNat)
  case atStart => exact ⟨0, by omega, rfl, fun j hj => absurd hj (by omega), Below.refl _ _⟩
  case round =>
    obtain ⟨i, hi, rfl, hno, hb⟩ := hrel
    by_cases hin : i < m
    · obtain ⟨g, rfl, y1, y2, y3, y4⟩ := HCELL.out wr i hb.out hin
      have hcl := flclo_any b n (ps.getD i qz).n (ps.getD i qz).f (ps.getD i qz).t (ps.getD i qz).a wr (HC.out wr hb.out)
      have hsz : w.heap.size ≤ wr.heap.size := hb.out.size
      have i1 : (i : Int) < (m : Int) := by omega
      have i2 : (0 : Int) ≤ (i : Int) := by omega
      have hst := HHIT.out i hin
      obtain ⟨q, hq⟩ : ∃ q, ps.getD i qz = q := ⟨_, rfl⟩
      rw [hq] at y1 y2 y3 y4 hcl hst
      have HQ := Lib.hid hq
      have HST := Lib.hid hst
      have HSZ := Lib.hid hsz
      clear hq hst hsz
      by_cases he : q.n = n
      · rw [decide_eq_true he] at hcl
        have HE := Lib.hid he
        clear he
        go_wp2_with fail
        refine hcl.mono ?_
        rintro e w1 ⟨rfl, hb1⟩
        have HB1 := Lib.hid (hb.out.trans (hb1.mono HSZ.out))
        clear hb1
        go_wp2
        go_ret
        exact ⟨ret_i (HST.out HE.out hno.out).symm, HB1.out⟩
      · rw [decide_eq_false he] at hcl
        have HE := Lib.hid he
        have HIW := Lib.hid (show wrap64 ((i : Int) + 1) = ((i + 1 : Nat) : Int) from wrap_q (by omega) (by omega) (by omega))
        clear he
        go_wp2_with fail
        refine hcl.mono ?_
        rintro e w1 ⟨rfl, hb1⟩
        have HB1 := Lib.hid (hb.out.trans (hb1.mono HSZ.out))
        clear hb1
        go_wp2
        go_roundw
        case rel => exact ⟨i + 1, by omega, by first | rfl | (rw [HIW.out]) | go_num, fun j hj => by
          rcases Nat.lt_or_ge j i with h | h
          · exact hno.out j h
          · have : j = i := by omega
            rw [this, HQ.out]; exact HE.out, HB1⟩
        case measure => simp [intOf]; omega
    · have : i = m := by omega
      subst this
      have j1 : ¬ ((i : Int) < (i : Int)) := by omega
      go_wp2
      go_ret
      exact ⟨ret_i (HEND.out hno.out).symm, hb.out⟩
end
end Go.Proofs.YtpjlnpnadkbakaaGreat

/-
  Rows of events of the call's own ('EvRow'), and append of one event onto them. No function of the program.
-/
import Derived.Test.YtbjneoeiognahaaPlayEvMath
namespace Go.Proofs.Ytbjneoeiognahaa
open Go.RowKit

/-- Events as cells. -/
def evs (ms : List EvM) : List Value := ms.flatMap EvM.cs
set_option maxRecDepth 10000 in
theorem EvM.cs_len (m : EvM) : m.cs.length = 12 := rfl
set_option maxRecDepth 10000 in
theorem evs_cons (m : EvM) (ms : List EvM) : evs (m :: ms) = m.cs ++ evs ms := by simp [evs]
set_option maxRecDepth 10000 in
theorem evs_len (ms : List EvM) : (evs ms).length = ms.length * 12 := by
  induction ms with
  | nil => rfl
  | cons m ms ih => rw [evs_cons, List.length_append, ih, EvM.cs_len, List.length_cons]; omega
set_option maxRecDepth 10000 in
theorem evs_app (a b : List EvM) : evs (a ++ b) = evs a ++ evs b := by simp [evs]
set_option maxRecDepth 10000 in
theorem evs_get (ms : List EvM) (i : Nat) (hi : i < ms.length) (j : Nat) (hj : j < 12) : (evs ms)[i * 12 + j]? = (ms.getD i default).cs[j]? := by
  induction ms generalizing i with
  | nil => simp at hi
  | cons m ms ih =>
    rw [evs_cons]
    cases i with
    | zero =>
      rw [Nat.zero_mul, Nat.zero_add, List.getElem?_append_left (by rw [EvM.cs_len]; exact hj)]
      rfl
    | succ i =>
      rw [List.getElem?_append_right (by rw [EvM.cs_len]; omega), EvM.cs_len, show (i + 1) * 12 + j - 12 = i * 12 + j by omega, ih i (by simpa using hi)]
      simp [List.getD]
set_option maxRecDepth 10000 in
theorem EvM.cs_one (m : EvM) : ∀ u ∈ m.cs, u.oneCell' = true := by
  intro u hu
  simp only [EvM.cs, Ev.cs, List.mem_cons, List.not_mem_nil, or_false] at hu
  rcases hu with rfl | rfl | rfl | rfl | rfl | rfl | rfl | rfl | rfl | rfl | rfl | rfl <;> rfl

/-- An event of the call's own: its numbers are ints, its bytes few, and in blocks from B on. -/
structure EvM.own (w : World) (B : Nat) (m : EvM) : Prop where
  bd : EvB m.e
  o1 : Own .u8 5 w B (.slice m.A m.e.da.length m.c) m.e.da
  o2 : Own .u8 5 w B (.slice m.B m.e.pk.da.length m.d) m.e.pk.da
/-- v is a slice of these events in a block from B on that the call has made (or nil). -/
structure EvRow (w : World) (B : Nat) (v : Value) (ms : List EvM) : Prop where
  row : w.ownsRow B 60 12 v ms.length (evs ms)
  each : ∀ m ∈ ms, m.own w B

section
variable {w w' : World} {B : Nat} {v : Value} {ms : List EvM} {m : EvM}
set_option maxRecDepth 10000 in
theorem EvM.own.later (h : m.own w B) (hb : Below w.heap.size w w') : m.own w' B := ⟨h.bd, h.o1.later hb, h.o2.later hb⟩
set_option maxRecDepth 10000 in
theorem EvM.own.at (h : m.own w B) : m.at w := by
  have hb := h.bd
  have hp := hb.pk
  exact ⟨h.o1.rd, by have := hb.len; omega, h.o1.cap, fun e => (h.o1.none_len e).1, hb.byt, hb.bk, hb.bn, pktAt_of h.o2 hp.byt (by have := hp.len; omega) hp.bk hp.bp hp.bn hp.bo hp.bf hp.bs hp.bl⟩
set_option maxRecDepth 10000 in
theorem EvM.own.less {B' : Nat} (h : m.own w B) (hB : B' ≤ B) : m.own w B' := ⟨h.bd, h.o1.less hB, h.o2.less hB⟩
set_option maxRecDepth 10000 in
theorem EvRow.nil (w : World) (B : Nat) : EvRow w B (.slice none 0 0) [] := ⟨World.ownsRow_nil w B _ 12, by simp⟩
set_option maxRecDepth 10000 in
theorem EvRow.later (h : EvRow w B v ms) (hb : Below w.heap.size w w') : EvRow w' B v ms :=
  ⟨World.ownsRow.kept (row := none) h.row ⟨hb.os, hb.tape, hb.output, hb.size, fun i hi _ => hb.block i hi⟩ (by cases v.ownBlock <;> simp), fun m hm => (h.each m hm).later hb⟩
set_option maxRecDepth 10000 in
theorem EvRow.form (h : EvRow w B v ms) : ∃ A c, v = .slice A ms.length c := by
  rcases h.row.2 with ⟨rfl, h0⟩ | ⟨g, cap, cur, rfl, _⟩
  · exact ⟨none, 0, by rw [h0]⟩
  · exact ⟨_, _, rfl⟩
set_option maxRecDepth 10000 in
theorem EvRow.lt (h : EvRow w B v ms) : ∀ g, v.ownBlock = some g → B ≤ g ∧ g < w.heap.size := World.ownsRow.lt h.row
set_option maxRecDepth 10000 in
theorem EvRow.less {B' : Nat} (h : EvRow w B v ms) (hB : B' ≤ B) : EvRow w B' v ms := by
  refine ⟨⟨h.row.1, ?_⟩, fun m hm => (h.each m hm).less hB⟩
  rcases h.row.2 with h2 | ⟨g, cap, cur, hv, hg, r⟩
  · exact .inl h2
  · exact .inr ⟨g, cap, cur, hv, Nat.le_trans hB hg, r⟩
set_option maxRecDepth 10000 in
/-- What is read of it. -/
theorem EvRow.evs {A : Option Addr} {n c : Nat} (h : EvRow w B (.slice A n c) ms) : Evs w A ms := by
  have hn : ms.length = n := by
    obtain ⟨A', c', hv⟩ := h.form
    injection hv with _ h2 _
    exact h2.symm
  refine ⟨fun m hm => (h.each m hm).at, ?_⟩
  rcases h.row.2 with ⟨hv, h0⟩ | ⟨g, cap, cur, hv, _⟩
  · exact .inl (List.eq_nil_of_length_eq_zero h0)
  · right
    have hr := h.row
    rw [hv] at hr
    injection hv with hA _ _
    refine ⟨g, 0, hA, fun i hi => evIn_of fun j u hu => ?_⟩
    have hj : j < 12 := (List.getElem?_eq_some_iff.1 hu).1
    rw [Nat.zero_add, hr.cellAt (i * 12 + j) (by omega), evs_get ms i hi j hj]
    exact hu
set_option maxRecDepth 10000 in
/-- Bytes of the call's own never lie in a row of events. -/
theorem own_not_evs {u : Value} {B0 : Nat} {ys : List Int} (h : Own .u8 5 w B0 u ys) (hr : EvRow w B v ms) : u.ownBlock = none ∨ u.ownBlock ≠ v.ownBlock := by
  rcases h.2 with ⟨hv, _⟩ | ⟨g, cap, cur, hv, _, hh, _⟩
  · left; rw [hv]; rfl
  · rcases hr.row.2 with ⟨hv2, _⟩ | ⟨g2, cap2, cur2, hv2, _, hh2, _⟩
    · right
      rw [hv, hv2]
      simp [Value.ownBlock]
    · right
      rw [hv, hv2]
      intro he
      simp only [Value.ownBlock, Option.some.injEq] at he
      subst he
      rw [hh] at hh2
      injection hh2 with hh2
      injection hh2 with _ ht
      exact absurd ht (by decide)
set_option maxRecDepth 10000 in
theorem EvM.own.kept (h : m.own w B) (hr : EvRow w B v ms) (hg : w.grownBy w' v.ownBlock) : m.own w' B := ⟨h.bd, h.o1.kept hg (own_not_evs h.o1 hr), h.o2.kept hg (own_not_evs h.o2 hr)⟩

set_option maxRecDepth 10000 in
theorem info_ev : (Try.prog.info? 60).map (fun i => (i.zero, i.size, i.bytes)) = some (some (Ev.zero.val none 0 none 0), 12, 128) := by kernel_rfl

set_option maxRecDepth 10000 in
/-- append of one event that lies at an address. -/
theorem run_appE (hown : EvRow w B v ms) (ad : Addr) (c : Nat) (hm : m.own w B) (hl : ∀ j u, m.cs[j]? = some u → w.cell? (ad.add j) = some u) (hb : (ms.length + 1) * 128 ≤ 140737488355328) (hB : B ≤ w.heap.size) (ty : TypeId) :
    ∃ A' c' w', (Builtin.append_ #[55, 55] ty #[v, .slice (some ad) 1 c]).run Try.prog w = .ok (.slice A' (ms.length + 1) c') w' ∧ EvRow w' B (.slice A' (ms.length + 1) c') (ms ++ [m]) ∧ w.grownBy w' v.ownBlock := by
  obtain ⟨i, hi, hz0, hz2, hz3⟩ := info_parts info_ev
  obtain ⟨v', w', hrun, h2, h3, _⟩ := run_append_own (P := Try.prog) w B 55 ty 60 i _ 12 128 Try.underlying55 hi hz0 hz2 hz3 rfl (by omega) v ms.length (evs ms) hown.row ad 1 c m.cs rfl hl m.cs_one (by unfold maxLen; omega) hb hB
  have hlen : (ms ++ [m]).length = ms.length + 1 := by simp
  have hr : EvRow w' B v' (ms ++ [m]) := by
    refine ⟨?_, fun x hx => ?_⟩
    · rw [hlen, evs_app]
      simpa [evs] using h2
    · rcases List.mem_append.1 hx with h | h
      · exact (hown.each x h).kept hown h3
      · simp at h
        subst h
        exact hm.kept hown h3
  obtain ⟨A', c', rfl⟩ := hr.form
  rw [hlen] at hrun hr
  exact ⟨A', c', w', hrun, hr, h3⟩

set_option maxRecDepth 10000 in
theorem wpList_appE {ops : Array Oper} {rest : List Oper} {o : Oper} {a : Act} {Q : Exit → Act → World → Prop} (hgd : o.guard = none) (s x : Operand)
    (ho : o.op = .call { callee := .builtin .append, args := #[s, x], argTypes := #[55, 55] })
    (B : Nat) (v : Value) (ms : List EvM) (m : EvM) (hs : a.eval s = v) (hown : EvRow w B v ms) (ad : Addr) (c : Nat) (hx : a.eval x = .slice (some ad) 1 c) (hm : m.own w B)
    (hl : ∀ j u, m.cs[j]? = some u → w.cell? (ad.add j) = some u) (hb : (ms.length + 1) * 128 ≤ 140737488355328) (hB : B ≤ w.heap.size)
    (h : ∀ A' c' w', EvRow w' B (.slice A' (ms.length + 1) c') (ms ++ [m]) → w.grownBy w' v.ownBlock → wpList Try.prog ops Q rest (a.put o.dst (.slice A' (ms.length + 1) c')) w') : wpList Try.prog ops Q (o :: rest) a w := by
  refine wpList_plain hgd fun _ hK => ?_
  obtain ⟨A', c', w', hrun, h2, h3⟩ := run_appE hown ad c hm hl hb hB o.type
  unfold Oper.wp execOp
  simp only [ho, resolve, invoke, builtin, Sem.run_bind, Sem.run_pure, Result.andThen_ok, List.map_toArray, List.map_cons, List.map_nil, hs, hx, hrun]
  exact hK _ _ (h A' c' w' h2 h3)
end
end Go.Proofs.Ytbjneoeiognahaa

/-
  Rows of events whose bytes may lie in elder blocks than the row ('EvRow2'); a row's beginning; how many bytes events have. No function of the program.
-/
import Derived.Test.YtbjneoeiognahaaEvRow
import Derived.Test.YtbjneoeiognahaaEvPack
import Derived.Test.YtbjneoeiognahaaPktPlain
namespace Go.Proofs.Ytbjneoeiognahaa
open Go.RowKit

/-- A slice of these events in a block from B1 on that the call has made (or nil), their bytes in blocks from B2 on. -/
structure EvRow2 (w : World) (B1 B2 : Nat) (v : Value) (ms : List EvM) : Prop where
  row : w.ownsRow B1 60 12 v ms.length (evs ms)
  each : ∀ m ∈ ms, m.own w B2
section
variable {w w' : World} {B B1 B2 : Nat} {v : Value} {ms : List EvM} {m : EvM}
set_option maxRecDepth 10000 in
theorem EvRow2.less (h : EvRow2 w B1 B2 v ms) (hB : B2 ≤ B1) : EvRow w B2 v ms := by
  refine ⟨⟨h.row.1, ?_⟩, h.each⟩
  rcases h.row.2 with h2 | ⟨g, cap, cur, hv, hg, r⟩
  · exact .inl h2
  · exact .inr ⟨g, cap, cur, hv, Nat.le_trans hB hg, r⟩
set_option maxRecDepth 10000 in
theorem EvRow2.nil (w : World) (B1 B2 : Nat) : EvRow2 w B1 B2 (.slice none 0 0) [] := ⟨World.ownsRow_nil w B1 _ 12, by simp⟩
set_option maxRecDepth 10000 in
theorem EvRow2.form (h : EvRow2 w B1 B2 v ms) : ∃ A c, v = .slice A ms.length c := by
  rcases h.row.2 with ⟨rfl, h0⟩ | ⟨g, cap, cur, rfl, _⟩
  · exact ⟨none, 0, by rw [h0]⟩
  · exact ⟨_, _, rfl⟩
set_option maxRecDepth 10000 in
theorem EvRow2.lt (h : EvRow2 w B1 B2 v ms) : ∀ g, v.ownBlock = some g → B1 ≤ g ∧ g < w.heap.size := World.ownsRow.lt h.row
set_option maxRecDepth 10000 in
theorem EvRow2.later (h : EvRow2 w B1 B2 v ms) (hb : Below w.heap.size w w') : EvRow2 w' B1 B2 v ms :=
  ⟨World.ownsRow.kept (row := none) h.row ⟨hb.os, hb.tape, hb.output, hb.size, fun i hi _ => hb.block i hi⟩ (by cases v.ownBlock <;> simp), fun m hm => (h.each m hm).later hb⟩
set_option maxRecDepth 10000 in
theorem EvRow2.cap {A : Option Addr} {n c : Nat} (h : EvRow2 w B1 B2 (.slice A n c) ms) : ms.length ≤ c := by
  rcases h.row.2 with ⟨hv, h0⟩ | ⟨g, cap, cur, hv, _, _, hnc, _⟩
  · injection hv with _ _ h3
    omega
  · injection hv with _ _ h3
    omega
set_option maxRecDepth 10000 in
theorem run_appE2 (hown : EvRow2 w B1 B2 v ms) (h21 : B2 ≤ B1) (ad : Addr) (c : Nat) (hm : m.own w B2) (hl : ∀ j u, m.cs[j]? = some u → w.cell? (ad.add j) = some u) (hb : (ms.length + 1) * 128 ≤ 140737488355328) (hB : B1 ≤ w.heap.size) (ty : TypeId) :
    ∃ A' c' w', (Builtin.append_ #[55, 55] ty #[v, .slice (some ad) 1 c]).run Try.prog w = .ok (.slice A' (ms.length + 1) c') w' ∧ EvRow2 w' B1 B2 (.slice A' (ms.length + 1) c') (ms ++ [m]) ∧ w.grownBy w' v.ownBlock := by
  obtain ⟨i, hi, hz0, hz2, hz3⟩ := info_parts info_ev
  obtain ⟨v', w', hrun, h2, h3, _⟩ := run_append_own (P := Try.prog) w B1 55 ty 60 i _ 12 128 Try.underlying55 hi hz0 hz2 hz3 rfl (by omega) v ms.length (evs ms) hown.row ad 1 c m.cs rfl hl m.cs_one (by unfold maxLen; omega) hb hB
  have hlen : (ms ++ [m]).length = ms.length + 1 := by simp
  have hr : EvRow2 w' B1 B2 v' (ms ++ [m]) := by
    refine ⟨?_, fun x hx => ?_⟩
    · rw [hlen, evs_app]
      simpa [evs] using h2
    · rcases List.mem_append.1 hx with h | h
      · exact (hown.each x h).kept (hown.less h21) h3
      · simp at h
        subst h
        exact hm.kept (hown.less h21) h3
  obtain ⟨A', c', rfl⟩ := hr.form
  rw [hlen] at hrun hr
  exact ⟨A', c', w', hrun, hr, h3⟩
set_option maxRecDepth 10000 in
theorem wpList_appE2 {ops : Array Oper} {rest : List Oper} {o : Oper} {a : Act} {Q : Exit → Act → World → Prop} (hgd : o.guard = none) (s x : Operand)
    (ho : o.op = .call { callee := .builtin .append, args := #[s, x], argTypes := #[55, 55] })
    (B1 B2 : Nat) (v : Value) (ms : List EvM) (m : EvM) (hs : a.eval s = v) (hown : EvRow2 w B1 B2 v ms) (h21 : B2 ≤ B1) (ad : Addr) (c : Nat) (hx : a.eval x = .slice (some ad) 1 c) (hm : m.own w B2)
    (hl : ∀ j u, m.cs[j]? = some u → w.cell? (ad.add j) = some u) (hb : (ms.length + 1) * 128 ≤ 140737488355328) (hB : B1 ≤ w.heap.size)
    (h : ∀ A' c' w', EvRow2 w' B1 B2 (.slice A' (ms.length + 1) c') (ms ++ [m]) → w.grownBy w' v.ownBlock → wpList Try.prog ops Q rest (a.put o.dst (.slice A' (ms.length + 1) c')) w') : wpList Try.prog ops Q (o :: rest) a w := by
  refine wpList_plain hgd fun _ hK => ?_
  obtain ⟨A', c', w', hrun, h2, h3⟩ := run_appE2 hown h21 ad c hm hl hb hB o.type
  unfold Oper.wp execOp
  simp only [ho, resolve, invoke, builtin, Sem.run_bind, Sem.run_pure, Result.andThen_ok, List.map_toArray, List.map_cons, List.map_nil, hs, hx, hrun]
  exact hK _ _ (h A' c' w' h2 h3)
set_option maxRecDepth 10000 in
/-- A row's beginning. -/
theorem Evs.take {A : Option Addr} (h : Evs w A ms) (n : Nat) : Evs w A (ms.take n) := by
  refine ⟨fun m hm => h.each m (List.mem_of_mem_take hm), ?_⟩
  rcases h.lie with e | ⟨b, off, e, hl⟩
  · subst e; exact .inl (by simp)
  · refine .inr ⟨b, off, e, fun i hi => ?_⟩
    have hi2 : i < ms.length := by simp at hi; omega
    have hi3 : i < n := by simp at hi; omega
    have := hl i hi2
    simpa [List.getD, List.getElem?_take, hi3] using this
end
set_option maxRecDepth 10000 in
/-- How many bytes an event has. -/
theorem Ev.plainL_len {e : Ev} (h : e.ok = true) : e.plainL.length ≤ 4200 := by
  have hk := Ev.ok_kind0 h
  obtain ⟨k, n, da, pk⟩ := e
  simp only at hk
  have h1 := putL_len n
  have h2 := putL_len (da.length : Int)
  have h3 : pk.ok = true → pk.plainL.length ≤ 200 := fun h9 => by
    have := Pkt.fields_len pk h9
    have := putL_len pk.pa
    have := putL_len pk.nu
    unfold Pkt.plainL
    simp
    omega
  unfold Ev.plainL Ev.restL
  rcases hk with rfl | rfl | rfl | rfl | rfl | rfl | rfl | rfl
  · simp [Ev.ok] at h; simp; omega
  · simp [Ev.ok] at h; simp; omega
  · simp; omega
  · simp [Ev.ok] at h; have := h3 h.1.1; simp; omega
  · simp [Ev.ok] at h; have := h3 h.1.1; simp; omega
  · simp
  · simp; omega
  · simp; omega
set_option maxRecDepth 10000 in
theorem packL_len (es : List Ev) (h : ∀ e ∈ es, e.ok = true) : (packL es).length ≤ es.length * 4200 := by
  induction es with
  | nil => simp [packL]
  | cons e es ih =>
    have h1 := Ev.plainL_len (h e (by simp))
    have h2 := ih (fun x hx => h x (by simp [hx]))
    have h3 : packL (e :: es) = e.plainL ++ packL es := by simp [packL]
    rw [h3, List.length_append, List.length_cons]
    omega
set_option maxRecDepth 10000 in
/-- Of one byte alone there is Closed. -/
theorem Ev.plainL_one {e : Ev} (h : e.ok = true) (h1 : e.plainL.length = 1) : e.k = 6 := by
  have hk := Ev.ok_kind0 h
  obtain ⟨k, n, da, pk⟩ := e
  simp only at hk ⊢
  have hp : ∀ m : Int, 0 ≤ m → m ≤ 4611686018427387903 → 0 < (putL m).length := fun m g1 g2 => putL_pos g1 g2
  unfold Ev.plainL Ev.restL at h1
  rcases hk with rfl | rfl | rfl | rfl | rfl | rfl | rfl | rfl
  · simp [Ev.ok] at h; simp at h1; have := h1.2; rw [this] at h; simp at h
  · simp [Ev.ok] at h; simp at h1; have := h1.2; rw [this] at h; simp at h
  · simp [Ev.ok] at h; have := hp n (by omega) (by omega); simp at h1; rw [h1] at this; simp at this
  · simp [Pkt.plainL] at h1
  · simp [Pkt.plainL] at h1
  · rfl
  · simp [Ev.ok, inB] at h; have := hp n (by omega) (by omega); simp at h1; rw [h1] at this; simp at this
  · simp [Ev.ok, inB] at h; have := hp n (by omega) (by omega); simp at h1; rw [h1] at this; simp at this
set_option maxRecDepth 10000 in
theorem packL_ge (es : List Ev) : es.length ≤ (packL es).length := by
  induction es with
  | nil => simp
  | cons e es ih =>
    have h3 : packL (e :: es) = e.plainL ++ packL es := by simp [packL]
    have := e.plainL_pos
    rw [h3, List.length_append, List.length_cons]
    omega
set_option maxRecDepth 10000 in
theorem okL_of {es : List Ev} (h : ∀ e ∈ es, e.ok = true) : okL es = true := by
  unfold okL
  rw [List.all_eq_true]
  exact h
set_option maxRecDepth 10000 in
theorem packL_bytes {es : List Ev} (h : ∀ e ∈ es, e.ok = true) (hb : ∀ e ∈ es, (∀ x ∈ e.da, 0 ≤ x ∧ x < 256) ∧ (∀ x ∈ e.pk.da, 0 ≤ x ∧ x < 256)) : ∀ x ∈ packL es, 0 ≤ x ∧ x < 256 := by
  intro x hx
  unfold packL at hx
  rw [List.mem_flatMap] at hx
  obtain ⟨e, he, hx⟩ := hx
  have hk := Ev.ok_kind0 (h e he)
  have hok := h e he
  obtain ⟨hb1, hb2⟩ := hb e he
  unfold Ev.plainL at hx
  rcases List.mem_cons.1 hx with rfl | hx
  · omega
  · unfold Ev.restL at hx
    split at hx
    · rcases List.mem_append.1 hx with hx | hx
      · exact putL_bytes _ x hx
      · exact hb1 x hx
    · split at hx
      · exact putL_bytes _ x hx
      · split at hx
        · rename_i h4
          have hp : e.pk.ok = true := by
            unfold Ev.ok at hok
            rw [if_neg (by omega), if_neg (by omega), if_pos h4] at hok
            simp at hok
            exact hok.1.1
          have hpk := Pkt.ok_kind hp
          unfold Pkt.plainL at hx
          have hm : ∀ b, 0 ≤ markV b ∧ markV b < 256 := by intro b; unfold markV; split <;> omega
          simp only [List.mem_append, List.mem_cons, List.not_mem_nil, or_false] at hx
          rcases hx with ((rfl | hx) | hx) | hx
          · omega
          · exact putL_bytes _ x hx
          · exact putL_bytes _ x hx
          · unfold Pkt.fieldsL at hx
            repeat' split at hx
            all_goals (try simp only [List.mem_append, List.mem_cons, List.not_mem_nil, or_false] at hx)
            all_goals first
              | exact putL_bytes _ x hx
              | (rcases hx with ((hx | hx) | hx); exact putL_bytes _ x hx; exact putL_bytes _ x hx; exact putL_bytes _ x hx)
              | (rcases hx with (hx | (hx | hx)) | hx; exact putL_bytes _ x hx; exact putL_bytes _ x hx; exact hb2 x hx; exact hx ▸ hm _)
              | (rcases hx with ((hx | hx) | hx) | hx; exact putL_bytes _ x hx; exact putL_bytes _ x hx; exact hb2 x hx; exact hx ▸ hm _)
              | (exact absurd hx (by simp))
        · simp at hx
end Go.Proofs.Ytbjneoeiognahaa

/-
  The document's own store in memory ('RE': a block of it, 'RefAt', 'RefIs'), and how it stays. No function of the program.
-/
import Derived.Test.YtfafonfphholmaaStApi
namespace Go.Proofs.Ytfafonfphholmaa
open Go.RowKit

/-- A block, and where its bytes lie. -/
structure RE where
  k : Blk
  A : Option Addr
  c : Nat
def RE.v (e : RE) : Value := .slice e.A e.k.xs.length e.c
def RE.cs (e : RE) : List Value := [.int .i64 e.k.n, e.v, .int .i64 (e.k.s : Nat), .bool e.k.f]
def rcs (L : List RE) : List Value := L.flatMap RE.cs
theorem rcs_cons (e : RE) (L : List RE) : rcs (e :: L) = e.cs ++ rcs L := by simp [rcs]
theorem rcs_app (a b : List RE) : rcs (a ++ b) = rcs a ++ rcs b := by simp [rcs]
theorem rcs_len (L : List RE) : (rcs L).length = L.length * 4 := by
  induction L with
  | nil => rfl
  | cons e L ih => rw [rcs_cons, List.length_append, ih, List.length_cons]; simp [RE.cs]; omega
theorem rcs_get (L : List RE) (i : Nat) (e : RE) (he : L[i]? = some e) (j : Nat) (hj : j < 4) : (rcs L)[i * 4 + j]? = e.cs[j]? := by
  induction L generalizing i with
  | nil => simp at he
  | cons m L ih =>
    have hl : m.cs.length = 4 := rfl
    rw [rcs_cons]
    cases i with
    | zero =>
      rw [Nat.zero_mul, Nat.zero_add, List.getElem?_append_left (by rw [hl]; exact hj)]
      simp at he
      rw [he]
    | succ i =>
      rw [List.getElem?_append_right (by rw [hl]; omega), hl, show (i + 1) * 4 + j - 4 = i * 4 + j by omega]
      exact ih i (by simpa using he)
theorem rcs_set (L : List RE) (i : Nat) (e e' : RE) (he : L[i]? = some e) (j : Nat) (hj : j < 4) (u : Value) (hu : e'.cs = e.cs.set j u) : (rcs L).set (i * 4 + j) u = rcs (L.set i e') := by
  induction L generalizing i with
  | nil => simp at he
  | cons m L ih =>
    have hl : m.cs.length = 4 := rfl
    rw [rcs_cons]
    cases i with
    | zero =>
      simp at he
      subst he
      rw [Nat.zero_mul, Nat.zero_add, List.set_append, if_pos (by rw [hl]; exact hj), List.set_cons_zero, rcs_cons, hu]
    | succ i =>
      rw [List.set_append, if_neg (by rw [hl]; omega), hl, show (i + 1) * 4 + j - 4 = i * 4 + j by omega, List.set_cons_succ, rcs_cons]
      congr 1
      exact ih i (by simpa using he)
theorem rcs_one (L : List RE) : ∀ u ∈ rcs L, u.oneCell' = true := by
  intro u hu
  unfold rcs at hu
  rw [List.mem_flatMap] at hu
  obtain ⟨e, _, hu⟩ := hu
  simp only [RE.cs, RE.v, List.mem_cons, List.not_mem_nil, or_false] at hu
  rcases hu with rfl | rfl | rfl | rfl <;> rfl

def refF (lv : Value) (de ar : Bool) (nn : Int) (i : Nat) : Value := if i = 0 then lv else if i = 1 then .bool de else if i = 2 then .bool ar else .int .i64 nn

/-- Block p of w is the document's store: these blocks, by rising numbers. -/
structure RefAt (w : World) (B p : Nat) (lv : Value) (L : List RE) (de ar : Bool) (nn : Int) : Prop where
  row : w.rowIs p 28 4 (refF lv de ar nn)
  list : w.ownsRow B 53 4 lv L.length (rcs L)
  each : ∀ e ∈ L, Own .u8 5 w B e.v e.k.xs
  len : ∀ e ∈ L, e.k.xs.length ≤ 1099511627776
  rise : L.Pairwise (fun x y => x.k.n < y.k.n)
  gep : B ≤ p
  many : L.length ≤ 1048576
  sle : ∀ e ∈ L, e.k.s ≤ e.k.xs.length
  nn1 : -9223372036854775808 ≤ nn
  nn2 : nn ≤ 9223372036854775807
  fuse : ar = true → 0 ≤ nn

/-- The blocks of it. -/
def RFoot (p : Nat) (lv : Value) (L : List RE) (k : Nat) : Prop := k = p ∨ lv.ownBlock = some k ∨ ∃ e ∈ L, e.v.ownBlock = some k

theorem row_ne {w : World} {B b : Nat} {q : IntKind} {ty t : TypeId} {v : Value} {xs : List Int} {n : Nat} {f : Nat → Value} (h : Own q ty w B v xs) (hr : w.rowIs b t n f) (ht : ty ≠ t) : v.ownBlock ≠ some b := by
  rcases h.2 with ⟨hv, _⟩ | ⟨g, cap, cur, hv, _, hh, _⟩
  · rw [hv]; simp [Value.ownBlock]
  · rw [hv]
    intro he
    simp only [Value.ownBlock, Option.some.injEq] at he
    subst he
    obtain ⟨cur', hh', _⟩ := hr
    rw [hh] at hh'
    injection hh' with hh'
    injection hh' with _ ht'
    exact ht ht'
theorem rows_ne {w : World} {B B' : Nat} {ty t : TypeId} {v u : Value} {s s' n n' : Nat} {xs ys : List Value} (h : w.ownsRow B ty s v n xs) (hr : w.ownsRow B' t s' u n' ys) (ht : ty ≠ t) (k : Nat) (hk : v.ownBlock = some k) : u.ownBlock ≠ some k := by
  rcases h.2 with ⟨hv, _⟩ | ⟨g, cap, cur, hv, _, hh, _⟩
  · rw [hv] at hk; simp [Value.ownBlock] at hk
  · rcases hr.2 with ⟨hv2, _⟩ | ⟨g2, cap2, cur2, hv2, _, hh2, _⟩
    · rw [hv2]; simp [Value.ownBlock]
    · rw [hv2]
      rw [hv] at hk
      simp only [Value.ownBlock, Option.some.injEq] at hk ⊢
      intro he
      have he := Option.some.inj he
      subst hk
      subst he
      rw [hh] at hh2
      injection hh2 with hh2
      injection hh2 with _ ht'
      exact ht ht'
theorem rowIs_ne {w : World} {B b : Nat} {ty t : TypeId} {v : Value} {s m : Nat} {xs : List Value} {n : Nat} {f : Nat → Value} (h : w.ownsRow B ty s v m xs) (hr : w.rowIs b t n f) (ht : ty ≠ t) : v.ownBlock ≠ some b := by
  rcases h.2 with ⟨hv, _⟩ | ⟨g, cap, cur, hv, _, hh, _⟩
  · rw [hv]; simp [Value.ownBlock]
  · rw [hv]
    intro he
    simp only [Value.ownBlock, Option.some.injEq] at he
    subst he
    obtain ⟨cur', hh', _⟩ := hr
    rw [hh] at hh'
    injection hh' with hh'
    injection hh' with _ ht'
    exact ht ht'
theorem own_row {w : World} {B : Nat} {q : IntKind} {ty : TypeId} {v : Value} {xs : List Int} (h : Own q ty w B v xs) : w.ownsRow B ty 1 v xs.length (cel q xs) := h

/-- A row stays where its block is left alone. -/
theorem Trn.rows {w w' : World} {F : Nat → Prop} {B : Nat} {ty : TypeId} {v : Value} {s n : Nat} {xs : List Value} (ht : Trn w w' F) (h : w.ownsRow B ty s v n xs) (hb : ∀ g, v.ownBlock = some g → ¬ F g) : w'.ownsRow B ty s v n xs := by
  refine ⟨h.1, ?_⟩
  rcases h.2 with h2 | ⟨g, cap, cur, rfl, hB, hg, r⟩
  · exact .inl h2
  · exact .inr ⟨g, cap, cur, rfl, hB, by rw [ht.block g (Array.getElem?_eq_some_iff.1 hg).1 (hb g rfl)]; exact hg, r⟩

section
variable {w w' : World} {B p : Nat} {lv : Value} {L : List RE} {de ar : Bool} {nn : Int} {F : Nat → Prop}
theorem RefAt.foot_lt (h : RefAt w B p lv L de ar nn) : ∀ k, RFoot p lv L k → B ≤ k ∧ k < w.heap.size := by
  rintro k (rfl | hk | ⟨e, he, hk⟩)
  · exact ⟨h.gep, h.row.lt⟩
  · exact World.ownsRow.lt h.list k hk
  · exact (h.each e he).lt k hk
theorem RefAt.kept (h : RefAt w B p lv L de ar nn) (ht : Trn w w' F) (hf : ∀ k, RFoot p lv L k → ¬ F k) : RefAt w' B p lv L de ar nn :=
  ⟨ht.rowIs h.row (hf _ (.inl rfl)), ht.rows h.list (fun g hg => hf g (.inr (.inl hg))), fun e he => ht.own (h.each e he) (fun g hg => hf g (.inr (.inr ⟨e, he, hg⟩))), h.len, h.rise, h.gep, h.many, h.sle, h.nn1, h.nn2, h.fuse⟩
theorem RefAt.later (h : RefAt w B p lv L de ar nn) (hb : Below w.heap.size w w') : RefAt w' B p lv L de ar nn := h.kept (F := fun _ => False) (Trn.of_below hb) (fun _ _ h => h)
theorem RefAt.r0 (h : RefAt w B p lv L de ar nn) : w.cell? ⟨p, 0, none⟩ = some lv := World.rowIs.cell (i := 0) h.row (by omega)
theorem RefAt.r1 (h : RefAt w B p lv L de ar nn) : w.cell? ⟨p, 0 + 1, none⟩ = some (.bool de) := World.rowIs.cell (i := 1) h.row (by omega)
theorem RefAt.r2 (h : RefAt w B p lv L de ar nn) : w.cell? ⟨p, 0 + 2, none⟩ = some (.bool ar) := World.rowIs.cell (i := 2) h.row (by omega)
theorem RefAt.r3 (h : RefAt w B p lv L de ar nn) : w.cell? ⟨p, 0 + 3, none⟩ = some (.int .i64 nn) := World.rowIs.cell (i := 3) h.row (by omega)
theorem RefAt.fr (h : RefAt w B p lv L de ar nn) (i : Nat) : w.frozen? ⟨p, i, none⟩ = false := World.rowIs.frozen h.row i
theorem RefAt.p_ne (h : RefAt w B p lv L de ar nn) : lv.ownBlock ≠ some p ∧ ∀ e ∈ L, e.v.ownBlock ≠ some p :=
  ⟨rowIs_ne h.list h.row (by decide), fun e he => row_ne (h.each e he) h.row (by decide)⟩
theorem RefAt.l_ne (h : RefAt w B p lv L de ar nn) (g : Nat) (hg : lv.ownBlock = some g) : ∀ e ∈ L, e.v.ownBlock ≠ some g := fun e he => rows_ne h.list (own_row (h.each e he)) (by decide) g hg
/-- The list as a slice. -/
theorem RefAt.form (h : RefAt w B p lv L de ar nn) : (lv = .slice none 0 0 ∧ L = []) ∨ ∃ g c, lv = .slice (some ⟨g, 0, none⟩) L.length c ∧ L.length ≤ c ∧ c ≤ maxLen ∧ B ≤ g ∧ g < w.heap.size ∧
    (∀ i e, L[i]? = some e → w.cell? ⟨g, i * 4, none⟩ = some (.int .i64 e.k.n) ∧ w.cell? ⟨g, i * 4 + 1, none⟩ = some e.v ∧ w.cell? ⟨g, i * 4 + 2, none⟩ = some (.int .i64 (e.k.s : Nat)) ∧ w.cell? ⟨g, i * 4 + 3, none⟩ = some (.bool e.k.f)) ∧
    (∀ j, w.frozen? ⟨g, j, none⟩ = false) := by
  have hl := h.list
  rcases hl.2 with ⟨hv, h0⟩ | ⟨g, cap, cur, hv, hB, hh, hn, hm, _⟩
  · exact .inl ⟨hv, List.eq_nil_of_length_eq_zero h0⟩
  · rw [hv] at hl
    refine .inr ⟨g, cap, hv, hn, hm, hB, (Array.getElem?_eq_some_iff.1 hh).1, fun i e he => ?_, fun j => hl.frozenAt j⟩
    have hi : i < L.length := (List.getElem?_eq_some_iff.1 he).1
    have hc : ∀ j, j < 4 → w.cell? ⟨g, i * 4 + j, none⟩ = e.cs[j]? := fun j hj => by rw [hl.cellAt (i * 4 + j) (by omega), rcs_get L i e he j hj]
    exact ⟨hc 0 (by omega), hc 1 (by omega), hc 2 (by omega), hc 3 (by omega)⟩
/-- A store into its own block, the list left. -/
theorem RefAt.set (h : RefAt w B p lv L de ar nn) (i : Nat) (v : Value) (de' ar' : Bool) (nn' : Int) (h1 : -9223372036854775808 ≤ nn') (h2 : nn' ≤ 9223372036854775807) (h3 : ar' = true → 0 ≤ nn')
    (hv : ∀ j, j < 4 → (if j = i then v else refF lv de ar nn j) = refF lv de' ar' nn' j) : RefAt (w.setCell ⟨p, i, none⟩ v) B p lv L de' ar' nn' := by
  obtain ⟨hpl, hpe⟩ := h.p_ne
  have ht : Trn w (w.setCell ⟨p, i, none⟩ v) (fun k => some p = some k) := Trn.of_grown (setCell_one w p i v)
  exact ⟨(h.row.set i v).congr hv, ht.rows h.list (fun g hg e => hpl (by rw [hg]; exact e.symm)), fun e he => ht.own (h.each e he) (fun g hg e1 => hpe e he (by rw [hg]; exact e1.symm)), h.len, h.rise, h.gep, h.many, h.sle, h1, h2, h3⟩
/-- A new list. -/
theorem RefAt.setL (h : RefAt w B p lv L de ar nn) (lv' : Value) (L' : List RE) (hl : w.ownsRow B 53 4 lv' L'.length (rcs L')) (he : ∀ e ∈ L', Own .u8 5 w B e.v e.k.xs ∧ e.k.xs.length ≤ 1099511627776 ∧ e.k.s ≤ e.k.xs.length)
    (hr : L'.Pairwise (fun x y => x.k.n < y.k.n)) (hm : L'.length ≤ 1048576) : RefAt (w.setCell ⟨p, 0, none⟩ lv') B p lv' L' de ar nn := by
  have ht : Trn w (w.setCell ⟨p, 0, none⟩ lv') (fun k => some p = some k) := Trn.of_grown (setCell_one w p 0 lv')
  refine ⟨(h.row.set 0 lv').congr (fun j hj => by unfold refF; split <;> rfl), ht.rows hl (fun g hg e => rowIs_ne hl h.row (by decide) (by rw [hg]; exact e.symm)), fun e hx => ht.own (he e hx).1 (fun g hg e1 => row_ne (he e hx).1 h.row (by decide) (by rw [hg]; exact e1.symm)), fun e hx => (he e hx).2.1, hr, h.gep, hm, fun e hx => (he e hx).2.2, h.nn1, h.nn2, h.fuse⟩
/-- A store into a block of the list. -/
theorem RefAt.upd (h : RefAt w B p lv L de ar nn) {g c : Nat} (hv : lv = .slice (some ⟨g, 0, none⟩) L.length c) (i : Nat) (e e' : RE) (he : L[i]? = some e) (j : Nat) (hj : j < 4) (u : Value) (hu : e'.cs = e.cs.set j u)
    (ho : Own .u8 5 w B e'.v e'.k.xs) (hlen : e'.k.xs.length ≤ 1099511627776) (hs : e'.k.s ≤ e'.k.xs.length) (hn : e'.k.n = e.k.n) :
    RefAt (w.setCell ⟨g, i * 4 + j, none⟩ u) B p lv (L.set i e') de ar nn := by
  have hg : lv.ownBlock = some g := by rw [hv]; rfl
  have ht : Trn w (w.setCell ⟨g, i * 4 + j, none⟩ u) (fun k => some g = some k) := Trn.of_grown (setCell_one w g (i * 4 + j) u)
  have hl := h.list
  rw [hv] at hl
  have h1 := (hl.stored (i * 4 + j) u).1
  rw [rcs_set L i e e' he j hj u hu] at h1
  have hmem : ∀ x ∈ L.set i e', x ∈ L ∨ x = e' := fun x hx => List.mem_or_eq_of_mem_set hx
  refine ⟨ht.rowIs h.row (fun e1 => h.p_ne.1 (by rw [hg]; exact e1)), by rw [List.length_set, hv]; exact h1, fun x hx => ?_, fun x hx => ?_, ?_, h.gep, by rw [List.length_set]; exact h.many, fun x hx => ?_, h.nn1, h.nn2, h.fuse⟩
  · rcases hmem x hx with h2 | rfl
    · exact ht.own (h.each x h2) (fun k hk e1 => h.l_ne g hg x h2 (by rw [hk]; exact e1.symm))
    · exact ht.own ho (fun k hk e1 => rows_ne h.list (own_row ho) (by decide) g hg (by rw [hk]; exact e1.symm))
  · rcases hmem x hx with h2 | rfl
    · exact h.len x h2
    · exact hlen
  · have h3 : (L.set i e').map (fun x => x.k.n) = L.map (fun x => x.k.n) := by
      rw [List.map_set, hn]
      apply List.ext_getElem?
      intro k
      rw [List.getElem?_set]
      split
      · rename_i hk
        subst hk
        rw [List.getElem?_map, he, List.length_map, if_pos (List.getElem?_eq_some_iff.1 he).1]
        rfl
      · rfl
    have h4 : (L.map (fun x => x.k.n)).Pairwise (fun a b => a < b) := by rw [List.pairwise_map]; exact h.rise
    rw [← h3, List.pairwise_map] at h4
    exact h4
  · rcases hmem x hx with h2 | rfl
    · exact h.sle x h2
    · exact hs
end

/-- Block p is the document's store as mathematics; its blocks are F. -/
def RefIs (w : World) (B p : Nat) (s : St) (F : Nat → Prop) : Prop := ∃ lv L nn, RefAt w B p lv L s.de s.fu nn ∧ L.map (·.k) = s.bs ∧ F = RFoot p lv L ∧ (s.fu = true → nn = s.lf)
/-- What a call leaves. -/
def RfEnd (w : World) (B p : Nat) (F : Nat → Prop) (r : St × Int) (e : Ending) (w' : World) : Prop := ∃ F', e = .returned (.int .i64 r.2) ∧ RefIs w' B p r.1 F' ∧ SC w w' F F'
end Go.Proofs.Ytfafonfphholmaa

/-
  A range over a store's map, each content turned by a method ('LoopSt'); maps.DeleteFunc of the contents that a crash takes away: contracts over the program.
-/
import Derived.Test.YtfafonfphholmaaStApi2
import Derived.Test.YtfafonfphholmaaStLay
import Derived.Deep.LoopGhost
namespace Go.Proofs.Ytfafonfphholmaa
open Go.RowKit Go.Maps

/-- How a loop's round turns an entry. -/
structure Turns (g : Ent → Ent) : Prop where
  n : ∀ e, (g e).k.n = e.k.n
  b : ∀ e, (g e).b = e.b
  v : ∀ e q, (g e).v.ownBlock = some q → e.v.ownBlock = some q

def mixE (g : Ent → Ent) (left : Lit → Bool) (L : List Ent) : List Ent := L.map fun e => if left (.int .i64 e.k.n) then e else g e

/-- In the midst of a range: those that are still to come are as they were. -/
structure LoopSt (w0 w : World) (B p m r : Nat) (L : List Ent) (g : Ent → Ent) (fu : Bool) (lf : Int) (de : Bool) (left : Lit → Bool) (cnt : Nat) : Prop where
  rg : w.ranges Try.prog 3 ptr m r L.length (DL L) left cnt
  st : StoreAt w B p m (mixE g left L) fu lf de
  tr : Trn w0 w (Foot p m L)

section
variable {w0 w w1 w2 : World} {B p m r cnt : Nat} {L : List Ent} {g : Ent → Ent} {fu : Bool} {lf : Int} {de : Bool} {left : Lit → Bool}

theorem mixE_start (L : List Ent) (g : Ent → Ent) : mixE g (Maps.has (DL L)) L = L := by
  unfold mixE
  refine (List.map_congr_left (fun e he => ?_)).trans (List.map_id' L)
  rw [DL_has, List.any_eq_true.2 ⟨e, he, by simp⟩]
  rfl
theorem mixE_end (hl : ∀ k, left k = false) : mixE g left L = L.map g := by
  unfold mixE
  exact List.map_congr_left (fun e _ => by simp [hl])
theorem mixE_foot (hg : Turns g) {k : Nat} (h : Foot p m (mixE g left L) k) : Foot p m L k := by
  rcases h with h | h | ⟨x, hx, hk⟩
  · exact .inl h
  · exact .inr (.inl h)
  · obtain ⟨e, he, rfl⟩ := List.mem_map.1 hx
    refine .inr (.inr ⟨e, he, ?_⟩)
    split at hk
    · exact hk
    · rcases hk with hk | hk
      · exact .inl (hk.trans (hg.b e))
      · exact .inr (hg.v e k hk)

/-- The loop's own block is none of the store's. -/
theorem iter_not (h : StoreAt w B p m L fu lf de) {o : Option Nat} {a : Nat} {s : Array Nat} {c : Nat} (hr : w.heap[r]? = some (.mapIter o a s c)) : ¬ Foot p m L r := by
  rintro (rfl | rfl | ⟨e, he, hk⟩)
  · obtain ⟨cur, hp, _⟩ := h.row
    rw [hp] at hr; cases hr
  · obtain ⟨es, clock, hm, _⟩ := h.map
    rw [hm] at hr; cases hr
  · rcases hk with rfl | hk
    · obtain ⟨cur, hp, _⟩ := (h.each e he).row
      rw [hp] at hr; cases hr
    · rcases (h.each e he).own.2 with ⟨hv, _⟩ | ⟨q, cap, cur, hv, _, hh, _⟩
      · rw [hv] at hk; simp [Value.ownBlock] at hk
      · rw [hv] at hk
        simp only [Value.ownBlock, Option.some.injEq] at hk
        subst hk
        rw [hh] at hr; cases hr
theorem ranges_iter (h : w.ranges Try.prog 3 ptr m r L.length (DL L) left cnt) : ∃ o a s c, w.heap[r]? = some (.mapIter o a s c) := by
  obtain ⟨es, clock, since, seen, c0, hb, _, _, _, hr, _⟩ := h
  exact ⟨_, _, _, _, hr⟩

/-- The beginning. -/
theorem LoopSt.start (h : StoreAt w B p m L fu lf de) (g : Ent → Ent) (hr : w1.ranges Try.prog 3 ptr m r L.length (DL L) (Maps.has (DL L)) (Maps.size (DL L))) (hg : w.grownBy w1 none) : LoopSt w w1 B p m r L g fu lf de (Maps.has (DL L)) (Maps.size (DL L)) :=
  ⟨hr, by rw [mixE_start]; exact h.kept (F := fun _ => False) ((Trn.of_grown hg).mono (fun k _ hk => by cases hk)) (fun _ _ h => h), (Trn.of_grown hg).mono (fun k _ hk => by cases hk)⟩

/-- What has come. -/
theorem loop_came (hL : StoreAt w2 B p m L fu lf de) {x : Int} {c : Option Nat} {kl : Lit} {y : DataW Unit × List MemPlace} (hkey : keyOf Try.prog 3 (.int .i64 x) = some kl) (hl : left kl = true) (hv : ptr (ptrV c) = some y)
    (hat : ∀ zd, (DL L).atKey kl zd = y.1) : ∃ e ∈ L, e.k.n = x ∧ c = some e.b ∧ kl = .int .i64 x ∧ e ∈ mixE g left L ∧ left (.int .i64 e.k.n) = true := by
  obtain ⟨x', hx, rfl, hw⟩ := Maps.keyOf_int_inv Try.underlying3 hkey
  cases hx
  by_cases hx : ∃ e ∈ L, e.k.n = x
  · obtain ⟨e, he, rfl⟩ := hx
    have h1 := hat .nil
    rw [DL_at hL.rise he] at h1
    have h2 : ptr (ptrV c) = some (.lit (.int .i64 (e.b : Nat)), y.2) := by rw [hv]; exact congrArg some (Prod.ext h1.symm rfl)
    have h3 := ptr_some h2
    refine ⟨e, he, rfl, ?_, rfl, List.mem_map.2 ⟨e, he, by simp [hl]⟩, hl⟩
    cases c with
    | none => simp [ptrV] at h3
    | some b => simp [ptrV] at h3; rw [h3]
  · have hno : ∀ e ∈ L, e.k.n ≠ x := fun e he hen => hx ⟨e, he, hen⟩
    have h1 := hat .nil
    have h2 := hat (.map [])
    rw [DL_at_none hno] at h1 h2
    rw [← h1] at h2
    cases h2

/-- The round behind the step of the range. -/
theorem LoopSt.next (h : LoopSt w0 w B p m r L g fu lf de left cnt) (hw : w.grownBy w1 (some r)) (hr0 : w0.heap.size ≤ r) :
    StoreAt w1 B p m (mixE g left L) fu lf de ∧ Trn w0 w1 (Foot p m L) := by
  obtain ⟨o, a, s, c, hi⟩ := ranges_iter h.rg
  have hn := iter_not h.st hi
  refine ⟨h.st.kept (Trn.of_grown hw) (fun k hk e => by cases e; exact hn hk), h.tr.trans (Trn.of_grown hw) (fun _ hk => hk) (fun k hk e => by cases e; omega)⟩

/-- The round's end. -/
theorem LoopSt.turn (hg : Turns g) (hs : StoreAt w1 B p m (mixE g left L) fu lf de) (ht : Trn w0 w1 (Foot p m L)) {e : Ent} (heL : e ∈ L) (he : e ∈ mixE g left L) (hl : left (.int .i64 e.k.n) = true) {cnt' : Nat} (hr : w1.ranges Try.prog 3 ptr m r L.length (DL L) (fun z => left z && !z.sameKey (.int .i64 e.k.n)) cnt')
    (hc : Cont w2 B (g e)) (hle : (g e).k.s ≤ (g e).k.xs.length) (hw : Trn w1 w2 (fun k => k = e.b)) : LoopSt w0 w2 B p m r L g fu lf de (fun z => left z && !z.sameKey (.int .i64 e.k.n)) cnt' := by
  have hu := hs.upd' he (e1 := g e) (hg.n e) (hg.b e) hc hle (hw.mono (fun k _ hk => .inl hk)) (fun q hq => .inl (hg.v e q hq))
  have hmix : updE e.k.n (g e) (mixE g left L) = mixE g (fun z => left z && !z.sameKey (.int .i64 e.k.n)) L := by
    unfold updE mixE
    rw [List.map_map]
    refine List.map_congr_left (fun x hx => ?_)
    by_cases hn : x.k.n = e.k.n
    · have hgx : (if left (.int .i64 x.k.n) then x else g x).k.n = e.k.n := by split; exact hn; exact (hg.n x).trans hn
      have hxe : x = e := by
        have hxm : (if left (.int .i64 x.k.n) then x else g x) ∈ mixE g left L := List.mem_map.2 ⟨x, hx, rfl⟩
        have h1 := hs.inj hxm he hgx
        rw [hn, if_pos hl] at h1
        exact h1
      subst hxe
      simp only [Function.comp, hgx, if_true, Lit.sameKey]
      simp
    · have hgx : ¬ (if left (.int .i64 x.k.n) then x else g x).k.n = e.k.n := by split; exact hn; rw [hg.n]; exact hn
      simp only [Function.comp, hgx, if_false, Lit.sameKey]
      simp [hn]
  rw [hmix] at hu
  refine ⟨hr.kept (row := some e.b) ⟨hw.os, hw.tape, hw.output, hw.size, fun k hk hn => hw.block k hk (fun e1 => hn (by rw [e1]))⟩ (fun e1 => ?_) (fun e1 => ?_), hu.1, ht.trans hw (fun _ hk => hk) (fun k _ hk => .inr (.inr ⟨e, heL, .inl hk⟩))⟩
  · cases e1
    exact hs.m_ne e he (.inl rfl)
  · cases e1
    obtain ⟨o, a, s, c, hi⟩ := ranges_iter hr
    exact iter_not hs hi (.inr (.inr ⟨e, he, .inl rfl⟩))
end
end Go.Proofs.Ytfafonfphholmaa

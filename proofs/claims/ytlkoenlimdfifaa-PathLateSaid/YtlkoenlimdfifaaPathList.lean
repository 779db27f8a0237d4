/-
  A path and a list that it told ('PL'): the list stays as it is while the path goes on. Contracts over the program.
-/
import Derived.Test.YtlkoenlimdfifaaPathMid
namespace Go.Proofs.Ytlkoenlimdfifaa
open Go.RowKit

/-- The path at p is P; the list lv of L, which it told, shares nothing with it. -/
structure PL (W w : World) (p : Nat) (P : Pa) (lv : Value) (L : List Qd) : Prop where
  ex : ∃ pg pw pf v, PaAt w W.heap.size p pg pw pf v P ∧ ∀ g, lv.ownBlock = some g → ¬ Pat p pg pw pf v g
  own : OwnQ tOutP w W.heap.size lv L
  ok : P.ok
  bel : Below W.heap.size W w
section
variable {W w w' : World} {p : Nat} {P P' : Pa} {lv : Value} {L : List Qd}
theorem PL.pv (h : PL W w p P lv L) : PV W w p P := by
  obtain ⟨pg, pw, pf, v, h1, -⟩ := h.ex
  exact ⟨⟨pg, pw, pf, v, h1⟩, h.ok, h.bel⟩
theorem PL.later (h : PL W w p P lv L) (hb : Below w.heap.size w w') : PL W w' p P lv L := by
  obtain ⟨pg, pw, pf, v, h1, h2⟩ := h.ex
  exact ⟨⟨pg, pw, pf, v, h1.later hb, h2⟩, h.own.later hb, h.ok, h.bel.trans (hb.mono h.bel.size)⟩
theorem PL.turn {pg pw pf : Nat} {v v' : Value} (h : PL W w p P lv L) (ha : PaAt w W.heap.size p pg pw pf v P) (hn : ∀ g, lv.ownBlock = some g → ¬ Pat p pg pw pf v g) (h1 : PaAt w' W.heap.size p pg pw pf v' P') (hsc : SC w w' (Pat p pg pw pf v) (Pat p pg pw pf v')) (hok : P'.ok) : PL W w' p P' lv L :=
  ⟨⟨pg, pw, pf, v', h1, fun g hg => hsc.out (h.own.lt g hg).2 (hn g hg)⟩, h.own.trn hsc.trn hn, hok, h.bel.trans (ha.bel hsc (Nat.le_refl _))⟩
theorem PL.read {f : Nat} {args : Array Value} {r : Value} (h : PL W w p P lv L) (hc : Calls Try.prog f args w fun e w' => e = .returned r ∧ ∃ k, w' = w.drewN k) : Calls Try.prog f args w fun e w' => e = .returned r ∧ PL W w' p P lv L := by
  refine hc.mono ?_
  rintro e w' ⟨rfl, k, rfl⟩
  exact ⟨rfl, h.later (below_drP w k)⟩
theorem PL.len (h : PL W w p P lv L) {r : Nat} (hr : P.fl.length = r) : Calls Try.prog 16 #[.pointer (some ⟨p, 0, none⟩)] w fun e w' => e = .returned (.int .i64 (r : Int)) ∧ PL W w' p P lv L := by
  obtain ⟨pg, pw, pf, v, h1, -⟩ := h.ex
  subst hr
  exact h.read (palen_any h1)
theorem PL.behind (h : PL W w p P lv L) {r : Bool} (hr : P.be = r) : Calls Try.prog 19 #[.pointer (some ⟨p, 0, none⟩)] w fun e w' => e = .returned (.bool r) ∧ PL W w' p P lv L := by
  obtain ⟨pg, pw, pf, v, h1, -⟩ := h.ex
  subst hr
  exact h.read (pabehind_any h1)
theorem PL.acked_no (h : PL W w p P lv L) (x now : Int) (hno : NoneQ P.fl x) : Calls Try.prog 22 #[.pointer (some ⟨p, 0, none⟩), .int .i64 x, .int .i64 now] w fun e w' => e = .returned (.bool false) ∧ PL W w' p P lv L := by
  obtain ⟨pg, pw, pf, v, h1, -⟩ := h.ex
  refine (paacked_no h1 h.ok x now hno).mono ?_
  rintro e w' ⟨rfl, hb⟩
  exact ⟨rfl, h.later hb⟩
/-- Late, the list that is told beside it. -/
theorem PV.lateL (h : PV W w p P) (now : Int) (h1 : -1099511627776 ≤ now ∧ now ≤ 1099511627776) {m : Nat} (hL : P.lates now = L) (hm : L.length = m) (hP : P.lateN now = P') :
    Calls Try.prog 26 #[.pointer (some ⟨p, 0, none⟩), .int .i64 now] w fun e w' => ∃ A' c', e = .returned (.slice A' m c') ∧ PL W w' p P' (.slice A' m c') L := by
  obtain ⟨pg, pw, pf, v, h3⟩ := h.ex
  subst hP hL
  refine (palate_any h3 h.ok now h1).mono ?_
  rintro e w' ⟨A', m', c', rfl, ho, v', h4, h5, h6⟩
  obtain rfl : m' = m := by rw [← hm]; exact ho.len.symm
  exact ⟨A', c', rfl, ⟨pg, pw, pf, v', h4, h6⟩, ho.less h.bel.size, h.ok.lateN now, h.bel.trans (h3.bel h5 (Nat.le_refl _))⟩
/-- Late once more, an elder list beside it. -/
theorem PL.late (h : PL W w p P lv L) (now : Int) (h1 : -1099511627776 ≤ now ∧ now ≤ 1099511627776) {L' : List Qd} {m : Nat} (hL : P.lates now = L') (hm : L'.length = m) (hP : P.lateN now = P') :
    Calls Try.prog 26 #[.pointer (some ⟨p, 0, none⟩), .int .i64 now] w fun e w' => ∃ A' c', e = .returned (.slice A' m c') ∧ PL W w' p P' lv L := by
  obtain ⟨pg, pw, pf, v, h3, h4⟩ := h.ex
  subst hP hL
  refine (palate_any h3 h.ok now h1).mono ?_
  rintro e w' ⟨A', m', c', rfl, ho, v', h5, h6, -⟩
  obtain rfl : m' = m := by rw [← hm]; exact ho.len.symm
  exact ⟨A', c', rfl, h.turn h3 h4 h5 h6 (h.ok.lateN now)⟩
end
end Go.Proofs.Ytlkoenlimdfifaa

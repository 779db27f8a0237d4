/-
  Three Scheds, one of each kind ('TT'); turns over paths that can all be used.
-/
import Derived.Test.YtffofgockddpiaaSchedMid
import Derived.Test.YtffofgockddpiaaWithin
namespace Go.Proofs.Ytffofgockddpiaa
open Go.RowKit

/-- A quickest there is, if one can be used. -/
theorem quick_ex {ms : List Int} (h : ¬ NoneU ms) : ∃ b, QuickP ms b := by
  have hh : ∀ n : Nat, n ≤ ms.length → (∀ i : Nat, i < n → ms.getD i 0 < 0) ∨ ∃ b : Nat, b < n ∧ 0 ≤ ms.getD b 0 ∧ ∀ j : Nat, j < n → 0 ≤ ms.getD j 0 → ms.getD b 0 ≤ ms.getD j 0 ∧ (j < b → ms.getD b 0 < ms.getD j 0) := by
    intro n
    induction n with
    | zero => exact fun _ => .inl (fun i hi => by omega)
    | succ n ih =>
      intro hn
      by_cases hu : 0 ≤ ms.getD n 0
      · right
        rcases ih (by omega) with h1 | ⟨b, h1, h2, h3⟩
        · refine ⟨n, by omega, hu, fun j hj hju => ?_⟩
          by_cases e : j = n
          · subst e; exact ⟨Int.le_refl _, fun x => by omega⟩
          · have := h1 j (by omega); omega
        · by_cases hlt : ms.getD n 0 < ms.getD b 0
          · refine ⟨n, by omega, hu, fun j hj hju => ?_⟩
            by_cases e : j = n
            · subst e; exact ⟨Int.le_refl _, fun x => by omega⟩
            · have := h3 j (by omega) hju; exact ⟨by omega, fun _ => by omega⟩
          · refine ⟨b, by omega, h2, fun j hj hju => ?_⟩
            by_cases e : j = n
            · subst e; exact ⟨by omega, fun x => by omega⟩
            · exact h3 j (by omega) hju
      · rcases ih (by omega) with h1 | ⟨b, h1, h2, h3⟩
        · left
          intro i hi
          by_cases e : i = n
          · subst e; omega
          · exact h1 i (by omega)
        · refine .inr ⟨b, by omega, h2, fun j hj hju => ?_⟩
          by_cases e : j = n
          · subst e; exact absurd hju hu
          · exact h3 j (by omega) hju
  rcases hh ms.length (Nat.le_refl _) with h1 | ⟨b, h1, h2, h3⟩
  · exact absurd h1 h
  · exact ⟨b, h1, h2, h3⟩
theorem canF_allU {ms : List Int} {i : Nat} (h : ∀ j : Nat, j < i → 0 ≤ ms.getD j 0) : (canF ms i).length = i ∧ ∀ j : Nat, j < i → (canF ms i).getD j 0 = (j : Int) := by
  induction i with
  | zero => exact ⟨rfl, fun j hj => by omega⟩
  | succ i ih =>
    obtain ⟨h1, h2⟩ := ih (fun j hj => h j (by omega))
    rw [canF_yes (h i (by omega))]
    refine ⟨by rw [List.length_append, h1]; rfl, fun j hj => ?_⟩
    simp only [List.getD_eq_getElem?_getD]
    by_cases e : j < i
    · rw [List.getElem?_append_left (by omega)]
      have := h2 j e
      simp only [List.getD_eq_getElem?_getD] at this
      exact this
    · have : j = i := by omega
      subst this
      rw [List.getElem?_append_right (by omega), h1, Nat.sub_self]
      rfl

/-- Three Scheds: by turns (l was picked last), the quickest, all. -/
structure TT (w0 w : World) (b1 b2 b3 : Nat) (l : Int) : Prop where
  s1 : ScS w b1 2 l
  s2 : ScS w b2 1 (-1)
  s3 : ScS w b3 3 (-1)
  n12 : b1 ≠ b2
  n13 : b1 ≠ b3
  n23 : b2 ≠ b3
  g1 : w0.heap.size ≤ b1
  g2 : w0.heap.size ≤ b2
  g3 : w0.heap.size ≤ b3
  lr : -1 ≤ l ∧ l ≤ 100
  bel : Below w0.heap.size w0 w
section
variable {w0 w w' : World} {b1 b2 b3 : Nat} {l : Int}
theorem TT.later (h : TT w0 w b1 b2 b3 l) (hb : Below w.heap.size w w') : TT w0 w' b1 b2 b3 l :=
  ⟨h.s1.later hb, h.s2.later hb, h.s3.later hb, h.n12, h.n13, h.n23, h.g1, h.g2, h.g3, h.lr, h.bel.trans (hb.mono h.bel.size)⟩
/-- A row of numbers of the call's own has turned. -/
theorem TT.row (h : TT w0 w b1 b2 b3 l) {v : Value} {xs : List Int} (ho : Own .i64 3 w w0.heap.size v xs) (hg : w.grownBy w' v.ownBlock) : TT w0 w' b1 b2 b3 l := by
  have hne : ∀ b k m, ScS w b k m → ¬ (v.ownBlock = some b) := fun b k m hs => own_ne_sc ho hs (by decide)
  exact ⟨h.s1.kept (Trn.of_grown hg) (hne _ _ _ h.s1), h.s2.kept (Trn.of_grown hg) (hne _ _ _ h.s2), h.s3.kept (Trn.of_grown hg) (hne _ _ _ h.s3), h.n12, h.n13, h.n23, h.g1, h.g2, h.g3, h.lr, h.bel.trans ((Trn.of_grown hg).below h.bel.size (fun k hk => (ho.lt k hk).1))⟩
theorem TT.pick1 (h : TT w0 w b1 b2 b3 l) {A : Option Addr} {n c : Nat} {ms : List Int} (hm : ms.length = n) (hr : Rd .i64 w A ms) (hn : n ≤ 100) {L : List Int} {l0 : Int} {N : Nat} (hP : IsPick 2 l ms L l0) (hN : L.length = N) :
    Calls Try.prog 8 #[.pointer (some ⟨b1, 0, none⟩), .slice A n c] w fun e w' => ∃ A' c', e = .returned (.slice A' N c') ∧ Own .i64 3 w' w.heap.size (.slice A' N c') L ∧ TT w0 w' b1 b2 b3 l0 ∧ SC w w' (fun j => j = b1) (fun j => j = b1) := by
  refine (pick_is h.s1 hm hr (by have := h.lr; omega) (by omega) hP hN).mono ?_
  rintro e w' ⟨A', c', rfl, h1, h2, h3⟩
  exact ⟨A', c', rfl, h1, ⟨h2, sc_sc h3 h.s2 (Ne.symm h.n12), sc_sc h3 h.s3 (Ne.symm h.n13), h.n12, h.n13, h.n23, h.g1, h.g2, h.g3, hP.last h.lr (by omega), h.bel.trans (sc_bel h3 h.bel.size h.g1)⟩, h3⟩
theorem TT.pick2 (h : TT w0 w b1 b2 b3 l) {A : Option Addr} {n c : Nat} {ms : List Int} (hm : ms.length = n) (hr : Rd .i64 w A ms) (hn : n ≤ 100) {L : List Int} {N : Nat} (hP : IsPick 1 (-1) ms L (-1)) (hN : L.length = N) :
    Calls Try.prog 8 #[.pointer (some ⟨b2, 0, none⟩), .slice A n c] w fun e w' => ∃ A' c', e = .returned (.slice A' N c') ∧ Own .i64 3 w' w.heap.size (.slice A' N c') L ∧ TT w0 w' b1 b2 b3 l ∧ SC w w' (fun j => j = b2) (fun j => j = b2) := by
  refine (pick_is h.s2 hm hr (by omega) (by omega) hP hN).mono ?_
  rintro e w' ⟨A', c', rfl, h1, h2, h3⟩
  exact ⟨A', c', rfl, h1, ⟨sc_sc h3 h.s1 h.n12, h2, sc_sc h3 h.s3 (Ne.symm h.n23), h.n12, h.n13, h.n23, h.g1, h.g2, h.g3, h.lr, h.bel.trans (sc_bel h3 h.bel.size h.g2)⟩, h3⟩
theorem TT.pick3 (h : TT w0 w b1 b2 b3 l) {A : Option Addr} {n c : Nat} {ms : List Int} (hm : ms.length = n) (hr : Rd .i64 w A ms) (hn : n ≤ 100) {L : List Int} {N : Nat} (hP : IsPick 3 (-1) ms L (-1)) (hN : L.length = N) :
    Calls Try.prog 8 #[.pointer (some ⟨b3, 0, none⟩), .slice A n c] w fun e w' => ∃ A' c', e = .returned (.slice A' N c') ∧ Own .i64 3 w' w.heap.size (.slice A' N c') L ∧ TT w0 w' b1 b2 b3 l ∧ SC w w' (fun j => j = b3) (fun j => j = b3) := by
  refine (pick_is h.s3 hm hr (by omega) (by omega) hP hN).mono ?_
  rintro e w' ⟨A', c', rfl, h1, h2, h3⟩
  exact ⟨A', c', rfl, h1, ⟨sc_sc h3 h.s1 h.n13, sc_sc h3 h.s2 h.n23, h2, h.n12, h.n13, h.n23, h.g1, h.g2, h.g3, h.lr, h.bel.trans (sc_bel h3 h.bel.size h.g3)⟩, h3⟩
theorem TT.start {w1 w2 w3 : World} (h1 : ScS w1 w0.heap.size 2 (-1)) (hb1 : Below w0.heap.size w0 w1) (h2 : ScS w2 w1.heap.size 1 (-1)) (hb2 : Below w1.heap.size w1 w2) (h3 : ScS w3 w2.heap.size 3 (-1)) (hb3 : Below w2.heap.size w2 w3) :
    TT w0 w3 w0.heap.size w1.heap.size w2.heap.size (-1) := by
  have e1 := h1.lt
  have e2 := h2.lt
  exact ⟨(h1.later hb2).later hb3, h2.later hb3, h3, by omega, by have := hb2.size; omega, by omega, Nat.le_refl _, hb1.size, Nat.le_trans hb1.size hb2.size, by omega, (hb1.trans (hb2.mono hb1.size)).trans (hb3.mono (Nat.le_trans hb1.size hb2.size))⟩
/-- The same behind an elder world. -/
theorem TT.base {w1 : World} (h : TT w1 w b1 b2 b3 l) (hb : Below w0.heap.size w0 w1) : TT w0 w b1 b2 b3 l :=
  ⟨h.s1, h.s2, h.s3, h.n12, h.n13, h.n23, Nat.le_trans hb.size h.g1, Nat.le_trans hb.size h.g2, Nat.le_trans hb.size h.g3, h.lr, hb.trans (h.bel.mono hb.size)⟩
/-- A row of numbers stays where a Sched has picked. -/
theorem TT.own1 (h : TT w0 w b1 b2 b3 l) {B : Nat} {v : Value} {xs : List Int} (hsc : SC w w' (fun j => j = b1) (fun j => j = b1)) (ho : Own .i64 3 w B v xs) : Own .i64 3 w' B v xs := sc_own hsc ho h.s1 (by decide)
theorem TT.own2 (h : TT w0 w b1 b2 b3 l) {B : Nat} {v : Value} {xs : List Int} (hsc : SC w w' (fun j => j = b2) (fun j => j = b2)) (ho : Own .i64 3 w B v xs) : Own .i64 3 w' B v xs := sc_own hsc ho h.s2 (by decide)
theorem TT.own3 (h : TT w0 w b1 b2 b3 l) {B : Nat} {v : Value} {xs : List Int} (hsc : SC w w' (fun j => j = b3) (fun j => j = b3)) (ho : Own .i64 3 w B v xs) : Own .i64 3 w' B v xs := sc_own hsc ho h.s3 (by decide)
end
end Go.Proofs.Ytffofgockddpiaa

/-
  Both paths, read only: what each reading call answers. Contracts over the program.
-/
import Derived.Test.YtlkoenlimdfifaaPathBoth
namespace Go.Proofs.Ytlkoenlimdfifaa
open Go.RowKit

section
variable {W w w' : World} {p r : Nat} {P Q : Pa}
theorem bel_k {w w' : World} (h : ∃ k, w' = w.drewN k) : Below w.heap.size w w' := by
  obtain ⟨k, rfl⟩ := h
  exact below_drP w k
theorem PB.isup (h : PB W w p r P Q) : Calls Try.prog 10 #[.pointer (some ⟨p, 0, none⟩)] w fun e w' => e = .returned (.bool P.up) ∧ Below w.heap.size w w' := by
  obtain ⟨pg, pw, pf, v, qg, qw, u, h1, -⟩ := h.ex
  exact (paisup_any h1).mono fun e w' ⟨he, hk⟩ => ⟨he, bel_k hk⟩
theorem PB.joined (h : PB W w p r P Q) : Calls Try.prog 11 #[.pointer (some ⟨p, 0, none⟩)] w fun e w' => e = .returned (.bool P.jo) ∧ Below w.heap.size w w' := by
  obtain ⟨pg, pw, pf, v, qg, qw, u, h1, -⟩ := h.ex
  exact (pajoined_any h1).mono fun e w' ⟨he, hk⟩ => ⟨he, bel_k hk⟩
theorem PB.behind (h : PB W w p r P Q) : Calls Try.prog 19 #[.pointer (some ⟨p, 0, none⟩)] w fun e w' => e = .returned (.bool P.be) ∧ Below w.heap.size w w' := by
  obtain ⟨pg, pw, pf, v, qg, qw, u, h1, -⟩ := h.ex
  exact (pabehind_any h1).mono fun e w' ⟨he, hk⟩ => ⟨he, bel_k hk⟩
theorem PB.sent (h : PB W w p r P Q) : Calls Try.prog 17 #[.pointer (some ⟨p, 0, none⟩)] w fun e w' => e = .returned (.int .i64 P.sent) ∧ Below w.heap.size w w' := by
  obtain ⟨pg, pw, pf, v, qg, qw, u, h1, -⟩ := h.ex
  exact (pasent_any h1).mono fun e w' ⟨he, hk⟩ => ⟨he, bel_k hk⟩
theorem PB.mean (h : PB W w p r P Q) : Calls Try.prog 18 #[.pointer (some ⟨p, 0, none⟩)] w fun e w' => e = .returned (.int .i64 P.g.mean) ∧ Below w.heap.size w w' := by
  obtain ⟨pg, pw, pf, v, qg, qw, u, h1, -⟩ := h.ex
  exact (pamean_any h1).mono fun e w' ⟨he, hk⟩ => ⟨he, bel_k hk⟩
theorem PB.len (h : PB W w p r P Q) {n : Nat} (hn : P.fl.length = n) : Calls Try.prog 16 #[.pointer (some ⟨p, 0, none⟩)] w fun e w' => e = .returned (.int .i64 (n : Int)) ∧ Below w.heap.size w w' := by
  obtain ⟨pg, pw, pf, v, qg, qw, u, h1, -⟩ := h.ex
  subst hn
  exact (palen_any h1).mono fun e w' ⟨he, hk⟩ => ⟨he, bel_k hk⟩
theorem PB.usable (h : PB W w p r P Q) : Calls Try.prog 14 #[.pointer (some ⟨p, 0, none⟩)] w fun e w' => e = .returned (.bool P.usable) ∧ Below w.heap.size w w' := by
  obtain ⟨pg, pw, pf, v, qg, qw, u, h1, -⟩ := h.ex
  exact (pausable_any h1 h.okP).mono fun e w' ⟨he, hk⟩ => ⟨he, bel_k hk⟩
theorem PB.dusable (h : PB W w p r P Q) : Calls Try.prog 35 #[.pointer (some ⟨r, 0, none⟩)] w fun e w' => e = .returned (.bool Q.usable) ∧ Below w.heap.size w w' := by
  obtain ⟨pg, pw, pf, v, qg, qw, u, h1, h2, -⟩ := h.ex
  exact (dqusable_any h2).mono fun e w' ⟨he, hk⟩ => ⟨he, bel_k hk⟩
theorem PB.state (h : PB W w p r P Q) {m : Nat} (hm : P.state.length = m) : Calls Try.prog 25 #[.pointer (some ⟨p, 0, none⟩)] w fun e w' => ∃ A' c', e = .returned (.slice A' m c') ∧ Own .i64 3 w' w.heap.size (.slice A' m c') P.state ∧ Below w.heap.size w w' := by
  obtain ⟨pg, pw, pf, v, qg, qw, u, h1, -⟩ := h.ex
  refine (pastate_any h1 h.okP).mono ?_
  rintro e w' ⟨A', m', c', rfl, rfl, ho, hb⟩
  subst hm
  exact ⟨A', c', rfl, ho, hb⟩
theorem PB.dstate (h : PB W w p r P Q) {m : Nat} (hm : Q.state.length = m) : Calls Try.prog 36 #[.pointer (some ⟨r, 0, none⟩)] w fun e w' => ∃ A' c', e = .returned (.slice A' m c') ∧ Own .i64 3 w' w.heap.size (.slice A' m c') Q.state ∧ Below w.heap.size w w' := by
  obtain ⟨pg, pw, pf, v, qg, qw, u, h1, h2, -⟩ := h.ex
  refine (dqstate_any h2 h.okQ).mono ?_
  rintro e w' ⟨A', m', c', rfl, rfl, ho, hb⟩
  subst hm
  exact ⟨A', c', rfl, ho, hb⟩
/-- The cells of the document's, as long as nothing of it turns. -/
theorem PB.stc (h : PB W w p r P Q) {n : Nat} (hn : Q.fl.length = n) : ∃ qg qw A c, ∀ wi, Below w.heap.size w wi → StC wi r qg qw A n c Q.up Q.jo Q.be Q.sent Q.g.mean Q.wn.size := by
  obtain ⟨pg, pw, pf, v, qg, qw, u, h1, h2, -⟩ := h.ex
  obtain ⟨A, c, rfl⟩ := h2.fl.own.form
  rw [hn] at h2
  refine ⟨qg, qw, A, c, fun wi hb => ?_⟩
  have h3 := h2.later hb
  exact ⟨h3.c0, h3.c1, h3.c2, h3.c3, h3.c4, h3.c5, h3.c6, h3.g.c1, h3.wn.c1⟩
/-- The document's Up is stored. -/
theorem PB.dup (h : PB W w p r P Q) (b : Bool) : w.cell? ⟨r, 0, none⟩ = some (.bool Q.up) ∧ w.frozen? ⟨r, 0, none⟩ = false ∧ PB W (w.setCell ⟨r, 0, none⟩ (.bool b)) p r P (Q.setUp b) := by
  obtain ⟨pg, pw, pf, v, qg, qw, u, h1, h2, h3⟩ := h.ex
  obtain ⟨h6, h7⟩ := h2.poke (P' := Q.setUp b) 0 (.bool b) (by omega) (fun j hj => by
    have : j = 0 ∨ j = 1 ∨ j = 2 ∨ j = 3 ∨ j = 4 ∨ j = 5 := by omega
    rcases this with rfl | rfl | rfl | rfl | rfl | rfl <;> rfl) rfl rfl rfl
  exact ⟨h2.c0, h2.fr 0, ⟨pg, pw, pf, v, qg, qw, u, h1.kept h7.trn (fun k hk hp => h3 k hk hp), h6, h3⟩, h.okP, h.okQ.setUp b, h.bel.trans (h2.bel h7 (Nat.le_refl _))⟩
theorem PB.djo (h : PB W w p r P Q) (b : Bool) : w.cell? ⟨r, 0 + 1, none⟩ = some (.bool Q.jo) ∧ w.frozen? ⟨r, 0 + 1, none⟩ = false ∧ PB W (w.setCell ⟨r, 0 + 1, none⟩ (.bool b)) p r P (Q.setJo b) := by
  obtain ⟨pg, pw, pf, v, qg, qw, u, h1, h2, h3⟩ := h.ex
  obtain ⟨h6, h7⟩ := h2.poke (P' := Q.setJo b) (0 + 1) (.bool b) (by omega) (fun j hj => by
    have : j = 0 ∨ j = 1 ∨ j = 2 ∨ j = 3 ∨ j = 4 ∨ j = 5 := by omega
    rcases this with rfl | rfl | rfl | rfl | rfl | rfl <;> rfl) rfl rfl rfl
  exact ⟨h2.c1, h2.fr (0 + 1), ⟨pg, pw, pf, v, qg, qw, u, h1.kept h7.trn (fun k hk hp => h3 k hk hp), h6, h3⟩, h.okP, h.okQ.setJo b, h.bel.trans (h2.bel h7 (Nat.le_refl _))⟩
/-- Both are new. -/
theorem both_new {w1 w2 w3 : World} {f m : Int} {pg pw pf qg qw : Nat} (hB : Below W.heap.size W w1) (ha : PaAt w2 w1.heap.size p pg pw pf (.slice none 0 0) (Pa.new f m)) (hb : Below w1.heap.size w1 w2) (hd : DqAt w3 w2.heap.size r qg qw (.slice none 0 0) (Pa.new f m)) (hc : Below w2.heap.size w2 w3) : PB W w3 p r (Pa.new f m) (Pa.new f m) :=
  ⟨⟨pg, pw, pf, _, qg, qw, _, (ha.less hB.size).later hc, hd.less (Nat.le_trans hB.size hb.size), fun k hk hq => by have h1 := (ha.foot_lt k hk).2; have h2 := (hd.foot_lt k hq).1; omega⟩, Pa.new_ok _ _, Pa.new_ok _ _, (hB.trans (hb.mono hB.size)).trans (hc.mono (Nat.le_trans hB.size hb.size))⟩
end
theorem new_fine (f m : Int) : Fine (Pa.new f m) 0 := ⟨by simp [Pa.new], by simp [Pa.new], fun q hq => by simp [Pa.new] at hq⟩
theorem setUp_same (P : Pa) {u : Bool} (h : P.up = u) : P.setUp u = P := by subst h; rfl
end Go.Proofs.Ytlkoenlimdfifaa

/-
  The document's own path in memory ('DqAt'); what NewPath, Number, Usable, Acked, Late of it do: contracts over the program.
-/
import Derived.Test.YtlkoenlimdfifaaPathMath
import Derived.Test.YtlkoenlimdfifaaDocGu
import Derived.Test.YtlkoenlimdfifaaFlF2
import Derived.Test.YtlkoenlimdfifaaSep
namespace Go.Proofs.Ytlkoenlimdfifaa
open Go.RowKit

abbrev tPaR : TypeId := 55
theorem rows_ne {w : World} {a b n m : Nat} {t t' : TypeId} {f f' : Nat → Value} (h : w.rowIs a t n f) (h' : w.rowIs b t' m f') (hn : t ≠ t') : a ≠ b := by
  rintro rfl
  obtain ⟨c, hc, _⟩ := h
  obtain ⟨c', hc', _⟩ := h'
  rw [hc] at hc'
  injection hc' with hc'
  injection hc' with _ ht
  exact hn ht
theorem FlF.poke {ty e : TypeId} {m0 o : Nat} {ff ff' : Nat → Value} {w : World} {B p : Nat} {v : Value} {ps : List Qd} (h : FlF ty e m0 o ff w B p v ps) (i : Nat) (u : Value) (hi : i ≠ o) (hff : ∀ j, j < m0 → j ≠ o → (if j = i then u else ff j) = ff' j) :
    FlF ty e m0 o ff' (w.setCell ⟨p, i, none⟩ u) B p v ps :=
  ⟨(World.rowIs.set h.row i u).congr fun j hj => by
    by_cases e : j = o
    · subst e; simp [Ne.symm hi]
    · have := hff j hj e
      simp only [e, if_false]
      exact this, h.own.kept (setCell_one w p i u) (.inr (h.own.not_row h.row h.ne)), h.ge, h.on, h.ne⟩

/-- The cells of the document's path, beside its flight. -/
def dqF (P : Pa) (pg pw : Nat) (i : Nat) : Value := if i = 0 then .bool P.up else if i = 1 then .bool P.jo else if i = 2 then .bool P.be else if i = 3 then .int .i64 P.sent else if i = 4 then .pointer (some ⟨pg, 0, none⟩) else .pointer (some ⟨pw, 0, none⟩)
/-- Block p is the document's path P, with its guess and window; v is the list of what is out. -/
structure DqAt (w : World) (B p pg pw : Nat) (v : Value) (P : Pa) : Prop where
  fl : FlF tPaR tOutR 7 6 (dqF P pg pw) w B p v P.fl
  g : Dg w pg P.g
  wn : Rw w pw P.wn
  bg : B ≤ pg
  bw : B ≤ pw
/-- Its blocks. -/
def Dqt (p pg pw : Nat) (v : Value) (k : Nat) : Prop := k = p ∨ k = pg ∨ k = pw ∨ v.ownBlock = some k

section
variable {w w' : World} {B p pg pw : Nat} {v v' : Value} {P : Pa} {F : Nat → Prop}
theorem DqAt.ne1 (h : DqAt w B p pg pw v P) : p ≠ pg := rows_ne h.fl.row h.g (by decide)
theorem DqAt.ne2 (h : DqAt w B p pg pw v P) : p ≠ pw := rows_ne h.fl.row h.wn (by decide)
theorem DqAt.ne3 (h : DqAt w B p pg pw v P) : pg ≠ pw := rows_ne h.g h.wn (by decide)
theorem DqAt.v1 (h : DqAt w B p pg pw v P) : v.ownBlock ≠ some pg := h.fl.own.not_row h.g (by decide)
theorem DqAt.v2 (h : DqAt w B p pg pw v P) : v.ownBlock ≠ some pw := h.fl.own.not_row h.wn (by decide)
theorem DqAt.kept (h : DqAt w B p pg pw v P) (ht : Trn w w' F) (hf : ∀ k, Dqt p pg pw v k → ¬ F k) : DqAt w' B p pg pw v P :=
  ⟨h.fl.kept ht (fun k hk => hf k (hk.elim .inl (fun h => .inr (.inr (.inr h))))), ht.rowIs h.g (hf _ (.inr (.inl rfl))), ht.rowIs h.wn (hf _ (.inr (.inr (.inl rfl)))), h.bg, h.bw⟩
theorem DqAt.later (h : DqAt w B p pg pw v P) (hb : Below w.heap.size w w') : DqAt w' B p pg pw v P := h.kept (Trn.of_below (F := fun _ => False) hb) (fun _ _ => id)
theorem DqAt.drewN (h : DqAt w B p pg pw v P) (n : Nat) : DqAt (w.drewN n) B p pg pw v P := h.later ⟨rfl, rfl, rfl, Nat.le_refl _, fun _ _ => rfl⟩
theorem DqAt.alloc (h : DqAt w B p pg pw v P) (o : Obj) : DqAt (w.alloc o) B p pg pw v P := h.later ((Below.refl _ _).alloc (Nat.le_refl _) _)
theorem DqAt.less {B' : Nat} (h : DqAt w B p pg pw v P) (hB : B' ≤ B) : DqAt w B' p pg pw v P := ⟨h.fl.less hB, h.g, h.wn, Nat.le_trans hB h.bg, Nat.le_trans hB h.bw⟩
theorem DqAt.foot_lt (h : DqAt w B p pg pw v P) : ∀ k, Dqt p pg pw v k → B ≤ k ∧ k < w.heap.size := by
  rintro k (rfl | rfl | rfl | hk)
  · exact ⟨h.fl.ge, h.fl.lt⟩
  · exact ⟨h.bg, World.rowIs.lt h.g⟩
  · exact ⟨h.bw, World.rowIs.lt h.wn⟩
  · exact h.fl.own.lt k hk
theorem DqAt.size (h : DqAt w B p pg pw v P) : B ≤ w.heap.size := h.fl.size
theorem DqAt.bel {B0 : Nat} (h : DqAt w B p pg pw v P) (hsc : SC w w' (Dqt p pg pw v) (Dqt p pg pw v')) (hB : B0 ≤ B) : Below B0 w w' := (hsc.below h.size (fun k hk => (h.foot_lt k hk).1)).mono hB
theorem DqAt.cell (h : DqAt w B p pg pw v P) (i : Nat) (hi : i < 6) : w.cell? ⟨p, i, none⟩ = some (dqF P pg pw i) := (World.rowIs.cell (i := i) h.fl.row (by omega)).trans (by simp [show i ≠ 6 by omega])
theorem DqAt.c0 (h : DqAt w B p pg pw v P) : w.cell? ⟨p, 0, none⟩ = some (.bool P.up) := h.cell 0 (by omega)
theorem DqAt.c1 (h : DqAt w B p pg pw v P) : w.cell? ⟨p, 0 + 1, none⟩ = some (.bool P.jo) := h.cell 1 (by omega)
theorem DqAt.c2 (h : DqAt w B p pg pw v P) : w.cell? ⟨p, 0 + 2, none⟩ = some (.bool P.be) := h.cell 2 (by omega)
theorem DqAt.c3 (h : DqAt w B p pg pw v P) : w.cell? ⟨p, 0 + 3, none⟩ = some (.int .i64 P.sent) := h.cell 3 (by omega)
theorem DqAt.c4 (h : DqAt w B p pg pw v P) : w.cell? ⟨p, 0 + 4, none⟩ = some (.pointer (some ⟨pg, 0, none⟩)) := h.cell 4 (by omega)
theorem DqAt.c5 (h : DqAt w B p pg pw v P) : w.cell? ⟨p, 0 + 5, none⟩ = some (.pointer (some ⟨pw, 0, none⟩)) := h.cell 5 (by omega)
theorem DqAt.c6 (h : DqAt w B p pg pw v P) : w.cell? ⟨p, 0 + 6, none⟩ = some v := h.fl.co
theorem DqAt.fr (h : DqAt w B p pg pw v P) (i : Nat) : w.frozen? ⟨p, i, none⟩ = false := h.fl.fr i
/-- A cell of its own is stored. -/
theorem DqAt.poke (h : DqAt w B p pg pw v P) {P' : Pa} (i : Nat) (u : Value) (hi : i < 6) (hp : ∀ j, j < 6 → (if j = i then u else dqF P pg pw j) = dqF P' pg pw j) (hg : P'.g = P.g) (hw : P'.wn = P.wn) (hf : P'.fl = P.fl) :
    DqAt (w.setCell ⟨p, i, none⟩ u) B p pg pw v P' ∧ SC w (w.setCell ⟨p, i, none⟩ u) (Dqt p pg pw v) (Dqt p pg pw v) := by
  have ht := Trn.of_grown (setCell_one w p i u)
  refine ⟨⟨by rw [hf]; exact h.fl.poke i u (by omega) (fun j hj hj6 => hp j (by omega)), by rw [hg]; exact ht.rowIs h.g (fun e => h.ne1 (Option.some.inj e)), by rw [hw]; exact ht.rowIs h.wn (fun e => h.ne2 (Option.some.inj e)), h.bg, h.bw⟩, ?_, fun k hk => .inl hk⟩
  exact ht.mono (fun k _ hk => .inl (Option.some.inj hk).symm)
/-- Its guess has turned. -/
theorem DqAt.turnG (h : DqAt w B p pg pw v P) {g : Gs} (hg : Dg w' pg g) (hgr : w.grownBy w' (some pg)) : DqAt w' B p pg pw v (P.setG g) ∧ SC w w' (Dqt p pg pw v) (Dqt p pg pw v) := by
  have ht := Trn.of_grown hgr
  refine ⟨⟨?_, hg, ht.rowIs h.wn (fun e => h.ne3 (Option.some.inj e)), h.bg, h.bw⟩, ?_, fun k hk => .inl hk⟩
  · refine h.fl.kept ht ?_
    rintro k (rfl | hk) e
    · exact h.ne1 (Option.some.inj e).symm
    · exact h.v1 (hk.trans e.symm)
  · exact ht.mono (fun k _ hk => .inr (.inl (Option.some.inj hk).symm))
/-- Its window has turned. -/
theorem DqAt.turnW (h : DqAt w B p pg pw v P) {g : Wn} (hg : Rw w' pw g) (hgr : w.grownBy w' (some pw)) : DqAt w' B p pg pw v (P.setW g) ∧ SC w w' (Dqt p pg pw v) (Dqt p pg pw v) := by
  have ht := Trn.of_grown hgr
  refine ⟨⟨?_, ht.rowIs h.g (fun e => h.ne3 (Option.some.inj e).symm), hg, h.bg, h.bw⟩, ?_, fun k hk => .inl hk⟩
  · refine h.fl.kept ht ?_
    rintro k (rfl | hk) e
    · exact h.ne2 (Option.some.inj e).symm
    · exact h.v2 (hk.trans e.symm)
  · exact ht.mono (fun k _ hk => .inr (.inr (.inl (Option.some.inj hk).symm)))
theorem dqt_of {k : Nat} (h : Fft p v k) : Dqt p pg pw v k := h.elim .inl (fun h => .inr (.inr (.inr h)))
/-- Its flight has turned. -/
theorem DqAt.turnF (h : DqAt w B p pg pw v P) {l : List Qd} (hf : FlF tPaR tOutR 7 6 (dqF P pg pw) w' B p v' l) (hsc : SC w w' (Fft p v) (Fft p v')) : DqAt w' B p pg pw v' (P.setFl l) ∧ SC w w' (Dqt p pg pw v) (Dqt p pg pw v') := by
  refine ⟨⟨hf, hsc.trn.rowIs h.g ?_, hsc.trn.rowIs h.wn ?_, h.bg, h.bw⟩, hsc.trn.mono (fun k _ hk => dqt_of hk), ?_⟩
  · rintro (e | e)
    · exact h.ne1 e.symm
    · exact h.v1 e
  · rintro (e | e)
    · exact h.ne2 e.symm
    · exact h.v2 e
  · rintro k (rfl | rfl | rfl | hk)
    · exact .inl (.inl rfl)
    · exact .inl (.inr (.inl rfl))
    · exact .inl (.inr (.inr (.inl rfl)))
    · exact (hsc.sub k (.inr hk)).imp dqt_of id
end
end Go.Proofs.Ytlkoenlimdfifaa

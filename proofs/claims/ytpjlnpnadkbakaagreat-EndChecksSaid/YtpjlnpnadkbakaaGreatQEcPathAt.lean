/-
  PathAt · Lit.
-/
import Derived.Test.YtpjlnpnadkbakaaGreatQEcFlight3
import Derived.Test.YtpjlnpnadkbakaaGreatQEcRowN
import Derived.Test.YtpjlnpnadkbakaaGreatQEcWindow
import Derived.Test.YtpjlnpnadkbakaaGreatQEcClamp
namespace Go.Proofs.YtpjlnpnadkbakaaGreat
set_option maxRecDepth 10000
open Go.RowKit

abbrev tPa : TypeId := 175
theorem rowsP_ne {w : World} {a b n m : Nat} {t t' : TypeId} {f f' : Nat → Value} (h : w.rowIs a t n f) (h' : w.rowIs b t' m f') (hn : t ≠ t') : a ≠ b := by
  rintro rfl
  obtain ⟨c, hc, _⟩ := h
  obtain ⟨c', hc', _⟩ := h'
  rw [hc] at hc'
  injection hc' with hc'
  injection hc' with _ ht
  exact hn ht
/-- The cells of a path: the one place that knows their order. -/
def paF (P : Pa) (pg pw pf : Nat) (i : Nat) : Value := if i = 0 then .bool P.up else if i = 1 then .bool P.jo else if i = 2 then .bool P.be else if i = 3 then .int .i64 P.sent else if i = 4 then .pointer (some ⟨pg, 0, none⟩) else if i = 5 then .pointer (some ⟨pw, 0, none⟩) else .pointer (some ⟨pf, 0, none⟩)
/-- Block p is the path P, with its guess, its window, its flight; v is the list of what is out. -/
structure PaAt (w : World) (B p pg pw pf : Nat) (v : Value) (P : Pa) : Prop where
  row : w.rowIs p tPa 7 (paF P pg pw pf)
  g : Gu w pg P.g
  wn : Wi w pw P.wn
  fl : FlA tFl tOutP w B pf v P.fl
  ge : B ≤ p
  bg : B ≤ pg
  bw : B ≤ pw
/-- Its blocks. -/
def Pat (p pg pw pf : Nat) (v : Value) (k : Nat) : Prop := k = p ∨ k = pg ∨ k = pw ∨ Fft pf v k

section
variable {w w' : World} {B p pg pw pf : Nat} {v v' : Value} {P : Pa} {F : Nat → Prop}
theorem PaAt.ne1 (h : PaAt w B p pg pw pf v P) : p ≠ pg := rowsP_ne h.row h.g (by decide)
theorem PaAt.ne2 (h : PaAt w B p pg pw pf v P) : p ≠ pw := rowsP_ne h.row h.wn (by decide)
theorem PaAt.ne3 (h : PaAt w B p pg pw pf v P) : pg ≠ pw := rowsP_ne h.g h.wn (by decide)
theorem PaAt.nf (h : PaAt w B p pg pw pf v P) : ¬ Fft pf v p := by
  rintro (e | e)
  · exact rowsP_ne h.row h.fl.row (by decide) e
  · exact h.fl.own.not_row h.row (by decide) e
theorem PaAt.nfg (h : PaAt w B p pg pw pf v P) : ¬ Fft pf v pg := by
  rintro (e | e)
  · exact rowsP_ne h.g h.fl.row (by decide) e
  · exact h.fl.own.not_row h.g (by decide) e
theorem PaAt.nfw (h : PaAt w B p pg pw pf v P) : ¬ Fft pf v pw := by
  rintro (e | e)
  · exact rowsP_ne h.wn h.fl.row (by decide) e
  · exact h.fl.own.not_row h.wn (by decide) e
theorem PaAt.kept (h : PaAt w B p pg pw pf v P) (ht : Trn w w' F) (hf : ∀ k, Pat p pg pw pf v k → ¬ F k) : PaAt w' B p pg pw pf v P :=
  ⟨ht.rowIs h.row (hf _ (.inl rfl)), ht.rowIs h.g (hf _ (.inr (.inl rfl))), ht.rowIs h.wn (hf _ (.inr (.inr (.inl rfl)))), h.fl.kept ht (fun k hk => hf k (.inr (.inr (.inr hk)))), h.ge, h.bg, h.bw⟩
theorem PaAt.later (h : PaAt w B p pg pw pf v P) (hb : Below w.heap.size w w') : PaAt w' B p pg pw pf v P := h.kept (Trn.of_below (F := fun _ => False) hb) (fun _ _ => id)
theorem PaAt.drewN (h : PaAt w B p pg pw pf v P) (n : Nat) : PaAt (w.drewN n) B p pg pw pf v P := h.later ⟨rfl, rfl, rfl, Nat.le_refl _, fun _ _ => rfl⟩
theorem PaAt.alloc (h : PaAt w B p pg pw pf v P) (o : Obj) : PaAt (w.alloc o) B p pg pw pf v P := h.later ((Below.refl _ _).alloc (Nat.le_refl _) _)
theorem PaAt.less {B' : Nat} (h : PaAt w B p pg pw pf v P) (hB : B' ≤ B) : PaAt w B' p pg pw pf v P := ⟨h.row, h.g, h.wn, h.fl.less hB, Nat.le_trans hB h.ge, Nat.le_trans hB h.bg, Nat.le_trans hB h.bw⟩
theorem PaAt.lt (h : PaAt w B p pg pw pf v P) : p < w.heap.size := World.rowIs.lt h.row
theorem PaAt.foot_lt (h : PaAt w B p pg pw pf v P) : ∀ k, Pat p pg pw pf v k → B ≤ k ∧ k < w.heap.size := by
  rintro k (rfl | rfl | rfl | hk)
  · exact ⟨h.ge, World.rowIs.lt h.row⟩
  · exact ⟨h.bg, World.rowIs.lt h.g⟩
  · exact ⟨h.bw, World.rowIs.lt h.wn⟩
  · exact h.fl.foot_lt k hk
theorem PaAt.size (h : PaAt w B p pg pw pf v P) : B ≤ w.heap.size := h.fl.size
theorem PaAt.bel {B0 : Nat} (h : PaAt w B p pg pw pf v P) (hsc : SC w w' (Pat p pg pw pf v) (Pat p pg pw pf v')) (hB : B0 ≤ B) : Below B0 w w' := (hsc.below h.size (fun k hk => (h.foot_lt k hk).1)).mono hB
theorem PaAt.cell (h : PaAt w B p pg pw pf v P) (i : Nat) (hi : i < 7) : w.cell? ⟨p, i, none⟩ = some (paF P pg pw pf i) := World.rowIs.cell (i := i) h.row hi
theorem PaAt.c0 (h : PaAt w B p pg pw pf v P) : w.cell? ⟨p, 0, none⟩ = some (.bool P.up) := h.cell 0 (by omega)
theorem PaAt.c1 (h : PaAt w B p pg pw pf v P) : w.cell? ⟨p, 0 + 1, none⟩ = some (.bool P.jo) := h.cell 1 (by omega)
theorem PaAt.c2 (h : PaAt w B p pg pw pf v P) : w.cell? ⟨p, 0 + 2, none⟩ = some (.bool P.be) := h.cell 2 (by omega)
theorem PaAt.c3 (h : PaAt w B p pg pw pf v P) : w.cell? ⟨p, 0 + 3, none⟩ = some (.int .i64 P.sent) := h.cell 3 (by omega)
theorem PaAt.c4 (h : PaAt w B p pg pw pf v P) : w.cell? ⟨p, 0 + 4, none⟩ = some (.pointer (some ⟨pg, 0, none⟩)) := h.cell 4 (by omega)
theorem PaAt.c5 (h : PaAt w B p pg pw pf v P) : w.cell? ⟨p, 0 + 5, none⟩ = some (.pointer (some ⟨pw, 0, none⟩)) := h.cell 5 (by omega)
theorem PaAt.c6 (h : PaAt w B p pg pw pf v P) : w.cell? ⟨p, 0 + 6, none⟩ = some (.pointer (some ⟨pf, 0, none⟩)) := h.cell 6 (by omega)
theorem PaAt.fr (h : PaAt w B p pg pw pf v P) (i : Nat) : w.frozen? ⟨p, i, none⟩ = false := World.rowIs.frozen h.row i
/-- A cell of its own is stored. -/
theorem PaAt.poke (h : PaAt w B p pg pw pf v P) {P' : Pa} (i : Nat) (u : Value) (hp : ∀ j, j < 7 → (if j = i then u else paF P pg pw pf j) = paF P' pg pw pf j) (hg : P'.g = P.g) (hw : P'.wn = P.wn) (hf : P'.fl = P.fl) :
    PaAt (w.setCell ⟨p, i, none⟩ u) B p pg pw pf v P' ∧ SC w (w.setCell ⟨p, i, none⟩ u) (Pat p pg pw pf v) (Pat p pg pw pf v) := by
  have ht := Trn.of_grown (setCell_one w p i u)
  refine ⟨⟨(World.rowIs.set h.row i u).congr fun j hj => hp j hj, by rw [hg]; exact ht.rowIs h.g (fun e => h.ne1 (Option.some.inj e)), by rw [hw]; exact ht.rowIs h.wn (fun e => h.ne2 (Option.some.inj e)), by rw [hf]; exact h.fl.kept ht (fun k hk e => h.nf (by rw [Option.some.inj e]; exact hk)), h.ge, h.bg, h.bw⟩, ?_, fun k hk => .inl hk⟩
  exact ht.mono (fun k _ hk => .inl (Option.some.inj hk).symm)
/-- Its guess has turned. -/
theorem PaAt.turnG (h : PaAt w B p pg pw pf v P) {g : Gs} (hg : Gu w' pg g) (hgr : w.grownBy w' (some pg)) : PaAt w' B p pg pw pf v (P.setG g) ∧ SC w w' (Pat p pg pw pf v) (Pat p pg pw pf v) := by
  have ht := Trn.of_grown hgr
  exact ⟨⟨ht.rowIs h.row (fun e => h.ne1 (Option.some.inj e).symm), hg, ht.rowIs h.wn (fun e => h.ne3 (Option.some.inj e)), h.fl.kept ht (fun k hk e => h.nfg (by rw [Option.some.inj e]; exact hk)), h.ge, h.bg, h.bw⟩, ht.mono (fun k _ hk => .inr (.inl (Option.some.inj hk).symm)), fun k hk => .inl hk⟩
/-- Its window has turned. -/
theorem PaAt.turnW (h : PaAt w B p pg pw pf v P) {g : Wn} (hg : Wi w' pw g) (hgr : w.grownBy w' (some pw)) : PaAt w' B p pg pw pf v (P.setW g) ∧ SC w w' (Pat p pg pw pf v) (Pat p pg pw pf v) := by
  have ht := Trn.of_grown hgr
  exact ⟨⟨ht.rowIs h.row (fun e => h.ne2 (Option.some.inj e).symm), ht.rowIs h.g (fun e => h.ne3 (Option.some.inj e).symm), hg, h.fl.kept ht (fun k hk e => h.nfw (by rw [Option.some.inj e]; exact hk)), h.ge, h.bg, h.bw⟩, ht.mono (fun k _ hk => .inr (.inr (.inl (Option.some.inj hk).symm))), fun k hk => .inl hk⟩
/-- Its flight has turned. -/
theorem PaAt.turnF (h : PaAt w B p pg pw pf v P) {l : List Qd} (hf : FlA tFl tOutP w' B pf v' l) (hsc : SC w w' (Fft pf v) (Fft pf v')) : PaAt w' B p pg pw pf v' (P.setFl l) ∧ SC w w' (Pat p pg pw pf v) (Pat p pg pw pf v') := by
  refine ⟨⟨hsc.trn.rowIs h.row h.nf, hsc.trn.rowIs h.g h.nfg, hsc.trn.rowIs h.wn h.nfw, hf, h.ge, h.bg, h.bw⟩, hsc.trn.mono (fun k _ hk => .inr (.inr (.inr hk))), ?_⟩
  rintro k (rfl | rfl | rfl | hk)
  · exact .inl (.inl rfl)
  · exact .inl (.inr (.inl rfl))
  · exact .inl (.inr (.inr (.inl rfl)))
  · exact (hsc.sub k hk).imp (fun h => .inr (.inr (.inr h))) id
end
end Go.Proofs.YtpjlnpnadkbakaaGreat
namespace Go.Proofs.YtpjlnpnadkbakaaGreat
set_option maxRecDepth 10000
open Go.RowKit

theorem rd_lit (q : IntKind) (w : World) (xs : List Int) (t : TypeId) (fr : Nat × Nat) : Rd q (w.alloc (.cells (cel q xs).toArray t fr)) (some ⟨w.heap.size, 0, none⟩) xs := by
  refine .inr ⟨_, _, rfl, fun i hi => ?_⟩
  rw [Nat.zero_add, World.cell?_alloc_mark]
  simp [cel, List.getD, hi]
theorem own_lit (q : IntKind) (w : World) (xs : List Int) (t : TypeId) (hl : xs.length ≤ maxLen) : Own q t (w.alloc (.cells (cel q xs).toArray t)) w.heap.size (.slice (some ⟨w.heap.size, 0, none⟩) xs.length xs.length) xs := by
  have := World.ownsRow_lit (base := w.heap.size) (e := t) (size := 1) w (cel q xs).toArray xs.length (Nat.le_refl _) hl (by simp [cel])
  simpa [Own, cel] using this
end Go.Proofs.YtpjlnpnadkbakaaGreat

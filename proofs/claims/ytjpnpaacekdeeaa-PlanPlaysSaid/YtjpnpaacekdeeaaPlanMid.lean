/-
  All that PlanPlays turns, in one structure ('PM'): the plan and the outbox, the document's own, what was told; what each call leaves of them. Contracts over the program.
-/
import Derived.Test.YtjpnpaacekdeeaaPlanSame
import Derived.Test.YtjpnpaacekdeeaaPlanTold
namespace Go.Proofs.Ytjpnpaacekdeeaa
open Go.RowKit

/-- The block of a row. -/
def Tft (v : Value) (k : Nat) : Prop := v.ownBlock = some k

/-- The plan P and the outbox o, the document's own P2 and o2, and what was told: none shares anything with another. -/
structure PM (W w : World) (p q : Nat) (v : Value) (P : Pl) (po : Nat) (vo : Value) (o : Ou) (b : Nat) (dv : Value) (P2 : Pl) (xp : Nat) (xv : Value) (o2 : Ou) (tv : Value) (ts : List (Int × Int)) : Prop where
  pl : PlanAt w W.heap.size p q v P
  ou : OutAt w W.heap.size po vo o
  dp : DpAt w W.heap.size b dv P2.sent P2.ls
  dx : DoAt w W.heap.size xp xv o2
  ow : OwnP 55 w W.heap.size tv ts
  s12 : Sep (Pft p q v) (Oft po vo)
  s13 : Sep (Pft p q v) (Dft b dv)
  s14 : Sep (Pft p q v) (Oft xp xv)
  s15 : Sep (Pft p q v) (Tft tv)
  s23 : Sep (Oft po vo) (Dft b dv)
  s24 : Sep (Oft po vo) (Oft xp xv)
  s25 : Sep (Oft po vo) (Tft tv)
  s34 : Sep (Dft b dv) (Oft xp xv)
  s35 : Sep (Dft b dv) (Tft tv)
  s45 : Sep (Oft xp xv) (Tft tv)
  bel : Below W.heap.size W w

section
variable {W w w' : World} {p q : Nat} {v v' : Value} {P P' : Pl} {po : Nat} {vo vo' : Value} {o o' : Ou} {b : Nat} {dv dv' : Value} {P2 P2' : Pl} {xp : Nat} {xv xv' : Value} {o2 o2' : Ou} {tv tv' : Value} {ts ts' : List (Int × Int)}
theorem PM.later (h : PM W w p q v P po vo o b dv P2 xp xv o2 tv ts) (hb : Below w.heap.size w w') : PM W w' p q v P po vo o b dv P2 xp xv o2 tv ts :=
  ⟨h.pl.later hb, h.ou.later hb, h.dp.later hb, h.dx.later hb, h.ow.later hb, h.s12, h.s13, h.s14, h.s15, h.s23, h.s24, h.s25, h.s34, h.s35, h.s45, h.bel.trans (hb.mono h.bel.size)⟩
theorem PM.drewN (h : PM W w p q v P po vo o b dv P2 xp xv o2 tv ts) (n : Nat) : PM W (w.drewN n) p q v P po vo o b dv P2 xp xv o2 tv ts := h.later ⟨rfl, rfl, rfl, Nat.le_refl _, fun _ _ => rfl⟩
theorem PM.l1 (h : PM W w p q v P po vo o b dv P2 xp xv o2 tv ts) : ∀ k, Pft p q v k → k < w.heap.size := fun k hk => (h.pl.foot_lt k hk).2
theorem PM.l2 (h : PM W w p q v P po vo o b dv P2 xp xv o2 tv ts) : ∀ k, Oft po vo k → k < w.heap.size := fun k hk => (h.ou.foot_lt k hk).2
theorem PM.l3 (h : PM W w p q v P po vo o b dv P2 xp xv o2 tv ts) : ∀ k, Dft b dv k → k < w.heap.size := fun k hk => (h.dp.foot_lt k hk).2
theorem PM.l4 (h : PM W w p q v P po vo o b dv P2 xp xv o2 tv ts) : ∀ k, Oft xp xv k → k < w.heap.size := fun k hk => (h.dx.foot_lt k hk).2
theorem PM.l5 (h : PM W w p q v P po vo o b dv P2 xp xv o2 tv ts) : ∀ k, Tft tv k → k < w.heap.size := fun k hk => (h.ow.lt k hk).2
theorem PM.turnP (h : PM W w p q v P po vo o b dv P2 xp xv o2 tv ts) (h1 : PlanAt w' W.heap.size p q v' P') (hsc : SC w w' (Pft p q v) (Pft p q v')) : PM W w' p q v' P' po vo o b dv P2 xp xv o2 tv ts :=
  ⟨h1, h.ou.kept hsc.trn h.s12.symm, h.dp.kept hsc.trn h.s13.symm, h.dx.kept hsc.trn h.s14.symm, ownP_trn h.ow hsc.trn h.s15.symm, (h.s12.symm.step hsc h.l2).symm, (h.s13.symm.step hsc h.l3).symm, (h.s14.symm.step hsc h.l4).symm, (h.s15.symm.step hsc h.l5).symm,
   h.s23, h.s24, h.s25, h.s34, h.s35, h.s45, h.bel.trans (h.pl.bel hsc (Nat.le_refl _))⟩
theorem PM.turnO (h : PM W w p q v P po vo o b dv P2 xp xv o2 tv ts) (h1 : OutAt w' W.heap.size po vo' o') (hsc : SC w w' (Oft po vo) (Oft po vo')) : PM W w' p q v P po vo' o' b dv P2 xp xv o2 tv ts :=
  ⟨h.pl.kept hsc.trn h.s12, h1, h.dp.kept hsc.trn h.s23.symm, h.dx.kept hsc.trn h.s24.symm, ownP_trn h.ow hsc.trn h.s25.symm, h.s12.step hsc h.l1, h.s13, h.s14, h.s15, (h.s23.symm.step hsc h.l3).symm, (h.s24.symm.step hsc h.l4).symm, (h.s25.symm.step hsc h.l5).symm,
   h.s34, h.s35, h.s45, h.bel.trans (h.ou.bel hsc (Nat.le_refl _))⟩
theorem PM.turnD (h : PM W w p q v P po vo o b dv P2 xp xv o2 tv ts) (h1 : DpAt w' W.heap.size b dv' P2'.sent P2'.ls) (hsc : SC w w' (Dft b dv) (Dft b dv')) : PM W w' p q v P po vo o b dv' P2' xp xv o2 tv ts :=
  ⟨h.pl.kept hsc.trn h.s13, h.ou.kept hsc.trn h.s23, h1, h.dx.kept hsc.trn h.s34.symm, ownP_trn h.ow hsc.trn h.s35.symm, h.s12, h.s13.step hsc h.l1, h.s14, h.s15, h.s23.step hsc h.l2, h.s24, h.s25, (h.s34.symm.step hsc h.l4).symm, (h.s35.symm.step hsc h.l5).symm,
   h.s45, h.bel.trans (hsc.below h.dp.size (fun k hk => (h.dp.foot_lt k hk).1))⟩
theorem PM.turnX (h : PM W w p q v P po vo o b dv P2 xp xv o2 tv ts) (h1 : DoAt w' W.heap.size xp xv' o2') (hsc : SC w w' (Oft xp xv) (Oft xp xv')) : PM W w' p q v P po vo o b dv P2 xp xv' o2' tv ts :=
  ⟨h.pl.kept hsc.trn h.s14, h.ou.kept hsc.trn h.s24, h.dp.kept hsc.trn h.s34, h1, ownP_trn h.ow hsc.trn h.s45.symm, h.s12, h.s13, h.s14.step hsc h.l1, h.s15, h.s23, h.s24.step hsc h.l2, h.s25, h.s34.step hsc h.l3, h.s35, (h.s45.symm.step hsc h.l5).symm,
   h.bel.trans (hsc.below h.dx.size (fun k hk => (h.dx.foot_lt k hk).1))⟩
theorem PM.next (h : PM W w p q v P po vo o b dv P2 xp xv o2 tv ts) (l c : Int) (x : Nx) (hx : P.next o l c = x) :
    Calls Try.prog 12 #[.pointer (some ⟨p, 0, none⟩), .pointer (some ⟨po, 0, none⟩), .int .i64 l, .int .i64 c] w fun e w' => e = .returned (.tuple #[.int .i64 x.f, .int .i64 x.t, .bool x.ok]) ∧ ∃ v', PM W w' p q v' x.p po vo o b dv P2 xp xv o2 tv ts :=
  (next_any h.pl h.ou h.s12.symm l c).mono fun _ _ ⟨he, v', h1, h2⟩ => by
    rw [hx] at he h1
    exact ⟨he, v', h.turnP h1 h2⟩
theorem PM.dnext (h : PM W w p q v P po vo o b dv P2 xp xv o2 tv ts) (hok : P2.ok) (hs : P2.sent ≤ o2.places) (l c : Int) (x : Nx) (hx : P2.next o2 l c = x) :
    Calls Try.prog 23 #[.pointer (some ⟨b, 0, none⟩), .pointer (some ⟨xp, 0, none⟩), .int .i64 l, .int .i64 c] w fun e w' => e = .returned (.tuple #[.int .i64 x.f, .int .i64 x.t, .bool x.ok]) ∧ ∃ dv', PM W w' p q v P po vo o b dv' x.p xp xv o2 tv ts :=
  (docnext_any h.dp h.dx h.s34.symm hok hs l c).mono fun _ _ ⟨he, v', h1, h2⟩ => by
    have hx' : (Pl.mk P2.ls P2.sent).next o2 l c = x := hx
    rw [hx'] at he h1
    exact ⟨he, v', h.turnD h1 h2⟩
theorem PM.lost (h : PM W w p q v P po vo o b dv P2 xp xv o2 tv ts) (f t : Int) :
    Calls Try.prog 14 #[.pointer (some ⟨p, 0, none⟩), .int .i64 f, .int .i64 t] w fun e w' => e = .returned (.tuple #[]) ∧ ∃ v', PM W w' p q v' (P.lost f t) po vo o b dv P2 xp xv o2 tv ts ∧ SC w w' (Pft p q v) (Pft p q v') :=
  (lost_any h.pl f t).mono fun _ _ ⟨he, v', h1, h2⟩ => ⟨he, v', h.turnP h1 h2, h2⟩
theorem PM.dlost (h : PM W w p q v P po vo o b dv P2 xp xv o2 tv ts) (f t : Int) (ht : t ≤ P2.sent) :
    Calls Try.prog 22 #[.pointer (some ⟨b, 0, none⟩), .int .i64 f, .int .i64 t] w fun e w' => e = .returned (.tuple #[]) ∧ ∃ dv', PM W w' p q v P po vo o b dv' (P2.lost f t) xp xv o2 tv ts :=
  (doclost_any h.dp f t).mono fun _ _ ⟨he, v', h1, h2⟩ => by
    have e : P2.lost f t = ⟨addN P2.ls f t, P2.sent⟩ := by unfold Pl.lost; rw [show min t P2.sent = t by omega]
    rw [e]
    exact ⟨he, v', h.turnD h1 h2⟩
theorem PM.write (h : PM W w p q v P po vo o b dv P2 xp xv o2 tv ts) (A : Option Addr) (m c : Nat) (ys : List Int) (hm : ys.length = m) (hr : Rd .u8 w A ys) (hle : m ≤ c) (hm2 : m ≤ 9223372036854775807) (k : Nat) (hk : (k : Int) = min (m : Int) o.room) :
    Calls Try.prog 11 #[.pointer (some ⟨po, 0, none⟩), .slice A m c] w fun e w' => e = .returned (.int .i64 (k : Int)) ∧ ∃ vo', PM W w' p q v P po vo' (o.more (ys.take k)) b dv P2 xp xv o2 tv ts ∧ SC w w' (Oft po vo) (Oft po vo') :=
  (write_any h.ou A m c ys hm hr hle hm2 k hk).mono fun _ _ ⟨vo', he, h1, h2⟩ => ⟨he, vo', h.turnO h1 h2, h2⟩
theorem PM.dwrite (h : PM W w p q v P po vo o b dv P2 xp xv o2 tv ts) (A : Option Addr) (m c : Nat) (ys : List Int) (hm : ys.length = m) (hr : Rd .u8 w A ys) (hle : m ≤ c) (hm2 : m ≤ 4611686018427387904) (k : Nat) (hk : (k : Int) = min (m : Int) o2.room) :
    Calls Try.prog 18 #[.pointer (some ⟨xp, 0, none⟩), .slice A m c] w fun e w' => e = .returned (.int .i64 (k : Int)) ∧ ∃ xv', PM W w' p q v P po vo o b dv P2 xp xv' (o2.more (ys.take k)) tv ts :=
  (dwrite_any h.dx A m c ys hm hr hle hm2 k hk).mono fun _ _ ⟨vo', he, h1, h2⟩ => ⟨he, vo', h.turnX h1 h2⟩
theorem PM.close (h : PM W w p q v P po vo o b dv P2 xp xv o2 tv ts) :
    Calls Try.prog 19 #[.pointer (some ⟨po, 0, none⟩)] w fun e w' => e = .returned (.bool (!o.cl)) ∧ PM W w' p q v P po vo o.shut b dv P2 xp xv o2 tv ts :=
  (close_any h.ou).mono fun _ _ ⟨he, h1, h2⟩ => ⟨he, h.turnO h1 (sc_p h2)⟩
theorem PM.dclose (h : PM W w p q v P po vo o b dv P2 xp xv o2 tv ts) : PM W (w.setCell ⟨xp, 0 + 3, none⟩ (.bool true)) p q v P po vo o b dv P2 xp xv o2.shut tv ts := h.turnX h.dx.set3 (sc_p (setCell_one _ _ _ _))
theorem PM.ack (h : PM W w p q v P po vo o b dv P2 xp xv o2 tv ts) (n : Int) :
    Calls Try.prog 20 #[.pointer (some ⟨po, 0, none⟩), .int .i64 n] w fun e w' => e = .returned (.bool (o.may n)) ∧ PM W w' p q v P po vo (o.ack n) b dv P2 xp xv o2 tv ts :=
  (ack_any h.ou n).mono fun _ _ ⟨he, h1, h2⟩ => ⟨he, h.turnO h1 (sc_p h2)⟩
theorem PM.dack (h : PM W w p q v P po vo o b dv P2 xp xv o2 tv ts) (n : Int) :
    Calls Try.prog 21 #[.pointer (some ⟨xp, 0, none⟩), .int .i64 n] w fun e w' => e = .returned (.bool (o2.may n)) ∧ PM W w' p q v P po vo o b dv P2 xp xv (o2.ack n) tv ts :=
  (dack_any h.dx n).mono fun _ _ ⟨he, h1, h2⟩ => ⟨he, h.turnX h1 h2⟩
theorem PM.same (h : PM W w p q v P po vo o b dv P xp xv o2 tv ts) :
    Calls Try.prog 24 #[.pointer (some ⟨p, 0, none⟩), .pointer (some ⟨b, 0, none⟩)] w fun e w' => e = .returned (.bool true) ∧ PM W w' p q v P po vo o b dv P xp xv o2 tv ts :=
  (psame_any h.pl h.dp).mono fun _ _ ⟨he, h1⟩ => ⟨he, h.later h1⟩
/-- One more was told: append of the pair (x, y). -/
theorem PM.app (h : PM W w p q v P po vo o b dv P2 xp xv o2 tv ts) (n : Nat) (hn : ts.length = n) (hle : n ≤ 1048576) (x y : Int) : ∃ A' c' w', (Builtin.append_ #[49, 49] 49 #[tv, .slice (some ⟨w.heap.size, 0, none⟩) 1 1]).run Try.prog (w.alloc (.cells #[.int .i64 x, .int .i64 y] 55)) = .ok (.slice A' (n + 1) c') w' ∧ PM W w' p q v P po vo o b dv P2 xp xv o2 (.slice A' (n + 1) c') (ts ++ [(x, y)]) := by
  have h1 := h.later ((Below.refl _ _).alloc (Nat.le_refl _) (.cells #[.int .i64 x, .int .i64 y] 55))
  obtain ⟨A', c', w', hr, ho, hg, hf⟩ := run_app2 (P := Try.prog) (w.alloc (.cells #[.int .i64 x, .int .i64 y] 55)) 49 49 55 _ Try.underlying49 info_two rfl W.heap.size tv ts h1.ow (some ⟨w.heap.size, 0, none⟩) 1 1 [(x, y)] rfl
    (fun _ => ⟨_, rfl, fun j u hj => by
      rw [Addr.add_lit, Nat.zero_add]
      have : (prs [(x, y)]) = [.int .i64 x, .int .i64 y] := rfl
      rw [this] at hj
      match j, hj with
      | 0, hj => simp at hj; subst hj; go_simp
      | 1, hj => simp at hj; subst hj; go_simp
      | j + 2, hj => simp at hj⟩) (by omega) h1.bel.size
  rw [hn] at hr ho hf
  refine ⟨A', c', w', hr, ?_⟩
  have ht : Trn (w.alloc (.cells #[.int .i64 x, .int .i64 y] 55)) w' (Tft tv) := Trn.of_grown hg
  have hsc : SC (w.alloc (.cells #[.int .i64 x, .int .i64 y] 55)) w' (Tft tv) (Tft (.slice A' (n + 1) c')) := ⟨ht, fun k hk => hf k hk⟩
  exact ⟨h1.pl.kept ht h1.s15, h1.ou.kept ht h1.s25, h1.dp.kept ht h1.s35, h1.dx.kept ht h1.s45, ho, h1.s12, h1.s13, h1.s14, h1.s15.step hsc h1.l1, h1.s23, h1.s24, h1.s25.step hsc h1.l2, h1.s34, h1.s35.step hsc h1.l3, h1.s45.step hsc h1.l4,
    h1.bel.trans (hsc.below h1.bel.size (fun k hk => (h1.ow.lt k hk).1))⟩
end

/-- At a round's head: both are alike, and what was told may be lost. -/
structure PMok (P : Pl) (o : Ou) (ts : List (Int × Int)) : Prop where
  ok : P.ok
  oo : o.ok
  sent : P.sent ≤ o.places
  told : ∀ x ∈ ts, x.2 ≤ P.sent
section
variable {P : Pl} {o : Ou} {ts : List (Int × Int)}
theorem PMok.more (h : PMok P o ts) {ys : List Int} (hl : (ys.length : Int) ≤ o.room) : PMok P (o.more ys) ts := ⟨h.ok, Ou.more_ok h.oo hl, by
  have := h.sent
  have e : (o.more ys).places = o.places + (ys.length : Int) := by
    unfold Ou.places Ou.more
    rw [List.length_append]
    simp only []
    omega
  omega, h.told⟩
theorem PMok.shut (h : PMok P o ts) : PMok P o.shut ts := ⟨h.ok, Ou.shut_ok h.oo, by
  have := h.sent
  have e : o.places ≤ o.shut.places := by
    unfold Ou.places Ou.shut
    simp only []
    split <;> simp <;> omega
  omega, h.told⟩
theorem PMok.ack (h : PMok P o ts) (n : Int) : PMok P (o.ack n) ts := ⟨h.ok, Ou.ack_ok h.oo n, by
  have := h.sent
  have e : (o.ack n).places = o.places := by unfold Ou.places; rw [Ou.ack_xs, Ou.ack_cl]
  omega, h.told⟩
theorem PMok.lost (h : PMok P o ts) (f t : Int) : PMok (P.lost f t) o ts := ⟨Pl.lost_ok h.ok f t, h.oo, h.sent, h.told⟩
theorem Pl.next_sent (hp : P.ok) (ho : o.ok) (hs : P.sent ≤ o.places) (l c : Int) : P.sent ≤ (P.next o l c).p.sent ∧ (P.next o l c).p.sent ≤ o.places ∧ (P.next o l c).t ≤ (P.next o l c).p.sent := by
  have h1 := Pl.cut_ok hp 0 o.ak
  have hTl : o.till l ≤ o.places := by
    have h3 : (o.xs.length : Int) ≤ o.places := by unfold Ou.places; split <;> omega
    have h4 := Ou.places_range ho
    unfold Ou.till
    split <;> omega
  have h0 := hp.s0
  unfold Pl.next Pl.step
  cases hc : cutN P.ls 0 o.ak with
  | nil =>
    simp only []
    split
    · rename_i hlt
      have := Pl.reach_range o (Pl.chk_range c).1 hlt
      simp only []
      omega
    · simp only []
      omega
  | cons q qs =>
    rw [hc] at h1
    have hm := Pl.mem_range h1 List.mem_cons_self
    simp only [] at hm ⊢
    have := Pl.reach_range o (Pl.chk_range c).1 hm.2.1
    omega
theorem PMok.next (h : PMok P o ts) (l c : Int) : PMok (P.next o l c).p o ts ∧ PMok (P.next o l c).p o (ts ++ [((P.next o l c).f, (P.next o l c).t)]) := by
  have hn := Pl.next_sent h.ok h.oo h.sent l c
  have hk := Pl.next_ok h.ok h.oo l c
  have ht : ∀ x ∈ ts, x.2 ≤ (P.next o l c).p.sent := fun x hx => by have := h.told x hx; omega
  refine ⟨⟨hk, h.oo, hn.2.1, ht⟩, ⟨hk, h.oo, hn.2.1, fun x hx => ?_⟩⟩
  rcases List.mem_append.1 hx with hx | hx
  · exact ht x hx
  · obtain rfl : x = _ := by simpa using hx
    exact hn.2.2
end
end Go.Proofs.Ytjpnpaacekdeeaa

/-
  A plan, an outbox, and a row of pairs (what was told) that share nothing ('PT'): contracts over the program.
-/
import Derived.Test.YtjpnpaacekdeeaaPlanOut
namespace Go.Proofs.Ytjpnpaacekdeeaa
open Go.RowKit

theorem info_two : (Try.prog.info? 55).map (fun i => (i.zero, i.size, i.bytes)) = some (some (.agg #[.int .i64 0, .int .i64 0]), 2, 16) := by kernel_rfl

theorem keep_ownP {w w' : World} {F F' : Nat → Prop} {e : TypeId} {B : Nat} {v : Value} {ps : List (Int × Int)} (hsc : SC w w' F F') (ho : OwnP e w B v ps) (hn : Apart v F) : OwnP e w' B v ps ∧ Apart v F' := by
  refine ⟨⟨ho.1, ?_⟩, fun g hg => hsc.out (ho.lt g hg).2 (hn g hg)⟩
  rcases ho.2 with h | ⟨g, cap, cur, rfl, hB, hg, r⟩
  · exact .inl h
  · exact .inr ⟨g, cap, cur, rfl, hB, by rw [hsc.trn.block g (Array.getElem?_eq_some_iff.1 hg).1 (hn g rfl)]; exact hg, r⟩

/-- A plan, an outbox, a row of pairs. -/
structure PT (w0 w : World) (p q : Nat) (v : Value) (P : Pl) (po : Nat) (vo : Value) (o : Ou) (tv : Value) (ts : List (Int × Int)) : Prop where
  b : PO w0 w p q v P po vo o
  ow : OwnP 55 w w0.heap.size tv ts
  ap : Apart tv (Pft p q v)
  ao : Apart tv (Oft po vo)

section
variable {w w' : World} {p q po : Nat} {v vo v' vo' tv : Value} {P P' : Pl} {o o' : Ou} {w0 : World} {ts : List (Int × Int)}
theorem PT.start (h : PO w0 w p q v P po vo o) : PT w0 w p q v P po vo o (.slice none 0 0) [] := ⟨h, OwnP.nil _ _ _, apart_nil _, apart_nil _⟩
theorem PT.later (h : PT w0 w p q v P po vo o tv ts) (hb : Below w.heap.size w w') : PT w0 w' p q v P po vo o tv ts := ⟨h.b.later hb, h.ow.later hb, h.ap, h.ao⟩
theorem PT.drewN (h : PT w0 w p q v P po vo o tv ts) (n : Nat) : PT w0 (w.drewN n) p q v P po vo o tv ts := h.later ⟨rfl, rfl, rfl, Nat.le_refl _, fun _ _ => rfl⟩
theorem PT.turnP (h : PT w0 w p q v P po vo o tv ts) (h1 : PO w0 w' p q v' P' po vo o) (hsc : SC w w' (Pft p q v) (Pft p q v')) : PT w0 w' p q v' P' po vo o tv ts :=
  ⟨h1, (keep_ownP hsc h.ow h.ap).1, (keep_ownP hsc h.ow h.ap).2, h.ao⟩
theorem PT.turnO (h : PT w0 w p q v P po vo o tv ts) (h1 : PO w0 w' p q v P po vo' o') (hsc : SC w w' (Oft po vo) (Oft po vo')) : PT w0 w' p q v P po vo' o' tv ts :=
  ⟨h1, (keep_ownP hsc h.ow h.ao).1, h.ap, (keep_ownP hsc h.ow h.ao).2⟩
theorem PT.next (h : PT w0 w p q v P po vo o tv ts) (l c : Int) (x : Nx) (hx : P.next o l c = x) :
    Calls Try.prog 12 #[.pointer (some ⟨p, 0, none⟩), .pointer (some ⟨po, 0, none⟩), .int .i64 l, .int .i64 c] w fun e w' => e = .returned (.tuple #[.int .i64 x.f, .int .i64 x.t, .bool x.ok]) ∧ ∃ v', PT w0 w' p q v' x.p po vo o tv ts :=
  (h.b.next l c x hx).mono fun _ _ ⟨he, v', h1, h2⟩ => ⟨he, v', h.turnP h1 h2⟩
theorem PT.lost (h : PT w0 w p q v P po vo o tv ts) (f t : Int) (y : Pl) (hy : P.lost f t = y) :
    Calls Try.prog 14 #[.pointer (some ⟨p, 0, none⟩), .int .i64 f, .int .i64 t] w fun e w' => e = .returned (.tuple #[]) ∧ ∃ v', PT w0 w' p q v' y po vo o tv ts :=
  (h.b.lost f t y hy).mono fun _ _ ⟨he, v', h1, h2⟩ => ⟨he, v', h.turnP h1 h2⟩
theorem PT.missing (h : PT w0 w p q v P po vo o tv ts) :
    Calls Try.prog 15 #[.pointer (some ⟨p, 0, none⟩)] w fun e w' => ∃ A' c', e = .returned (.slice A' P.ls.length c') ∧ OwnP 37 w' w.heap.size (.slice A' P.ls.length c') P.ls ∧ PT w0 w' p q v P po vo o tv ts ∧ Below w.heap.size w w' :=
  h.b.missing.mono fun _ _ ⟨A', c', he, h1, _, h2⟩ => ⟨A', c', he, h1, h.later h2, h2⟩
theorem PT.ack (h : PT w0 w p q v P po vo o tv ts) (n : Int) :
    Calls Try.prog 20 #[.pointer (some ⟨po, 0, none⟩), .int .i64 n] w fun e w' => e = .returned (.bool (o.may n)) ∧ PT w0 w' p q v P po vo (o.ack n) tv ts :=
  (h.b.ack n).mono fun _ _ ⟨he, h1, h2⟩ => ⟨he, h.turnO h1 h2⟩
theorem PT.write (h : PT w0 w p q v P po vo o tv ts) (A : Option Addr) (m c : Nat) (ys : List Int) (hm : ys.length = m) (hr : Rd .u8 w A ys) (hle : m ≤ c) (hm2 : m ≤ 9223372036854775807) (k : Nat) (hk : (k : Int) = min (m : Int) o.room) :
    Calls Try.prog 11 #[.pointer (some ⟨po, 0, none⟩), .slice A m c] w fun e w' => e = .returned (.int .i64 (k : Int)) ∧ ∃ vo', PT w0 w' p q v P po vo' (o.more (ys.take k)) tv ts :=
  (h.b.write A m c ys hm hr hle hm2 k hk).mono fun _ _ ⟨he, vo', h1, h2⟩ => ⟨he, vo', h.turnO h1 h2⟩
theorem PT.close (h : PT w0 w p q v P po vo o tv ts) :
    Calls Try.prog 19 #[.pointer (some ⟨po, 0, none⟩)] w fun e w' => e = .returned (.bool (!o.cl)) ∧ PT w0 w' p q v P po vo o.shut tv ts :=
  h.b.close.mono fun _ _ ⟨he, h1, h2⟩ => ⟨he, h.turnO h1 h2⟩
/-- One more was told: append of the pair (a, b). -/
theorem PT.app (h : PT w0 w p q v P po vo o tv ts) (n : Nat) (hn : ts.length = n) (hle : n ≤ 1048576) (a b : Int) : ∃ A' c' w', (Builtin.append_ #[49, 49] 49 #[tv, .slice (some ⟨w.heap.size, 0, none⟩) 1 1]).run Try.prog (w.alloc (.cells #[.int .i64 a, .int .i64 b] 55)) = .ok (.slice A' (n + 1) c') w' ∧ PT w0 w' p q v P po vo o (.slice A' (n + 1) c') (ts ++ [(a, b)]) := by
  have h1 := h.later ((Below.refl _ _).alloc (Nat.le_refl _) (.cells #[.int .i64 a, .int .i64 b] 55))
  obtain ⟨A', c', w', hr, ho, hg, hf⟩ := run_app2 (P := Try.prog) (w.alloc (.cells #[.int .i64 a, .int .i64 b] 55)) 49 49 55 _ Try.underlying49 info_two rfl w0.heap.size tv ts h1.ow (some ⟨w.heap.size, 0, none⟩) 1 1 [(a, b)] rfl
    (fun _ => ⟨_, rfl, fun j u hj => by
      rw [Addr.add_lit, Nat.zero_add]
      have : (prs [(a, b)]) = [.int .i64 a, .int .i64 b] := rfl
      rw [this] at hj
      match j, hj with
      | 0, hj => simp at hj; subst hj; go_simp
      | 1, hj => simp at hj; subst hj; go_simp
      | j + 2, hj => simp at hj⟩) (by omega) h1.b.bel.size
  rw [hn] at hr ho hf
  refine ⟨A', c', w', hr, ?_⟩
  have hsc : Trn (w.alloc (.cells #[.int .i64 a, .int .i64 b] 55)) w' (fun k => tv.ownBlock = some k) := Trn.of_grown hg
  have x1 : Sep (Pft p q v) (fun k => tv.ownBlock = some k) := fun k hk ht => h1.ap k ht hk
  have x2 : Sep (Oft po vo) (fun k => tv.ownBlock = some k) := fun k hk ht => h1.ao k ht hk
  refine ⟨⟨h1.b.pl.kept hsc x1, h1.b.ou.kept hsc x2, h1.b.sep, h1.b.bel.trans (hsc.below h1.b.bel.size (fun k hk => (h1.ow.lt k hk).1))⟩, ho, ?_, ?_⟩
  · intro g hg' hp
    rcases hf g hg' with h2 | h2
    · exact h1.ap g h2 hp
    · have := (h1.b.pl.foot_lt g hp).2
      omega
  · intro g hg' hp
    rcases hf g hg' with h2 | h2
    · exact h1.ao g h2 hp
    · have := (h1.b.ou.foot_lt g hp).2
      omega
/-- One of them in a variable of its own: the row is forgotten. -/
theorem PT.box (h : PT w0 w p q v P po vo o tv ts) (a b : Int) : PT w0 (w.alloc (.cells #[.int .i64 a, .int .i64 b] 55)) p q v P po vo o (.slice (some ⟨w.heap.size, 0, none⟩) 1 1) [(a, b)] := by
  refine ⟨h.b.later ((Below.refl _ _).alloc (Nat.le_refl _) _), (OwnP.new w _ _ [(a, b)] rfl (by simp [maxLen])).less h.b.bel.size, ?_, ?_⟩
  · intro g hg hp
    have := (h.b.pl.foot_lt g hp).2
    simp [Value.ownBlock] at hg
    omega
  · intro g hg hp
    have := (h.b.ou.foot_lt g hp).2
    simp [Value.ownBlock] at hg
    omega
theorem PT.cells {B : Nat} {a b : Int} (h : PT w0 w p q v P po vo o (.slice (some ⟨B, 0, none⟩) 1 1) [(a, b)]) : w.cell? ⟨B, 0, none⟩ = some (.int .i64 a) ∧ w.cell? ⟨B, 1, none⟩ = some (.int .i64 b) := by
  have := h.ow.cells 0 (by omega)
  simpa using this
end
end Go.Proofs.Ytjpnpaacekdeeaa

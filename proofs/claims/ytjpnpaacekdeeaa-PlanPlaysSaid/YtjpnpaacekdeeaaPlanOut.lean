/-
  A plan and an outbox that share nothing ('PO'), what a call on either leaves; the document's example of package plan: contracts over the program.
-/
import Derived.Test.YtjpnpaacekdeeaaPlan
import Derived.Test.YtjpnpaacekdeeaaOutWrite
import Derived.Lib.SlBytesConst
namespace Go.Proofs.Ytjpnpaacekdeeaa
open Go.RowKit

/-- Where F lies, G doesn't. -/
def Sep (F G : Nat → Prop) : Prop := ∀ k, F k → ¬ G k
section
variable {w w' : World} {F F' G : Nat → Prop}
theorem Sep.symm (h : Sep F G) : Sep G F := fun k hg hf => h k hf hg
/-- G has moved on; F lies below. -/
theorem Sep.step {G' : Nat → Prop} (h : Sep F G) (hsc : SC w w' G G') (hlt : ∀ k, F k → k < w.heap.size) : Sep F G' := fun k hf => hsc.out (hlt k hf) (h k hf)
end

/-- A plan and an outbox that share nothing, laid since w0. -/
structure PO (w0 w : World) (p q : Nat) (v : Value) (P : Pl) (po : Nat) (vo : Value) (o : Ou) : Prop where
  pl : PlanAt w w0.heap.size p q v P
  ou : OutAt w w0.heap.size po vo o
  sep : Sep (Oft po vo) (Pft p q v)
  bel : Below w0.heap.size w0 w

section
variable {w w' : World} {B B' p q po : Nat} {v vo v' vo' : Value} {P P' : Pl} {o o' : Ou} {w0 : World}
theorem OutAt.less (h : OutAt w B po vo o) (hB : B' ≤ B) : OutAt w B' po vo o := ⟨h.row, h.own.less hB, Nat.le_trans hB h.ge, h.ok⟩
theorem PO.later (h : PO w0 w p q v P po vo o) (hb : Below w.heap.size w w') : PO w0 w' p q v P po vo o := ⟨h.pl.later hb, h.ou.later hb, h.sep, h.bel.trans (hb.mono h.bel.size)⟩
theorem PO.drewN (h : PO w0 w p q v P po vo o) (n : Nat) : PO w0 (w.drewN n) p q v P po vo o := h.later ⟨rfl, rfl, rfl, Nat.le_refl _, fun _ _ => rfl⟩
theorem PO.turnP (h : PO w0 w p q v P po vo o) (h1 : PlanAt w' w0.heap.size p q v' P') (hsc : SC w w' (Pft p q v) (Pft p q v')) : PO w0 w' p q v' P' po vo o :=
  ⟨h1, h.ou.kept hsc.trn h.sep, h.sep.step hsc (fun k hk => (h.ou.foot_lt k hk).2), h.bel.trans (h.pl.bel hsc (Nat.le_refl _))⟩
theorem PO.turnO (h : PO w0 w p q v P po vo o) (h1 : OutAt w' w0.heap.size po vo' o') (hsc : SC w w' (Oft po vo) (Oft po vo')) : PO w0 w' p q v P po vo' o' :=
  ⟨h.pl.kept hsc.trn h.sep.symm, h1, (h.sep.symm.step hsc (fun k hk => (h.pl.foot_lt k hk).2)).symm, h.bel.trans (h.ou.bel hsc (Nat.le_refl _))⟩
/-- A plan, and behind it an outbox. -/
theorem PO.new (h : PlanAt w w0.heap.size p q v P) (hb : Below w0.heap.size w0 w) (ho : OutAt w' w.heap.size po (.slice none 0 0) o) (hb' : Below w.heap.size w w') : PO w0 w' p q v P po (.slice none 0 0) o :=
  ⟨h.later hb', ho.less hb.size, by
    rintro k (rfl | hk) hp
    · have := (h.foot_lt _ hp).2
      have := ho.ge
      omega
    · simp [Value.ownBlock] at hk, hb.trans (hb'.mono hb.size)⟩

theorem PO.next (h : PO w0 w p q v P po vo o) (l c : Int) (x : Nx) (hx : P.next o l c = x) :
    Calls Try.prog 12 #[.pointer (some ⟨p, 0, none⟩), .pointer (some ⟨po, 0, none⟩), .int .i64 l, .int .i64 c] w fun e w' => e = .returned (.tuple #[.int .i64 x.f, .int .i64 x.t, .bool x.ok]) ∧ ∃ v', PO w0 w' p q v' x.p po vo o ∧ SC w w' (Pft p q v) (Pft p q v') :=
  (next_any h.pl h.ou h.sep l c).mono fun _ _ ⟨he, v', h1, h2⟩ => by
    rw [hx] at he h1
    exact ⟨he, v', h.turnP h1 h2, h2⟩
theorem PO.lost (h : PO w0 w p q v P po vo o) (f t : Int) (y : Pl) (hy : P.lost f t = y) :
    Calls Try.prog 14 #[.pointer (some ⟨p, 0, none⟩), .int .i64 f, .int .i64 t] w fun e w' => e = .returned (.tuple #[]) ∧ ∃ v', PO w0 w' p q v' y po vo o ∧ SC w w' (Pft p q v) (Pft p q v') :=
  (lost_any h.pl f t).mono fun _ _ ⟨he, v', h1, h2⟩ => by
    rw [hy] at h1
    exact ⟨he, v', h.turnP h1 h2, h2⟩
theorem PO.missing (h : PO w0 w p q v P po vo o) :
    Calls Try.prog 15 #[.pointer (some ⟨p, 0, none⟩)] w fun e w' => ∃ A' c', e = .returned (.slice A' P.ls.length c') ∧ OwnP 37 w' w.heap.size (.slice A' P.ls.length c') P.ls ∧ PO w0 w' p q v P po vo o ∧ Below w.heap.size w w' :=
  (missing_any h.pl).mono fun _ _ ⟨A', c', he, h1, h2⟩ => ⟨A', c', he, h1, h.later h2, h2⟩
theorem PO.write (h : PO w0 w p q v P po vo o) (A : Option Addr) (m c : Nat) (ys : List Int) (hm : ys.length = m) (hr : Rd .u8 w A ys) (hle : m ≤ c) (hm2 : m ≤ 9223372036854775807) (k : Nat) (hk : (k : Int) = min (m : Int) o.room) :
    Calls Try.prog 11 #[.pointer (some ⟨po, 0, none⟩), .slice A m c] w fun e w' => e = .returned (.int .i64 (k : Int)) ∧ ∃ vo', PO w0 w' p q v P po vo' (o.more (ys.take k)) ∧ SC w w' (Oft po vo) (Oft po vo') :=
  (write_any h.ou A m c ys hm hr hle hm2 k hk).mono fun _ _ ⟨vo', he, h1, h2⟩ => ⟨he, vo', h.turnO h1 h2, h2⟩
theorem PO.close (h : PO w0 w p q v P po vo o) :
    Calls Try.prog 19 #[.pointer (some ⟨po, 0, none⟩)] w fun e w' => e = .returned (.bool (!o.cl)) ∧ PO w0 w' p q v P po vo o.shut ∧ SC w w' (Oft po vo) (Oft po vo) :=
  (close_any h.ou).mono fun _ _ ⟨he, h1, h2⟩ => ⟨he, h.turnO h1 (sc_p h2), sc_p h2⟩
theorem PO.ack (h : PO w0 w p q v P po vo o) (n : Int) :
    Calls Try.prog 20 #[.pointer (some ⟨po, 0, none⟩), .int .i64 n] w fun e w' => e = .returned (.bool (o.may n)) ∧ PO w0 w' p q v P po vo (o.ack n) ∧ SC w w' (Oft po vo) (Oft po vo) :=
  (ack_any h.ou n).mono fun _ _ ⟨he, h1, h2⟩ => ⟨he, h.turnO h1 (sc_p h2), sc_p h2⟩
end

def abcdefgh : List Int := [97, 98, 99, 100, 101, 102, 103, 104]

set_option maxHeartbeats 1000000 in
theorem wakesP_any (w : World) : Calls Try.prog 16 #[] w fun e w' => e = .returned (.bool true) ∧ Below w.heap.size w w' := by
  have HN := Lib.hid (newplan_any w)
  have kc := fun (w : World) (C : Array Value) (n c : Nat) => Lib.run_convert_bytes_const (P := Try.prog) w 22 5 C n c Try.underlying22 Try.underlying5
  obtain ⟨b, hb⟩ : ∃ b, w.heap.size = b := ⟨_, rfl⟩
  have HB := Lib.hid hb
  rw [hb] at HN
  clear hb
  go_enter Try.func16, Try.ntmps16
  go_wp2_with fail
  refine HN.out.mono ?_
  rintro e w1 ⟨rfl, h1, b1, _⟩
  rw [← HB.out] at h1 b1
  have H1 := Lib.hid h1
  have B1 := Lib.hid b1
  clear h1 b1 HN
  go_wp2_with fail
  refine (newout_any 50 w1).mono ?_
  obtain ⟨c, hc⟩ : ∃ c, w1.heap.size = c := ⟨_, rfl⟩
  rw [hc]
  have HC := Lib.hid hc
  clear hc
  rintro e w2 ⟨rfl, h2, b2, _⟩
  rw [← HC.out] at h2 b2
  have h2' := PO.new H1.out (by rw [HB.out] at *; exact B1.out) h2 b2
  rw [HC.out, HB.out] at h2'
  have H2 := Lib.hid h2'
  clear h2 b2 h2' H1 B1
  go_wp2_with fail
  refine (H2.out.next 50 5 ⟨0, 0, false, ⟨[], 0⟩⟩ rfl).mono ?_
  rintro e w3 ⟨rfl, v3, h3, _⟩
  have H3 := Lib.hid h3
  clear h3 H2
  go_wp2_with fail
  have hr : Rd .u8 (w3.alloc (.cells (bts abcdefgh) 5 (8, 9))) (some ⟨w3.heap.size, 0, none⟩) abcdefgh := by
    refine .inr ⟨_, _, rfl, fun i hi => ?_⟩
    rw [Nat.zero_add, World.cell?_alloc_mark]
    simp [bts, hi]
  have hb2 : Below w3.heap.size w3 (w3.alloc (.cells (bts abcdefgh) 5 (8, 9))) := (Below.refl _ _).alloc (Nat.le_refl _) _
  refine ((H3.out.later hb2).write _ 8 8 abcdefgh rfl hr (Nat.le_refl _) (by omega) 8 (by decide)).mono ?_
  rintro e w4 ⟨rfl, vo4, h4, _⟩
  have H4 := Lib.hid h4
  clear h4 H3 hr hb2
  go_wp2_with fail
  refine (H4.out.next 50 5 ⟨0, 5, true, ⟨[], 5⟩⟩ rfl).mono ?_
  rintro e w5 ⟨rfl, v5, h5, _⟩
  have H5 := Lib.hid h5
  clear h5 H4
  go_wp2_with fail
  refine (sent_any H5.out.pl).mono ?_
  rintro e w6 ⟨rfl, rfl⟩
  go_wp2_with fail
  go_ret
  exact ⟨rfl, H5.out.bel⟩
end Go.Proofs.Ytjpnpaacekdeeaa

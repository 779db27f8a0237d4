/-
  Both paths, the developers' and the document's ('PB'), with a block beside them that stays as it is ('PBB'), and with a list that one of them told ('PBL', 'PBD'): what each call leaves of them. Contracts over the program.
-/
import Derived.Test.YtlkoenlimdfifaaPathMid
import Derived.Test.YtlkoenlimdfifaaDocPath4
namespace Go.Proofs.Ytlkoenlimdfifaa
open Go.RowKit

/-- What holds of a path in the first k rounds. -/
structure Fine (P : Pa) (k : Nat) : Prop where
  s : P.sent ≤ (k : Int)
  n : P.fl.length ≤ k
  a : ∀ q ∈ P.fl, 0 ≤ q.a ∧ q.a ≤ 1000
section
variable {P : Pa} {k : Nat}
theorem Fine.next (h : Fine P k) : Fine P (k + 1) := ⟨by have := h.s; omega, by have := h.n; omega, h.a⟩
theorem Fine.setUp (h : Fine P k) (b : Bool) : Fine (P.setUp b) k := ⟨h.s, h.n, h.a⟩
theorem Fine.setJo (h : Fine P k) (b : Bool) : Fine (P.setJo b) k := ⟨h.s, h.n, h.a⟩
theorem Fine.down (h : Fine P k) : Fine P.down k := ⟨h.s, by simp [Pa.down, Pa.setFl, Pa.setUp], fun q hq => by simp [Pa.down, Pa.setFl, Pa.setUp] at hq⟩
theorem Fine.num (h : Fine P k) : Fine P.num (k + 1) := ⟨by have := h.s; simp only [Pa.num]; omega, by have := h.n; simp only [Pa.num]; omega, h.a⟩
theorem Fine.out (h : Fine P.num (k + 1)) (hn : P.fl.length ≤ k) (q : Qd) (hq : 0 ≤ q.a ∧ q.a ≤ 1000) : Fine (P.num.out q) (k + 1) := ⟨h.s, by simp only [Pa.out, Pa.setFl, Pa.num, List.length_append, List.length_singleton]; omega, fun x hx => by
  simp only [Pa.out, Pa.setFl, Pa.num, List.mem_append, List.mem_singleton] at hx
  rcases hx with hx | rfl
  · exact h.a x hx
  · exact hq⟩
theorem mem_goneQ {l : List Qd} {i : Nat} {q : Qd} (h : q ∈ goneQ l i) : q ∈ l := by
  unfold goneQ at h
  rcases List.mem_append.1 h with h | h
  · exact List.mem_of_mem_take h
  · exact List.mem_of_mem_drop h
theorem Fine.acked (h : Fine P k) (i : Nat) (now : Int) (hi : i < P.fl.length) : Fine (P.acked i now) k := ⟨h.s, by have := goneQ_len hi; have := h.n; simp only [Pa.acked]; omega, fun q hq => h.a q (mem_goneQ hq)⟩
theorem Fine.lateN (h : Fine P k) (now : Int) : Fine (P.lateN now) k := by
  unfold Pa.lateN
  split
  · exact h
  · exact ⟨h.s, by have := stay_len P.fl (now - P.g.wait); have := h.n; simp only [Pa.late]; omega, fun q hq => h.a q (List.mem_filter.1 hq).1⟩
theorem Fine.at (h : Fine P k) {i : Nat} (hi : i < P.fl.length) : -1099511627776 ≤ (P.fl.getD i qz).a ∧ (P.fl.getD i qz).a ≤ 1099511627776 := by
  have := h.a (P.fl.getD i qz) (by rw [List.getD_eq_getElem?_getD, List.getElem?_eq_getElem hi]; exact List.getElem_mem hi)
  omega
end

/-- Both paths: p is the developers', r the document's; all that has turned since W lies behind it. -/
structure PB (W w : World) (p r : Nat) (P Q : Pa) : Prop where
  ex : ∃ pg pw pf v qg qw u, PaAt w W.heap.size p pg pw pf v P ∧ DqAt w W.heap.size r qg qw u Q ∧ Sep (Pat p pg pw pf v) (Dqt r qg qw u)
  okP : P.ok
  okQ : Q.ok
  bel : Below W.heap.size W w
/-- Both paths, and a block beside them that is as it was in w0. -/
structure PBB (W w : World) (p r : Nat) (P Q : Pa) (z : Nat) (w0 : World) : Prop where
  ex : ∃ pg pw pf v qg qw u, PaAt w W.heap.size p pg pw pf v P ∧ DqAt w W.heap.size r qg qw u Q ∧ Sep (Pat p pg pw pf v) (Dqt r qg qw u) ∧ ¬ Pat p pg pw pf v z ∧ ¬ Dqt r qg qw u z
  okP : P.ok
  okQ : Q.ok
  bel : Below W.heap.size W w
  lt : z < w.heap.size
  blk : w.heap[z]? = w0.heap[z]?
/-- Both paths, and a list that the developers' told. -/
structure PBL (W w : World) (p r : Nat) (P Q : Pa) (lv : Value) (L : List Qd) : Prop where
  ex : ∃ pg pw pf v qg qw u, PaAt w W.heap.size p pg pw pf v P ∧ DqAt w W.heap.size r qg qw u Q ∧ Sep (Pat p pg pw pf v) (Dqt r qg qw u) ∧ ∀ g, lv.ownBlock = some g → ¬ Dqt r qg qw u g
  okP : P.ok
  okQ : Q.ok
  bel : Below W.heap.size W w
  own : OwnQ tOutP w W.heap.size lv L
/-- Both paths, and a list that the document's told. -/
structure PBD (W w : World) (p r : Nat) (P Q : Pa) (lv : Value) (L : List Qd) : Prop where
  ex : ∃ pg pw pf v qg qw u, PaAt w W.heap.size p pg pw pf v P ∧ DqAt w W.heap.size r qg qw u Q ∧ Sep (Pat p pg pw pf v) (Dqt r qg qw u) ∧ ∀ g, lv.ownBlock = some g → ¬ Pat p pg pw pf v g
  okP : P.ok
  okQ : Q.ok
  bel : Below W.heap.size W w
  own : OwnQ tOutR w W.heap.size lv L

section
variable {W w w' w0 : World} {p r z : Nat} {P Q P' Q' : Pa} {lv : Value} {L : List Qd}
theorem PB.later (h : PB W w p r P Q) (hb : Below w.heap.size w w') : PB W w' p r P Q := by
  obtain ⟨pg, pw, pf, v, qg, qw, u, h1, h2, h3⟩ := h.ex
  exact ⟨⟨pg, pw, pf, v, qg, qw, u, h1.later hb, h2.later hb, h3⟩, h.okP, h.okQ, h.bel.trans (hb.mono h.bel.size)⟩
theorem PBB.pb (h : PBB W w p r P Q z w0) : PB W w p r P Q := by
  obtain ⟨pg, pw, pf, v, qg, qw, u, h1, h2, h3, -⟩ := h.ex
  exact ⟨⟨pg, pw, pf, v, qg, qw, u, h1, h2, h3⟩, h.okP, h.okQ, h.bel⟩
theorem PBB.later (h : PBB W w p r P Q z w0) (hb : Below w.heap.size w w') : PBB W w' p r P Q z w0 := by
  obtain ⟨pg, pw, pf, v, qg, qw, u, h1, h2, h3, h4⟩ := h.ex
  exact ⟨⟨pg, pw, pf, v, qg, qw, u, h1.later hb, h2.later hb, h3, h4⟩, h.okP, h.okQ, h.bel.trans (hb.mono h.bel.size), by have := h.lt; have := hb.size; omega, (hb.block z h.lt).trans h.blk⟩
/-- A block is laid beside them. -/
theorem PB.box (h : PB W w p r P Q) (o : Obj) : PBB W (w.alloc o) p r P Q w.heap.size (w.alloc o) := by
  have hb := (Below.refl w.heap.size w).alloc (Nat.le_refl _) o
  obtain ⟨pg, pw, pf, v, qg, qw, u, h1, h2, h3⟩ := h.ex
  exact ⟨⟨pg, pw, pf, v, qg, qw, u, h1.later hb, h2.later hb, h3, fun h9 => by have := (h1.foot_lt _ h9).2; omega, fun h9 => by have := (h2.foot_lt _ h9).2; omega⟩, h.okP, h.okQ, h.bel.trans (hb.mono h.bel.size), by simp, rfl⟩
theorem PBB.turnP {pg pw pf : Nat} {v v' : Value} {qg qw : Nat} {u : Value} (h : PBB W w p r P Q z w0) (ha : PaAt w W.heap.size p pg pw pf v P) (hd : DqAt w W.heap.size r qg qw u Q) (hs : Sep (Pat p pg pw pf v) (Dqt r qg qw u)) (hz : ¬ Pat p pg pw pf v z) (hy : ¬ Dqt r qg qw u z)
    (h1 : PaAt w' W.heap.size p pg pw pf v' P') (hsc : SC w w' (Pat p pg pw pf v) (Pat p pg pw pf v')) (hok : P'.ok) : PBB W w' p r P' Q z w0 :=
  ⟨⟨pg, pw, pf, v', qg, qw, u, h1, hd.kept hsc.trn (fun k hk hp => hs k hp hk), (hs.symm.step hsc (fun k hk => (hd.foot_lt k hk).2)).symm, hsc.out h.lt hz, hy⟩, hok, h.okQ, h.bel.trans (ha.bel hsc (Nat.le_refl _)), by have := h.lt; have := hsc.trn.size; omega, (hsc.trn.block z h.lt hz).trans h.blk⟩
theorem PBB.turnQ {pg pw pf : Nat} {v : Value} {qg qw : Nat} {u u' : Value} (h : PBB W w p r P Q z w0) (ha : PaAt w W.heap.size p pg pw pf v P) (hd : DqAt w W.heap.size r qg qw u Q) (hs : Sep (Pat p pg pw pf v) (Dqt r qg qw u)) (hz : ¬ Pat p pg pw pf v z) (hy : ¬ Dqt r qg qw u z)
    (h1 : DqAt w' W.heap.size r qg qw u' Q') (hsc : SC w w' (Dqt r qg qw u) (Dqt r qg qw u')) (hok : Q'.ok) : PBB W w' p r P Q' z w0 :=
  ⟨⟨pg, pw, pf, v, qg, qw, u', ha.kept hsc.trn (fun k hk hp => hs k hk hp), h1, hs.step hsc (fun k hk => (ha.foot_lt k hk).2), hz, hsc.out h.lt hy⟩, h.okP, hok, h.bel.trans (hd.bel hsc (Nat.le_refl _)), by have := h.lt; have := hsc.trn.size; omega, (hsc.trn.block z h.lt hy).trans h.blk⟩

theorem PBB.up (h : PBB W w p r P Q z w0) : Calls Try.prog 15 #[.pointer (some ⟨p, 0, none⟩)] w fun e w' => e = .returned (.bool (!P.up)) ∧ PBB W w' p r (P.setUp true) Q z w0 := by
  obtain ⟨pg, pw, pf, v, qg, qw, u, h1, h2, h3, h4, h5⟩ := h.ex
  refine (paup_any h1).mono ?_
  rintro e w' ⟨rfl, h6, h7⟩
  exact ⟨rfl, h.turnP h1 h2 h3 h4 h5 h6 h7 (h.okP.setUp true)⟩
theorem PBB.join (h : PBB W w p r P Q z w0) : Calls Try.prog 13 #[.pointer (some ⟨p, 0, none⟩)] w fun e w' => e = .returned (.bool (!P.jo)) ∧ PBB W w' p r (P.setJo true) Q z w0 := by
  obtain ⟨pg, pw, pf, v, qg, qw, u, h1, h2, h3, h4, h5⟩ := h.ex
  refine (pajoin_any h1).mono ?_
  rintro e w' ⟨rfl, h6, h7⟩
  exact ⟨rfl, h.turnP h1 h2 h3 h4 h5 h6 h7 (h.okP.setJo true)⟩
theorem PBB.number (h : PBB W w p r P Q z w0) (hs : P.sent ≤ 65535) : Calls Try.prog 20 #[.pointer (some ⟨p, 0, none⟩)] w fun e w' => e = .returned (.tuple #[.int .i64 P.sent, .bool true]) ∧ PBB W w' p r P.num Q z w0 := by
  obtain ⟨pg, pw, pf, v, qg, qw, u, h1, h2, h3, h4, h5⟩ := h.ex
  refine (panumber_yes h1 h.okP.s1 hs).mono ?_
  rintro e w' ⟨rfl, h6, h7⟩
  exact ⟨rfl, h.turnP h1 h2 h3 h4 h5 h6 h7 (h.okP.num hs)⟩
theorem PBB.dnumber (h : PBB W w p r P Q z w0) (hs : Q.sent ≤ 65535) : Calls Try.prog 31 #[.pointer (some ⟨r, 0, none⟩)] w fun e w' => e = .returned (.tuple #[.int .i64 Q.sent, .bool true]) ∧ PBB W w' p r P Q.num z w0 := by
  obtain ⟨pg, pw, pf, v, qg, qw, u, h1, h2, h3, h4, h5⟩ := h.ex
  refine (dqnumber_yes h2 h.okQ.s1 hs).mono ?_
  rintro e w' ⟨rfl, h6, h7⟩
  exact ⟨rfl, h.turnQ h1 h2 h3 h4 h5 h6 h7 (h.okQ.num hs)⟩
theorem PBB.out_yes (h : PBB W w p r P Q z w0) (x y t a : Int) (hno : NoneQ P.fl x) (hl : P.fl.length < 1048576) : Calls Try.prog 21 #[.pointer (some ⟨p, 0, none⟩), .agg #[.int .i64 x, .int .i64 y, .int .i64 t, .int .i64 a]] w fun e w' => e = .returned (.bool true) ∧ PBB W w' p r (P.out ⟨x, y, t, a⟩) Q z w0 := by
  obtain ⟨pg, pw, pf, v, qg, qw, u, h1, h2, h3, h4, h5⟩ := h.ex
  refine (paout_yes h1 h.okP x y t a hno).mono ?_
  rintro e w' ⟨rfl, v', h6, h7⟩
  exact ⟨rfl, h.turnP h1 h2 h3 h4 h5 h6 h7 (h.okP.out _ hl)⟩
theorem PBB.out_no (h : PBB W w p r P Q z w0) (x y t a : Int) (i : Nat) (hi : FirstQ P.fl x i) : Calls Try.prog 21 #[.pointer (some ⟨p, 0, none⟩), .agg #[.int .i64 x, .int .i64 y, .int .i64 t, .int .i64 a]] w fun e w' => e = .returned (.bool false) ∧ PBB W w' p r P Q z w0 := by
  obtain ⟨pg, pw, pf, v, qg, qw, u, h1, h2, h3, h4, h5⟩ := h.ex
  refine (paout_no h1 h.okP x y t a i hi).mono ?_
  rintro e w' ⟨rfl, hb⟩
  exact ⟨rfl, h.later hb⟩
theorem PBB.dadd_yes (h : PBB W w p r P Q z w0) (x y t a : Int) (hno : NoneQ Q.fl x) (hl : Q.fl.length < 1048576) : Calls Try.prog 32 #[.pointer (some ⟨r, 6, none⟩), .agg #[.int .i64 x, .int .i64 y, .int .i64 t, .int .i64 a]] w fun e w' => e = .returned (.bool true) ∧ PBB W w' p r P (Q.out ⟨x, y, t, a⟩) z w0 := by
  obtain ⟨pg, pw, pf, v, qg, qw, u, h1, h2, h3, h4, h5⟩ := h.ex
  refine (ffladd_yes h2.fl x y t a hno (by omega)).mono ?_
  rintro e w' ⟨rfl, v', h6, h7⟩
  obtain ⟨h8, h9⟩ := h2.turnF h6 h7
  exact ⟨rfl, h.turnQ h1 h2 h3 h4 h5 h8 h9 (h.okQ.out _ hl)⟩
theorem PBB.dadd_no (h : PBB W w p r P Q z w0) (x y t a : Int) (i : Nat) (hi : FirstQ Q.fl x i) : Calls Try.prog 32 #[.pointer (some ⟨r, 6, none⟩), .agg #[.int .i64 x, .int .i64 y, .int .i64 t, .int .i64 a]] w fun e w' => e = .returned (.bool false) ∧ PBB W w' p r P Q z w0 := by
  obtain ⟨pg, pw, pf, v, qg, qw, u, h1, h2, h3, h4, h5⟩ := h.ex
  refine (ffladd_no h2.fl x y t a i hi (by have := h.okQ.n; omega)).mono ?_
  rintro e w' ⟨rfl, hb⟩
  exact ⟨rfl, h.later hb⟩
theorem PBB.acked_no (h : PBB W w p r P Q z w0) (x now : Int) (hno : NoneQ P.fl x) : Calls Try.prog 22 #[.pointer (some ⟨p, 0, none⟩), .int .i64 x, .int .i64 now] w fun e w' => e = .returned (.bool false) ∧ PBB W w' p r P Q z w0 := by
  obtain ⟨pg, pw, pf, v, qg, qw, u, h1, h2, h3, h4, h5⟩ := h.ex
  refine (paacked_no h1 h.okP x now hno).mono ?_
  rintro e w' ⟨rfl, hb⟩
  exact ⟨rfl, h.later hb⟩
theorem PBB.acked (h : PBB W w p r P Q z w0) (x now : Int) (i : Nat) (hi : FirstQ P.fl x i) (b1 : -1099511627776 ≤ now ∧ now ≤ 1099511627776) (b2 : -1099511627776 ≤ (P.fl.getD i qz).a ∧ (P.fl.getD i qz).a ≤ 1099511627776) :
    Calls Try.prog 22 #[.pointer (some ⟨p, 0, none⟩), .int .i64 x, .int .i64 now] w fun e w' => e = .returned (.bool true) ∧ PBB W w' p r (P.acked i now) Q z w0 := by
  obtain ⟨pg, pw, pf, v, qg, qw, u, h1, h2, h3, h4, h5⟩ := h.ex
  refine (paacked_yes h1 h.okP x now i hi b1 b2).mono ?_
  rintro e w' ⟨rfl, v', h6, h7⟩
  exact ⟨rfl, h.turnP h1 h2 h3 h4 h5 h6 h7 (h.okP.acked i now hi.lt)⟩
theorem PBB.dacked_no (h : PBB W w p r P Q z w0) (x now : Int) (hno : NoneQ Q.fl x) : Calls Try.prog 33 #[.pointer (some ⟨r, 0, none⟩), .int .i64 x, .int .i64 now] w fun e w' => e = .returned (.bool false) ∧ PBB W w' p r P Q z w0 := by
  obtain ⟨pg, pw, pf, v, qg, qw, u, h1, h2, h3, h4, h5⟩ := h.ex
  refine (dqacked_no h2 x now hno (by have := h.okQ.n; omega)).mono ?_
  rintro e w' ⟨rfl, hb⟩
  exact ⟨rfl, h.later hb⟩
theorem PBB.dacked (h : PBB W w p r P Q z w0) (x now : Int) (i : Nat) (hi : FirstQ Q.fl x i) (b1 : -1099511627776 ≤ now ∧ now ≤ 1099511627776) (b2 : -1099511627776 ≤ (Q.fl.getD i qz).a ∧ (Q.fl.getD i qz).a ≤ 1099511627776) :
    Calls Try.prog 33 #[.pointer (some ⟨r, 0, none⟩), .int .i64 x, .int .i64 now] w fun e w' => e = .returned (.bool true) ∧ PBB W w' p r P (Q.acked i now) z w0 := by
  obtain ⟨pg, pw, pf, v, qg, qw, u, h1, h2, h3, h4, h5⟩ := h.ex
  refine (dqacked_yes h2 h.okQ x now i hi b1 b2).mono ?_
  rintro e w' ⟨rfl, v', h6, h7⟩
  exact ⟨rfl, h.turnQ h1 h2 h3 h4 h5 h6 h7 (h.okQ.acked i now hi.lt)⟩
/-- The document's Up is stored. -/
theorem PBB.dup (h : PBB W w p r P Q z w0) (b : Bool) : w.cell? ⟨r, 0, none⟩ = some (.bool Q.up) ∧ w.frozen? ⟨r, 0, none⟩ = false ∧ PBB W (w.setCell ⟨r, 0, none⟩ (.bool b)) p r P (Q.setUp b) z w0 := by
  obtain ⟨pg, pw, pf, v, qg, qw, u, h1, h2, h3, h4, h5⟩ := h.ex
  obtain ⟨h6, h7⟩ := h2.poke (P' := Q.setUp b) 0 (.bool b) (by omega) (fun j hj => by
    have : j = 0 ∨ j = 1 ∨ j = 2 ∨ j = 3 ∨ j = 4 ∨ j = 5 := by omega
    rcases this with rfl | rfl | rfl | rfl | rfl | rfl <;> rfl) rfl rfl rfl
  exact ⟨h2.c0, h2.fr 0, h.turnQ h1 h2 h3 h4 h5 h6 h7 (h.okQ.setUp b)⟩
theorem PBB.djo (h : PBB W w p r P Q z w0) (b : Bool) : w.cell? ⟨r, 0 + 1, none⟩ = some (.bool Q.jo) ∧ w.frozen? ⟨r, 0 + 1, none⟩ = false ∧ PBB W (w.setCell ⟨r, 0 + 1, none⟩ (.bool b)) p r P (Q.setJo b) z w0 := by
  obtain ⟨pg, pw, pf, v, qg, qw, u, h1, h2, h3, h4, h5⟩ := h.ex
  obtain ⟨h6, h7⟩ := h2.poke (P' := Q.setJo b) (0 + 1) (.bool b) (by omega) (fun j hj => by
    have : j = 0 ∨ j = 1 ∨ j = 2 ∨ j = 3 ∨ j = 4 ∨ j = 5 := by omega
    rcases this with rfl | rfl | rfl | rfl | rfl | rfl <;> rfl) rfl rfl rfl
  exact ⟨h2.c1, h2.fr (0 + 1), h.turnQ h1 h2 h3 h4 h5 h6 h7 (h.okQ.setJo b)⟩
theorem PBB.c3 (h : PBB W w p r P Q z w0) : w.cell? ⟨r, 0 + 3, none⟩ = some (.int .i64 Q.sent) := by
  obtain ⟨pg, pw, pf, v, qg, qw, u, h1, h2, h3, h4, h5⟩ := h.ex
  exact h2.c3
theorem PBB.c0 (h : PBB W w p r P Q z w0) : w.cell? ⟨r, 0, none⟩ = some (.bool Q.up) := by
  obtain ⟨pg, pw, pf, v, qg, qw, u, h1, h2, h3, h4, h5⟩ := h.ex
  exact h2.c0
theorem PBB.c1 (h : PBB W w p r P Q z w0) : w.cell? ⟨r, 0 + 1, none⟩ = some (.bool Q.jo) := by
  obtain ⟨pg, pw, pf, v, qg, qw, u, h1, h2, h3, h4, h5⟩ := h.ex
  exact h2.c1

/-- Late of the developers': the list that is told beside them. -/
theorem PBB.late (h : PBB W w p r P Q z w0) (now : Int) (b1 : -1099511627776 ≤ now ∧ now ≤ 1099511627776) {m : Nat} (hm : (P.lates now).length = m) :
    Calls Try.prog 26 #[.pointer (some ⟨p, 0, none⟩), .int .i64 now] w fun e w' => ∃ A' c', e = .returned (.slice A' m c') ∧ PBL W w' p r (P.lateN now) Q (.slice A' m c') (P.lates now) := by
  obtain ⟨pg, pw, pf, v, qg, qw, u, h1, h2, h3, h4, h5⟩ := h.ex
  refine (palate_any h1 h.okP now b1).mono ?_
  rintro e w' ⟨A', m', c', rfl, ho, v', h6, h7, -⟩
  obtain rfl : m' = m := by rw [← hm]; exact ho.len.symm
  refine ⟨A', c', rfl, ⟨pg, pw, pf, v', qg, qw, u, h6, h2.kept h7.trn (fun k hk hp => h3 k hp hk), (h3.symm.step h7 (fun k hk => (h2.foot_lt k hk).2)).symm, fun g hg hd => ?_⟩, h.okP.lateN now, h.okQ, h.bel.trans (h1.bel h7 (Nat.le_refl _)), ho.less h.bel.size⟩
  have h8 := (ho.lt g hg).1
  have h9 := (h2.foot_lt g hd).2
  omega
/-- Late of the document's, and both lists. -/
theorem PBL.dlate (h : PBL W w p r P Q lv L) (now : Int) (b1 : -1099511627776 ≤ now ∧ now ≤ 1099511627776) {m : Nat} (hm : (Q.lates now).length = m) :
    Calls Try.prog 34 #[.pointer (some ⟨r, 0, none⟩), .int .i64 now] w fun e w' => ∃ A' c', e = .returned (.slice A' m c') ∧ PB W w' p r P (Q.lateN now) ∧ OwnQ tOutP w' W.heap.size lv L ∧ OwnQ tOutR w' W.heap.size (.slice A' m c') (Q.lates now) := by
  obtain ⟨pg, pw, pf, v, qg, qw, u, h1, h2, h3, h4⟩ := h.ex
  refine (dqlate_any h2 h.okQ now b1).mono ?_
  rintro e w' ⟨A', m', c', rfl, ho, u', h6, h7⟩
  obtain rfl : m' = m := by rw [← hm]; exact ho.len.symm
  exact ⟨A', c', rfl, ⟨⟨pg, pw, pf, v, qg, qw, u', h1.kept h7.trn (fun k hk hp => h3 k hk hp), h6, h3.step h7 (fun k hk => (h1.foot_lt k hk).2)⟩, h.okP, h.okQ.lateN now, h.bel.trans (h2.bel h7 (Nat.le_refl _))⟩, h.own.trn h7.trn h4, ho.less h.bel.size⟩
/-- Drop of the document's flight: the list that is told beside them. -/
theorem PBB.ddrop (h : PBB W w p r P Q z w0) {m : Nat} (hm : Q.fl.length = m) :
    Calls Try.prog 29 #[.pointer (some ⟨r, 6, none⟩)] w fun e w' => ∃ A' c', e = .returned (.slice A' m c') ∧ PBD W w' p r P (Q.setFl []) (.slice A' m c') Q.fl := by
  obtain ⟨pg, pw, pf, v, qg, qw, u, h1, h2, h3, h4, h5⟩ := h.ex
  obtain ⟨A', c', rfl⟩ := h2.fl.own.form
  subst hm
  refine (ffldrop_any h2.fl).mono ?_
  rintro e w' ⟨rfl, ho, h6, h7⟩
  obtain ⟨h8, h9⟩ := h2.turnF h6 h7
  exact ⟨A', c', rfl, ⟨pg, pw, pf, v, qg, qw, _, h1.kept h9.trn (fun k hk hp => h3 k hk hp), h8, h3.step h9 (fun k hk => (h1.foot_lt k hk).2), fun g hg hp => h3 g hp (.inr (.inr (.inr hg)))⟩, h.okP, h.okQ.setFl (by simp), h.bel.trans (h2.bel h9 (Nat.le_refl _)), ho⟩
/-- Nothing was dropped. -/
theorem PBB.dnil (h : PBB W w p r P Q z w0) : PBD W w p r P Q (.slice none 0 0) [] := by
  obtain ⟨pg, pw, pf, v, qg, qw, u, h1, h2, h3, h4, h5⟩ := h.ex
  exact ⟨⟨pg, pw, pf, v, qg, qw, u, h1, h2, h3, fun g hg => by simp [Value.ownBlock] at hg⟩, h.okP, h.okQ, h.bel, OwnQ.nil _ _ _⟩
/-- Down of the developers', and both lists. -/
theorem PBD.down (h : PBD W w p r P Q lv L) {m : Nat} (hm : (if P.up then P.fl else []).length = m) :
    Calls Try.prog 12 #[.pointer (some ⟨p, 0, none⟩)] w fun e w' => ∃ A' c', e = .returned (.slice A' m c') ∧ PB W w' p r (if P.up then P.down else P) Q ∧ OwnQ tOutP w' W.heap.size (.slice A' m c') (if P.up then P.fl else []) ∧ OwnQ tOutR w' W.heap.size lv L := by
  obtain ⟨pg, pw, pf, v, qg, qw, u, h1, h2, h3, h4⟩ := h.ex
  refine (padown_any h1 h.okP).mono ?_
  rintro e w' ⟨A', m', c', rfl, ho, v', h6, h7⟩
  obtain rfl : m' = m := by rw [← hm]; exact ho.len.symm
  exact ⟨A', c', rfl, ⟨⟨pg, pw, pf, v', qg, qw, u, h6, h2.kept h7.trn (fun k hk hp => h3 k hp hk), (h3.symm.step h7 (fun k hk => (h2.foot_lt k hk).2)).symm⟩, by split; exact h.okP.down; exact h.okP, h.okQ, h.bel.trans (h1.bel h7 (Nat.le_refl _))⟩, ho.less h.bel.size, h.own.trn h7.trn h4⟩
end
end Go.Proofs.Ytlkoenlimdfifaa

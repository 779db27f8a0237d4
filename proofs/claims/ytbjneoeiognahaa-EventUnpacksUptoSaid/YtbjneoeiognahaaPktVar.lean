/-
  A packet in a variable ('PkV'), and what is known beside it while a Reader is read field by field ('TK'). No function of the program.
-/
import Derived.Test.YtbjneoeiognahaaPktTakeMath
import Derived.Deep.MidRow
namespace Go.Proofs.Ytbjneoeiognahaa
open Go.RowKit

set_option maxRecDepth 10000 in
theorem grown_trans {w w1 w2 : World} {r : Option Nat} (h : w.grownBy w1 r) (k : w1.grownBy w2 r) : w.grownBy w2 r :=
  ⟨k.os.trans h.os, k.tape.trans h.tape, k.output.trans h.output, Nat.le_trans h.size k.size, fun i hi hne => (k.block i (Nat.lt_of_lt_of_le hi h.size) hne).trans (h.block i hi hne)⟩
set_option maxRecDepth 10000 in
theorem grown_then' {w w1 w2 : World} {r : Option Nat} (h : w.grownBy w1 r) (hb : Below w.heap.size w1 w2) : w.grownBy w2 r :=
  ⟨hb.os.trans h.os, hb.tape.trans h.tape, hb.output.trans h.output, Nat.le_trans h.size hb.size, fun i hi hne => (hb.block i hi).trans (h.block i hi hne)⟩
set_option maxRecDepth 10000 in
theorem grown_of {w w1 : World} {r : Option Nat} (hb : Below w.heap.size w w1) : w.grownBy w1 r := grown_then' ⟨rfl, rfl, rfl, Nat.le_refl _, fun _ _ _ => rfl⟩ hb

/-- Block q is a variable that holds the packet p. -/
def PkV (w : World) (q : Nat) (p : Pkt) (A : Option Addr) (c : Nat) : Prop := w.rowIs q 58 9 (fun i => (p.cs A c).getD i undef)

section
variable {w w' : World} {q : Nat} {p : Pkt} {A : Option Addr} {c : Nat}
set_option maxRecDepth 10000 in
theorem PkV.lt (h : PkV w q p A c) : q < w.heap.size := World.rowIs.lt h
set_option maxRecDepth 10000 in
theorem PkV.cells (h : PkV w q p A c) : PktIn w q p A c :=
  ⟨World.rowIs.cell (i := 0) h (by omega), World.rowIs.cell (i := 1) h (by omega), World.rowIs.cell (i := 2) h (by omega), World.rowIs.cell (i := 3) h (by omega), World.rowIs.cell (i := 4) h (by omega),
    World.rowIs.cell (i := 5) h (by omega), World.rowIs.cell (i := 6) h (by omega), World.rowIs.cell (i := 7) h (by omega), World.rowIs.cell (i := 8) h (by omega)⟩
set_option maxRecDepth 10000 in
theorem PkV.fr (h : PkV w q p A c) (i : Nat) : w.frozen? ⟨q, i, none⟩ = false := World.rowIs.frozen h i
set_option maxRecDepth 10000 in
theorem PkV.later (h : PkV w q p A c) (hb : Below w.heap.size w w') : PkV w' q p A c := World.rowIs.of_block h (hb.block q h.lt)
set_option maxRecDepth 10000 in
theorem PkV.kept {r : Nat} (h : PkV w q p A c) (hg : w.grownBy w' (some r)) (hne : q ≠ r) : PkV w' q p A c := World.rowIs.of_block h (hg.block q h.lt (by simp; exact hne))
set_option maxRecDepth 10000 in
theorem PkV.new (w : World) (p : Pkt) (A : Option Addr) (c : Nat) : PkV (w.alloc (.cells (p.cs A c).toArray 58)) w.heap.size p A c :=
  World.rowIs_alloc w (p.cs A c).toArray 58 _ (fun i hi => by
    have : i < 9 := hi
    match i, this with
    | 0, _ | 1, _ | 2, _ | 3, _ | 4, _ | 5, _ | 6, _ | 7, _ | 8, _ => rfl)
set_option maxRecDepth 10000 in
theorem PkV.setI {i : Nat} {v : Value} {p' : Pkt} {A' : Option Addr} {c' : Nat} (h : PkV w q p A c) (he : ∀ j, j < 9 → (if j = i then v else (p.cs A c).getD j undef) = (p'.cs A' c').getD j undef) :
    PkV (w.setCell ⟨q, i, none⟩ v) q p' A' c' := (World.rowIs.set h i v).congr he
set_option maxRecDepth 10000 in
theorem PkV.pa (h : PkV w q p A c) (x : Int) : PkV (w.setCell ⟨q, 1, none⟩ (.int .i64 x)) q { p with pa := x } A c := h.setI fun j hj => by
  match j, hj with
  | 0, _ | 1, _ | 2, _ | 3, _ | 4, _ | 5, _ | 6, _ | 7, _ | 8, _ => rfl
set_option maxRecDepth 10000 in
theorem PkV.nu (h : PkV w q p A c) (x : Int) : PkV (w.setCell ⟨q, 2, none⟩ (.int .i64 x)) q { p with nu := x } A c := h.setI fun j hj => by
  match j, hj with
  | 0, _ | 1, _ | 2, _ | 3, _ | 4, _ | 5, _ | 6, _ | 7, _ | 8, _ => rfl
set_option maxRecDepth 10000 in
theorem PkV.ofn (h : PkV w q p A c) (x : Int) : PkV (w.setCell ⟨q, 3, none⟩ (.int .i64 x)) q { p with ofn := x } A c := h.setI fun j hj => by
  match j, hj with
  | 0, _ | 1, _ | 2, _ | 3, _ | 4, _ | 5, _ | 6, _ | 7, _ | 8, _ => rfl
set_option maxRecDepth 10000 in
theorem PkV.frm (h : PkV w q p A c) (x : Int) : PkV (w.setCell ⟨q, 4, none⟩ (.int .i64 x)) q { p with fr := x } A c := h.setI fun j hj => by
  match j, hj with
  | 0, _ | 1, _ | 2, _ | 3, _ | 4, _ | 5, _ | 6, _ | 7, _ | 8, _ => rfl
set_option maxRecDepth 10000 in
theorem PkV.dat (h : PkV w q p A c) (l : List Int) (A' : Option Addr) (c' : Nat) : PkV (w.setCell ⟨q, 5, none⟩ (.slice A' l.length c')) q { p with da := l } A' c' := h.setI fun j hj => by
  match j, hj with
  | 0, _ | 1, _ | 2, _ | 3, _ | 4, _ | 5, _ | 6, _ | 7, _ | 8, _ => rfl
set_option maxRecDepth 10000 in
theorem PkV.fin (h : PkV w q p A c) (x : Bool) : PkV (w.setCell ⟨q, 6, none⟩ (.bool x)) q { p with fin := x } A c := h.setI fun j hj => by
  match j, hj with
  | 0, _ | 1, _ | 2, _ | 3, _ | 4, _ | 5, _ | 6, _ | 7, _ | 8, _ => rfl
set_option maxRecDepth 10000 in
theorem PkV.se (h : PkV w q p A c) (x : Int) : PkV (w.setCell ⟨q, 7, none⟩ (.int .i64 x)) q { p with se := x } A c := h.setI fun j hj => by
  match j, hj with
  | 0, _ | 1, _ | 2, _ | 3, _ | 4, _ | 5, _ | 6, _ | 7, _ | 8, _ => rfl
set_option maxRecDepth 10000 in
theorem PkV.li (h : PkV w q p A c) (x : Int) : PkV (w.setCell ⟨q, 8, none⟩ (.int .i64 x)) q { p with li := x } A c := h.setI fun j hj => by
  match j, hj with
  | 0, _ | 1, _ | 2, _ | 3, _ | 4, _ | 5, _ | 6, _ | 7, _ | 8, _ => rfl
end

set_option maxRecDepth 10000 in
/-- A packet whose numbers are bounded, and whose bytes are of the call's own. -/
theorem pktAt_of {w : World} {B0 : Nat} {p : Pkt} {B : Option Addr} {d : Nat} (ho : Own .u8 5 w B0 (.slice B p.da.length d) p.da) (hb : ∀ x ∈ p.da, 0 ≤ x ∧ x < 256) (hl : p.da.length ≤ 9223372036854775807)
    (bk : -9223372036854775808 ≤ p.k ∧ p.k ≤ 9223372036854775807) (bp : -9223372036854775808 ≤ p.pa ∧ p.pa ≤ 9223372036854775807) (bn : -9223372036854775808 ≤ p.nu ∧ p.nu ≤ 9223372036854775807)
    (bo : -9223372036854775808 ≤ p.ofn ∧ p.ofn ≤ 9223372036854775807) (bf : -9223372036854775808 ≤ p.fr ∧ p.fr ≤ 9223372036854775807) (bs : -9223372036854775808 ≤ p.se ∧ p.se ≤ 9223372036854775807)
    (bl : -9223372036854775808 ≤ p.li ∧ p.li ≤ 9223372036854775807) : PktAt w p B d :=
  ⟨ho.rd, hl, ho.cap, fun h => (ho.none_len h).1, hb, bk, bp, bn, bo, bf, bs, bl⟩

/-- What is known while a Reader is read into a packet: from the world w0 to the world w. -/
structure TK (w0 w : World) (p : Nat) (A : Option Addr) (c : Nat) (xs : List Int) (a : Nat) (bad : Bool) (z q : Nat) (pk : Pkt) (B : Option Addr) (d : Nat) : Prop where
  rd : Rdr w p A c xs a bad
  gr : w0.grownBy w (some p)
  pv : PkV w q pk B d
  zr : PkV w z Pkt.zero none 0
  own : Own .u8 5 w w0.heap.size (.slice B pk.da.length d) pk.da
  pl : p < w0.heap.size
  zl : w0.heap.size ≤ z
  zq : z < q

section
variable {w0 w w' : World} {p : Nat} {A : Option Addr} {c : Nat} {xs : List Int} {a a' : Nat} {bad b' : Bool} {z q : Nat} {pk : Pkt} {B : Option Addr} {d : Nat}
set_option maxRecDepth 10000 in
theorem TK.call (h : TK w0 w p A c xs a bad z q pk B d) (hr : Rdr w' p A c xs a' b') (hg : w.grownBy w' (some p)) : TK w0 w' p A c xs a' b' z q pk B d :=
  ⟨hr, grown_trans h.gr hg, h.pv.kept hg (by have := h.pl; have := h.zl; have := h.zq; omega), h.zr.kept hg (by have := h.pl; have := h.zl; omega), h.own.rdr h.rd hg, h.pl, h.zl, h.zq⟩
set_option maxRecDepth 10000 in
theorem TK.below (h : TK w0 w p A c xs a bad z q pk B d) (hb : Below w.heap.size w w') : TK w0 w' p A c xs a bad z q pk B d :=
  ⟨h.rd.later hb, grown_then' h.gr (hb.mono h.gr.size), h.pv.later hb, h.zr.later hb, h.own.later hb, h.pl, h.zl, h.zq⟩
set_option maxRecDepth 10000 in
theorem TK.drewN (h : TK w0 w p A c xs a bad z q pk B d) (k : Nat) : TK w0 (w.drewN k) p A c xs a bad z q pk B d := h.below (below_drewN' (Below.refl _ _) k)
set_option maxRecDepth 10000 in
/-- A store into the variable. -/
theorem TK.store {i : Nat} {v : Value} {pk' : Pkt} (h : TK w0 w p A c xs a bad z q pk B d) (hp : PkV (w.setCell ⟨q, i, none⟩ v) q pk' B d) (hd : pk'.da = pk.da) : TK w0 (w.setCell ⟨q, i, none⟩ v) p A c xs a bad z q pk' B d := by
  have hg := setCell_one w q i v
  have hq := h.zq
  have hz := h.zl
  have hpl := h.pl
  refine ⟨⟨h.rd.ne, World.rowIs.of_block h.rd.row (hg.block p h.rd.lt (by simp; omega)), h.rd.own.kept hg (own_not_row h.rd.own (by decide) h.pv), h.rd.le, h.rd.reach, h.rd.bytes⟩, ?_, hp,
    h.zr.kept hg (by omega), ?_, h.pl, h.zl, h.zq⟩
  · exact grown_then' h.gr ((Below.refl _ _).grown hg h.gr.size (by intro g e; simp at e; omega))
  · rw [hd]
    exact h.own.kept hg (own_not_row h.own (by decide) h.pv)
set_option maxRecDepth 10000 in
/-- The bytes are stored. -/
theorem TK.data {l : List Int} {B' : Option Addr} {d' : Nat} (h : TK w0 w p A c xs a bad z q pk B d) (ho : Own .u8 5 w w0.heap.size (.slice B' l.length d') l) :
    TK w0 (w.setCell ⟨q, 5, none⟩ (.slice B' l.length d')) p A c xs a bad z q { pk with da := l } B' d' := by
  have hg := setCell_one w q 5 (.slice B' l.length d')
  have hq := h.zq
  have hz := h.zl
  have hpl := h.pl
  refine ⟨⟨h.rd.ne, World.rowIs.of_block h.rd.row (hg.block p h.rd.lt (by simp; omega)), h.rd.own.kept hg (own_not_row h.rd.own (by decide) h.pv), h.rd.le, h.rd.reach, h.rd.bytes⟩, ?_, h.pv.dat l B' d',
    h.zr.kept hg (by omega), ?_, h.pl, h.zl, h.zq⟩
  · exact grown_then' h.gr ((Below.refl _ _).grown hg h.gr.size (by intro g e; simp at e; omega))
  · exact ho.kept hg (own_not_row ho (by decide) h.pv)
set_option maxRecDepth 10000 in
/-- The beginning: the zero, and the packet's kind. -/
theorem TK.begin {w0 w1 : World} {p : Nat} {A : Option Addr} {c : Nat} {xs : List Int} {a : Nat} {bad : Bool} (v : Int) (hl : p < w0.heap.size) (hr : Rdr w1 p A c xs a bad)
    (hg : (w0.alloc (.cells (Pkt.zero.cs none 0).toArray 58)).grownBy w1 (some p)) :
    TK w0 (w1.alloc (.cells ((⟨v, 0, 0, 0, 0, [], false, 0, 0⟩ : Pkt).cs none 0).toArray 58)) p A c xs a bad w0.heap.size w1.heap.size ⟨v, 0, 0, 0, 0, [], false, 0, 0⟩ none 0 := by
  have hb := ((Below.refl w1.heap.size w1).alloc (Nat.le_refl _) (.cells ((⟨v, 0, 0, 0, 0, [], false, 0, 0⟩ : Pkt).cs none 0).toArray 58))
  have hs := hg.size
  have hz := PkV.new w0 Pkt.zero none 0
  have h1 : w0.grownBy w1 (some p) := grown_trans (grown_of ((Below.refl w0.heap.size w0).alloc (Nat.le_refl _) _)) hg
  rw [World.size_alloc] at hs
  exact ⟨hr.later hb, grown_then' h1 (hb.mono h1.size), PkV.new _ _ _ _, (hz.kept hg (by omega)).later hb, Own.nil _ _ _ _, hl, Nat.le_refl _, by omega⟩
set_option maxRecDepth 10000 in
theorem setCells_one (b : Nat) : ∀ (vs : List Value) (o : Nat) (w : World), w.grownBy (w.setCells b o vs) (some b)
  | [], _, _ => ⟨rfl, rfl, rfl, Nat.le_refl _, fun _ _ _ => rfl⟩
  | v :: r, o, w => grown_trans (setCell_one w b o v) (setCells_one b r (o + 1) (w.setCell ⟨b, o, none⟩ v))
set_option maxRecDepth 10000 in
theorem PkV.there {w : World} {q : Nat} {p : Pkt} {A : Option Addr} {c : Nat} (h : PkV w q p A c) : w.there q 0 9 := fun j hj =>
  ⟨by rw [World.rowIs.cell (i := 0 + j) h (by omega)]; rfl, h.fr _⟩
set_option maxRecDepth 10000 in
/-- Behind a store of the result. -/
theorem TK.put (h : TK w0 w p A c xs a bad z q pk B d) (vs : List Value) :
    Own .u8 5 (w.setCells z 0 vs) w0.heap.size (.slice B pk.da.length d) pk.da ∧ Rdr (w.setCells z 0 vs) p A c xs a bad ∧ w0.grownBy (w.setCells z 0 vs) (some p) := by
  have hg := setCells_one z vs 0 w
  have hq := h.zq
  have hz := h.zl
  have hpl := h.pl
  refine ⟨h.own.kept hg (own_not_row h.own (by decide) h.zr), ⟨h.rd.ne, World.rowIs.of_block h.rd.row (hg.block p h.rd.lt (by simp; omega)), h.rd.own.kept hg (own_not_row h.rd.own (by decide) h.zr), h.rd.le, h.rd.reach, h.rd.bytes⟩, ?_⟩
  exact grown_then' h.gr ((Below.refl _ _).grown hg h.gr.size (by intro g e; simp at e; omega))
set_option maxRecDepth 10000 in
theorem TK.res (h : TK w0 w p A c xs a bad z q pk B d) (pk' : Pkt) (B' : Option Addr) (d' : Nat) :
    (loadVar 58 ⟨z, 0, none⟩).run Try.prog (w.setCells z 0 (pk'.cs B' d')) = .ok (pk'.val B' d') (w.setCells z 0 (pk'.cs B' d')) :=
  run_loadVar_mid _ z 0 58 (pk'.cs B' d') _ (World.rangeAt_setCells_same w z 0 (pk'.cs B' d') h.zr.there) Try.underlying58 rfl (by kernel_rfl)
end
end Go.Proofs.Ytbjneoeiognahaa

/-
  What is known while a Reader of the document's own is read into a packet ('TR', as XPktVar's 'TK'; the Reader's bytes are only read: RefS). No function of the program.
-/
import Derived.Test.YtbjneoeiognahaaPktVar
import Derived.Test.YtbjneoeiognahaaRefSpanS
namespace Go.Proofs.Ytbjneoeiognahaa
open Go.RowKit

/-- What is known while a Reader is read into a packet: from the world w0 to the world w. -/
structure TR (w0 w : World) (p : Nat) (A : Option Addr) (c : Nat) (xs : List Int) (a : Nat) (bad : Bool) (z q : Nat) (pk : Pkt) (B : Option Addr) (d : Nat) : Prop where
  rd : RefS w p A c xs a bad
  gr : w0.grownBy w (some p)
  pv : PkV w q pk B d
  zr : PkV w z Pkt.zero none 0
  own : Own .u8 5 w w0.heap.size (.slice B pk.da.length d) pk.da
  pl : p < w0.heap.size
  zl : w0.heap.size ≤ z
  zq : z < q
  rl : ∀ b off, A = some ⟨b, off, none⟩ → xs ≠ [] → b < w0.heap.size

section
variable {w0 w w' : World} {p : Nat} {A : Option Addr} {c : Nat} {xs : List Int} {a a' : Nat} {bad b' : Bool} {z q : Nat} {pk : Pkt} {B : Option Addr} {d : Nat}
set_option maxRecDepth 10000 in
theorem TR.call (h : TR w0 w p A c xs a bad z q pk B d) (hr : RefS w' p A c xs a' b') (hg : w.grownBy w' (some p)) : TR w0 w' p A c xs a' b' z q pk B d :=
  ⟨hr, grown_trans h.gr hg, h.pv.kept hg (by have := h.pl; have := h.zl; have := h.zq; omega), h.zr.kept hg (by have := h.pl; have := h.zl; omega), h.own.rdrS h.rd hg, h.pl, h.zl, h.zq, h.rl⟩
set_option maxRecDepth 10000 in
theorem TR.below (h : TR w0 w p A c xs a bad z q pk B d) (hb : Below w.heap.size w w') : TR w0 w' p A c xs a bad z q pk B d :=
  ⟨h.rd.later hb, grown_then' h.gr (hb.mono h.gr.size), h.pv.later hb, h.zr.later hb, h.own.later hb, h.pl, h.zl, h.zq, h.rl⟩
set_option maxRecDepth 10000 in
theorem TR.drewN (h : TR w0 w p A c xs a bad z q pk B d) (k : Nat) : TR w0 (w.drewN k) p A c xs a bad z q pk B d := h.below (below_drewN' (Below.refl _ _) k)
set_option maxRecDepth 10000 in
/-- A store into the variable. -/
theorem TR.store {i : Nat} {v : Value} {pk' : Pkt} (h : TR w0 w p A c xs a bad z q pk B d) (hp : PkV (w.setCell ⟨q, i, none⟩ v) q pk' B d) (hd : pk'.da = pk.da) : TR w0 (w.setCell ⟨q, i, none⟩ v) p A c xs a bad z q pk' B d := by
  have hg := setCell_one w q i v
  have hq := h.zq
  have hz := h.zl
  have hpl := h.pl
  refine ⟨h.rd.grown hg (by intro e; injection e with e; omega) (fun b off e h0 e2 => by have := h.rl b off e h0; injection e2 with e2; omega), ?_, hp,
    h.zr.kept hg (by omega), ?_, h.pl, h.zl, h.zq, h.rl⟩
  · exact grown_then' h.gr ((Below.refl _ _).grown hg h.gr.size (by intro g e; simp at e; omega))
  · rw [hd]
    exact h.own.kept hg (own_not_row h.own (by decide) h.pv)
set_option maxRecDepth 10000 in
/-- The bytes are stored. -/
theorem TR.data {l : List Int} {B' : Option Addr} {d' : Nat} (h : TR w0 w p A c xs a bad z q pk B d) (ho : Own .u8 5 w w0.heap.size (.slice B' l.length d') l) :
    TR w0 (w.setCell ⟨q, 5, none⟩ (.slice B' l.length d')) p A c xs a bad z q { pk with da := l } B' d' := by
  have hg := setCell_one w q 5 (.slice B' l.length d')
  have hq := h.zq
  have hz := h.zl
  have hpl := h.pl
  refine ⟨h.rd.grown hg (by intro e; injection e with e; omega) (fun b off e h0 e2 => by have := h.rl b off e h0; injection e2 with e2; omega), ?_, h.pv.dat l B' d',
    h.zr.kept hg (by omega), ?_, h.pl, h.zl, h.zq, h.rl⟩
  · exact grown_then' h.gr ((Below.refl _ _).grown hg h.gr.size (by intro g e; simp at e; omega))
  · exact ho.kept hg (own_not_row ho (by decide) h.pv)
set_option maxRecDepth 10000 in
/-- The beginning: the zero, and the packet's kind. -/
theorem TR.begin {a0 : Nat} {bad0 : Bool} {w0 w1 : World} {p : Nat} {A : Option Addr} {c : Nat} {xs : List Int} {a : Nat} {bad : Bool} (v : Int) (hr0 : RefS w0 p A c xs a0 bad0) (hr : RefS w1 p A c xs a bad)
    (hg : (w0.alloc (.cells (Pkt.zero.cs none 0).toArray 58)).grownBy w1 (some p)) :
    TR w0 (w1.alloc (.cells ((⟨v, 0, 0, 0, 0, [], false, 0, 0⟩ : Pkt).cs none 0).toArray 58)) p A c xs a bad w0.heap.size w1.heap.size ⟨v, 0, 0, 0, 0, [], false, 0, 0⟩ none 0 := by
  have hl := hr0.lt
  have hb := ((Below.refl w1.heap.size w1).alloc (Nat.le_refl _) (.cells ((⟨v, 0, 0, 0, 0, [], false, 0, 0⟩ : Pkt).cs none 0).toArray 58))
  have hs := hg.size
  have hz := PkV.new w0 Pkt.zero none 0
  have h1 : w0.grownBy w1 (some p) := grown_trans (grown_of ((Below.refl w0.heap.size w0).alloc (Nat.le_refl _) _)) hg
  rw [World.size_alloc] at hs
  exact ⟨hr.later hb, grown_then' h1 (hb.mono h1.size), PkV.new _ _ _ _, (hz.kept hg (by omega)).later hb, Own.nil _ _ _ _, hr0.lt, Nat.le_refl _, by omega, fun b off e h0 => Rd.lt (by have := hr0.own.rd; rw [e] at this; exact this) h0⟩
set_option maxRecDepth 10000 in
/-- Behind a store of the result. -/
theorem TR.put (h : TR w0 w p A c xs a bad z q pk B d) (vs : List Value) :
    Own .u8 5 (w.setCells z 0 vs) w0.heap.size (.slice B pk.da.length d) pk.da ∧ RefS (w.setCells z 0 vs) p A c xs a bad ∧ w0.grownBy (w.setCells z 0 vs) (some p) := by
  have hg := setCells_one z vs 0 w
  have hq := h.zq
  have hz := h.zl
  have hpl := h.pl
  refine ⟨h.own.kept hg (own_not_row h.own (by decide) h.zr), h.rd.grown hg (by intro e; injection e with e; omega) (fun b off e h0 e2 => by have := h.rl b off e h0; injection e2 with e2; omega), ?_⟩
  exact grown_then' h.gr ((Below.refl _ _).grown hg h.gr.size (by intro g e; simp at e; omega))
set_option maxRecDepth 10000 in
theorem TR.res (h : TR w0 w p A c xs a bad z q pk B d) (pk' : Pkt) (B' : Option Addr) (d' : Nat) :
    (loadVar 58 ⟨z, 0, none⟩).run Try.prog (w.setCells z 0 (pk'.cs B' d')) = .ok (pk'.val B' d') (w.setCells z 0 (pk'.cs B' d')) :=
  run_loadVar_mid _ z 0 58 (pk'.cs B' d') _ (World.rangeAt_setCells_same w z 0 (pk'.cs B' d') h.zr.there) Try.underlying58 rfl (by kernel_rfl)
end
end Go.Proofs.Ytbjneoeiognahaa

/-
  All that FlightPlays turns, in one structure ('FM'): a flight and the document's own; what each call leaves of them. Contracts over the program.
-/
import Derived.Test.YtdfgomnppepmnaaFlSame
import Derived.Test.YtdfgomnppepmnaaSep
namespace Go.Proofs.Ytdfgomnppepmnaa
open Go.RowKit

/-- The flight ps and the document's own flight qs: neither shares anything with the other. -/
structure FM (W w : World) (p : Nat) (v : Value) (ps : List Qd) (r : Nat) (u : Value) (qs : List Qd) : Prop where
  fl : FlA tFl tOutP w W.heap.size p v ps
  dl : FlA tFlR tOutR w W.heap.size r u qs
  sep : Sep (Fft p v) (Fft r u)
  bel : Below W.heap.size W w

section
variable {W w w' : World} {p r : Nat} {v v' u u' : Value} {ps qs ps' qs' : List Qd}
theorem FM.later (h : FM W w p v ps r u qs) (hb : Below w.heap.size w w') : FM W w' p v ps r u qs := ⟨h.fl.later hb, h.dl.later hb, h.sep, h.bel.trans (hb.mono h.bel.size)⟩
theorem FM.drewN (h : FM W w p v ps r u qs) (n : Nat) : FM W (w.drewN n) p v ps r u qs := h.later ⟨rfl, rfl, rfl, Nat.le_refl _, fun _ _ => rfl⟩
theorem FM.alloc (h : FM W w p v ps r u qs) (o : Obj) : FM W (w.alloc o) p v ps r u qs := h.later ((Below.refl _ _).alloc (Nat.le_refl _) _)
theorem FM.lf (h : FM W w p v ps r u qs) : ∀ k, Fft p v k → k < w.heap.size := fun k hk => (h.fl.foot_lt k hk).2
theorem FM.ld (h : FM W w p v ps r u qs) : ∀ k, Fft r u k → k < w.heap.size := fun k hk => (h.dl.foot_lt k hk).2
theorem FM.turnF (h : FM W w p v ps r u qs) (h1 : FlA tFl tOutP w' W.heap.size p v' ps') (hsc : SC w w' (Fft p v) (Fft p v')) : FM W w' p v' ps' r u qs :=
  ⟨h1, h.dl.kept hsc.trn h.sep.symm, (h.sep.symm.step hsc h.ld).symm, h.bel.trans (h.fl.bel hsc (Nat.le_refl _))⟩
theorem FM.turnD (h : FM W w p v ps r u qs) (h1 : FlA tFlR tOutR w' W.heap.size r u' qs') (hsc : SC w w' (Fft r u) (Fft r u')) : FM W w' p v ps r u' qs' :=
  ⟨h.fl.kept hsc.trn h.sep, h1, h.sep.step hsc h.lf, h.bel.trans (h.dl.bel hsc (Nat.le_refl _))⟩
/-- A block that lies in neither is as it was. -/
theorem Bx.keep {F F' : Nat → Prop} {b : Nat} {q : Qd} (h : Bx w b q) (hsc : SC w w' F F') (hn : ¬ F b) : Bx w' b q := h.of_block (hsc.trn.block b h.lt hn)
theorem FM.add_yes (h : FM W w p v ps r u qs) (x y z t : Int) (hno : NoneQ ps x) (hm : ps.length ≤ 1099511627775) :
    Calls Try.prog 8 #[.pointer (some ⟨p, 0, none⟩), .agg #[.int .i64 x, .int .i64 y, .int .i64 z, .int .i64 t]] w fun e w' => e = .returned (.bool true) ∧ ∃ v', FM W w' p v' (ps ++ [⟨x, y, z, t⟩]) r u qs ∧ SC w w' (Fft p v) (Fft p v') :=
  (fladd_yes h.fl x y z t hno hm).mono fun _ _ ⟨he, v', h1, h2⟩ => ⟨he, v', h.turnF h1 h2, h2⟩
theorem FM.dadd_yes (h : FM W w p v ps r u qs) (x y z t : Int) (hno : NoneQ qs x) (hm : qs.length ≤ 1099511627775) :
    Calls Try.prog 16 #[.pointer (some ⟨r, 0, none⟩), .agg #[.int .i64 x, .int .i64 y, .int .i64 z, .int .i64 t]] w fun e w' => e = .returned (.bool true) ∧ ∃ u', FM W w' p v ps r u' (qs ++ [⟨x, y, z, t⟩]) ∧ SC w w' (Fft r u) (Fft r u') :=
  (dfladd_yes h.dl x y z t hno hm).mono fun _ _ ⟨he, v', h1, h2⟩ => ⟨he, v', h.turnD h1 h2, h2⟩
theorem FM.take_yes (h : FM W w p v ps r u qs) (n : Int) (i : Nat) (hi : FirstQ ps n i) (q : Qd) (hq : ps.getD i qz = q) (hm : ps.length ≤ 1099511627775) :
    Calls Try.prog 9 #[.pointer (some ⟨p, 0, none⟩), .int .i64 n] w fun e w' => e = .returned (.tuple #[.agg #[.int .i64 q.n, .int .i64 q.f, .int .i64 q.t, .int .i64 q.a], .bool true]) ∧ ∃ v', FM W w' p v' (goneQ ps i) r u qs ∧ SC w w' (Fft p v) (Fft p v') :=
  (fltake_yes h.fl n i hi q hq hm).mono fun _ _ ⟨he, v', h1, h2⟩ => ⟨he, v', h.turnF h1 h2, h2⟩
theorem FM.dtake_yes (h : FM W w p v ps r u qs) (n : Int) (i : Nat) (hi : FirstQ qs n i) (q : Qd) (hq : qs.getD i qz = q) (hm : qs.length ≤ 1099511627775) :
    Calls Try.prog 17 #[.pointer (some ⟨r, 0, none⟩), .int .i64 n] w fun e w' => e = .returned (.tuple #[.agg #[.int .i64 q.n, .int .i64 q.f, .int .i64 q.t, .int .i64 q.a], .bool true]) ∧ ∃ u', FM W w' p v ps r u' (goneQ qs i) ∧ SC w w' (Fft r u) (Fft r u') :=
  (dfltake_yes h.dl n i hi q hq hm).mono fun _ _ ⟨he, v', h1, h2⟩ => ⟨he, v', h.turnD h1 h2, h2⟩
theorem FM.late (h : FM W w p v ps r u qs) (now wait d : Int) (h1 : -1099511627776 ≤ now ∧ now ≤ 1099511627776) (h2 : -1099511627776 ≤ wait ∧ wait ≤ 1099511627776) (hd : d = now - wait) (hb : ps.length ≤ 1099511627775) :
    Calls Try.prog 12 #[.pointer (some ⟨p, 0, none⟩), .int .i64 now, .int .i64 wait] w fun e w' => ∃ A' m c', e = .returned (.slice A' m c') ∧ OwnQ tOutP w' w.heap.size (.slice A' m c') (lateQ ps d) ∧ ∃ v', FM W w' p v' (stayQ ps d) r u qs ∧ SC w w' (Fft p v) (Fft p v') :=
  (fllate_any h.fl now wait d h1 h2 hd hb).mono fun _ _ ⟨A', m, c', he, ho, v', h1, h2⟩ => ⟨A', m, c', he, ho, v', h.turnF h1 h2, h2⟩
theorem FM.dlate (h : FM W w p v ps r u qs) (now wait d : Int) (h1 : -1099511627776 ≤ now ∧ now ≤ 1099511627776) (h2 : -1099511627776 ≤ wait ∧ wait ≤ 1099511627776) (hd : d = now - wait) (hb : qs.length ≤ 1099511627775) :
    Calls Try.prog 19 #[.pointer (some ⟨r, 0, none⟩), .int .i64 now, .int .i64 wait] w fun e w' => ∃ A' m c', e = .returned (.slice A' m c') ∧ OwnQ tOutR w' w.heap.size (.slice A' m c') (lateQ qs d) ∧ ∃ u', FM W w' p v ps r u' (stayQ qs d) ∧ SC w w' (Fft r u) (Fft r u') :=
  (dfllate_any h.dl now wait d h1 h2 hd hb).mono fun _ _ ⟨A', m, c', he, ho, v', h1, h2⟩ => ⟨A', m, c', he, ho, v', h.turnD h1 h2, h2⟩
theorem FM.drop (h : FM W w p v ps r u qs) (hb : ps.length ≤ 1099511627776) :
    Calls Try.prog 13 #[.pointer (some ⟨p, 0, none⟩)] w fun e w' => ∃ A' c', e = .returned (.slice A' ps.length c') ∧ OwnQ tOutP w' w.heap.size (.slice A' ps.length c') ps ∧ FM W w' p (.slice none 0 0) [] r u qs ∧ SC w w' (Fft p v) (Fft p (.slice none 0 0)) :=
  (fldrop_any h.fl hb).mono fun _ _ ⟨A', c', he, ho, h1, h2⟩ => ⟨A', c', he, ho, h.turnF h1 h2, h2⟩
theorem FM.ddrop (h : FM W w p v ps r u qs) :
    Calls Try.prog 20 #[.pointer (some ⟨r, 0, none⟩)] w fun e w' => e = .returned u ∧ OwnQ tOutR w' W.heap.size u qs ∧ FM W w' p v ps r (.slice none 0 0) [] ∧ SC w w' (Fft r u) (Fft r (.slice none 0 0)) :=
  (dfldrop_any h.dl).mono fun _ _ ⟨he, ho, h1, h2⟩ => ⟨he, ho, h.turnD h1 h2, h2⟩
/-- What was handed out lies in neither. -/
theorem OwnQ.keep {e : TypeId} {B : Nat} {x : Value} {F F' : Nat → Prop} (h : OwnQ e w B x ps) (hsc : SC w w' F F') (hn : ∀ k, x.ownBlock = some k → ¬ F k) : OwnQ e w' B x ps := h.trn hsc.trn hn
end
end Go.Proofs.Ytdfgomnppepmnaa

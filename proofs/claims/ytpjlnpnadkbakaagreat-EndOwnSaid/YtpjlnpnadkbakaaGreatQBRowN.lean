/-
  RowN · EnRow · Small · Guess · Window.
-/
import Derived.Test.YtpjlnpnadkbakaaGreatQBFresh
import Derived.Test.YtpjlnpnadkbakaaGreatQBQuad
import Derived.Test.YtpjlnpnadkbakaaGreatQBEvMem
import Derived.Test.YtpjlnpnadkbakaaGreatQBMem
import Derived.Deep.QuietTactic
import Derived.Test.YtpjlnpnadkbakaaGreatRows
import Derived.Test.YtpjlnpnadkbakaaGreatQBPair
import Derived.Deep.OwnRows
import Derived.Deep.RegionHeld3
import Derived.BigQuiet
import Derived.IntWalk
namespace Go.Proofs.YtpjlnpnadkbakaaGreat
set_option maxRecDepth 10000
open Go.RowKit
section
variable {P : Program}
theorem run_appN (w : World) (B : Nat) (t ty e : TypeId) (z : Value) (size bytes : Nat) (ht : P.underlying t = some (.slice e)) (hinfo : (P.info? e).map (fun i => (i.zero, i.size, i.bytes)) = some (some z, size, bytes)) (hzs : z.cells.size = size) (hs0 : 0 < size)
    (v : Value) (n : Nat) (xs : List Value) (hown : w.ownsRow B e size v n xs) (ad : Addr) (m c : Nat) (ys : List Value) (hl : ys.length = m * size) (hsrc : ∀ j u, ys[j]? = some u → w.cell? (ad.add j) = some u) (h1 : ∀ u ∈ ys, u.oneCell' = true)
    (hmax : n + m ≤ maxLen) (hb : (n + m) * bytes ≤ 140737488355328) (hB : B ≤ w.heap.size) :
    ∃ A' c' w', (Builtin.append_ #[t, t] ty #[v, .slice (some ad) m c]).run P w = .ok (.slice A' (n + m) c') w' ∧ w'.ownsRow B e size (.slice A' (n + m) c') (n + m) (xs ++ ys) ∧ w.grownBy w' v.ownBlock ∧ (∀ g, (Value.slice A' (n + m) c').ownBlock = some g → v.ownBlock = some g ∨ w.heap.size ≤ g) := by
  obtain ⟨i, hi, hz0, hz2, hz3⟩ := info_parts hinfo
  obtain ⟨v', w', hrun, h2, h3, _⟩ := run_append_own (P := P) w B t ty e i z size bytes ht hi hz0 hz2 hz3 hzs hs0 v n xs hown ad m c ys hl hsrc h1 hmax hb hB
  have hform : ∃ A' c', v' = .slice A' (n + m) c' := by
    rcases h2.2 with ⟨hv, h0⟩ | ⟨g, cap, cur, hv, _⟩
    · exact ⟨none, 0, by rw [hv, h0]⟩
    · exact ⟨_, _, hv⟩
  obtain ⟨A', c', rfl⟩ := hform
  refine ⟨A', c', w', hrun, h2, h3, ?_⟩
  rcases hown.2 with ⟨rfl, h0⟩ | ⟨b, cap, cur, rfl, hbb, hbk, hnc, hcm, hcs, htake⟩
  · subst h0
    have hx : xs = [] := List.eq_nil_of_length_eq_zero (by simpa using hown.1)
    subst hx
    obtain ⟨v2, w2, hrun2, h4, _, _⟩ := run_append_own (P := P) w w.heap.size t ty e i z size bytes ht hi hz0 hz2 hz3 hzs hs0 (.slice none 0 0) 0 [] (World.ownsRow_nil _ _ _ _) ad m c ys hl hsrc h1 hmax hb (Nat.le_refl _)
    rw [hrun2] at hrun
    injection hrun with hv _
    subst hv
    intro g hg
    exact .inr (World.ownsRow.lt h4 g hg).1
  · by_cases hroom : n + m ≤ cap
    · have hr1 := run_append_room (P := P) w t ty e i ht hi b n cap cur hbk ad m c ys (by rw [hz2]; exact hl) hsrc h1 hroom (by rw [hz2, hl, hcs, ← Nat.add_mul]; exact Nat.mul_le_mul_right _ hroom)
      rw [hr1] at hrun
      injection hrun with hv _
      intro g hg
      rw [← hv] at hg
      exact .inl (by simpa [Value.ownBlock] using hg)
    · have holds := World.ownsRow.cells hown (g := b) rfl
      have hr1 := run_append_grow (P := P) w t ty e i z ht hi hz0 ⟨b, 0, none⟩ n cap xs (by rw [hz2, hown.1]) holds ad m c ys (by rw [hz2]; exact hl) hsrc (by omega) (by unfold maxLen at hmax; omega) (growslice_fits (by omega) (by rw [hz3]; exact hb))
      rw [hr1] at hrun
      injection hrun with hv _
      intro g hg
      right
      rw [← hv] at hg
      simp [Value.ownBlock] at hg
      omega
end
section
variable {w w' : World} {L L' : Lab} {S F : Nat → Prop} {B size n i : Nat} {e : TypeId} {v : Value} {xs : List Value}
theorem ownsRow_trn (h : w.ownsRow B e size v n xs) (ht : Trn w w' F) (hn : ∀ g, v.ownBlock = some g → ¬ F g) : w'.ownsRow B e size v n xs := by
  refine ⟨h.1, ?_⟩
  rcases h.2 with h2 | ⟨g, cap, cur, rfl, hB, hg, r⟩
  · exact .inl h2
  · exact .inr ⟨g, cap, cur, rfl, hB, by rw [ht.block g (Array.getElem?_eq_some_iff.1 hg).1 (hn g rfl)]; exact hg, r⟩
theorem Tn.ownsRow (ht : Tn w w' L L' S) (h : w.ownsRow B e size v n xs) (hv : OfV L i v) (hi : ¬ S i) : w'.ownsRow B e size v n xs := ownsRow_trn h ht.trn (hv.apart hi)
end
def ptrs (bs : List Nat) : List Value := bs.map fun b => .pointer (some ⟨b, 0, none⟩)
def PtrRow (t : TypeId) (w : World) (v : Value) (bs : List Nat) : Prop := w.ownsRow 0 t 1 v bs.length (ptrs bs)
section
variable {t : TypeId} {w w' : World} {L L' : Lab} {S : Nat → Prop} {v : Value} {bs : List Nat} {i : Nat}
theorem PtrRow.form (h : PtrRow t w v bs) : ∃ A c, v = .slice A bs.length c := by
  rcases h.2 with ⟨rfl, h0⟩ | ⟨g, cap, cur, rfl, _⟩
  · exact ⟨none, 0, by rw [h0]⟩
  · exact ⟨_, _, rfl⟩
theorem PtrRow.lt (h : PtrRow t w v bs) : ∀ g, v.ownBlock = some g → g < w.heap.size := fun g hg => (World.ownsRow.lt h g hg).2
theorem PtrRow.nil (t : TypeId) (w : World) : PtrRow t w (.slice none 0 0) [] := World.ownsRow_nil _ _ _ _
theorem PtrRow.keep (h : PtrRow t w v bs) (ht : Tn w w' L L' S) (hv : OfV L i v) (hi : ¬ S i) : PtrRow t w' v bs := ht.ownsRow h hv hi
theorem PtrRow.drewN (h : PtrRow t w v bs) (n : Nat) : PtrRow t (w.drewN n) v bs := ownsRow_trn h (F := fun _ => False) (Trn.of_below ⟨rfl, rfl, rfl, Nat.le_refl _, fun _ _ => rfl⟩) (fun _ _ => id)
theorem PtrRow.at (h : PtrRow t w v bs) (hn : 0 < bs.length) : ∃ g c, v = .slice (some ⟨g, 0, none⟩) bs.length c ∧ ∀ j, j < bs.length → w.cell? ⟨g, j, none⟩ = some (.pointer (some ⟨bs.getD j 0, 0, none⟩)) := by
  rcases h.2 with ⟨_, h0⟩ | ⟨g, cap, cur, rfl, _⟩
  · omega
  · refine ⟨g, cap, rfl, fun j hj => ?_⟩
    have := World.ownsRow.cellAt h j (by omega)
    rw [this]
    simp [ptrs, List.getD, hj]
theorem run_appPtr {P : Program} (h : PtrRow t w v bs) (b : Nat) (ts ty : TypeId) (ht : P.underlying ts = some (.slice t)) (hinfo : (P.info? t).map (fun i => (i.zero, i.size, i.bytes)) = some (some (.pointer none), 1, 8)) (hl : bs.length ≤ 1024) (ad : Addr) (c : Nat) (hc : w.cell? ad = some (.pointer (some ⟨b, 0, none⟩))) :
    ∃ A' c' w', (Builtin.append_ #[ts, ts] ty #[v, .slice (some ad) 1 c]).run P w = .ok (.slice A' (bs.length + 1) c') w' ∧ PtrRow t w' (.slice A' (bs.length + 1) c') (bs ++ [b]) ∧ w.grownBy w' v.ownBlock ∧ (∀ g, (Value.slice A' (bs.length + 1) c').ownBlock = some g → v.ownBlock = some g ∨ w.heap.size ≤ g) := by
  obtain ⟨A', c', w', h1, h2, h3, h4⟩ := run_appN (P := P) w 0 ts ty t (.pointer none) 1 8 ht hinfo rfl (by omega) v bs.length (ptrs bs) h ad 1 c [.pointer (some ⟨b, 0, none⟩)] rfl
    (fun j u hj => by
      match j, hj with
      | 0, hj => simp at hj; subst hj; rw [show ad.add 0 = ad from rfl]; exact hc
      | j + 1, hj => simp at hj) (by simp [Value.oneCell']) (by unfold maxLen; omega) (by omega) (Nat.zero_le _)
  refine ⟨A', c', w', h1, ?_, h3, h4⟩
  unfold PtrRow
  rw [List.length_append, List.length_singleton]
  simpa [ptrs] using h2
end
end Go.Proofs.YtpjlnpnadkbakaaGreat
namespace Go.Proofs.YtpjlnpnadkbakaaGreat
set_option maxRecDepth 10000
open Go.RowKit
structure PkM where
  p : Pkt
  A : Option Addr
  c : Nat
instance : Inhabited PkM := ⟨⟨Pkt.zero, none, 0⟩⟩
def PkM.cs (m : PkM) : List Value := m.p.cs m.A m.c
def PkM.val (m : PkM) : Value := m.p.val m.A m.c
def pks (ms : List PkM) : List Value := ms.flatMap PkM.cs
theorem PkM.cs_len (m : PkM) : m.cs.length = 9 := rfl
theorem pks_cons (m : PkM) (ms : List PkM) : pks (m :: ms) = m.cs ++ pks ms := by simp [pks]
theorem pks_app (a b : List PkM) : pks (a ++ b) = pks a ++ pks b := by simp [pks]
theorem pks_get (ms : List PkM) (i : Nat) (hi : i < ms.length) (j : Nat) (hj : j < 9) : (pks ms)[i * 9 + j]? = (ms.getD i default).cs[j]? := by
  induction ms generalizing i with
  | nil => simp at hi
  | cons m ms ih =>
    rw [pks_cons]
    cases i with
    | zero =>
      rw [Nat.zero_mul, Nat.zero_add, List.getElem?_append_left (by rw [PkM.cs_len]; exact hj)]
      rfl
    | succ i =>
      rw [List.getElem?_append_right (by rw [PkM.cs_len]; omega), PkM.cs_len, show (i + 1) * 9 + j - 9 = i * 9 + j by omega, ih i (by simpa using hi)]
      simp [List.getD]
theorem PkM.cs_one (m : PkM) : ∀ u ∈ m.cs, u.oneCell' = true := by
  intro u hu
  simp only [PkM.cs, Pkt.cs, List.mem_cons, List.not_mem_nil, or_false] at hu
  rcases hu with rfl | rfl | rfl | rfl | rfl | rfl | rfl | rfl | rfl <;> rfl
theorem info_pkt : (Tryz.prog.info? 32).map (fun i => (i.zero, i.size, i.bytes)) = some (some (Pkt.zero.val none 0), 9, 88) := by kernel_rfl
structure Byt (w : World) (L : Lab) (A : Option Addr) (c : Nat) (xs : List Int) : Prop where
  own : Own .u8 5 w 0 (.slice A xs.length c) xs
  lab : OfV L 0 (.slice A xs.length c)
structure PkM.mine (w : World) (L : Lab) (m : PkM) : Prop where
  bd : PkB m.p
  by_ : Byt w L m.A m.c m.p.da
structure EvM.mine (w : World) (L : Lab) (m : EvM) : Prop where
  bd : EvB m.e
  b1 : Byt w L m.A m.c m.e.da
  b2 : Byt w L m.B m.d m.e.pk.da
structure PkRow (w : World) (L : Lab) (i : Nat) (v : Value) (ms : List PkM) : Prop where
  row : w.ownsRow 0 32 9 v ms.length (pks ms)
  each : ∀ m ∈ ms, m.mine w L
  lab : OfV L i v
structure EvR (w : World) (L : Lab) (i : Nat) (v : Value) (ms : List EvM) : Prop where
  row : w.ownsRow 0 88 12 v ms.length (evs ms)
  each : ∀ m ∈ ms, m.mine w L
  lab : OfV L i v
def PkLs (w : World) (L : Lab) (i : Nat) (v : Value) (ps : List Pkt) : Prop := ∃ ms : List PkM, ms.map PkM.p = ps ∧ PkRow w L i v ms
def EvLs (w : World) (L : Lab) (i : Nat) (v : Value) (es : List Ev) : Prop := ∃ ms : List EvM, ms.map EvM.e = es ∧ EvR w L i v ms
section
variable {w w1 w' : World} {L L1 L' : Lab} {S : Nat → Prop} {i : Nat} {v : Value} {A : Option Addr} {c : Nat} {xs : List Int}
theorem own_lt {k : IntKind} {e : TypeId} {B : Nat} {u : Value} {ys : List Int} (h : Own k e w B u ys) : ∀ g, u.ownBlock = some g → g < w.heap.size := fun g hg => (h.lt g hg).2
theorem Byt.keep (h : Byt w L A c xs) (ht : Tn w w' L L' S) (h0 : ¬ S 0) : Byt w' L' A c xs := ⟨ht.own h.own h.lab h0, h.lab.keep ht (own_lt h.own)⟩
theorem Byt.nil (w : World) (L : Lab) : Byt w L none 0 [] := ⟨Own.nil _ _ _ _, OfV.nil⟩
theorem PkM.mine.keep {m : PkM} (h : m.mine w L) (ht : Tn w w' L L' S) (h0 : ¬ S 0) : m.mine w' L' := ⟨h.bd, h.by_.keep ht h0⟩
theorem EvM.mine.keep {m : EvM} (h : m.mine w L) (ht : Tn w w' L L' S) (h0 : ¬ S 0) : m.mine w' L' := ⟨h.bd, h.b1.keep ht h0, h.b2.keep ht h0⟩
theorem Byt.rd (h : Byt w L A c xs) : Rd .u8 w A xs := h.own.rd
theorem PkM.mine.at {m : PkM} (h : m.mine w L) : PktAt w m.p m.A m.c := by
  have hb := h.bd
  exact pktAt_of h.by_.own hb.byt (by have := hb.len; omega) hb.bk hb.bp hb.bn hb.bo hb.bf hb.bs hb.bl
theorem EvM.mine.own {m : EvM} (h : m.mine w L) : m.own w 0 := ⟨h.bd, h.b1.own, h.b2.own⟩
theorem PkRow.keep {ms : List PkM} (h : PkRow w L i v ms) (ht : Tn w w' L L' S) (hi : ¬ S i) (h0 : ¬ S 0) : PkRow w' L' i v ms :=
  ⟨ht.ownsRow h.row h.lab hi, fun m hm => (h.each m hm).keep ht h0, h.lab.keep ht (fun g hg => (World.ownsRow.lt h.row g hg).2)⟩
theorem EvR.keep {ms : List EvM} (h : EvR w L i v ms) (ht : Tn w w' L L' S) (hi : ¬ S i) (h0 : ¬ S 0) : EvR w' L' i v ms :=
  ⟨ht.ownsRow h.row h.lab hi, fun m hm => (h.each m hm).keep ht h0, h.lab.keep ht (fun g hg => (World.ownsRow.lt h.row g hg).2)⟩
theorem PkLs.keep {ps : List Pkt} (h : PkLs w L i v ps) (ht : Tn w w' L L' S) (hi : ¬ S i) (h0 : ¬ S 0) : PkLs w' L' i v ps := by
  obtain ⟨ms, h1, h2⟩ := h
  exact ⟨ms, h1, h2.keep ht hi h0⟩
theorem EvLs.keep {es : List Ev} (h : EvLs w L i v es) (ht : Tn w w' L L' S) (hi : ¬ S i) (h0 : ¬ S 0) : EvLs w' L' i v es := by
  obtain ⟨ms, h1, h2⟩ := h
  exact ⟨ms, h1, h2.keep ht hi h0⟩
theorem PkLs.nil (w : World) (L : Lab) (i : Nat) : PkLs w L i (.slice none 0 0) [] := ⟨[], rfl, World.ownsRow_nil _ _ _ _, by simp, OfV.nil⟩
theorem EvLs.nil (w : World) (L : Lab) (i : Nat) : EvLs w L i (.slice none 0 0) [] := ⟨[], rfl, World.ownsRow_nil _ _ _ _, by simp, OfV.nil⟩
theorem PkLs.form {ps : List Pkt} (h : PkLs w L i v ps) : ∃ A c, v = .slice A ps.length c := by
  obtain ⟨ms, rfl, h⟩ := h
  rw [List.length_map]
  rcases h.row.2 with ⟨rfl, h0⟩ | ⟨g, cap, cur, rfl, _⟩
  · exact ⟨none, 0, by rw [h0]⟩
  · exact ⟨_, _, rfl⟩
theorem EvLs.form {es : List Ev} (h : EvLs w L i v es) : ∃ A c, v = .slice A es.length c := by
  obtain ⟨ms, rfl, h⟩ := h
  rw [List.length_map]
  rcases h.row.2 with ⟨rfl, h0⟩ | ⟨g, cap, cur, rfl, _⟩
  · exact ⟨none, 0, by rw [h0]⟩
  · exact ⟨_, _, rfl⟩
theorem PkLs.lab {ps : List Pkt} (h : PkLs w L i v ps) : OfV L i v := by
  obtain ⟨ms, _, h⟩ := h
  exact h.lab
theorem EvLs.lab {es : List Ev} (h : EvLs w L i v es) : OfV L i v := by
  obtain ⟨ms, _, h⟩ := h
  exact h.lab
theorem PkLs.lt {ps : List Pkt} (h : PkLs w L i v ps) : ∀ g, v.ownBlock = some g → g < w.heap.size := by
  obtain ⟨ms, _, h⟩ := h
  exact fun g hg => (World.ownsRow.lt h.row g hg).2
theorem EvLs.lt {es : List Ev} (h : EvLs w L i v es) : ∀ g, v.ownBlock = some g → g < w.heap.size := by
  obtain ⟨ms, _, h⟩ := h
  exact fun g hg => (World.ownsRow.lt h.row g hg).2
theorem run_appEv {es : List Ev} (h : EvLs w L i v es) {m : EvM} (hm : m.mine w L) (hi0 : i ≠ 0) (n : Nat) (hn : es.length = n) (ad : Addr) (cc : Nat) (hl : ∀ j u, m.cs[j]? = some u → w.cell? (ad.add j) = some u) (hb : n ≤ 549755813888) (ty : TypeId) :
    ∃ A' c' w', (Builtin.append_ #[51, 51] ty #[v, .slice (some ad) 1 cc]).run Tryz.prog w = .ok (.slice A' (n + 1) c') w' ∧ EvLs w' (relab L w.heap.size i) i (.slice A' (n + 1) c') (es ++ [m.e]) ∧ w.grownBy w' v.ownBlock := by
  obtain ⟨ms, rfl, h⟩ := h
  rw [List.length_map] at hn
  subst hn
  obtain ⟨A', c', w', h1, h2, h3, h4⟩ := run_appN (P := Tryz.prog) w 0 51 ty 88 _ 12 128 Tryz.underlying51 info_ev rfl (by omega) v ms.length (evs ms) h.row ad 1 cc m.cs rfl hl m.cs_one (by unfold maxLen; omega) (by omega) (Nat.zero_le _)
  refine ⟨A', c', w', h1, ⟨ms ++ [m], by simp, ?_, fun x hx => ?_, h.lab.row h4⟩, h3⟩
  · rw [List.length_append, List.length_singleton, evs_app]
    simpa [evs] using h2
  · have ht := Tn.of_row (S := fun x => x = i) h3 h.lab rfl
    rcases List.mem_append.1 hx with hx | hx
    · exact (h.each x hx).keep ht (fun e => hi0 e.symm)
    · simp at hx
      subst hx
      exact hm.keep ht (fun e => hi0 e.symm)
end
end Go.Proofs.YtpjlnpnadkbakaaGreat
namespace Go.Proofs.YtpjlnpnadkbakaaGreat
set_option maxRecDepth 10000
open Go.RowKit
theorem quiet_eq {P : Program} {f : Nat} {args : Array Value} {w : World} {n : Nat} {v : Value} (h : Calls P f args (w.drewN n) fun e w' => e = .returned v ∧ w.drewN n = w') :
    Calls P f args (w.drewN n) fun e w'' => e = .returned v ∧ ∃ m, w'' = w.drewN m := Calls.quiet_of_same (h.mono fun _ _ ⟨h1, h2⟩ => ⟨h1, h2.symm⟩)
theorem grown_drew {w w' : World} {r : Option Nat} (h : w.grownBy w' r) : w.grownBy w'.drew r := ⟨h.os, h.tape, h.output, h.size, h.block⟩
end Go.Proofs.YtpjlnpnadkbakaaGreat
namespace Go.Proofs.YtpjlnpnadkbakaaGreat
set_option maxRecDepth 10000
open Go.RowKit
def guF (g : Gs) (i : Nat) : Value := if i = 0 then .int .i64 g.first else if i = 1 then .bool g.sm else if i = 2 then .int .i64 g.mean else if i = 3 then .int .i64 g.spread else .int .i64 (g.late : Nat)
def Gu (w : World) (p : Nat) (g : Gs) : Prop := w.rowIs p 238 5 (guF g)
section
variable {w w' : World} {p : Nat} {g : Gs}
theorem Gu.lt (h : Gu w p g) : p < w.heap.size := World.rowIs.lt h
theorem Gu.drewN (h : Gu w p g) (n : Nat) : Gu (w.drewN n) p g := h
theorem Gu.drew (h : Gu w p g) : Gu w.drew p g := h
theorem Gu.later (h : Gu w p g) (hb : Below w.heap.size w w') : Gu w' p g := World.rowIs.of_block h (hb.block p h.lt)
theorem Gu.other {q : Nat} (h : Gu w p g) (hne : p ≠ q) (hg : w.grownBy w' (some q)) : Gu w' p g := World.rowIs.of_block h (hg.block p h.lt (by simp; omega))
theorem Gu.c0 (h : Gu w p g) : w.cell? ⟨p, 0, none⟩ = some (.int .i64 g.first) := World.rowIs.cell (i := 0) h (by omega)
theorem Gu.c1 (h : Gu w p g) : w.cell? ⟨p, 0 + 1, none⟩ = some (.bool g.sm) := World.rowIs.cell (i := 1) h (by omega)
theorem Gu.c2 (h : Gu w p g) : w.cell? ⟨p, 0 + 2, none⟩ = some (.int .i64 g.mean) := World.rowIs.cell (i := 2) h (by omega)
theorem Gu.c3 (h : Gu w p g) : w.cell? ⟨p, 0 + 3, none⟩ = some (.int .i64 g.spread) := World.rowIs.cell (i := 3) h (by omega)
theorem Gu.c4 (h : Gu w p g) : w.cell? ⟨p, 0 + 4, none⟩ = some (.int .i64 (g.late : Nat)) := World.rowIs.cell (i := 4) h (by omega)
theorem Gu.fr (h : Gu w p g) (i : Nat) : w.frozen? ⟨p, i, none⟩ = false := World.rowIs.frozen h i
theorem Gu.set1 (h : Gu w p g) (b : Bool) : Gu (w.setCell ⟨p, 0 + 1, none⟩ (.bool b)) p ⟨g.first, b, g.mean, g.spread, g.late⟩ := (h.set 1 _).congr fun i hi => by
  have : i = 0 ∨ i = 1 ∨ i = 2 ∨ i = 3 ∨ i = 4 := by omega
  rcases this with rfl | rfl | rfl | rfl | rfl <;> simp [guF]
theorem Gu.set2 (h : Gu w p g) (x : Int) : Gu (w.setCell ⟨p, 0 + 2, none⟩ (.int .i64 x)) p ⟨g.first, g.sm, x, g.spread, g.late⟩ := (h.set 2 _).congr fun i hi => by
  have : i = 0 ∨ i = 1 ∨ i = 2 ∨ i = 3 ∨ i = 4 := by omega
  rcases this with rfl | rfl | rfl | rfl | rfl <;> simp [guF]
theorem Gu.set3 (h : Gu w p g) (x : Int) : Gu (w.setCell ⟨p, 0 + 3, none⟩ (.int .i64 x)) p ⟨g.first, g.sm, g.mean, x, g.late⟩ := (h.set 3 _).congr fun i hi => by
  have : i = 0 ∨ i = 1 ∨ i = 2 ∨ i = 3 ∨ i = 4 := by omega
  rcases this with rfl | rfl | rfl | rfl | rfl <;> simp [guF]
theorem Gu.set4 (h : Gu w p g) (x : Int) (k : Nat) (hx : x = (k : Int)) : Gu (w.setCell ⟨p, 0 + 4, none⟩ (.int .i64 x)) p ⟨g.first, g.sm, g.mean, g.spread, k⟩ := (h.set 4 _).congr fun i hi => by
  subst hx
  have : i = 0 ∨ i = 1 ∨ i = 2 ∨ i = 3 ∨ i = 4 := by omega
  rcases this with rfl | rfl | rfl | rfl | rfl <;> simp [guF]
end
theorem rwithin_any (n lo hi : Int) (w : World) : Calls Tryz.prog 236 #[.int .i64 n, .int .i64 lo, .int .i64 hi] w fun e w' => e = .returned (.int .i64 (clampI n lo hi)) ∧ w = w' := by
  have hm := run_max2 n lo _ rfl
  obtain ⟨M, hM⟩ : ∃ M, max n lo = M := ⟨_, rfl⟩
  rw [hM] at hm
  have hn := run_min2 M hi _ rfl
  obtain ⟨K, hK⟩ : ∃ K, min M hi = K := ⟨_, rfl⟩
  rw [hK] at hn
  have e : clampI n lo hi = K := by unfold clampI; rw [hM, hK]
  rw [e]
  clear e hM hK
  go_enter Tryz.func236, Tryz.ntmps236
  go_wp2
  go_ret
  exact ⟨rfl, rfl⟩
theorem distance_any (a b : Int) (w : World) (h1 : 0 ≤ a) (h2 : a ≤ 1048576) (h3 : 0 ≤ b) (h4 : b ≤ 1048576) : Calls Tryz.prog 237 #[.int .i64 a, .int .i64 b] w fun e w' => e = .returned (.int .i64 (max (a - b) (b - a))) ∧ w = w' := by
  have hm := run_max2 (a - b) (b - a) _ rfl
  obtain ⟨M, hM⟩ : ∃ M, max (a - b) (b - a) = M := ⟨_, rfl⟩
  rw [hM] at hm ⊢
  clear hM
  go_enter Tryz.func237, Tryz.ntmps237
  go_wp2
  go_ret
  exact ⟨rfl, rfl⟩
theorem newgu_any (f : Int) (w : World) : Calls Tryz.prog 167 #[.int .i64 f] w fun e w' => e = .returned (.pointer (some ⟨w.heap.size, 0, none⟩)) ∧ Gu w' w.heap.size (Gs.new f) ∧ Below w.heap.size w w' ∧ w'.heap.size = w.heap.size + 1 := by
  have e : Gs.new f = ⟨clampI f 1 64, false, 0, 0, 0⟩ := rfl
  rw [e]
  go_enter Tryz.func167, Tryz.ntmps167
  go_wp2_with (go_at_call 236; refine (rwithin_any _ _ _ _).mono ?_; rintro e w' ⟨rfl, rfl⟩)
  go_ret
  refine ⟨rfl, ?_, (Below.refl _ _).alloc (Nat.le_refl _) _, by simp⟩
  exact World.rowIs_alloc w _ _ _ (fun i hi => by
    have : i < 5 := hi
    match i, this with
    | 0, _ | 1, _ | 2, _ | 3, _ | 4, _ => rfl)
section
variable {w : World} {p : Nat} {g : Gs}
theorem gumean_any (h : Gu w p g) : Calls Tryz.prog 204 #[.pointer (some ⟨p, 0, none⟩)] w fun e w' => e = .returned (.int .i64 g.mean) ∧ w = w' := by
  have c2 := h.c2
  clear h
  go_enter Tryz.func204, Tryz.ntmps204
  go_wp2
  go_ret
  exact ⟨rfl, rfl⟩
theorem gulate_any (h : Gu w p g) (hok : g.ok) : Calls Tryz.prog 163 #[.pointer (some ⟨p, 0, none⟩)] w fun e w' => e = .returned (.tuple #[]) ∧ Gu w' p g.later ∧ w.grownBy w' (some p) := by
  have c4 := h.c4
  have f4 := h.fr (0 + 4)
  have hl := hok.l
  have H := Lib.hid h
  obtain ⟨k, hk⟩ : ∃ k, g.late = k := ⟨_, rfl⟩
  rw [hk] at c4 hl
  have hm := run_min2 ((k : Int) + 1) 6 ((min (k + 1) 6 : Nat) : Int) (by omega)
  have hgl : g.later = ⟨g.first, g.sm, g.mean, g.spread, min (k + 1) 6⟩ := by unfold Gs.later; rw [hk]
  rw [hgl]
  obtain ⟨m, hm'⟩ : ∃ m, min (k + 1) 6 = m := ⟨_, rfl⟩
  rw [hm'] at hm ⊢
  clear hm' hgl h hk
  go_enter Tryz.func163, Tryz.ntmps163
  go_wp2
  go_end0
  exact ⟨rfl, H.out.set4 _ _ rfl, setCell_one _ _ _ _⟩
set_option maxHeartbeats 400000 in
theorem gusample_any (n : Int) (h : Gu w p g) (hok : g.ok) : Calls Tryz.prog 157 #[.pointer (some ⟨p, 0, none⟩), .int .i64 n] w fun e w' => e = .returned (.tuple #[]) ∧ Gu w' p (g.sample n) ∧ w.grownBy w' (some p) := by
  have hcl := fun w => rwithin_any n 0 1048576 w
  have hs : g.sample n = ⟨g.first, true, g.mn (clampI n 0 1048576), g.sp (clampI n 0 1048576), 0⟩ := rfl
  rw [hs]
  have c1 := clampI_ge (n := n) (lo := 0) (hi := 1048576) (by decide)
  have c2 := clampI_le n 0 1048576
  obtain ⟨N, hN⟩ : ∃ N, clampI n 0 1048576 = N := ⟨_, rfl⟩
  rw [hN] at hcl c1 c2 ⊢
  clear hN hs
  have HC := Lib.hid hcl
  have m1 := hok.m1
  have m2 := hok.m2
  have s1 := hok.s1
  have s2 := hok.s2
  obtain ⟨first, sm, mean, spread, late⟩ := g
  simp only at m1 m2 s1 s2
  clear hok hcl
  have H := Lib.hid h
  have e1 := h.c1
  have e2 := h.c2
  have e3 := h.c3
  have e4 := h.c4
  have f1 := h.fr (0 + 1)
  have f2 := h.fr (0 + 2)
  have f3 := h.fr (0 + 3)
  have f4 := h.fr (0 + 4)
  simp only at e1 e2 e3 e4
  clear h
  cases sm
  · go_enter Tryz.func157, Tryz.ntmps157
    go_wp2_with (go_at_call 236; refine (HC.out _).mono ?_; rintro e w' ⟨rfl, rfl⟩)
    go_end0
    exact ⟨rfl, (((H.out.set2 N).set3 (N / 2)).set1 true).set4 0 0 rfl, (((setCell_one _ _ _ _).trans (setCell_one _ _ _ _)).trans (setCell_one _ _ _ _)).trans (setCell_one _ _ _ _)⟩
  · go_enter Tryz.func157, Tryz.ntmps157
    go_wp2_with (go_at_call 236; refine (HC.out _).mono ?_; rintro e w' ⟨rfl, rfl⟩)
    have D := Lib.hid (fun w => distance_any mean N w m1 m2 c1 c2)
    obtain ⟨d, hd⟩ : ∃ d, max (mean - N) (N - mean) = d := ⟨_, rfl⟩
    rw [hd] at D
    have d1 : 0 ≤ d := by omega
    have d2 : d ≤ 1048576 := by omega
    have HD := Lib.hid hd
    clear hd
    have q1 := Lib.hid (show IntKind.i64.wrap (3 * spread) = 3 * spread from IntWalk.i64_in _ (by constructor <;> omega))
    have q2 := Lib.hid (show IntKind.i64.wrap (3 * spread + d) = 3 * spread + d from IntWalk.i64_in _ (by constructor <;> omega))
    have q3 := Lib.hid (show (3 * spread + d).tdiv 4 = (3 * spread + d) / 4 from Int.tdiv_eq_ediv_of_nonneg (by omega))
    obtain ⟨s', hs'⟩ : ∃ s', (3 * spread + d) / 4 = s' := ⟨_, rfl⟩
    have t1 : 0 ≤ s' := by omega
    have t2 : s' ≤ 1048576 := by omega
    have q4 := Lib.hid (show IntKind.i64.wrap s' = s' from IntWalk.i64_in _ (by constructor <;> omega))
    have HS := Lib.hid hs'
    clear hs'
    go_region_with (go_at_call 237; refine (D.out _).mono ?_; rintro e w' ⟨rfl, rfl⟩)
    all_goals
      rw [q1.out, q2.out, q3.out, HS.out, q4.out]
      go_wp2
      go_end0
      refine ⟨rfl, ?_, grown_drew ((((setCell_one _ _ _ _).trans (setCell_one _ _ _ _)).trans (setCell_one _ _ _ _)).trans (setCell_one _ _ _ _))⟩
      have hg := (((H.out.set3 s').set2 ((7 * mean + N) / 8)).set1 true).set4 0 0 rfl
      have hmn : (⟨first, true, mean, spread, late⟩ : Gs).mn N = (7 * mean + N) / 8 := rfl
      have hsp : (⟨first, true, mean, spread, late⟩ : Gs).sp N = s' := by rw [← HS.out, ← HD.out]; rfl
      rw [hmn, hsp]
      exact hg.drew
theorem guwait_any (h : Gu w p g) (hok : g.ok) : Calls Tryz.prog 162 #[.pointer (some ⟨p, 0, none⟩)] w fun e w' => e = .returned (.int .i64 g.wait) ∧ ∃ k, w' = w.drewN k := by
  have e0 := h.c0
  have e1 := h.c1
  have e2 := h.c2
  have e3 := h.c3
  have e4 := h.c4
  have hpr := Gs.prod hok
  have hbs := Gs.base_ge hok
  have hmin := run_min2 (g.base * 2 ^ g.late) 64 g.wait rfl
  obtain ⟨K, hK⟩ : ∃ K, g.wait = K := ⟨_, rfl⟩
  rw [hK] at hmin ⊢
  clear hK
  have hl := hok.l
  obtain ⟨L, hL⟩ : ∃ L, g.late = L := ⟨_, rfl⟩
  rw [hL] at hmin hpr hl e4
  have m1 := hok.m1
  have m2 := hok.m2
  have s1 := hok.s1
  have s2 := hok.s2
  have hb : g.base = if g.sm then clampI (g.mean + max 1 (4 * g.spread)) 1 64 else g.first := rfl
  obtain ⟨B, hB⟩ : ∃ B, g.base = B := ⟨_, rfl⟩
  rw [hB] at hmin hpr hbs hb
  have h3 := IntWalk.wrap64_in (B * 2 ^ L) (by constructor <;> omega)
  obtain ⟨P, hP⟩ : ∃ P, B * 2 ^ L = P := ⟨_, rfl⟩
  have hw : wrap64 (B * 2 ^ L) = P := h3.trans hP
  rw [hP] at hmin hpr
  clear h3
  clear hL hP hB h
  obtain ⟨first, sm, mean, spread, late⟩ := g
  simp only at e0 e1 e2 e3 m1 m2 s1 s2 hb
  clear hok
  cases sm
  · simp only [Bool.false_eq_true, if_false] at hb
    subst hb
    go_enter Tryz.func162, Tryz.ntmps162
    go_wp2
    go_ret
    exact ⟨rfl, 0, rfl⟩
  · simp only [if_true] at hb
    have hmax := run_max2 1 (4 * spread) _ rfl
    obtain ⟨M, hM⟩ : ∃ M, max 1 (4 * spread) = M := ⟨_, rfl⟩
    rw [hM] at hmax hb
    have n1 : 1 ≤ M := by omega
    have n2 : M ≤ 4194304 := by omega
    have hcl := fun w => rwithin_any (mean + M) 1 64 w
    rw [← hb] at hcl
    have HC := Lib.hid hcl
    clear hb hM hcl
    go_enter Tryz.func162, Tryz.ntmps162
    go_wp2_with fail
    go_quiet ((go_at_call 236; exact quiet_eq (HC.out _)))
    go_wp2
    go_ret
    exact ⟨rfl, _, rfl⟩
end
end Go.Proofs.YtpjlnpnadkbakaaGreat
namespace Go.Proofs.YtpjlnpnadkbakaaGreat
set_option maxRecDepth 10000
open Go.RowKit
def wnF (g : Wn) (i : Nat) : Value := if i = 0 then .int .i64 g.most else if i = 1 then .int .i64 g.size else if i = 2 then .int .i64 g.turn else .int .i64 g.count
def WnA (ty : TypeId) (w : World) (p : Nat) (g : Wn) : Prop := w.rowIs p ty 4 (wnF g)
section
variable {ty : TypeId} {w w' : World} {p : Nat} {g : Wn}
theorem WnA.lt (h : WnA ty w p g) : p < w.heap.size := World.rowIs.lt h
theorem WnA.drewN (h : WnA ty w p g) (n : Nat) : WnA ty (w.drewN n) p g := h
theorem WnA.drew (h : WnA ty w p g) : WnA ty w.drew p g := h
theorem WnA.later (h : WnA ty w p g) (hb : Below w.heap.size w w') : WnA ty w' p g := World.rowIs.of_block h (hb.block p h.lt)
theorem WnA.other {q : Nat} (h : WnA ty w p g) (hne : p ≠ q) (hg : w.grownBy w' (some q)) : WnA ty w' p g := World.rowIs.of_block h (hg.block p h.lt (by simp; omega))
theorem WnA.c0 (h : WnA ty w p g) : w.cell? ⟨p, 0, none⟩ = some (.int .i64 g.most) := World.rowIs.cell (i := 0) h (by omega)
theorem WnA.c1 (h : WnA ty w p g) : w.cell? ⟨p, 0 + 1, none⟩ = some (.int .i64 g.size) := World.rowIs.cell (i := 1) h (by omega)
theorem WnA.c2 (h : WnA ty w p g) : w.cell? ⟨p, 0 + 2, none⟩ = some (.int .i64 g.turn) := World.rowIs.cell (i := 2) h (by omega)
theorem WnA.c3 (h : WnA ty w p g) : w.cell? ⟨p, 0 + 3, none⟩ = some (.int .i64 g.count) := World.rowIs.cell (i := 3) h (by omega)
theorem WnA.fr (h : WnA ty w p g) (i : Nat) : w.frozen? ⟨p, i, none⟩ = false := World.rowIs.frozen h i
theorem WnA.set1 (h : WnA ty w p g) (x : Int) : WnA ty (w.setCell ⟨p, 0 + 1, none⟩ (.int .i64 x)) p ⟨g.most, x, g.turn, g.count⟩ := (h.set 1 _).congr fun i hi => by
  have : i = 0 ∨ i = 1 ∨ i = 2 ∨ i = 3 := by omega
  rcases this with rfl | rfl | rfl | rfl <;> simp [wnF]
theorem WnA.set2 (h : WnA ty w p g) (x : Int) : WnA ty (w.setCell ⟨p, 0 + 2, none⟩ (.int .i64 x)) p ⟨g.most, g.size, x, g.count⟩ := (h.set 2 _).congr fun i hi => by
  have : i = 0 ∨ i = 1 ∨ i = 2 ∨ i = 3 := by omega
  rcases this with rfl | rfl | rfl | rfl <;> simp [wnF]
theorem WnA.set3 (h : WnA ty w p g) (x : Int) : WnA ty (w.setCell ⟨p, 0 + 3, none⟩ (.int .i64 x)) p ⟨g.most, g.size, g.turn, x⟩ := (h.set 3 _).congr fun i hi => by
  have : i = 0 ∨ i = 1 ∨ i = 2 ∨ i = 3 := by omega
  rcases this with rfl | rfl | rfl | rfl <;> simp [wnF]
end
abbrev Wi := WnA 240
theorem newwi_any (m : Int) (w : World) : Calls Tryz.prog 168 #[.int .i64 m] w fun e w' => e = .returned (.pointer (some ⟨w.heap.size, 0, none⟩)) ∧ Wi w' w.heap.size (Wn.new m) ∧ Below w.heap.size w w' ∧ w'.heap.size = w.heap.size + 1 := by
  have hm := run_max2 m 1 _ rfl
  obtain ⟨M, hM⟩ : ∃ M, max m 1 = M := ⟨_, rfl⟩
  rw [hM] at hm
  have hn := run_min2 M 16 _ rfl
  obtain ⟨K, hK⟩ : ∃ K, min M 16 = K := ⟨_, rfl⟩
  rw [hK] at hn
  have ht := run_min2 2 K _ rfl
  obtain ⟨S, hS⟩ : ∃ S, min 2 K = S := ⟨_, rfl⟩
  rw [hS] at ht
  have e : Wn.new m = ⟨K, S, K, 0⟩ := by unfold Wn.new clampI; rw [hM, hK, hS]
  rw [e]
  clear e hM hK hS
  go_enter Tryz.func168, Tryz.ntmps168
  go_wp2
  go_ret
  refine ⟨rfl, ?_, (Below.refl _ _).alloc (Nat.le_refl _) _, by simp⟩
  exact World.rowIs_alloc w _ _ _ (fun i hi => by
    have : i < 4 := hi
    match i, this with
    | 0, _ | 1, _ | 2, _ | 3, _ => rfl)
section
variable {w : World} {p : Nat} {g : Wn}
theorem wiloss_any (h : Wi w p g) (hok : g.ok) : Calls Tryz.prog 164 #[.pointer (some ⟨p, 0, none⟩)] w fun e w' => e = .returned (.tuple #[]) ∧ Wi w' p g.loss ∧ w.grownBy w' (some p) := by
  have c1 := h.c1
  have c2 := h.c2
  have c3 := h.c3
  have f1 := h.fr (0 + 1)
  have f2 := h.fr (0 + 2)
  have f3 := h.fr (0 + 3)
  have s1 := hok.s1
  have s2 := hok.s2
  have m2 := hok.m2
  have hgl : g.loss = ⟨g.most, max (g.size / 2) 1, max (g.size / 2) 1, 0⟩ := rfl
  rw [hgl]
  have H := Lib.hid h
  obtain ⟨S, hS⟩ : ∃ S, g.size = S := ⟨_, rfl⟩
  rw [hS] at c1 s1 s2 ⊢
  have q := Int.tdiv_eq_ediv_of_nonneg (a := S) (b := 2) (by omega)
  obtain ⟨D, hD⟩ : ∃ D, S / 2 = D := ⟨_, rfl⟩
  rw [hD] at q ⊢
  have hm := run_max2 D 1 _ rfl
  have d1 : 0 ≤ D := by omega
  have d2 : D ≤ 8 := by omega
  obtain ⟨T, hT⟩ : ∃ T, max D 1 = T := ⟨_, rfl⟩
  rw [hT] at hm ⊢
  clear hT hD hS h hok hgl
  go_enter Tryz.func164, Tryz.ntmps164
  go_wp2
  go_end0
  exact ⟨rfl, ((H.out.set2 T).set1 T).set3 0, ((setCell_one _ _ _ _).trans (setCell_one _ _ _ _)).trans (setCell_one _ _ _ _)⟩
theorem wiroom_any (n : Int) (h : Wi w p g) : Calls Tryz.prog 256 #[.pointer (some ⟨p, 0, none⟩), .int .i64 n] w fun e w' => e = .returned (.bool (decide (n < g.size))) ∧ w = w' := by
  have c1 := h.c1
  clear h
  go_enter Tryz.func256, Tryz.ntmps256
  go_wp2
  go_ret
  exact ⟨rfl, rfl⟩
set_option maxHeartbeats 400000 in
theorem wiack_any (h : Wi w p g) (hok : g.ok) : Calls Tryz.prog 159 #[.pointer (some ⟨p, 0, none⟩)] w fun e w' => e = .returned (.tuple #[]) ∧ Wi w' p g.ack ∧ w.grownBy w' (some p) := by
  obtain ⟨most, size, turn, count⟩ := g
  obtain ⟨m1, m2, s1, s2, t1, t2, k1, k2⟩ := hok
  simp only at m1 m2 s1 s2 t1 t2 k1 k2
  have H := Lib.hid h
  have e0 := h.c0
  have e1 := h.c1
  have e2 := h.c2
  have e3 := h.c3
  have f1 := h.fr (0 + 1)
  have f3 := h.fr (0 + 3)
  simp only at e0 e1 e2 e3
  clear h
  have hm := run_min2 (size + 1) most _ rfl
  by_cases hlt : size < turn
  · have hg : (⟨most, size, turn, count⟩ : Wn).ack = ⟨most, size + 1, turn, count⟩ := if_pos hlt
    rw [hg]
    have hS : min (size + 1) most = size + 1 := by omega
    rw [hS] at hm
    clear hg hS
    go_enter Tryz.func159, Tryz.ntmps159
    go_wp2_with fail
    go_region
    all_goals
      go_wp2
      refine bodyPost_ret (results_none rfl _ _ _) rfl ?_
      exact ⟨rfl, (H.out.set1 _).drew, grown_drew (setCell_one _ _ _ _)⟩
  · by_cases heq : count + 1 = size
    · have hg : (⟨most, size, turn, count⟩ : Wn).ack = ⟨most, min (size + 1) most, turn, 0⟩ := by
        unfold Wn.ack
        rw [if_neg hlt, if_pos heq]
      rw [hg]
      obtain ⟨S, hS⟩ : ∃ S, min (size + 1) most = S := ⟨_, rfl⟩
      rw [hS] at hm ⊢
      clear hg hS
      go_enter Tryz.func159, Tryz.ntmps159
      go_wp2_with fail
      go_region
      all_goals
        go_wp2
        go_region
        all_goals
          go_wp2
          go_region
          all_goals
            first
            | go_end0
              first
              | exact ⟨rfl, ((((H.out.drew.set3 _).drew.set1 S).set3 0)).drew, grown_drew (((grown_drew ((grown_drew (setCell_one _ _ _ _)))).trans (setCell_one _ _ _ _)).trans (setCell_one _ _ _ _))⟩
    · have hg : (⟨most, size, turn, count⟩ : Wn).ack = ⟨most, size, turn, count + 1⟩ := by
        unfold Wn.ack
        rw [if_neg hlt, if_neg heq]
      rw [hg]
      have hgt : ¬ (count + 1 ≥ size) := by omega
      clear hg hm
      go_enter Tryz.func159, Tryz.ntmps159
      go_wp2_with fail
      go_region
      all_goals
        go_wp2
        go_region
        all_goals
          go_wp2
          go_end0
          exact ⟨rfl, (H.out.set3 _).drew.drew, grown_drew (grown_drew (setCell_one _ _ _ _))⟩
end
section
variable {w : World} {p : Nat} {g : Wn}
end
end Go.Proofs.YtpjlnpnadkbakaaGreat

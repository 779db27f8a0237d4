/-
  EnRow · Small · Guess · Window · Flight4 · Sep.
-/
import Derived.Test.YtpjlnpnadkbakaaGreatQFEvMem
import Derived.Test.YtpjlnpnadkbakaaGreatQFFresh
import Derived.Test.YtpjlnpnadkbakaaGreatQFMem
import Derived.Deep.QuietTactic
import Derived.Test.YtpjlnpnadkbakaaGreatRows
import Derived.Test.YtpjlnpnadkbakaaGreatQFPair
import Derived.Test.YtpjlnpnadkbakaaGreatQFQuad
import Derived.Deep.OwnRows
import Derived.Deep.RegionHeld3
import Derived.BigQuiet
import Derived.IntWalk
import Derived.Test.YtpjlnpnadkbakaaGreatQFFlight2
import Derived.Laws.ResultCell
import Derived.OwnWalk
import Derived.Deep.MidRow
namespace Go.Proofs.YtpjlnpnadkbakaaGreat
set_option maxRecDepth 10000
open Go.RowKit
structure PkM where
  p : Pkt
  A : Option Addr
  c : Nat
instance : Inhabited PkM := ⟨⟨Pkt.zero, none, 0⟩⟩
def PkM.cs (m : PkM) : List Value := m.p.cs m.A m.c
def PkM.val (m : PkM) : Value := m.p.val m.A m.c
def pks (ms : List PkM) : List Value := ms.flatMap PkM.cs
theorem PkM.cs_len (m : PkM) : m.cs.length = 9 := rfl
theorem pks_cons (m : PkM) (ms : List PkM) : pks (m :: ms) = m.cs ++ pks ms := by simp [pks]
theorem pks_app (a b : List PkM) : pks (a ++ b) = pks a ++ pks b := by simp [pks]
theorem pks_get (ms : List PkM) (i : Nat) (hi : i < ms.length) (j : Nat) (hj : j < 9) : (pks ms)[i * 9 + j]? = (ms.getD i default).cs[j]? := by
  induction ms generalizing i with
  | nil => simp at hi
  | cons m ms ih =>
    rw [pks_cons]
    cases i with
    | zero =>
      rw [Nat.zero_mul, Nat.zero_add, List.getElem?_append_left (by rw [PkM.cs_len]; exact hj)]
      rfl
    | succ i =>
      rw [List.getElem?_append_right (by rw [PkM.cs_len]; omega), PkM.cs_len, show (i + 1) * 9 + j - 9 = i * 9 + j by omega, ih i (by simpa using hi)]
      simp [List.getD]
theorem PkM.cs_one (m : PkM) : ∀ u ∈ m.cs, u.oneCell' = true := by
  intro u hu
  simp only [PkM.cs, Pkt.cs, List.mem_cons, List.not_mem_nil, or_false] at hu
  rcases hu with rfl | rfl | rfl | rfl | rfl | rfl | rfl | rfl | rfl <;> rfl
theorem info_pkt : (Tryz.prog.info? 32).map (fun i => (i.zero, i.size, i.bytes)) = some (some (Pkt.zero.val none 0), 9, 88) := by kernel_rfl
structure Byt (w : World) (L : Lab) (A : Option Addr) (c : Nat) (xs : List Int) : Prop where
  own : Own .u8 5 w 0 (.slice A xs.length c) xs
  lab : OfV L 0 (.slice A xs.length c)
structure PkM.mine (w : World) (L : Lab) (m : PkM) : Prop where
  bd : PkB m.p
  by_ : Byt w L m.A m.c m.p.da
structure EvM.mine (w : World) (L : Lab) (m : EvM) : Prop where
  bd : EvB m.e
  b1 : Byt w L m.A m.c m.e.da
  b2 : Byt w L m.B m.d m.e.pk.da
structure PkRow (w : World) (L : Lab) (i : Nat) (v : Value) (ms : List PkM) : Prop where
  row : w.ownsRow 0 32 9 v ms.length (pks ms)
  each : ∀ m ∈ ms, m.mine w L
  lab : OfV L i v
structure EvR (w : World) (L : Lab) (i : Nat) (v : Value) (ms : List EvM) : Prop where
  row : w.ownsRow 0 88 12 v ms.length (evs ms)
  each : ∀ m ∈ ms, m.mine w L
  lab : OfV L i v
def PkLs (w : World) (L : Lab) (i : Nat) (v : Value) (ps : List Pkt) : Prop := ∃ ms : List PkM, ms.map PkM.p = ps ∧ PkRow w L i v ms
def EvLs (w : World) (L : Lab) (i : Nat) (v : Value) (es : List Ev) : Prop := ∃ ms : List EvM, ms.map EvM.e = es ∧ EvR w L i v ms
section
variable {w w1 w' : World} {L L1 L' : Lab} {S : Nat → Prop} {i : Nat} {v : Value} {A : Option Addr} {c : Nat} {xs : List Int}
theorem own_lt {k : IntKind} {e : TypeId} {B : Nat} {u : Value} {ys : List Int} (h : Own k e w B u ys) : ∀ g, u.ownBlock = some g → g < w.heap.size := fun g hg => (h.lt g hg).2
theorem Byt.keep (h : Byt w L A c xs) (ht : Tn w w' L L' S) (h0 : ¬ S 0) : Byt w' L' A c xs := ⟨ht.own h.own h.lab h0, h.lab.keep ht (own_lt h.own)⟩
theorem Byt.nil (w : World) (L : Lab) : Byt w L none 0 [] := ⟨Own.nil _ _ _ _, OfV.nil⟩
theorem PkM.mine.keep {m : PkM} (h : m.mine w L) (ht : Tn w w' L L' S) (h0 : ¬ S 0) : m.mine w' L' := ⟨h.bd, h.by_.keep ht h0⟩
theorem EvM.mine.keep {m : EvM} (h : m.mine w L) (ht : Tn w w' L L' S) (h0 : ¬ S 0) : m.mine w' L' := ⟨h.bd, h.b1.keep ht h0, h.b2.keep ht h0⟩
theorem Byt.rd (h : Byt w L A c xs) : Rd .u8 w A xs := h.own.rd
theorem PkM.mine.at {m : PkM} (h : m.mine w L) : PktAt w m.p m.A m.c := by
  have hb := h.bd
  exact pktAt_of h.by_.own hb.byt (by have := hb.len; omega) hb.bk hb.bp hb.bn hb.bo hb.bf hb.bs hb.bl
theorem EvM.mine.own {m : EvM} (h : m.mine w L) : m.own w 0 := ⟨h.bd, h.b1.own, h.b2.own⟩
theorem PkRow.keep {ms : List PkM} (h : PkRow w L i v ms) (ht : Tn w w' L L' S) (hi : ¬ S i) (h0 : ¬ S 0) : PkRow w' L' i v ms :=
  ⟨ht.ownsRow h.row h.lab hi, fun m hm => (h.each m hm).keep ht h0, h.lab.keep ht (fun g hg => (World.ownsRow.lt h.row g hg).2)⟩
theorem EvR.keep {ms : List EvM} (h : EvR w L i v ms) (ht : Tn w w' L L' S) (hi : ¬ S i) (h0 : ¬ S 0) : EvR w' L' i v ms :=
  ⟨ht.ownsRow h.row h.lab hi, fun m hm => (h.each m hm).keep ht h0, h.lab.keep ht (fun g hg => (World.ownsRow.lt h.row g hg).2)⟩
theorem PkLs.keep {ps : List Pkt} (h : PkLs w L i v ps) (ht : Tn w w' L L' S) (hi : ¬ S i) (h0 : ¬ S 0) : PkLs w' L' i v ps := by
  obtain ⟨ms, h1, h2⟩ := h
  exact ⟨ms, h1, h2.keep ht hi h0⟩
theorem EvLs.keep {es : List Ev} (h : EvLs w L i v es) (ht : Tn w w' L L' S) (hi : ¬ S i) (h0 : ¬ S 0) : EvLs w' L' i v es := by
  obtain ⟨ms, h1, h2⟩ := h
  exact ⟨ms, h1, h2.keep ht hi h0⟩
theorem PkLs.nil (w : World) (L : Lab) (i : Nat) : PkLs w L i (.slice none 0 0) [] := ⟨[], rfl, World.ownsRow_nil _ _ _ _, by simp, OfV.nil⟩
theorem EvLs.nil (w : World) (L : Lab) (i : Nat) : EvLs w L i (.slice none 0 0) [] := ⟨[], rfl, World.ownsRow_nil _ _ _ _, by simp, OfV.nil⟩
theorem PkLs.form {ps : List Pkt} (h : PkLs w L i v ps) : ∃ A c, v = .slice A ps.length c := by
  obtain ⟨ms, rfl, h⟩ := h
  rw [List.length_map]
  rcases h.row.2 with ⟨rfl, h0⟩ | ⟨g, cap, cur, rfl, _⟩
  · exact ⟨none, 0, by rw [h0]⟩
  · exact ⟨_, _, rfl⟩
theorem EvLs.form {es : List Ev} (h : EvLs w L i v es) : ∃ A c, v = .slice A es.length c := by
  obtain ⟨ms, rfl, h⟩ := h
  rw [List.length_map]
  rcases h.row.2 with ⟨rfl, h0⟩ | ⟨g, cap, cur, rfl, _⟩
  · exact ⟨none, 0, by rw [h0]⟩
  · exact ⟨_, _, rfl⟩
theorem PkLs.lab {ps : List Pkt} (h : PkLs w L i v ps) : OfV L i v := by
  obtain ⟨ms, _, h⟩ := h
  exact h.lab
theorem EvLs.lab {es : List Ev} (h : EvLs w L i v es) : OfV L i v := by
  obtain ⟨ms, _, h⟩ := h
  exact h.lab
theorem PkLs.lt {ps : List Pkt} (h : PkLs w L i v ps) : ∀ g, v.ownBlock = some g → g < w.heap.size := by
  obtain ⟨ms, _, h⟩ := h
  exact fun g hg => (World.ownsRow.lt h.row g hg).2
theorem EvLs.lt {es : List Ev} (h : EvLs w L i v es) : ∀ g, v.ownBlock = some g → g < w.heap.size := by
  obtain ⟨ms, _, h⟩ := h
  exact fun g hg => (World.ownsRow.lt h.row g hg).2
theorem run_appEv {es : List Ev} (h : EvLs w L i v es) {m : EvM} (hm : m.mine w L) (hi0 : i ≠ 0) (n : Nat) (hn : es.length = n) (ad : Addr) (cc : Nat) (hl : ∀ j u, m.cs[j]? = some u → w.cell? (ad.add j) = some u) (hb : n ≤ 549755813888) (ty : TypeId) :
    ∃ A' c' w', (Builtin.append_ #[51, 51] ty #[v, .slice (some ad) 1 cc]).run Tryz.prog w = .ok (.slice A' (n + 1) c') w' ∧ EvLs w' (relab L w.heap.size i) i (.slice A' (n + 1) c') (es ++ [m.e]) ∧ w.grownBy w' v.ownBlock := by
  obtain ⟨ms, rfl, h⟩ := h
  rw [List.length_map] at hn
  subst hn
  obtain ⟨A', c', w', h1, h2, h3, h4⟩ := run_appN (P := Tryz.prog) w 0 51 ty 88 _ 12 128 Tryz.underlying51 info_ev rfl (by omega) v ms.length (evs ms) h.row ad 1 cc m.cs rfl hl m.cs_one (by unfold maxLen; omega) (by omega) (Nat.zero_le _)
  refine ⟨A', c', w', h1, ⟨ms ++ [m], by simp, ?_, fun x hx => ?_, h.lab.row h4⟩, h3⟩
  · rw [List.length_append, List.length_singleton, evs_app]
    simpa [evs] using h2
  · have ht := Tn.of_row (S := fun x => x = i) h3 h.lab rfl
    rcases List.mem_append.1 hx with hx | hx
    · exact (h.each x hx).keep ht (fun e => hi0 e.symm)
    · simp at hx
      subst hx
      exact hm.keep ht (fun e => hi0 e.symm)
end
end Go.Proofs.YtpjlnpnadkbakaaGreat
namespace Go.Proofs.YtpjlnpnadkbakaaGreat
set_option maxRecDepth 10000
open Go.RowKit
theorem quiet_eq {P : Program} {f : Nat} {args : Array Value} {w : World} {n : Nat} {v : Value} (h : Calls P f args (w.drewN n) fun e w' => e = .returned v ∧ w.drewN n = w') :
    Calls P f args (w.drewN n) fun e w'' => e = .returned v ∧ ∃ m, w'' = w.drewN m := Calls.quiet_of_same (h.mono fun _ _ ⟨h1, h2⟩ => ⟨h1, h2.symm⟩)
theorem grown_drew {w w' : World} {r : Option Nat} (h : w.grownBy w' r) : w.grownBy w'.drew r := ⟨h.os, h.tape, h.output, h.size, h.block⟩
end Go.Proofs.YtpjlnpnadkbakaaGreat
namespace Go.Proofs.YtpjlnpnadkbakaaGreat
set_option maxRecDepth 10000
open Go.RowKit
def guF (g : Gs) (i : Nat) : Value := if i = 0 then .int .i64 g.first else if i = 1 then .bool g.sm else if i = 2 then .int .i64 g.mean else if i = 3 then .int .i64 g.spread else .int .i64 (g.late : Nat)
def Gu (w : World) (p : Nat) (g : Gs) : Prop := w.rowIs p 238 5 (guF g)
section
variable {w w' : World} {p : Nat} {g : Gs}
theorem Gu.lt (h : Gu w p g) : p < w.heap.size := World.rowIs.lt h
theorem Gu.drewN (h : Gu w p g) (n : Nat) : Gu (w.drewN n) p g := h
theorem Gu.drew (h : Gu w p g) : Gu w.drew p g := h
theorem Gu.later (h : Gu w p g) (hb : Below w.heap.size w w') : Gu w' p g := World.rowIs.of_block h (hb.block p h.lt)
theorem Gu.other {q : Nat} (h : Gu w p g) (hne : p ≠ q) (hg : w.grownBy w' (some q)) : Gu w' p g := World.rowIs.of_block h (hg.block p h.lt (by simp; omega))
theorem Gu.c0 (h : Gu w p g) : w.cell? ⟨p, 0, none⟩ = some (.int .i64 g.first) := World.rowIs.cell (i := 0) h (by omega)
theorem Gu.c1 (h : Gu w p g) : w.cell? ⟨p, 0 + 1, none⟩ = some (.bool g.sm) := World.rowIs.cell (i := 1) h (by omega)
theorem Gu.c2 (h : Gu w p g) : w.cell? ⟨p, 0 + 2, none⟩ = some (.int .i64 g.mean) := World.rowIs.cell (i := 2) h (by omega)
theorem Gu.c3 (h : Gu w p g) : w.cell? ⟨p, 0 + 3, none⟩ = some (.int .i64 g.spread) := World.rowIs.cell (i := 3) h (by omega)
theorem Gu.c4 (h : Gu w p g) : w.cell? ⟨p, 0 + 4, none⟩ = some (.int .i64 (g.late : Nat)) := World.rowIs.cell (i := 4) h (by omega)
theorem Gu.fr (h : Gu w p g) (i : Nat) : w.frozen? ⟨p, i, none⟩ = false := World.rowIs.frozen h i
theorem Gu.set1 (h : Gu w p g) (b : Bool) : Gu (w.setCell ⟨p, 0 + 1, none⟩ (.bool b)) p ⟨g.first, b, g.mean, g.spread, g.late⟩ := (h.set 1 _).congr fun i hi => by
  have : i = 0 ∨ i = 1 ∨ i = 2 ∨ i = 3 ∨ i = 4 := by omega
  rcases this with rfl | rfl | rfl | rfl | rfl <;> simp [guF]
theorem Gu.set2 (h : Gu w p g) (x : Int) : Gu (w.setCell ⟨p, 0 + 2, none⟩ (.int .i64 x)) p ⟨g.first, g.sm, x, g.spread, g.late⟩ := (h.set 2 _).congr fun i hi => by
  have : i = 0 ∨ i = 1 ∨ i = 2 ∨ i = 3 ∨ i = 4 := by omega
  rcases this with rfl | rfl | rfl | rfl | rfl <;> simp [guF]
theorem Gu.set3 (h : Gu w p g) (x : Int) : Gu (w.setCell ⟨p, 0 + 3, none⟩ (.int .i64 x)) p ⟨g.first, g.sm, g.mean, x, g.late⟩ := (h.set 3 _).congr fun i hi => by
  have : i = 0 ∨ i = 1 ∨ i = 2 ∨ i = 3 ∨ i = 4 := by omega
  rcases this with rfl | rfl | rfl | rfl | rfl <;> simp [guF]
theorem Gu.set4 (h : Gu w p g) (x : Int) (k : Nat) (hx : x = (k : Int)) : Gu (w.setCell ⟨p, 0 + 4, none⟩ (.int .i64 x)) p ⟨g.first, g.sm, g.mean, g.spread, k⟩ := (h.set 4 _).congr fun i hi => by
  subst hx
  have : i = 0 ∨ i = 1 ∨ i = 2 ∨ i = 3 ∨ i = 4 := by omega
  rcases this with rfl | rfl | rfl | rfl | rfl <;> simp [guF]
end
theorem rwithin_any (n lo hi : Int) (w : World) : Calls Tryz.prog 236 #[.int .i64 n, .int .i64 lo, .int .i64 hi] w fun e w' => e = .returned (.int .i64 (clampI n lo hi)) ∧ w = w' := by
  have hm := run_max2 n lo _ rfl
  obtain ⟨M, hM⟩ : ∃ M, max n lo = M := ⟨_, rfl⟩
  rw [hM] at hm
  have hn := run_min2 M hi _ rfl
  obtain ⟨K, hK⟩ : ∃ K, min M hi = K := ⟨_, rfl⟩
  rw [hK] at hn
  have e : clampI n lo hi = K := by unfold clampI; rw [hM, hK]
  rw [e]
  clear e hM hK
  go_enter Tryz.func236, Tryz.ntmps236
  go_wp2
  go_ret
  exact ⟨rfl, rfl⟩
theorem distance_any (a b : Int) (w : World) (h1 : 0 ≤ a) (h2 : a ≤ 1048576) (h3 : 0 ≤ b) (h4 : b ≤ 1048576) : Calls Tryz.prog 237 #[.int .i64 a, .int .i64 b] w fun e w' => e = .returned (.int .i64 (max (a - b) (b - a))) ∧ w = w' := by
  have hm := run_max2 (a - b) (b - a) _ rfl
  obtain ⟨M, hM⟩ : ∃ M, max (a - b) (b - a) = M := ⟨_, rfl⟩
  rw [hM] at hm ⊢
  clear hM
  go_enter Tryz.func237, Tryz.ntmps237
  go_wp2
  go_ret
  exact ⟨rfl, rfl⟩
theorem newgu_any (f : Int) (w : World) : Calls Tryz.prog 167 #[.int .i64 f] w fun e w' => e = .returned (.pointer (some ⟨w.heap.size, 0, none⟩)) ∧ Gu w' w.heap.size (Gs.new f) ∧ Below w.heap.size w w' ∧ w'.heap.size = w.heap.size + 1 := by
  have e : Gs.new f = ⟨clampI f 1 64, false, 0, 0, 0⟩ := rfl
  rw [e]
  go_enter Tryz.func167, Tryz.ntmps167
  go_wp2_with (go_at_call 236; refine (rwithin_any _ _ _ _).mono ?_; rintro e w' ⟨rfl, rfl⟩)
  go_ret
  refine ⟨rfl, ?_, (Below.refl _ _).alloc (Nat.le_refl _) _, by simp⟩
  exact World.rowIs_alloc w _ _ _ (fun i hi => by
    have : i < 5 := hi
    match i, this with
    | 0, _ | 1, _ | 2, _ | 3, _ | 4, _ => rfl)
section
variable {w : World} {p : Nat} {g : Gs}
theorem gumean_any (h : Gu w p g) : Calls Tryz.prog 204 #[.pointer (some ⟨p, 0, none⟩)] w fun e w' => e = .returned (.int .i64 g.mean) ∧ w = w' := by
  have c2 := h.c2
  clear h
  go_enter Tryz.func204, Tryz.ntmps204
  go_wp2
  go_ret
  exact ⟨rfl, rfl⟩
set_option maxHeartbeats 400000 in
theorem gusample_any (n : Int) (h : Gu w p g) (hok : g.ok) : Calls Tryz.prog 157 #[.pointer (some ⟨p, 0, none⟩), .int .i64 n] w fun e w' => e = .returned (.tuple #[]) ∧ Gu w' p (g.sample n) ∧ w.grownBy w' (some p) := by
  have hcl := fun w => rwithin_any n 0 1048576 w
  have hs : g.sample n = ⟨g.first, true, g.mn (clampI n 0 1048576), g.sp (clampI n 0 1048576), 0⟩ := rfl
  rw [hs]
  have c1 := clampI_ge (n := n) (lo := 0) (hi := 1048576) (by decide)
  have c2 := clampI_le n 0 1048576
  obtain ⟨N, hN⟩ : ∃ N, clampI n 0 1048576 = N := ⟨_, rfl⟩
  rw [hN] at hcl c1 c2 ⊢
  clear hN hs
  have HC := Lib.hid hcl
  have m1 := hok.m1
  have m2 := hok.m2
  have s1 := hok.s1
  have s2 := hok.s2
  obtain ⟨first, sm, mean, spread, late⟩ := g
  simp only at m1 m2 s1 s2
  clear hok hcl
  have H := Lib.hid h
  have e1 := h.c1
  have e2 := h.c2
  have e3 := h.c3
  have e4 := h.c4
  have f1 := h.fr (0 + 1)
  have f2 := h.fr (0 + 2)
  have f3 := h.fr (0 + 3)
  have f4 := h.fr (0 + 4)
  simp only at e1 e2 e3 e4
  clear h
  cases sm
  · go_enter Tryz.func157, Tryz.ntmps157
    go_wp2_with (go_at_call 236; refine (HC.out _).mono ?_; rintro e w' ⟨rfl, rfl⟩)
    go_end0
    exact ⟨rfl, (((H.out.set2 N).set3 (N / 2)).set1 true).set4 0 0 rfl, (((setCell_one _ _ _ _).trans (setCell_one _ _ _ _)).trans (setCell_one _ _ _ _)).trans (setCell_one _ _ _ _)⟩
  · go_enter Tryz.func157, Tryz.ntmps157
    go_wp2_with (go_at_call 236; refine (HC.out _).mono ?_; rintro e w' ⟨rfl, rfl⟩)
    have D := Lib.hid (fun w => distance_any mean N w m1 m2 c1 c2)
    obtain ⟨d, hd⟩ : ∃ d, max (mean - N) (N - mean) = d := ⟨_, rfl⟩
    rw [hd] at D
    have d1 : 0 ≤ d := by omega
    have d2 : d ≤ 1048576 := by omega
    have HD := Lib.hid hd
    clear hd
    have q1 := Lib.hid (show IntKind.i64.wrap (3 * spread) = 3 * spread from IntWalk.i64_in _ (by constructor <;> omega))
    have q2 := Lib.hid (show IntKind.i64.wrap (3 * spread + d) = 3 * spread + d from IntWalk.i64_in _ (by constructor <;> omega))
    have q3 := Lib.hid (show (3 * spread + d).tdiv 4 = (3 * spread + d) / 4 from Int.tdiv_eq_ediv_of_nonneg (by omega))
    obtain ⟨s', hs'⟩ : ∃ s', (3 * spread + d) / 4 = s' := ⟨_, rfl⟩
    have t1 : 0 ≤ s' := by omega
    have t2 : s' ≤ 1048576 := by omega
    have q4 := Lib.hid (show IntKind.i64.wrap s' = s' from IntWalk.i64_in _ (by constructor <;> omega))
    have HS := Lib.hid hs'
    clear hs'
    go_region_with (go_at_call 237; refine (D.out _).mono ?_; rintro e w' ⟨rfl, rfl⟩)
    all_goals
      rw [q1.out, q2.out, q3.out, HS.out, q4.out]
      go_wp2
      go_end0
      refine ⟨rfl, ?_, grown_drew ((((setCell_one _ _ _ _).trans (setCell_one _ _ _ _)).trans (setCell_one _ _ _ _)).trans (setCell_one _ _ _ _))⟩
      have hg := (((H.out.set3 s').set2 ((7 * mean + N) / 8)).set1 true).set4 0 0 rfl
      have hmn : (⟨first, true, mean, spread, late⟩ : Gs).mn N = (7 * mean + N) / 8 := rfl
      have hsp : (⟨first, true, mean, spread, late⟩ : Gs).sp N = s' := by rw [← HS.out, ← HD.out]; rfl
      rw [hmn, hsp]
      exact hg.drew
end
end Go.Proofs.YtpjlnpnadkbakaaGreat
namespace Go.Proofs.YtpjlnpnadkbakaaGreat
set_option maxRecDepth 10000
open Go.RowKit
def wnF (g : Wn) (i : Nat) : Value := if i = 0 then .int .i64 g.most else if i = 1 then .int .i64 g.size else if i = 2 then .int .i64 g.turn else .int .i64 g.count
def WnA (ty : TypeId) (w : World) (p : Nat) (g : Wn) : Prop := w.rowIs p ty 4 (wnF g)
section
variable {ty : TypeId} {w w' : World} {p : Nat} {g : Wn}
theorem WnA.lt (h : WnA ty w p g) : p < w.heap.size := World.rowIs.lt h
theorem WnA.drewN (h : WnA ty w p g) (n : Nat) : WnA ty (w.drewN n) p g := h
theorem WnA.drew (h : WnA ty w p g) : WnA ty w.drew p g := h
theorem WnA.later (h : WnA ty w p g) (hb : Below w.heap.size w w') : WnA ty w' p g := World.rowIs.of_block h (hb.block p h.lt)
theorem WnA.other {q : Nat} (h : WnA ty w p g) (hne : p ≠ q) (hg : w.grownBy w' (some q)) : WnA ty w' p g := World.rowIs.of_block h (hg.block p h.lt (by simp; omega))
theorem WnA.c0 (h : WnA ty w p g) : w.cell? ⟨p, 0, none⟩ = some (.int .i64 g.most) := World.rowIs.cell (i := 0) h (by omega)
theorem WnA.c1 (h : WnA ty w p g) : w.cell? ⟨p, 0 + 1, none⟩ = some (.int .i64 g.size) := World.rowIs.cell (i := 1) h (by omega)
theorem WnA.c2 (h : WnA ty w p g) : w.cell? ⟨p, 0 + 2, none⟩ = some (.int .i64 g.turn) := World.rowIs.cell (i := 2) h (by omega)
theorem WnA.c3 (h : WnA ty w p g) : w.cell? ⟨p, 0 + 3, none⟩ = some (.int .i64 g.count) := World.rowIs.cell (i := 3) h (by omega)
theorem WnA.fr (h : WnA ty w p g) (i : Nat) : w.frozen? ⟨p, i, none⟩ = false := World.rowIs.frozen h i
theorem WnA.set1 (h : WnA ty w p g) (x : Int) : WnA ty (w.setCell ⟨p, 0 + 1, none⟩ (.int .i64 x)) p ⟨g.most, x, g.turn, g.count⟩ := (h.set 1 _).congr fun i hi => by
  have : i = 0 ∨ i = 1 ∨ i = 2 ∨ i = 3 := by omega
  rcases this with rfl | rfl | rfl | rfl <;> simp [wnF]
theorem WnA.set2 (h : WnA ty w p g) (x : Int) : WnA ty (w.setCell ⟨p, 0 + 2, none⟩ (.int .i64 x)) p ⟨g.most, g.size, x, g.count⟩ := (h.set 2 _).congr fun i hi => by
  have : i = 0 ∨ i = 1 ∨ i = 2 ∨ i = 3 := by omega
  rcases this with rfl | rfl | rfl | rfl <;> simp [wnF]
theorem WnA.set3 (h : WnA ty w p g) (x : Int) : WnA ty (w.setCell ⟨p, 0 + 3, none⟩ (.int .i64 x)) p ⟨g.most, g.size, g.turn, x⟩ := (h.set 3 _).congr fun i hi => by
  have : i = 0 ∨ i = 1 ∨ i = 2 ∨ i = 3 := by omega
  rcases this with rfl | rfl | rfl | rfl <;> simp [wnF]
end
abbrev Wi := WnA 240
theorem newwi_any (m : Int) (w : World) : Calls Tryz.prog 168 #[.int .i64 m] w fun e w' => e = .returned (.pointer (some ⟨w.heap.size, 0, none⟩)) ∧ Wi w' w.heap.size (Wn.new m) ∧ Below w.heap.size w w' ∧ w'.heap.size = w.heap.size + 1 := by
  have hm := run_max2 m 1 _ rfl
  obtain ⟨M, hM⟩ : ∃ M, max m 1 = M := ⟨_, rfl⟩
  rw [hM] at hm
  have hn := run_min2 M 16 _ rfl
  obtain ⟨K, hK⟩ : ∃ K, min M 16 = K := ⟨_, rfl⟩
  rw [hK] at hn
  have ht := run_min2 2 K _ rfl
  obtain ⟨S, hS⟩ : ∃ S, min 2 K = S := ⟨_, rfl⟩
  rw [hS] at ht
  have e : Wn.new m = ⟨K, S, K, 0⟩ := by unfold Wn.new clampI; rw [hM, hK, hS]
  rw [e]
  clear e hM hK hS
  go_enter Tryz.func168, Tryz.ntmps168
  go_wp2
  go_ret
  refine ⟨rfl, ?_, (Below.refl _ _).alloc (Nat.le_refl _) _, by simp⟩
  exact World.rowIs_alloc w _ _ _ (fun i hi => by
    have : i < 4 := hi
    match i, this with
    | 0, _ | 1, _ | 2, _ | 3, _ => rfl)
section
variable {w : World} {p : Nat} {g : Wn}
theorem wiroom_any (n : Int) (h : Wi w p g) : Calls Tryz.prog 256 #[.pointer (some ⟨p, 0, none⟩), .int .i64 n] w fun e w' => e = .returned (.bool (decide (n < g.size))) ∧ w = w' := by
  have c1 := h.c1
  clear h
  go_enter Tryz.func256, Tryz.ntmps256
  go_wp2
  go_ret
  exact ⟨rfl, rfl⟩
set_option maxHeartbeats 400000 in
theorem wiack_any (h : Wi w p g) (hok : g.ok) : Calls Tryz.prog 159 #[.pointer (some ⟨p, 0, none⟩)] w fun e w' => e = .returned (.tuple #[]) ∧ Wi w' p g.ack ∧ w.grownBy w' (some p) := by
  obtain ⟨most, size, turn, count⟩ := g
  obtain ⟨m1, m2, s1, s2, t1, t2, k1, k2⟩ := hok
  simp only at m1 m2 s1 s2 t1 t2 k1 k2
  have H := Lib.hid h
  have e0 := h.c0
  have e1 := h.c1
  have e2 := h.c2
  have e3 := h.c3
  have f1 := h.fr (0 + 1)
  have f3 := h.fr (0 + 3)
  simp only at e0 e1 e2 e3
  clear h
  have hm := run_min2 (size + 1) most _ rfl
  by_cases hlt : size < turn
  · have hg : (⟨most, size, turn, count⟩ : Wn).ack = ⟨most, size + 1, turn, count⟩ := if_pos hlt
    rw [hg]
    have hS : min (size + 1) most = size + 1 := by omega
    rw [hS] at hm
    clear hg hS
    go_enter Tryz.func159, Tryz.ntmps159
    go_wp2_with fail
    go_region
    all_goals
      go_wp2
      refine bodyPost_ret (results_none rfl _ _ _) rfl ?_
      exact ⟨rfl, (H.out.set1 _).drew, grown_drew (setCell_one _ _ _ _)⟩
  · by_cases heq : count + 1 = size
    · have hg : (⟨most, size, turn, count⟩ : Wn).ack = ⟨most, min (size + 1) most, turn, 0⟩ := by
        unfold Wn.ack
        rw [if_neg hlt, if_pos heq]
      rw [hg]
      obtain ⟨S, hS⟩ : ∃ S, min (size + 1) most = S := ⟨_, rfl⟩
      rw [hS] at hm ⊢
      clear hg hS
      go_enter Tryz.func159, Tryz.ntmps159
      go_wp2_with fail
      go_region
      all_goals
        go_wp2
        go_region
        all_goals
          go_wp2
          go_region
          all_goals
            first
            | go_end0
              first
              | exact ⟨rfl, ((((H.out.drew.set3 _).drew.set1 S).set3 0)).drew, grown_drew (((grown_drew ((grown_drew (setCell_one _ _ _ _)))).trans (setCell_one _ _ _ _)).trans (setCell_one _ _ _ _))⟩
    · have hg : (⟨most, size, turn, count⟩ : Wn).ack = ⟨most, size, turn, count + 1⟩ := by
        unfold Wn.ack
        rw [if_neg hlt, if_neg heq]
      rw [hg]
      have hgt : ¬ (count + 1 ≥ size) := by omega
      clear hg hm
      go_enter Tryz.func159, Tryz.ntmps159
      go_wp2_with fail
      go_region
      all_goals
        go_wp2
        go_region
        all_goals
          go_wp2
          go_end0
          exact ⟨rfl, (H.out.set3 _).drew.drew, grown_drew (grown_drew (setCell_one _ _ _ _))⟩
end
section
variable {w : World} {p : Nat} {g : Wn}
end
end Go.Proofs.YtpjlnpnadkbakaaGreat
namespace Go.Proofs.YtpjlnpnadkbakaaGreat
set_option maxRecDepth 10000
open Go.RowKit
def st4 (w : World) (b : Nat) (q : Qd) : World := (((w.setCell ⟨b, 0, none⟩ (.int .i64 q.n)).setCell ⟨b, 1, none⟩ (.int .i64 q.f)).setCell ⟨b, 2, none⟩ (.int .i64 q.t)).setCell ⟨b, 3, none⟩ (.int .i64 q.a)
theorem st4_trn (w : World) (b : Nat) (q : Qd) : Trn w (st4 w b q) (fun k => k = b) := by
  have h : ∀ (w : World) i v, Trn w (w.setCell ⟨b, i, none⟩ v) (fun k => k = b) := fun w i v => (Trn.of_grown (setCell_one w b i v)).mono (fun k _ hk => (Option.some.inj hk).symm)
  exact (((h _ _ _).trans (h _ _ _) (fun _ h => h) (fun _ _ h => h)).trans (h _ _ _) (fun _ h => h) (fun _ _ h => h)).trans (h _ _ _) (fun _ h => h) (fun _ _ h => h)
def qdF (q : Qd) (i : Nat) : Value := .int .i64 (if i = 0 then q.n else if i = 1 then q.f else if i = 2 then q.t else q.a)
theorem st4_row {w : World} {b : Nat} {t : TypeId} {f : Nat → Value} (h : w.rowIs b t 4 f) (q : Qd) : (st4 w b q).rowIs b t 4 (qdF q) :=
  ((((h.set 0 _).set 1 _).set 2 _).set 3 _).congr fun i hi => by
    have : i = 0 ∨ i = 1 ∨ i = 2 ∨ i = 3 := by omega
    rcases this with rfl | rfl | rfl | rfl <;> simp [qdF]
theorem row4_new (w : World) (t : TypeId) (q : Qd) : (w.alloc (.cells #[.int .i64 q.n, .int .i64 q.f, .int .i64 q.t, .int .i64 q.a] t)).rowIs w.heap.size t 4 (qdF q) := World.rowIs_alloc w _ _ _ (fun i hi => by
    have : i < 4 := hi
    match i, this with
    | 0, _ | 1, _ | 2, _ | 3, _ => rfl)
theorem row4_cells {w : World} {b : Nat} {t : TypeId} {q : Qd} (h : w.rowIs b t 4 (qdF q)) : Bx w b q :=
  ⟨h.cell (i := 0) (by omega), h.cell (i := 1) (by omega), h.cell (i := 2) (by omega), h.cell (i := 3) (by omega)⟩
theorem row4_load {P : Program} {w : World} {b : Nat} {t : TypeId} {q : Qd} (h : w.rowIs b t 4 (qdF q)) (ty : TypeId) (d : TypeDesc) (hu : P.underlying ty = some d) (hd : d.isRow = true) (hi : (P.info? ty).map (·.size) = some 4) :
    (loadVar ty ⟨b, 0, none⟩).run P w = .ok (qv q) w := by
  have hc : w.rangeAt b 0 (qd q) := fun j v hv => by
    rw [Nat.zero_add]
    have hj : j < 4 := by have := (List.getElem?_eq_some_iff.1 hv).1; simpa [qd] using this
    have h1 := h.cell (i := j) hj
    rw [h1, ← hv]
    match j, hj with
    | 0, _ | 1, _ | 2, _ | 3, _ => rfl
  exact run_loadVar_mid w b 0 ty (qd q) d hc hu hd hi
theorem size_fo : (Tryz.prog.info? tOutP).map (·.size) = some 4 := by kernel_rfl
theorem sizeFo (w : World) : (Go.sizeOf (Tryz.prog.elem 107)).run Tryz.prog w = .ok 4 w := by
  obtain ⟨i, hi, _, h2, _⟩ := info_parts info_fo
  show (Go.sizeOf tOutP).run Tryz.prog w = .ok 4 w
  simp [sizeOf, typeInfo, hi, h2]
theorem zeroFo (w : World) : (zeroValue tOutP).run Tryz.prog w = .ok (.agg #[.int .i64 0, .int .i64 0, .int .i64 0, .int .i64 0]) w := by
  obtain ⟨i, hi, h0, _⟩ := info_parts info_fo
  simp [zeroValue, typeInfo, hi, h0]
section
variable {w : World} {B p : Nat} {v : Value} {ps : List Qd}
set_option maxHeartbeats 1000000 in
theorem fldelete_any (g n c i j : Nat) (h : OwnQ tOutP w B (.slice (some ⟨g, 0, none⟩) n c) ps) (hj : j = i + 1) (hi : i < n) :
    Calls Tryz.prog 235 #[.slice (some ⟨g, 0, none⟩) n c, .int .i64 (i : Nat), .int .i64 (j : Nat)] w fun e w' => e = .returned (.slice (some ⟨g, 0, none⟩) (n - 1) c) ∧ OwnQ tOutP w' B (.slice (some ⟨g, 0, none⟩) (n - 1) c) (goneQ ps i) ∧ w.grownBy w' (some g) := by
  have hcap := h.cap
  have hlen := h.len
  obtain ⟨m, hm⟩ : ∃ m, n = j + m := ⟨n - j, by omega⟩
  obtain ⟨T, hT⟩ : ∃ T, T = i + m := ⟨_, rfl⟩
  obtain ⟨S, hS⟩ : ∃ S, (if c = j then some (⟨g, 0, none⟩ : Addr) else (some (⟨g, 0, none⟩ : Addr)).map (·.add (j * 4))) = S := ⟨_, rfl⟩
  have hsrc : 0 < m → ∃ ad, S = some ad ∧ ∀ k u, (qds (ps.drop j))[k]? = some u → w.drew.cell? (ad.add k) = some u := fun h0 => by
    rw [if_neg (by omega)] at hS
    refine ⟨⟨g, j * 4, none⟩, by rw [← hS]; simp [Addr.add_lit], ?_⟩
    exact h.src j
  have happ := run_app4_fits (P := Tryz.prog) w.drew 107 107 tOutP _ Tryz.underlying107 info_fo B g i c (ps.take i) (h.cut i (by omega)) S m (c - j) (ps.drop j) (by rw [List.length_drop]; omega) hsrc (by omega)
  obtain ⟨w1, happ, ho1, hg1⟩ := happ
  have e1 : ps.take i ++ ps.drop j = goneQ ps i := by rw [hj]; rfl
  rw [e1, ← hT] at ho1
  rw [← hT] at happ
  obtain ⟨_, cur, hh, hc4, ht4, hBg, _, hcm, hgl⟩ := ho1.heap
  obtain ⟨w2, Z, hclr, hZ, hz2, hg2, _⟩ := run_clear4 (P := Tryz.prog) w1 107 tOutP _ Tryz.underlying107 zeroFo rfl (some ⟨g, T * 4, none⟩) 1 (c - T) g (T * 4) cur tOutP hh (fun _ => rfl) (by omega)
  have ho2 : OwnQ tOutP w2 B (.slice (some ⟨g, 0, none⟩) T c) (goneQ ps i) := OwnQ.of hBg hz2 hgl (by omega) hcm (by rw [length_splice _ _ _ (by omega)]; exact hc4) (by rw [splice_ahead4 _ _ _ _ (by omega) (Nat.le_refl _)]; exact ht4)
  have hl1 := fun W => slice_lhm4 (P := Tryz.prog) 107 Tryz.underlying107 sizeFo (some ⟨g, 0, none⟩) n c i j n (by omega) (by omega) hcap.1 W
  obtain ⟨X, hX⟩ : ∃ X, sliced (some (⟨g, 0, none⟩ : Addr)) i j n 4 = X := ⟨_, rfl⟩
  rw [hX] at hl1
  have hl2 := fun W => slice_h4 (P := Tryz.prog) 107 Tryz.underlying107 sizeFo (some ⟨g, 0, none⟩) n c i (by omega) W
  have hl3 := fun W => slice_l4 (P := Tryz.prog) 107 Tryz.underlying107 sizeFo (some ⟨g, 0, none⟩) n c j m hm.symm W
  rw [hS] at hl3
  have hl4 := fun W => slice_lh4 (P := Tryz.prog) 107 Tryz.underlying107 sizeFo (some ⟨g, 0, none⟩) T c T n 1 (by omega) hcap.1 W
  rw [if_neg (by omega)] at hl4
  have e2 : (some (⟨g, 0, none⟩ : Addr)).map (·.add (T * 4)) = some ⟨g, T * 4, none⟩ := by simp [Addr.add_lit]
  rw [e2] at hl4
  have e3 : n - 1 = T := by omega
  rw [e3]
  have hgg : w.grownBy w2 (some g) := ⟨hg2.os.trans hg1.os, hg2.tape.trans hg1.tape, hg2.output.trans hg1.output, Nat.le_trans hg1.size hg2.size, fun k hk hne => (hg2.block k (Nat.lt_of_lt_of_le hk hg1.size) hne).trans (hg1.block k hk hne)⟩
  have HE := Lib.hid (And.intro ho2 hgg)
  have j1 : ¬ ((i : Int) = (j : Int)) := by omega
  clear h hcap hlen hm hT hS hsrc ho1 hg1 e1 hh hc4 ht4 hBg hcm hgl hZ hz2 hg2 ho2 hX e2 e3 hgg hj hi
  go_enter Tryz.func235, Tryz.ntmps235
  go_wp2_with fail
  refine still_tail 6 (by kernel_rfl) (by kernel_rfl) ?_
  intro W hW
  rw [← hW] at happ
  clear hW
  simp only [List.take_succ_cons, List.take_zero, List.drop_succ_cons, List.drop_zero]
  repeat still_step
  refine wpStill_nil ?_
  refine wpList_app_r rfl _ _ 107 107 rfl _ _ rfl rfl happ ?_
  go_wp2_with fail
  go_ret
  exact ⟨rfl, HE.out⟩
set_option maxHeartbeats 1000000 in
theorem fltake_no (h : FlA tFl tOutP w B p v ps) (n : Int) (hno : NoneQ ps n) (hm : ps.length ≤ 1099511627775) :
    Calls Tryz.prog 156 #[.pointer (some ⟨p, 0, none⟩), .int .i64 n] w fun e w' => e = .returned (.tuple #[.agg #[.int .i64 0, .int .i64 0, .int .i64 0, .int .i64 0], .bool false]) ∧ Below w.heap.size w w' := by
  have hb := (Below.refl w.heap.size w).alloc (Nat.le_refl _) (.cells #[.int .i64 0, .int .i64 0, .int .i64 0, .int .i64 0] tOutP)
  have HF := Lib.hid (flfind_any (h.later hb) n (-1) (by omega) (.inr ⟨rfl, hno⟩))
  have HB := Lib.hid hb
  clear h hb hno hm
  go_enter Tryz.func156, Tryz.ntmps156
  go_wp2_with fail
  refine HF.out.mono ?_
  rintro e w2 ⟨rfl, hb⟩
  have HBB := Lib.hid (HB.out.trans (hb.mono (by rw [World.size_alloc]; omega)))
  have hr2 : w2.rowIs w.heap.size tOutP 4 (qdF qz) := (row4_new w tOutP qz).of_block (hb.block _ (by rw [World.size_alloc]; omega))
  obtain ⟨x0, x1, x2, x3⟩ := row4_cells hr2
  simp only [qz] at x0 x1 x2 x3
  have f0 : ∀ i, w2.frozen? ⟨w.heap.size, i, none⟩ = false := fun i => hr2.frozen i
  have HR := Lib.hid hr2
  clear hb HB HF hr2
  go_wp2_with fail
  change bodyPost _ _ _ _ _ (st4 w2 w.heap.size qz)
  refine bodyPost_ret (v := .tuple #[qv qz, .bool false]) ?_ rfl ⟨rfl, HBB.out.trans ((st4_trn w2 w.heap.size qz).below HBB.out.size (fun k hk => by omega))⟩
  rw [results_cell_tmp rfl]
  have hl := row4_load (P := Tryz.prog) (st4_row HR.out qz) tOutP _ Tryz.underlying181 rfl size_fo
  clear x0 x1 x2 x3 f0
  simp [asAddr, hl]
set_option maxHeartbeats 2000000 in
theorem fltake_yes (h : FlA tFl tOutP w B p v ps) (n : Int) (i : Nat) (hi : FirstQ ps n i) (q : Qd) (hq : ps.getD i qz = q) (hm : ps.length ≤ 1099511627775) :
    Calls Tryz.prog 156 #[.pointer (some ⟨p, 0, none⟩), .int .i64 n] w fun e w' => e = .returned (.tuple #[.agg #[.int .i64 q.n, .int .i64 q.f, .int .i64 q.t, .int .i64 q.a], .bool true]) ∧ ∃ v', FlA tFl tOutP w' B p v' (goneQ ps i) ∧ SC w w' (Fft p v) (Fft p v') := by
  obtain ⟨x, y, z, u⟩ := q
  simp only []
  have hb := (Below.refl w.heap.size w).alloc (Nat.le_refl _) (.cells #[.int .i64 0, .int .i64 0, .int .i64 0, .int .i64 0] tOutP)
  have HF := Lib.hid (flfind_any (h.later hb) n (i : Int) (by omega) (.inl ⟨i, rfl, hi⟩))
  have HB := Lib.hid hb
  have H := Lib.hid h
  obtain ⟨A, c, hv⟩ := h.own.form
  obtain ⟨N, hN⟩ : ∃ N, ps.length = N := ⟨_, rfl⟩
  have hin := hi.lt
  rw [hN] at hv hm hin
  have hown := h.own
  rw [hv] at hown
  obtain ⟨g, rfl, _⟩ := hown.at (by omega)
  have HV := Lib.hid hv
  have i0 : ¬ ((i : Int) < 0) := by omega
  have i1 : (i : Int) < (N : Int) := by omega
  have i2 : (0 : Int) ≤ (i : Int) := by omega
  have HIN := Lib.hid hin
  have HM := Lib.hid hm
  have HQ := Lib.hid hq
  obtain ⟨j, hj⟩ : ∃ j, j = i + 1 := ⟨_, rfl⟩
  have hiw : wrap64 ((i : Int) + 1) = (j : Int) := wrap_q (by omega) (by omega) (by omega)
  have HJ := Lib.hid hj
  clear h hb hi hm hv hown hN hin hq hj
  go_enter Tryz.func156, Tryz.ntmps156
  go_wp2_with fail
  refine HF.out.mono ?_
  rintro e w2 ⟨rfl, hb⟩
  have HBB := Lib.hid (HB.out.trans (hb.mono (by rw [World.size_alloc]; omega)))
  have hr2 : w2.rowIs w.heap.size tOutP 4 (qdF qz) := (row4_new w tOutP qz).of_block (hb.block _ (by rw [World.size_alloc]; omega))
  have hX := H.out.later HBB.out
  have c0 := hX.c0
  have hown := hX.own
  rw [HV.out] at c0 hown
  obtain ⟨y1, y2, y3, y4⟩ := hown.cells i HIN.out
  rw [HQ.out] at y1 y2 y3 y4
  simp only [] at y1 y2 y3 y4
  obtain ⟨W, hW⟩ : ∃ W, w2.alloc (.cells #[.int .i64 x, .int .i64 y, .int .i64 z, .int .i64 u] tOutP) = W := ⟨_, rfl⟩
  have hbW : Below w2.heap.size w2 W := by rw [← hW]; exact (Below.refl _ _).alloc (Nat.le_refl _) _
  have hXW := hX.later hbW
  have ho := hXW.own
  have d0 := hXW.c0
  rw [HV.out] at ho d0
  have HD := Lib.hid (fldelete_any g N c i j ho HJ.out HIN.out)
  have hrW : W.rowIs w2.heap.size tOutP 4 (qdF ⟨x, y, z, u⟩) := by rw [← hW]; exact row4_new w2 tOutP ⟨x, y, z, u⟩
  have hr2W := hr2.of_block (hbW.block _ hr2.lt)
  have HXW := Lib.hid hXW
  have HRW := Lib.hid hrW
  have HR2 := Lib.hid hr2W
  have HBW := Lib.hid (HBB.out.trans (hbW.mono HBB.out.size))
  have HNE := Lib.hid (show w.heap.size ≠ w2.heap.size from fun e => by have := hb.size; rw [World.size_alloc] at this; omega)
  have HGL := Lib.hid (show g < w.heap.size by have := (H.out.own.lt g (by rw [HV.out]; rfl)).2; exact this)
  have HPL := Lib.hid (show p < w.heap.size from H.out.lt)
  have HSZ := Lib.hid (show w.heap.size ≤ w2.heap.size from HBB.out.size)
  clear hb HB HF hr2 hX hown hbW hXW ho hrW hr2W
  go_wp2_with fail
  refine HD.out.mono ?_
  rintro e w3 ⟨rfl, ho3, hg3⟩
  have ht3 : Trn W w3 (fun k => v.ownBlock = some k) := (Trn.of_grown hg3).mono (fun k _ hk => by rw [HV.out]; exact hk)
  obtain ⟨a1, a2, a3, a4⟩ := HXW.out.put (by decide) ht3 ho3 (fun k hk => .inl (by rw [HV.out]; exact hk))
  rw [HV.out] at a1
  obtain ⟨w4, hw4⟩ : ∃ w4, w3.setCell ⟨p, 0, none⟩ (.slice (some ⟨g, 0, none⟩) (N - 1) c) = w4 := ⟨_, rfl⟩
  rw [hw4] at a3 a4
  have hk4 : ∀ k, w.heap.size ≤ k → k < W.heap.size → w4.heap[k]? = W.heap[k]? := fun k h1 h2 => a4.trn.block k h2 (by
    rintro (rfl | hk)
    · have := HPL.out; omega
    · rw [HV.out] at hk
      have := HGL.out
      simp only [Value.ownBlock, Option.some.injEq] at hk
      omega)
  have hr7 := HRW.out.of_block (hk4 _ HSZ.out HRW.out.lt)
  have hr0 := HR2.out.of_block (hk4 _ (Nat.le_refl _) HR2.out.lt)
  obtain ⟨e0, e1, e2, e3⟩ := row4_cells hr7
  obtain ⟨x0, x1, x2, x3⟩ := row4_cells hr0
  simp only [qz] at e0 e1 e2 e3 x0 x1 x2 x3
  have f0 : ∀ i, w4.frozen? ⟨w.heap.size, i, none⟩ = false := fun i => hr0.frozen i
  have HR0 := Lib.hid hr0
  have HF4 := Lib.hid a3
  have HS4 := Lib.hid a4
  clear ho3 hg3 ht3 a3 a4 hk4 hr7 hr0 HD HXW HRW HR2
  go_wp2_with fail
  change bodyPost _ _ _ _ _ (st4 w4 w.heap.size ⟨x, y, z, u⟩)
  have hst := st4_trn w4 w.heap.size ⟨x, y, z, u⟩
  refine bodyPost_ret (v := .tuple #[qv ⟨x, y, z, u⟩, .bool true]) ?_ rfl ⟨rfl, _, HF4.out.kept hst (fun k hk => ?_), ?_, ?_⟩
  · rw [results_cell_tmp rfl]
    have hl := row4_load (P := Tryz.prog) (st4_row HR0.out ⟨x, y, z, u⟩) tOutP _ Tryz.underlying181 rfl size_fo
    clear e0 e1 e2 e3 x0 x1 x2 x3 f0 hw4 hst
    simp [asAddr, hl]
  · have hgl := HGL.out
    have hpl := HPL.out
    rcases hk with rfl | hk
    · omega
    · simp only [Value.ownBlock, Option.some.injEq] at hk
      omega
  · refine (((Trn.of_below HBW.out).trans HS4.out.trn (F := Fft p v) (G := Fft p v) (fun _ h => h) (fun _ _ h => h)).trans hst (fun _ h => h) ?_)
    intro k hk e
    omega
  · intro k hk
    rcases hk with rfl | hk
    · exact .inl (.inl rfl)
    · exact .inl (.inr (by rw [HV.out]; exact hk))
end
end Go.Proofs.YtpjlnpnadkbakaaGreat
namespace Go.Proofs.YtpjlnpnadkbakaaGreat
set_option maxRecDepth 10000
open Go.RowKit
def Sep (F G : Nat → Prop) : Prop := ∀ k, F k → ¬ G k
section
variable {w w' : World} {F F' G : Nat → Prop}
theorem Sep.symm (h : Sep F G) : Sep G F := fun k hg hf => h k hf hg
theorem Sep.step {G' : Nat → Prop} (h : Sep F G) (hsc : SC w w' G G') (hlt : ∀ k, F k → k < w.heap.size) : Sep F G' := fun k hf => hsc.out (hlt k hf) (h k hf)
end
end Go.Proofs.YtpjlnpnadkbakaaGreat

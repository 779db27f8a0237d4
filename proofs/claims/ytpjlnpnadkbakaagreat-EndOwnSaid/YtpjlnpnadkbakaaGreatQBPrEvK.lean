/-
  PrEvK · PrScen · PrEvT · Within · ArgSetup · Config · PrCfg · PrTurnsP.
-/
import Derived.Test.YtpjlnpnadkbakaaGreatQBEnCallC
import Derived.Test.YtpjlnpnadkbakaaGreatQBPrEn17
import Derived.Test.YtpjlnpnadkbakaaGreatQBPrEn10
import Derived.Test.YtpjlnpnadkbakaaGreatRows
import Derived.Test.YtpjlnpnadkbakaaGreatQBCountMath
import Derived.Test.YtpjlnpnadkbakaaGreatQBMem
import Derived.WalkLawsBesides
import Derived.Deep.Slices
import Derived.ChangeSame
import Derived.ChangeArms
import Derived.OpenShut
import Derived.ChangeOld
import Derived.BigQuiet
import Derived.Lib.Hide
import Derived.Deep.MidRow
import Derived.Deep.RegionHeld3
import Derived.Deep.OwnRows
import Derived.Shelf.Abstract
import Derived.Deep.QuietTactic
namespace Go.Proofs.YtpjlnpnadkbakaaGreat
set_option maxRecDepth 10000
open Go.RowKit
namespace In
def finC (s : In) (k : Int) (b : Bool) : In :=
  if b && decide (s.en < 0) && decide (0 ≤ k) && decide (k ≤ 4096) && (List.range (s.tk + s.win - k).toNat).all (fun j => (s.g (k + (j : Int))).isNone) then s.shut k else s
theorem ends_iff {s : In} (h : s.ok) (k : Int) : s.ends k ↔ (s.en < 0 ∧ 0 ≤ k ∧ k ≤ 4096 ∧ ∀ j ∈ List.range (s.tk + s.win - k).toNat, s.g (k + (j : Int)) = none) := by
  unfold ends
  constructor
  · rintro ⟨h1, h2, h3, h4⟩
    exact ⟨h1, h2, h3, fun j _ => h4 _ (by omega)⟩
  · rintro ⟨h1, h2, h3, h4⟩
    refine ⟨h1, h2, h3, fun j hj => ?_⟩
    by_cases e : s.g j = none
    · exact e
    · have h5 := h.rng j e
      have h6 := h4 (j - k).toNat (List.mem_range.2 (by omega))
      rw [show k + ((j - k).toNat : Int) = j by omega] at h6
      exact h6
theorem fin_eq {s : In} (h : s.ok) (k : Int) (b : Bool) : s.fin k b = s.finC k b := by
  have hi := ends_iff h k
  unfold fin finC
  by_cases hb : b = true ∧ s.ends k
  · rw [if_pos hb]
    obtain ⟨h1, h2, h3, h4⟩ := hi.1 hb.2
    rw [if_pos (by simp only [Bool.and_eq_true, decide_eq_true_eq, List.all_eq_true]; exact ⟨⟨⟨⟨hb.1, h1⟩, h2⟩, h3⟩, fun j hj => by rw [h4 j hj]; rfl⟩)]
  · rw [if_neg hb, if_neg]
    intro hc
    simp only [Bool.and_eq_true, decide_eq_true_eq, List.all_eq_true] at hc
    obtain ⟨⟨⟨⟨h1, h2⟩, h3⟩, h4⟩, h5⟩ := hc
    exact hb ⟨h1, hi.2 ⟨h2, h3, h4, fun j hj => Option.isNone_iff_eq_none.1 (h5 j hj)⟩⟩
def putC (s : In) (f : Int) (ys : List Int) (b : Bool) : In := (s.steps f ys ys.length).1.finC (f + ys.length) b
theorem put_eq {s : In} (h : s.ok) (f : Int) (ys : List Int) (b : Bool) : s.put f ys b = s.putC f ys b := by
  unfold put putC
  exact fin_eq (steps_ok h f ys _) _ b
end In
namespace En
def cameC (E : En) (p : Pkt) : En :=
  let F := (E.note (evP 4 p)).count 3 1
  if p.k = 1 then (F.setP p.pa.toNat ((E.pa p.pa.toNat).setJo true)).say p.pa.toNat ⟨2, p.pa, 0, p.nu, 0, [], false, 0, 0⟩
  else if p.k = 2 then (F.setP p.pa.toNat ((E.pa p.pa.toNat).setJo true)).pump
  else if p.k = 3 then
    let G := F.setI (E.i.putC p.fr p.da p.fin)
    G.say p.pa.toNat ⟨4, p.pa, 0, p.nu, 0, [], false, G.i.seen, G.i.limit⟩
  else (((F.setP p.pa.toNat (ackP (E.pa p.pa.toNat) p.ofn E.now)).setO (E.o.ack p.se)).setLim (max E.limit p.li)).pump
def comeC (E : En) (p : Pkt) : En := if E.mayC p then E.cameC p else E.count 4 1
theorem come_eq {E : En} (h : E.ok) (p : Pkt) : E.come p = E.comeC p := by
  unfold come comeC came cameC
  rw [In.put_eq h.i]
end En
section
variable {w0 w w' : World} {L L' : Lab} {K b n : Nat} {E : En}
theorem EV.comeC (h : EV w0 w L K b E n) (hn : n ≤ 40000) (p : Pkt) (A : Option Addr) (c : Nat) (hp : PktAt w p A c) (ha : Aps w L K A) (hpb : PkB p) {r : Bool} (hr : E.mayC p = r) :
    Calls Tryz.prog 22 #[.pointer (some ⟨b, 0, none⟩), p.val A c] w (EvA w0 w L K b (E.comeC p) (n + 1) (.bool r)) := by
  rw [← En.come_eq h.ok]
  exact h.come hn p A c hp ha hpb hr
theorem EV.comeP (h : EV w0 w L K b E n) (hn : n ≤ 40000) (k pa nu ofn fr : Int) (fin : Bool) (se li : Int) (hb : ∀ x ∈ [k, pa, nu, ofn, fr, se, li], -4611686018427387904 ≤ x ∧ x ≤ 4611686018427387904) {r : Bool} (hr : E.mayC ⟨k, pa, nu, ofn, fr, [], fin, se, li⟩ = r) :
    Calls Tryz.prog 22 #[.pointer (some ⟨b, 0, none⟩), .agg #[.int .i64 k, .int .i64 pa, .int .i64 nu, .int .i64 ofn, .int .i64 fr, .slice none 0 0, .bool fin, .int .i64 se, .int .i64 li]] w (EvA w0 w L K b (E.comeC ⟨k, pa, nu, ofn, fr, [], fin, se, li⟩) (n + 1) (.bool r)) := by
  have h1 := hb k (by simp); have h2 := hb pa (by simp); have h3 := hb nu (by simp); have h4 := hb ofn (by simp); have h5 := hb fr (by simp); have h6 := hb se (by simp); have h7 := hb li (by simp)
  exact h.comeC hn ⟨k, pa, nu, ofn, fr, [], fin, se, li⟩ none 0 ⟨.inl rfl, by simp, by simp, fun _ => rfl, by simp, by simp only; omega, by simp only; omega, by simp only; omega, by simp only; omega, by simp only; omega, by simp only; omega, by simp only; omega⟩ (fun a e => by cases e) ⟨by simp, by simp, by simp only; omega, by simp only; omega, by simp only; omega, by simp only; omega, by simp only; omega, by simp only; omega, by simp only; omega⟩ hr
end
end Go.Proofs.YtpjlnpnadkbakaaGreat
namespace Go.Proofs.YtpjlnpnadkbakaaGreat
set_option maxRecDepth 10000
open Go.RowKit
def See (w : World) (L : Lab) (m : PkM) : Prop := PktAt w m.p m.A m.c ∧ ∀ a, m.A = some a → a.block < w.heap.size ∧ L a.block = 0
theorem See.keep {w w' : World} {L L' : Lab} {S : Nat → Prop} {m : PkM} (h : See w L m) (ht : Tn w w' L L' S) (h0 : ¬ S 0) : See w' L' m :=
  ⟨h.1.keepT ht h0 h.2, fun a e => ⟨Nat.lt_of_lt_of_le (h.2 a e).1 ht.size, ht.lab (h.2 a e).2 (h.2 a e).1⟩⟩
theorem See.plain (w : World) (L : Lab) (k pa nu ofn fr : Int) (fin : Bool) (se li : Int) (h : ∀ x ∈ [k, pa, nu, ofn, fr, se, li], -9223372036854775808 ≤ x ∧ x ≤ 9223372036854775807) : See w L ⟨⟨k, pa, nu, ofn, fr, [], fin, se, li⟩, none, 0⟩ :=
  ⟨⟨.inl rfl, by simp, by simp, fun _ => rfl, by simp, h k (by simp), h pa (by simp), h nu (by simp), h ofn (by simp), h fr (by simp), h se (by simp), h li (by simp)⟩, fun a e => by cases e⟩
theorem See.pkB {w : World} {L : Lab} {m : PkM} (h : See w L m) (hl : m.p.da.length ≤ 80) : PkB m.p := ⟨h.1.byt, hl, h.1.bk, h.1.bp, h.1.bn, h.1.bo, h.1.bf, h.1.bs, h.1.bl⟩
theorem see1 {w : World} {L : Lab} {a : PkM} (h : See w L a) : ∀ m ∈ [a], See w L m := fun m hm => by
  rw [List.mem_singleton] at hm
  subst hm
  exact h
theorem seeC {w : World} {L : Lab} {a : PkM} {l : List PkM} (h : See w L a) (hl : ∀ m ∈ l, See w L m) : ∀ m ∈ a :: l, See w L m := fun m hm => by
  rcases List.mem_cons.1 hm with rfl | hm
  · exact h
  · exact hl m hm
section
variable {w0 w w' : World} {L L' : Lab} {K b n : Nat} {E : En}
theorem EV.saidSee (h : EV w0 w L K b E n) (hn : n ≤ 40000) (ms : List PkM) (hm : ∀ m ∈ ms, See w L m) {cs : Array Value} {m q : Nat} (hcs : cs = (pks ms).toArray) (hq : w.heap.size = q) (hml : ms.length = m) {ps : List Pkt} (ho : E.out = ps) (hps : ps = ms.map PkM.p) (hl : ps.length ≤ maxLen) :
    Calls Tryz.prog 19 #[.pointer (some ⟨b, 0, none⟩), .slice (some ⟨q, 0, none⟩) m m] (w.alloc (.cells cs 32)) (EvA w0 w L K b E.taken n (.bool true)) :=
  h.saidLit hn ms (fun m h => (hm m h).1) (fun m h => (hm m h).2) hcs hq hml (by rw [ho]; exact hl) (by rw [ho]; exact decide_eq_true hps)
theorem EV.saidNo (h : EV w0 w L K b E n) (hn : n ≤ 40000) (ho : E.out = []) :
    Calls Tryz.prog 19 #[.pointer (some ⟨b, 0, none⟩), .slice none 0 0] w (EvA w0 w L K b E.taken n (.bool true)) :=
  h.saidNil hn (by rw [ho]; exact Nat.zero_le _) (by rw [ho]; rfl)
theorem EV.comeSee (h : EV w0 w L K b E n) (hn : n ≤ 40000) (m : PkM) (hs : See w L m) (hl : m.p.da.length ≤ 80) {r : Bool} (hr : E.mayC m.p = r) :
    Calls Tryz.prog 22 #[.pointer (some ⟨b, 0, none⟩), m.p.val m.A m.c] w (EvA w0 w L K b (E.comeC m.p) (n + 1) (.bool r)) :=
  h.comeC hn m.p m.A m.c hs.1 (fun a e => ⟨(hs.2 a e).1, by rw [(hs.2 a e).2]; exact h.relab0⟩) (hs.pkB hl) hr
theorem EV.data (h : EV w0 w L K b E n) (num fr : Int) (s : ByteArray) (fin : Bool) (xs : List Int) (m : Nat) (hs : sb s = xs) (hm : xs.length = m) (hb : ∀ x ∈ [num, fr], -1000000 ≤ x ∧ x ≤ 1000000) (hml : m ≤ 64) :
    Calls Tryz.prog 20 #[.int .i64 num, .int .i64 fr, .string s, .bool fin] w fun e w' => ∃ q c L', e = .returned (.agg #[.int .i64 3, .int .i64 0, .int .i64 num, .int .i64 0, .int .i64 fr, .slice (some ⟨q, 0, none⟩) m c, .bool fin, .int .i64 0, .int .i64 0]) ∧ EV w0 w' L' K b E n ∧ See w' L' ⟨⟨3, 0, num, 0, fr, xs, fin, 0, 0⟩, some ⟨q, 0, none⟩, c⟩ ∧ Tn w w' L L' (fun _ => False) ∧ w.heap.size ≤ q := by
  have h2 := hb num (by simp)
  have h3 := hb fr (by simp)
  refine (data_any num fr s fin w).mono ?_
  rintro e w' ⟨q, c, rfl, hq, hq2, hc, hr, hbl⟩
  have hbt := sb_byte s
  simp only at hc hr
  rw [hs] at hr hc hbt ⊢
  subst hm
  have z : (-9223372036854775808 : Int) ≤ 0 ∧ (0 : Int) ≤ 9223372036854775807 := by decide
  refine ⟨q, c, _, rfl, h.later hbl, ⟨⟨hr, by show xs.length ≤ _; omega, hc, fun e => (by cases e), hbt, (by show (-9223372036854775808 : Int) ≤ 3 ∧ (3 : Int) ≤ 9223372036854775807; decide), z, by show _ ≤ num ∧ num ≤ _; omega, z, by show _ ≤ fr ∧ fr ≤ _; omega, z, z⟩, fun a e => ?_⟩, Tn.of_below hbl L 0 _, hq⟩
  injection e with e
  subst e
  exact ⟨hq2, relab_new hq⟩
theorem EV.saidLit1 (h : EV w0 w L K b E n) (hn : n ≤ 40000) (k pa nu ofn fr : Int) (xs : List Int) (fin : Bool) (se li : Int) {bs cs : Array Value} {fl : Nat × Nat} {m q1 q2 : Nat} (hbs : bs = bts xs) (hm : xs.length = m) (hq1 : w.heap.size = q1) (hq2 : w.heap.size + 1 = q2)
    (hcs : cs = #[.int .i64 k, .int .i64 pa, .int .i64 nu, .int .i64 ofn, .int .i64 fr, .slice (some ⟨q1, 0, none⟩) m m, .bool fin, .int .i64 se, .int .i64 li]) (hb : ∀ x ∈ [k, pa, nu, ofn, fr, se, li], -9223372036854775808 ≤ x ∧ x ≤ 9223372036854775807) (hx : ∀ x ∈ xs, 0 ≤ x ∧ x < 256) (hml : m ≤ 64) (ho : E.out = [⟨k, pa, nu, ofn, fr, xs, fin, se, li⟩]) :
    Calls Tryz.prog 19 #[.pointer (some ⟨b, 0, none⟩), .slice (some ⟨q2, 0, none⟩) 1 1] ((w.alloc (.cells bs 5 fl)).alloc (.cells cs 32)) (EvA w0 w L K b E.taken n (.bool true)) := by
  subst hbs; subst hm; subst hq1; subst hq2; subst hcs
  have hb1 := (Below.refl w.heap.size w).alloc (Nat.le_refl _) (.cells (bts xs) 5 fl)
  have hs : See (w.alloc (.cells (bts xs) 5 fl)) (relab L w.heap.size 0) ⟨⟨k, pa, nu, ofn, fr, xs, fin, se, li⟩, some ⟨w.heap.size, 0, none⟩, xs.length⟩ := by
    refine ⟨⟨Rd.newF w xs _ fl, by show xs.length ≤ _; omega, Nat.le_refl _, fun e => (by cases e), hx, hb k (by simp), hb pa (by simp), hb nu (by simp), hb ofn (by simp), hb fr (by simp), hb se (by simp), hb li (by simp)⟩, fun a e => ?_⟩
    injection e with e
    subst e
    exact ⟨by simp, relab_new (Nat.le_refl _)⟩
  refine ((h.later hb1).saidSee hn [_] (see1 hs) rfl (by simp) rfl ho rfl (by unfold maxLen; simp)).mono ?_
  rintro e w' ⟨rfl, L', h1, h2⟩
  exact ⟨rfl, L', h1, (Tn.of_below hb1 L 0 (Es K)).trans h2⟩
end
def plC : Cg := ⟨((2 : Nat) : Int), 60, 50, 10, 4, 3, 1⟩
theorem plUp : (En.new plC 0).mayU 0 = true ∧ ((En.new plC 0).up 0).out = [joinP] ∧ ((En.new plC 0).up 0).taken.mayC joinedP = true ∧ (((En.new plC 0).up 0).taken.come joinedP).out = [] := by
  refine ⟨?_, ?_, ?_, ?_⟩ <;> kernel_rfl
end Go.Proofs.YtpjlnpnadkbakaaGreat
namespace Go.Proofs.YtpjlnpnadkbakaaGreat
set_option maxRecDepth 10000
open Go.RowKit
section
variable {w0 w w' : World} {L L' : Lab} {K b n : Nat} {E : En}
theorem EV.tick (h : EV w0 w L K b E n) (hn : n ≤ 40000) (now : Int) {r : Bool} (hr : E.mayT now = r) : Calls Tryz.prog 27 #[.pointer (some ⟨b, 0, none⟩), .int .i64 now] w (EvA w0 w L K b (E.tick now) (n + 1) (.bool r)) := by
  obtain ⟨s, he⟩ := h.ee
  subst hr
  refine (eetick_any he h.k0 h.ok now h.cap (by omega)).mono ?_
  rintro e w' ⟨rfl, L', h1, h2⟩
  exact ⟨rfl, L', h.turn h1 h2 (h.ok.tick now) ((h.cap.tick h.ok now).mono (by omega)), h2⟩
end
end Go.Proofs.YtpjlnpnadkbakaaGreat
namespace Go.Proofs.YtpjlnpnadkbakaaGreat
set_option maxRecDepth 10000
open Go.RowKit
set_option maxHeartbeats 400000 in
theorem within_any (v n : Int) (w : World) (h1 : 1 ≤ n) (h2 : n ≤ 4611686018427387904) :
    Calls Tryz.prog 25 #[.int .i64 v, .int .i64 n] w fun e w' => e = .returned (.int .i64 (v % n)) ∧ w = w' := by
  by_cases h : v.tmod n < 0
  · go_enter Tryz.func25, Tryz.ntmps25
    go_wp2
    go_ret
    exact ⟨ret_i (within_lt h1 h2 h), rfl⟩
  · go_enter Tryz.func25, Tryz.ntmps25
    go_wp2
    go_ret
    exact ⟨ret_i (within_ge h1 (by omega)), rfl⟩
end Go.Proofs.YtpjlnpnadkbakaaGreat
namespace Go.Proofs.YtpjlnpnadkbakaaGreat
set_option maxRecDepth 10000
open Go.ChangeShapes Go.WideShapes Go.ChangeAt Go.RowKit
structure Su where
  pa : Int
  bu : Int
  wi : Int
  ch : Int
  mo : Int
  fi : Int
  sc : Int
def Su.cs (s : Su) : List Value := [.int .i64 s.pa, .int .i64 s.bu, .int .i64 s.wi, .int .i64 s.ch, .int .i64 s.mo, .int .i64 s.fi, .int .i64 s.sc]
def Su.val (s : Su) : Value := .agg #[.int .i64 s.pa, .int .i64 s.bu, .int .i64 s.wi, .int .i64 s.ch, .int .i64 s.mo, .int .i64 s.fi, .int .i64 s.sc]
section
variable {H : Type} {enc : TypeId × Value → H} {w : World} {held : Bool}
end
structure Cf where
  pa : Int
  bu : Int
  wi : Int
  ch : Int
  mo : Int
  fi : Int
  sc : Int
def Cf.val (s : Cf) : Value := .agg #[.int .i64 s.pa, .int .i64 s.bu, .int .i64 s.wi, .int .i64 s.ch, .int .i64 s.mo, .int .i64 s.fi, .int .i64 s.sc]
structure Cf.ok (c : Cf) : Prop where
  pa : 1 ≤ c.pa ∧ c.pa ≤ 3
  bu : 1 ≤ c.bu ∧ c.bu ≤ 60
  wi : 1 ≤ c.wi ∧ c.wi ≤ 50
  ch : 1 ≤ c.ch ∧ c.ch ≤ 20
  mo : 1 ≤ c.mo ∧ c.mo ≤ 6
  fi : 1 ≤ c.fi ∧ c.fi ≤ 8
  sc : 1 ≤ c.sc ∧ c.sc ≤ 3
end Go.Proofs.YtpjlnpnadkbakaaGreat
namespace Go.Proofs.YtpjlnpnadkbakaaGreat
set_option maxRecDepth 10000
open Go.RowKit
abbrev tCf : TypeId := 26
def cfF (c : Cf) (i : Nat) : Value := .int .i64 (if i = 0 then c.pa else if i = 1 then c.bu else if i = 2 then c.wi else if i = 3 then c.ch else if i = 4 then c.mo else if i = 5 then c.fi else c.sc)
def st7 (w : World) (b : Nat) (c : Cf) : World := ((((((w.setCell ⟨b, 0, none⟩ (.int .i64 c.pa)).setCell ⟨b, 1, none⟩ (.int .i64 c.bu)).setCell ⟨b, 2, none⟩ (.int .i64 c.wi)).setCell ⟨b, 3, none⟩ (.int .i64 c.ch)).setCell ⟨b, 4, none⟩ (.int .i64 c.mo)).setCell ⟨b, 5, none⟩ (.int .i64 c.fi)).setCell ⟨b, 6, none⟩ (.int .i64 c.sc)
theorem st7_row {w : World} {b : Nat} {t : TypeId} {f : Nat → Value} (h : w.rowIs b t 7 f) (c : Cf) : (st7 w b c).rowIs b t 7 (cfF c) :=
  (((((((h.set 0 _).set 1 _).set 2 _).set 3 _).set 4 _).set 5 _).set 6 _).congr fun i hi => by
    have : i = 0 ∨ i = 1 ∨ i = 2 ∨ i = 3 ∨ i = 4 ∨ i = 5 ∨ i = 6 := by omega
    rcases this with rfl | rfl | rfl | rfl | rfl | rfl | rfl <;> simp [cfF]
theorem st7_grown (w : World) (b : Nat) (c : Cf) : w.grownBy (st7 w b c) (some b) :=
  ((((((setCell_one _ b _ _).trans (setCell_one _ b _ _)).trans (setCell_one _ b _ _)).trans (setCell_one _ b _ _)).trans (setCell_one _ b _ _)).trans (setCell_one _ b _ _)).trans (setCell_one _ b _ _)
end Go.Proofs.YtpjlnpnadkbakaaGreat
namespace Go.Proofs.YtpjlnpnadkbakaaGreat
set_option maxRecDepth 10000
open Go.RowKit
structure CfS (w : World) (L : Lab) (g : Nat) (c : Cf) : Prop where
  row : w.rowIs g tCf 7 (cfF c)
  lt : g < w.heap.size
  lab : L g = 0
theorem CfS.keep {w w' : World} {L L' : Lab} {S : Nat → Prop} {g : Nat} {c : Cf} (h : CfS w L g c) (ht : Tn w w' L L' S) (h0 : ¬ S 0) : CfS w' L' g c :=
  ⟨World.rowIs.of_block h.row (ht.block h.lab h0 h.lt), Nat.lt_of_lt_of_le h.lt ht.size, ht.lab h.lab h.lt⟩
theorem CfS.fi {w : World} {L : Lab} {g : Nat} {c : Cf} (h : CfS w L g c) : w.cell? ⟨g, 5, none⟩ = some (.int .i64 c.fi) := World.rowIs.cell (i := 5) h.row (by omega)
end Go.Proofs.YtpjlnpnadkbakaaGreat
namespace Go.Proofs.YtpjlnpnadkbakaaGreat
set_option maxRecDepth 10000
open Go.RowKit
theorem turnsP_any (pa num fr : Int) (s : ByteArray) (w : World) :
    Calls Tryz.prog 60 #[.int .i64 pa, .int .i64 num, .int .i64 fr, .string s] w (PkStr w ⟨3, pa, num, 0, fr, sb s, false, 0, 0⟩) := by
  have hcv := fun W : World => Lib.run_convert_string_bytes (P := Tryz.prog) W 9 29 5 s Tryz.underlying9 Tryz.underlying29 Tryz.underlying5
  simp only [← sb_len s] at hcv
  have hv0 := PkV.new w Pkt.zero none 0
  have hb0 : Below w.heap.size w (w.alloc (.cells (Pkt.zero.cs none 0).toArray 32)) := (Below.refl _ _).alloc (Nat.le_refl _) _
  change PkV (w.alloc (.cells #[.int .i64 0, .int .i64 0, .int .i64 0, .int .i64 0, .int .i64 0, .slice none 0 0, .bool false, .int .i64 0, .int .i64 0] 32)) _ _ _ _ at hv0
  change Below _ _ (w.alloc (.cells #[.int .i64 0, .int .i64 0, .int .i64 0, .int .i64 0, .int .i64 0, .slice none 0 0, .bool false, .int .i64 0, .int .i64 0] 32)) at hb0
  have hz : (w.alloc (.cells #[.int .i64 0, .int .i64 0, .int .i64 0, .int .i64 0, .int .i64 0, .slice none 0 0, .bool false, .int .i64 0, .int .i64 0] 32)).heap.size = w.heap.size + 1 := by simp
  obtain ⟨w1, hw1⟩ : ∃ w1, w.alloc (.cells #[.int .i64 0, .int .i64 0, .int .i64 0, .int .i64 0, .int .i64 0, .slice none 0 0, .bool false, .int .i64 0, .int .i64 0] 32) = w1 := ⟨_, rfl⟩
  rw [hw1] at hv0 hb0 hz
  have hb2 := below_bytesWorld w1 5 s
  have hv2 := hv0.later hb2
  have hr2 := rd_bytesWorld w1 5 s
  have hsz := Lib.bytesWorld_size w1 5 s
  rw [hz] at hr2 hsz
  have hB := hb0.trans (hb2.mono hb0.size)
  have hcap : (sb s).length ≤ grownCap w1 (sb s).length 0 5 := grownCap_ge _ _ _ _
  have fz := hv2.fr
  obtain ⟨x0, x1, x2, x3, x4, x5, x6, x7, x8⟩ := hv2.cells
  simp only [Pkt.zero, List.length_nil] at x0 x1 x2 x3 x4 x5 x6 x7 x8
  have HQ := Lib.hid (And.intro hv2 (And.intro hr2 (And.intro hB (And.intro hsz hcap))))
  clear hv0 hb0 hb2 hv2 hr2 hB hsz hcap
  go_enter Tryz.func60, Tryz.ntmps60
  go_wp2_with fail
  obtain ⟨hv2, hr2, hB, hsz, hcap⟩ := HQ.out
  have hg := setCells_one w.heap.size ((⟨3, pa, num, 0, fr, sb s, false, 0, 0⟩ : Pkt).cs (some ⟨w.heap.size + 1, 0, none⟩) (grownCap w1 (sb s).length 0 5)) 0 (Lib.bytesWorld w1 5 s)
  have h9 := hv2.resP ⟨3, pa, num, 0, fr, sb s, false, 0, 0⟩ (some ⟨w.heap.size + 1, 0, none⟩) (grownCap w1 (sb s).length 0 5)
  change bodyPost _ _ _ _ _ ((Lib.bytesWorld w1 5 s).setCells w.heap.size 0 ((⟨3, pa, num, 0, fr, sb s, false, 0, 0⟩ : Pkt).cs (some ⟨w.heap.size + 1, 0, none⟩) (grownCap w1 (sb s).length 0 5)))
  refine bodyPost_ret (v := (⟨3, pa, num, 0, fr, sb s, false, 0, 0⟩ : Pkt).val (some ⟨w.heap.size + 1, 0, none⟩) (grownCap w1 (sb s).length 0 5)) ?_ rfl ⟨w.heap.size + 1, _, rfl, by omega, Nat.lt_of_lt_of_le (by omega) hg.size, hcap, rd_trn hr2 (Trn.of_grown hg) (fun a e e2 => by injection e with e; subst e; have := Option.some.inj e2; simp at this), hB.grown hg hB.size (by intro g e; simp at e; omega)⟩
  clear x0 x1 x2 x3 x4 x5 x6 x7 x8 fz
  simp [results, Tryz.results60, asAddr, h9]
end Go.Proofs.YtpjlnpnadkbakaaGreat

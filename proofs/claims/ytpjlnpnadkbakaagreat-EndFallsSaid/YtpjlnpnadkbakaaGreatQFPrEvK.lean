/-
  PrEvK · PrScen · Within · PrFall.
-/
import Derived.Test.YtpjlnpnadkbakaaGreatQFEnCallC
import Derived.Test.YtpjlnpnadkbakaaGreatRows
import Derived.Test.YtpjlnpnadkbakaaGreatQFCountMath
import Derived.Test.YtpjlnpnadkbakaaGreatQFMem
import Derived.WalkLawsBesides
namespace Go.Proofs.YtpjlnpnadkbakaaGreat
set_option maxRecDepth 10000
open Go.RowKit
namespace In
def finC (s : In) (k : Int) (b : Bool) : In :=
  if b && decide (s.en < 0) && decide (0 ≤ k) && decide (k ≤ 4096) && (List.range (s.tk + s.win - k).toNat).all (fun j => (s.g (k + (j : Int))).isNone) then s.shut k else s
theorem ends_iff {s : In} (h : s.ok) (k : Int) : s.ends k ↔ (s.en < 0 ∧ 0 ≤ k ∧ k ≤ 4096 ∧ ∀ j ∈ List.range (s.tk + s.win - k).toNat, s.g (k + (j : Int)) = none) := by
  unfold ends
  constructor
  · rintro ⟨h1, h2, h3, h4⟩
    exact ⟨h1, h2, h3, fun j _ => h4 _ (by omega)⟩
  · rintro ⟨h1, h2, h3, h4⟩
    refine ⟨h1, h2, h3, fun j hj => ?_⟩
    by_cases e : s.g j = none
    · exact e
    · have h5 := h.rng j e
      have h6 := h4 (j - k).toNat (List.mem_range.2 (by omega))
      rw [show k + ((j - k).toNat : Int) = j by omega] at h6
      exact h6
theorem fin_eq {s : In} (h : s.ok) (k : Int) (b : Bool) : s.fin k b = s.finC k b := by
  have hi := ends_iff h k
  unfold fin finC
  by_cases hb : b = true ∧ s.ends k
  · rw [if_pos hb]
    obtain ⟨h1, h2, h3, h4⟩ := hi.1 hb.2
    rw [if_pos (by simp only [Bool.and_eq_true, decide_eq_true_eq, List.all_eq_true]; exact ⟨⟨⟨⟨hb.1, h1⟩, h2⟩, h3⟩, fun j hj => by rw [h4 j hj]; rfl⟩)]
  · rw [if_neg hb, if_neg]
    intro hc
    simp only [Bool.and_eq_true, decide_eq_true_eq, List.all_eq_true] at hc
    obtain ⟨⟨⟨⟨h1, h2⟩, h3⟩, h4⟩, h5⟩ := hc
    exact hb ⟨h1, hi.2 ⟨h2, h3, h4, fun j hj => Option.isNone_iff_eq_none.1 (h5 j hj)⟩⟩
def putC (s : In) (f : Int) (ys : List Int) (b : Bool) : In := (s.steps f ys ys.length).1.finC (f + ys.length) b
theorem put_eq {s : In} (h : s.ok) (f : Int) (ys : List Int) (b : Bool) : s.put f ys b = s.putC f ys b := by
  unfold put putC
  exact fin_eq (steps_ok h f ys _) _ b
end In
namespace En
def cameC (E : En) (p : Pkt) : En :=
  let F := (E.note (evP 4 p)).count 3 1
  if p.k = 1 then (F.setP p.pa.toNat ((E.pa p.pa.toNat).setJo true)).say p.pa.toNat ⟨2, p.pa, 0, p.nu, 0, [], false, 0, 0⟩
  else if p.k = 2 then (F.setP p.pa.toNat ((E.pa p.pa.toNat).setJo true)).pump
  else if p.k = 3 then
    let G := F.setI (E.i.putC p.fr p.da p.fin)
    G.say p.pa.toNat ⟨4, p.pa, 0, p.nu, 0, [], false, G.i.seen, G.i.limit⟩
  else (((F.setP p.pa.toNat (ackP (E.pa p.pa.toNat) p.ofn E.now)).setO (E.o.ack p.se)).setLim (max E.limit p.li)).pump
def comeC (E : En) (p : Pkt) : En := if E.mayC p then E.cameC p else E.count 4 1
theorem come_eq {E : En} (h : E.ok) (p : Pkt) : E.come p = E.comeC p := by
  unfold come comeC came cameC
  rw [In.put_eq h.i]
end En
section
variable {w0 w w' : World} {L L' : Lab} {K b n : Nat} {E : En}
theorem EV.comeC (h : EV w0 w L K b E n) (hn : n ≤ 40000) (p : Pkt) (A : Option Addr) (c : Nat) (hp : PktAt w p A c) (ha : Aps w L K A) (hpb : PkB p) {r : Bool} (hr : E.mayC p = r) :
    Calls Tryz.prog 22 #[.pointer (some ⟨b, 0, none⟩), p.val A c] w (EvA w0 w L K b (E.comeC p) (n + 1) (.bool r)) := by
  rw [← En.come_eq h.ok]
  exact h.come hn p A c hp ha hpb hr
theorem EV.comeP (h : EV w0 w L K b E n) (hn : n ≤ 40000) (k pa nu ofn fr : Int) (fin : Bool) (se li : Int) (hb : ∀ x ∈ [k, pa, nu, ofn, fr, se, li], -4611686018427387904 ≤ x ∧ x ≤ 4611686018427387904) {r : Bool} (hr : E.mayC ⟨k, pa, nu, ofn, fr, [], fin, se, li⟩ = r) :
    Calls Tryz.prog 22 #[.pointer (some ⟨b, 0, none⟩), .agg #[.int .i64 k, .int .i64 pa, .int .i64 nu, .int .i64 ofn, .int .i64 fr, .slice none 0 0, .bool fin, .int .i64 se, .int .i64 li]] w (EvA w0 w L K b (E.comeC ⟨k, pa, nu, ofn, fr, [], fin, se, li⟩) (n + 1) (.bool r)) := by
  have h1 := hb k (by simp); have h2 := hb pa (by simp); have h3 := hb nu (by simp); have h4 := hb ofn (by simp); have h5 := hb fr (by simp); have h6 := hb se (by simp); have h7 := hb li (by simp)
  exact h.comeC hn ⟨k, pa, nu, ofn, fr, [], fin, se, li⟩ none 0 ⟨.inl rfl, by simp, by simp, fun _ => rfl, by simp, by simp only; omega, by simp only; omega, by simp only; omega, by simp only; omega, by simp only; omega, by simp only; omega, by simp only; omega⟩ (fun a e => by cases e) ⟨by simp, by simp, by simp only; omega, by simp only; omega, by simp only; omega, by simp only; omega, by simp only; omega, by simp only; omega, by simp only; omega⟩ hr
end
end Go.Proofs.YtpjlnpnadkbakaaGreat
namespace Go.Proofs.YtpjlnpnadkbakaaGreat
set_option maxRecDepth 10000
open Go.RowKit
def See (w : World) (L : Lab) (m : PkM) : Prop := PktAt w m.p m.A m.c ∧ ∀ a, m.A = some a → a.block < w.heap.size ∧ L a.block = 0
theorem See.keep {w w' : World} {L L' : Lab} {S : Nat → Prop} {m : PkM} (h : See w L m) (ht : Tn w w' L L' S) (h0 : ¬ S 0) : See w' L' m :=
  ⟨h.1.keepT ht h0 h.2, fun a e => ⟨Nat.lt_of_lt_of_le (h.2 a e).1 ht.size, ht.lab (h.2 a e).2 (h.2 a e).1⟩⟩
theorem See.plain (w : World) (L : Lab) (k pa nu ofn fr : Int) (fin : Bool) (se li : Int) (h : ∀ x ∈ [k, pa, nu, ofn, fr, se, li], -9223372036854775808 ≤ x ∧ x ≤ 9223372036854775807) : See w L ⟨⟨k, pa, nu, ofn, fr, [], fin, se, li⟩, none, 0⟩ :=
  ⟨⟨.inl rfl, by simp, by simp, fun _ => rfl, by simp, h k (by simp), h pa (by simp), h nu (by simp), h ofn (by simp), h fr (by simp), h se (by simp), h li (by simp)⟩, fun a e => by cases e⟩
theorem see1 {w : World} {L : Lab} {a : PkM} (h : See w L a) : ∀ m ∈ [a], See w L m := fun m hm => by
  rw [List.mem_singleton] at hm
  subst hm
  exact h
theorem seeC {w : World} {L : Lab} {a : PkM} {l : List PkM} (h : See w L a) (hl : ∀ m ∈ l, See w L m) : ∀ m ∈ a :: l, See w L m := fun m hm => by
  rcases List.mem_cons.1 hm with rfl | hm
  · exact h
  · exact hl m hm
section
variable {w0 w w' : World} {L L' : Lab} {K b n : Nat} {E : En}
theorem EV.saidSee (h : EV w0 w L K b E n) (hn : n ≤ 40000) (ms : List PkM) (hm : ∀ m ∈ ms, See w L m) {cs : Array Value} {m q : Nat} (hcs : cs = (pks ms).toArray) (hq : w.heap.size = q) (hml : ms.length = m) {ps : List Pkt} (ho : E.out = ps) (hps : ps = ms.map PkM.p) (hl : ps.length ≤ maxLen) :
    Calls Tryz.prog 19 #[.pointer (some ⟨b, 0, none⟩), .slice (some ⟨q, 0, none⟩) m m] (w.alloc (.cells cs 32)) (EvA w0 w L K b E.taken n (.bool true)) :=
  h.saidLit hn ms (fun m h => (hm m h).1) (fun m h => (hm m h).2) hcs hq hml (by rw [ho]; exact hl) (by rw [ho]; exact decide_eq_true hps)
theorem EV.saidNo (h : EV w0 w L K b E n) (hn : n ≤ 40000) (ho : E.out = []) :
    Calls Tryz.prog 19 #[.pointer (some ⟨b, 0, none⟩), .slice none 0 0] w (EvA w0 w L K b E.taken n (.bool true)) :=
  h.saidNil hn (by rw [ho]; exact Nat.zero_le _) (by rw [ho]; rfl)
theorem EV.data (h : EV w0 w L K b E n) (num fr : Int) (s : ByteArray) (fin : Bool) (xs : List Int) (m : Nat) (hs : sb s = xs) (hm : xs.length = m) (hb : ∀ x ∈ [num, fr], -1000000 ≤ x ∧ x ≤ 1000000) (hml : m ≤ 64) :
    Calls Tryz.prog 20 #[.int .i64 num, .int .i64 fr, .string s, .bool fin] w fun e w' => ∃ q c L', e = .returned (.agg #[.int .i64 3, .int .i64 0, .int .i64 num, .int .i64 0, .int .i64 fr, .slice (some ⟨q, 0, none⟩) m c, .bool fin, .int .i64 0, .int .i64 0]) ∧ EV w0 w' L' K b E n ∧ See w' L' ⟨⟨3, 0, num, 0, fr, xs, fin, 0, 0⟩, some ⟨q, 0, none⟩, c⟩ ∧ Tn w w' L L' (fun _ => False) ∧ w.heap.size ≤ q := by
  have h2 := hb num (by simp)
  have h3 := hb fr (by simp)
  refine (data_any num fr s fin w).mono ?_
  rintro e w' ⟨q, c, rfl, hq, hq2, hc, hr, hbl⟩
  have hbt := sb_byte s
  simp only at hc hr
  rw [hs] at hr hc hbt ⊢
  subst hm
  have z : (-9223372036854775808 : Int) ≤ 0 ∧ (0 : Int) ≤ 9223372036854775807 := by decide
  refine ⟨q, c, _, rfl, h.later hbl, ⟨⟨hr, by show xs.length ≤ _; omega, hc, fun e => (by cases e), hbt, (by show (-9223372036854775808 : Int) ≤ 3 ∧ (3 : Int) ≤ 9223372036854775807; decide), z, by show _ ≤ num ∧ num ≤ _; omega, z, by show _ ≤ fr ∧ fr ≤ _; omega, z, z⟩, fun a e => ?_⟩, Tn.of_below hbl L 0 _, hq⟩
  injection e with e
  subst e
  exact ⟨hq2, relab_new hq⟩
end
def plC : Cg := ⟨((2 : Nat) : Int), 60, 50, 10, 4, 3, 1⟩
theorem plUp : (En.new plC 0).mayU 0 = true ∧ ((En.new plC 0).up 0).out = [joinP] ∧ ((En.new plC 0).up 0).taken.mayC joinedP = true ∧ (((En.new plC 0).up 0).taken.come joinedP).out = [] := by
  refine ⟨?_, ?_, ?_, ?_⟩ <;> kernel_rfl
end Go.Proofs.YtpjlnpnadkbakaaGreat
namespace Go.Proofs.YtpjlnpnadkbakaaGreat
set_option maxRecDepth 10000
open Go.RowKit
set_option maxHeartbeats 400000 in
theorem within_any (v n : Int) (w : World) (h1 : 1 ≤ n) (h2 : n ≤ 4611686018427387904) :
    Calls Tryz.prog 25 #[.int .i64 v, .int .i64 n] w fun e w' => e = .returned (.int .i64 (v % n)) ∧ w = w' := by
  by_cases h : v.tmod n < 0
  · go_enter Tryz.func25, Tryz.ntmps25
    go_wp2
    go_ret
    exact ⟨ret_i (within_lt h1 h2 h), rfl⟩
  · go_enter Tryz.func25, Tryz.ntmps25
    go_wp2
    go_ret
    exact ⟨ret_i (within_ge h1 (by omega)), rfl⟩
end Go.Proofs.YtpjlnpnadkbakaaGreat
namespace Go.Proofs.YtpjlnpnadkbakaaGreat
set_option maxRecDepth 10000
open Go.RowKit
theorem lab_over (L : Lab) (n : Nat) : ∃ K : Nat, 17 ≤ K ∧ ∀ k, k < n → L k < K := by
  induction n with
  | zero => exact ⟨17, Nat.le_refl _, fun k hk => by omega⟩
  | succ n ih =>
    obtain ⟨K, h1, h2⟩ := ih
    refine ⟨K + L n + 1, by omega, fun k hk => ?_⟩
    by_cases e : k = n
    · subst e; omega
    · have := h2 k (by omega)
      omega
structure FV (w0 w : World) (L : Lab) (b : Nat) (E : En) (n J q : Nat) (p1 : Pkt) (A1 : Option Addr) (c1 : Nat) (p2 : Pkt) (A2 : Option Addr) (c2 : Nat) : Prop where
  ev : EV w0 w L 1 b E n
  v1 : PkV w q p1 A1 c1
  v2 : PkV w (q + 1) p2 A2 c2
  l1 : L q = J
  l2 : L (q + 1) = J
  low : ∀ k, k < w0.heap.size → L k ≠ J
  j17 : 17 ≤ J
section
variable {w0 w w' : World} {L L' : Lab} {b n n' J q : Nat} {E E' : En} {p1 p2 p1' p2' : Pkt} {A1 A2 A1' A2' : Option Addr} {c1 c2 c1' c2' : Nat}
theorem FV.new (h : EV w0 w L 1 b E n) (J : Nat) (hJ : 17 ≤ J) (hl : ∀ k, k < w.heap.size → L k < J) :
    FV w0 ((w.alloc (.cells (Pkt.zero.cs none 0).toArray 32)).alloc (.cells (Pkt.zero.cs none 0).toArray 32)) (relab L w.heap.size J) b E n J w.heap.size Pkt.zero none 0 Pkt.zero none 0 ∧
    Tn w ((w.alloc (.cells (Pkt.zero.cs none 0).toArray 32)).alloc (.cells (Pkt.zero.cs none 0).toArray 32)) L (relab L w.heap.size J) (fun _ => False) := by
  have hb1 := (Below.refl w.heap.size w).alloc (Nat.le_refl _) (.cells (Pkt.zero.cs none 0).toArray 32)
  have hb := hb1.alloc hb1.size (.cells (Pkt.zero.cs none 0).toArray 32)
  have ht := Tn.of_below hb L J (fun _ => False)
  have hv1 := PkV.new w Pkt.zero none 0
  have hv2 := PkV.new (w.alloc (.cells (Pkt.zero.cs none 0).toArray 32)) Pkt.zero none 0
  have hs : (w.alloc (.cells (Pkt.zero.cs none 0).toArray 32)).heap.size = w.heap.size + 1 := by simp
  rw [hs] at hv2
  refine ⟨⟨h.keep ht (fun _ _ => id) id (fun _ _ => id), hv1.later ((Below.refl _ _).alloc (Nat.le_refl _) _), hv2, relab_new (Nat.le_refl _), relab_new (by omega), fun k hk => ?_, hJ⟩, ht⟩
  have hlt := Nat.lt_of_lt_of_le hk h.bel.size
  rw [relab_old hlt]
  have := hl k hlt
  omega
abbrev z9P : Array Value := #[.int .i64 0, .int .i64 0, .int .i64 0, .int .i64 0, .int .i64 0, .slice none 0 0, .bool false, .int .i64 0, .int .i64 0]
theorem FV.new9 (h : EV w0 w L 1 b E n) (J : Nat) (hJ : 17 ≤ J) (hl : ∀ k, k < w.heap.size → L k < J) :
    FV w0 ((w.alloc (.cells z9P 32)).alloc (.cells z9P 32)) (relab L w.heap.size J) b E n J w.heap.size Pkt.zero none 0 Pkt.zero none 0 ∧
    Tn w ((w.alloc (.cells z9P 32)).alloc (.cells z9P 32)) L (relab L w.heap.size J) (fun _ => False) := FV.new h J hJ hl
theorem FV.keep (h : FV w0 w L b E n J q p1 A1 c1 p2 A2 c2) {S : Nat → Prop} (hx : EV w0 w' L' 1 b E' n') (ht : Tn w w' L L' S) (hS : ¬ S J) : FV w0 w' L' b E' n' J q p1 A1 c1 p2 A2 c2 :=
  ⟨hx, World.rowIs.of_block h.v1 (ht.block h.l1 hS h.v1.lt), World.rowIs.of_block h.v2 (ht.block h.l2 hS h.v2.lt), ht.lab h.l1 h.v1.lt, ht.lab h.l2 h.v2.lt, fun k hk => by rw [ht.old k (Nat.lt_of_lt_of_le hk h.ev.bel.size)]; exact h.low k hk, h.j17⟩
theorem FV.esJ (h : FV w0 w L b E n J q p1 A1 c1 p2 A2 c2) : ¬ Es 1 J := by have := h.j17; unfold Es; omega
theorem FV.next (h : FV w0 w L b E n J q p1 A1 c1 p2 A2 c2) (hx : EV w0 w' L' 1 b E' n') (ht : Tn w w' L L' (Es 1)) : FV w0 w' L' b E' n' J q p1 A1 c1 p2 A2 c2 := h.keep hx ht h.esJ
theorem FV.later (h : FV w0 w L b E n J q p1 A1 c1 p2 A2 c2) (hb : Below w.heap.size w w') : FV w0 w' (relab L w.heap.size 0) b E n J q p1 A1 c1 p2 A2 c2 :=
  h.keep (h.ev.later hb) (Tn.of_below hb L 0 (fun _ => False)) id
theorem FV.put1 (h : FV w0 w L b E n J q p1 A1 c1 p2 A2 c2) (hg : w.grownBy w' (some q)) (hv : PkV w' q p1' A1' c1') :
    FV w0 w' (relab L w.heap.size J) b E n J q p1' A1' c1' p2 A2 c2 ∧ Tn w w' L (relab L w.heap.size J) (fun x => x = J) := by
  have ht : Tn w w' L (relab L w.heap.size J) (fun x => x = J) := Tn.of_grown hg h.l1 rfl
  have := h.j17
  exact ⟨⟨h.ev.keep ht (fun x hx e => by unfold Es at hx; omega) (fun e => by omega) (fun k hk => h.low k hk), hv, h.v2.kept hg (by omega), ht.lab h.l1 h.v1.lt, ht.lab h.l2 h.v2.lt, fun k hk => by rw [ht.old k (Nat.lt_of_lt_of_le hk h.ev.bel.size)]; exact h.low k hk, h.j17⟩, ht⟩
theorem FV.put2 (h : FV w0 w L b E n J q p1 A1 c1 p2 A2 c2) (hg : w.grownBy w' (some (q + 1))) (hv : PkV w' (q + 1) p2' A2' c2') :
    FV w0 w' (relab L w.heap.size J) b E n J q p1 A1 c1 p2' A2' c2' ∧ Tn w w' L (relab L w.heap.size J) (fun x => x = J) := by
  have ht : Tn w w' L (relab L w.heap.size J) (fun x => x = J) := Tn.of_grown hg h.l2 rfl
  have := h.j17
  exact ⟨⟨h.ev.keep ht (fun x hx e => by unfold Es at hx; omega) (fun e => by omega) (fun k hk => h.low k hk), h.v1.kept hg (by omega), hv, ht.lab h.l1 h.v1.lt, ht.lab h.l2 h.v2.lt, fun k hk => by rw [ht.old k (Nat.lt_of_lt_of_le hk h.ev.bel.size)]; exact h.low k hk, h.j17⟩, ht⟩
theorem FV.j0 (h : FV w0 w L b E n J q p1 A1 c1 p2 A2 c2) : ¬ (0 = J) := by have := h.j17; omega
theorem See.str (w : World) (L : Lab) (s : ByteArray) (xs : List Int) (hs : sb s = xs) (pa nu fr : Int) (c : Nat) (hc : xs.length ≤ c) (hm : xs.length ≤ 64) (hb : ∀ x ∈ [pa, nu, fr], -1000000 ≤ x ∧ x ≤ 1000000) :
    See (Lib.bytesWorld w 5 s) (relab L w.heap.size 0) ⟨⟨3, pa, nu, 0, fr, xs, false, 0, 0⟩, some ⟨w.heap.size, 0, none⟩, c⟩ := by
  have h1 := hb pa (by simp)
  have h2 := hb nu (by simp)
  have h3 := hb fr (by simp)
  have hr := rd_bytesWorld w 5 s
  have hbt := sb_byte s
  rw [hs] at hr hbt
  have z : (-9223372036854775808 : Int) ≤ 0 ∧ (0 : Int) ≤ 9223372036854775807 := by decide
  refine ⟨⟨hr, by show xs.length ≤ _; omega, hc, fun e => (by cases e), hbt, (by show (-9223372036854775808 : Int) ≤ 3 ∧ (3 : Int) ≤ 9223372036854775807; decide), by show _ ≤ pa ∧ pa ≤ _; omega, by show _ ≤ nu ∧ nu ≤ _; omega, z, by show _ ≤ fr ∧ fr ≤ _; omega, z, z⟩, fun a e => ?_⟩
  injection e with e
  subst e
  refine ⟨?_, relab_new (Nat.le_refl _)⟩
  rw [Lib.bytesWorld_size]
  show w.heap.size < w.heap.size + 1
  omega
theorem See.with {m : PkM} {w : World} {L : Lab} (h : See w L m) (pa nu fr : Int) (hb : ∀ x ∈ [pa, nu, fr], -1000000 ≤ x ∧ x ≤ 1000000) : See w L ⟨⟨3, pa, nu, 0, fr, m.p.da, false, 0, 0⟩, m.A, m.c⟩ := by
  have h1 := hb pa (by simp)
  have h2 := hb nu (by simp)
  have h3 := hb fr (by simp)
  have z : (-9223372036854775808 : Int) ≤ 0 ∧ (0 : Int) ≤ 9223372036854775807 := by decide
  exact ⟨⟨h.1.rd, h.1.reach, h.1.cap, h.1.nil, h.1.byt, (by show (-9223372036854775808 : Int) ≤ 3 ∧ (3 : Int) ≤ 9223372036854775807; decide), by show _ ≤ pa ∧ pa ≤ _; omega, by show _ ≤ nu ∧ nu ≤ _; omega, z, by show _ ≤ fr ∧ fr ≤ _; omega, z, z⟩, h.2⟩
end
structure FS (w0 w : World) (L : Lab) (b : Nat) (E : En) (n J q : Nat) (p1 : Pkt) (A1 : Option Addr) (c1 : Nat) (p2 : Pkt) (A2 : Option Addr) (c2 : Nat) (m1 m2 : PkM) : Prop where
  fv : FV w0 w L b E n J q p1 A1 c1 p2 A2 c2
  s1 : See w L m1
  s2 : See w L m2
section
variable {w0 w w' : World} {L L' : Lab} {b n n' J q : Nat} {E E' : En} {p1 p2 p1' p2' : Pkt} {A1 A2 A1' A2' : Option Addr} {c1 c2 c1' c2' : Nat} {m1 m2 m' : PkM}
theorem FS.put1 (h : FS w0 w L b E n J q p1 A1 c1 p2 A2 c2 m1 m2) (hg : w.grownBy w' (some q)) (hv : PkV w' q p1' A1' c1') : ∃ L', FS w0 w' L' b E n J q p1' A1' c1' p2 A2 c2 m1 m2 := by
  obtain ⟨h1, h2⟩ := h.fv.put1 hg hv
  exact ⟨_, h1, h.s1.keep h2 h.fv.j0, h.s2.keep h2 h.fv.j0⟩
theorem FS.put2 (h : FS w0 w L b E n J q p1 A1 c1 p2 A2 c2 m1 m2) (hg : w.grownBy w' (some (q + 1))) (hv : PkV w' (q + 1) p2' A2' c2') : ∃ L', FS w0 w' L' b E n J q p1 A1 c1 p2' A2' c2' m1 m2 := by
  obtain ⟨h1, h2⟩ := h.fv.put2 hg hv
  exact ⟨_, h1, h.s1.keep h2 h.fv.j0, h.s2.keep h2 h.fv.j0⟩
theorem FS.next (h : FS w0 w L b E n J q p1 A1 c1 p2 A2 c2 m1 m2) (hx : EV w0 w' L' 1 b E' n') (ht : Tn w w' L L' (Es 1)) : FS w0 w' L' b E' n' J q p1 A1 c1 p2 A2 c2 m1 m2 :=
  ⟨h.fv.next hx ht, h.s1.keep ht h.fv.ev.relab0, h.s2.keep ht h.fv.ev.relab0⟩
theorem FS.later (h : FS w0 w L b E n J q p1 A1 c1 p2 A2 c2 m1 m2) (hb : Below w.heap.size w w') : FS w0 w' (relab L w.heap.size 0) b E n J q p1 A1 c1 p2 A2 c2 m1 m2 :=
  ⟨h.fv.later hb, h.s1.keep (Tn.of_below hb L 0 (fun _ => False)) id, h.s2.keep (Tn.of_below hb L 0 (fun _ => False)) id⟩
theorem FS.nextF (h : FS w0 w L b E n J q p1 A1 c1 p2 A2 c2 m1 m2) (hx : EV w0 w' L' 1 b E' n') (ht : Tn w w' L L' (fun _ => False)) : FS w0 w' L' b E' n' J q p1 A1 c1 p2 A2 c2 m1 m2 :=
  ⟨h.fv.keep hx ht id, h.s1.keep ht id, h.s2.keep ht id⟩
theorem FS.see1 (h : FS w0 w L b E n J q p1 A1 c1 p2 A2 c2 m1 m2) (hs : See w L m') : FS w0 w L b E n J q p1 A1 c1 p2 A2 c2 m' m2 := ⟨h.fv, hs, h.s2⟩
theorem FS.see2 (h : FS w0 w L b E n J q p1 A1 c1 p2 A2 c2 m1 m2) (hs : See w L m') : FS w0 w L b E n J q p1 A1 c1 p2 A2 c2 m1 m' := ⟨h.fv, h.s1, hs⟩
end
end Go.Proofs.YtpjlnpnadkbakaaGreat

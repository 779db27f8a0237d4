/-
  EnMath.
-/
import Derived.Test.YtpjlnpnadkbakaaGreatQEcFlight3
import Derived.Test.YtpjlnpnadkbakaaGreatQEcPlanMath
import Derived.Test.YtpjlnpnadkbakaaGreatQEcSchedMath
import Derived.Test.YtpjlnpnadkbakaaGreatQEcEvMem
namespace Go.Proofs.YtpjlnpnadkbakaaGreat
set_option maxRecDepth 10000

/-- A configuration. -/
structure Cg where
  np : Int
  buf : Int
  win : Int
  chk : Int
  most : Int
  first : Int
  sched : Int

def bump (m : Nat → Int) (i : Nat) (n : Int) : Nat → Int := fun j => if j = i then m j + n else m j
def pz : Pa := Pa.new 0 0

/-- The first of a list that is above l. -/
def firstAb (l : Int) : List Int → Option Int
  | [] => none
  | x :: xs => if l < x then some x else firstAb l xs
/-- The place of the quickest of the first n + 1 of C. -/
def bestI (ms C : List Int) : Nat → Nat
  | 0 => 0
  | n + 1 => if ms.getD (C.getD (n + 1) 0).toNat 0 < ms.getD (C.getD (bestI ms C n) 0).toNat 0 then n + 1 else bestI ms C n
/-- Which paths a Sched picks, and which was picked last then. -/
def pickF (k l : Int) (ms : List Int) : List Int × Int :=
  if (can ms).length = 0 then ([], l)
  else if k = 3 then (can ms, l)
  else if k = 2 then ([(firstAb l (can ms)).getD ((can ms).getD 0 0)], (firstAb l (can ms)).getD ((can ms).getD 0 0))
  else ([(can ms).getD (bestI ms (can ms) ((can ms).length - 1)) 0], l)

theorem firstAb_some {l x : Int} : ∀ {L : List Int}, firstAb l L = some x → ∃ j, j < L.length ∧ L.getD j 0 = x ∧ l < x ∧ ∀ i, i < j → L.getD i 0 ≤ l := by
  intro L
  induction L with
  | nil => intro h; cases h
  | cons y ys ih =>
    intro h
    unfold firstAb at h
    split at h
    · next hy =>
      injection h with h
      subst h
      exact ⟨0, by simp, rfl, hy, fun i hi => by omega⟩
    · next hy =>
      obtain ⟨j, h1, h2, h3, h4⟩ := ih h
      refine ⟨j + 1, by simpa using h1, by simpa using h2, h3, fun i hi => ?_⟩
      cases i with
      | zero => simp; omega
      | succ i => simpa using h4 i (by omega)
theorem firstAb_none {l : Int} : ∀ {L : List Int}, firstAb l L = none → ∀ i, i < L.length → L.getD i 0 ≤ l := by
  intro L
  induction L with
  | nil => intro _ i hi; simp at hi
  | cons y ys ih =>
    intro h i hi
    unfold firstAb at h
    split at h
    · cases h
    · next hy =>
      cases i with
      | zero => simp; omega
      | succ i => simpa using ih h i (by simpa using hi)
theorem bestI_le (ms C : List Int) (n : Nat) : bestI ms C n ≤ n := by
  induction n with
  | zero => exact Nat.le_refl _
  | succ n ih =>
    unfold bestI
    split
    · exact Nat.le_refl _
    · omega
theorem bestI_all (ms C : List Int) (n : Nat) : ∀ j, j ≤ n → ms.getD (C.getD (bestI ms C n) 0).toNat 0 ≤ ms.getD (C.getD j 0).toNat 0 ∧ (j < bestI ms C n → ms.getD (C.getD (bestI ms C n) 0).toNat 0 < ms.getD (C.getD j 0).toNat 0) := by
  induction n with
  | zero =>
    intro j hj
    obtain rfl : j = 0 := by omega
    exact ⟨Int.le_refl _, fun h => by simp [bestI] at h⟩
  | succ n ih =>
    intro j hj
    unfold bestI
    split
    · next hlt =>
      by_cases e : j = n + 1
      · subst e
        exact ⟨Int.le_refl _, fun h => by omega⟩
      · have := (ih j (by omega)).1
        exact ⟨by omega, fun _ => by omega⟩
    · next hlt =>
      by_cases e : j = n + 1
      · subst e
        have := bestI_le ms C n
        exact ⟨by omega, fun h => by omega⟩
      · exact ih j (by omega)
theorem pickF_is (k l : Int) (ms : List Int) : IsPick k l ms (pickF k l ms).1 (pickF k l ms).2 := by
  unfold pickF
  by_cases h0 : (can ms).length = 0
  · rw [if_pos h0]
    exact .inl ⟨can_none.2 (List.eq_nil_of_length_eq_zero h0), rfl, rfl⟩
  · rw [if_neg h0]
    have hn : ¬ NoneU ms := fun h => h0 (by rw [can_none.1 h]; rfl)
    by_cases h3 : k = 3
    · rw [if_pos h3]
      exact .inr ⟨hn, .inl ⟨h3, rfl, rfl⟩⟩
    · rw [if_neg h3]
      by_cases h2 : k = 2
      · rw [if_pos h2]
        refine .inr ⟨hn, .inr (.inl ⟨h2, ?_⟩)⟩
        cases hf : firstAb l (can ms) with
        | none =>
          obtain ⟨b, h4, h5⟩ := round_wrap (by omega) (firstAb_none hf)
          exact ⟨b, h5, by rw [Option.getD_none, h4], by rw [Option.getD_none, h4]⟩
        | some x =>
          obtain ⟨j, h4, h5, h6, h7⟩ := firstAb_some hf
          obtain ⟨b, h8, h9⟩ := round_found h4 h7 (by rw [h5]; exact h6)
          exact ⟨b, h9, by rw [h5] at h8; simp [h8], by rw [h5] at h8; simp [h8]⟩
      · rw [if_neg h2]
        have hle := bestI_le ms (can ms) ((can ms).length - 1)
        obtain ⟨b, h4, h5⟩ := quick_best (ms := ms) (B := bestI ms (can ms) ((can ms).length - 1)) (by omega) (fun j hj => bestI_all ms (can ms) _ j (by omega))
        exact .inr ⟨hn, .inr (.inr ⟨h2, h3, b, h5, by rw [h4], rfl⟩)⟩

namespace In
/-- The first place from n on that is not there (looked for k times). -/
def frontF (g : Int → Option Int) : Nat → Int → Int
  | 0, n => n
  | k + 1, n => if g n = none then n else frontF g k (n + 1)
/-- How many bytes are there without a gap. -/
def front (s : In) : Int := frontF s.g (s.tk + s.win).toNat 0
def seen (s : In) : Int := if 0 ≤ s.en ∧ s.en ≤ s.front then s.en + 1 else s.front
def limit (s : In) : Int := s.tk + s.win
def ready (s : In) : Int := s.front - s.tk
def done (s : In) : Bool := decide (0 ≤ s.en ∧ s.tk = s.en)
/-- How many bytes a Read of n hands out. -/
def many (s : In) (n : Int) : Nat := (min (max n 0) s.ready).toNat
/-- The next k bytes. -/
def next (s : In) (k : Nat) : List Int := (List.range k).map fun (j : Nat) => (s.g (s.tk + (j : Int))).getD 0
theorem frontF_is {g : Int → Option Int} : ∀ (k : Nat) (n : Int), 0 ≤ n → (∀ j, 0 ≤ j → j < n → g j ≠ none) → g (n + (k : Int)) = none → Front g (frontF g k n) := by
  intro k
  induction k with
  | zero => intro n h0 h1 h2; exact ⟨h0, h1, by rw [show n + ((0 : Nat) : Int) = n by omega] at h2; exact h2⟩
  | succ k ih =>
    intro n h0 h1 h2
    unfold frontF
    split
    · next h => exact ⟨h0, h1, h⟩
    · next h =>
      refine ih (n + 1) (by omega) (fun j h3 h4 => ?_) (by rw [show n + 1 + (k : Int) = n + ((k + 1 : Nat) : Int) by omega]; exact h2)
      by_cases e : j = n
      · rw [e]; exact h
      · exact h1 j h3 (by omega)
variable {s : In}
theorem front_is (h : s.ok) : Front s.g s.front := frontF_is _ 0 (Int.le_refl _) (fun j h1 h2 => by omega) (by
  by_cases e : s.g (0 + ((s.tk + s.win).toNat : Int)) = none
  · exact e
  · have := (h.rng _ e).2
    have := h.t0
    have := h.w0
    omega)
theorem front_le (h : s.ok) : s.front ≤ s.tk + s.win := by
  by_cases e : s.front ≤ s.tk + s.win
  · exact e
  · have := (front_is h).all (s.tk + s.win) (by have := h.t0; have := h.w0; omega) (by omega)
    have := (h.rng _ this).2
    omega
theorem tk_le (h : s.ok) : s.tk ≤ s.front := by
  by_cases e : s.tk ≤ s.front
  · exact e
  · exact absurd (front_is h).no (h.had _ (front_is h).ge (by omega))
end In

/-- An end: its configuration, its side, the tick, its paths, when each one's Join is due, the limit that is known, outbox, plan, inbox, how it picks and which it picked last, its events, what is said and was not taken, its counters. -/
structure En where
  c : Cg
  side : Int
  now : Int
  ps : List Pa
  due : List Int
  limit : Int
  o : Ou
  pl : Pl
  i : In
  k : Int
  l : Int
  ev : List Ev
  out : List Pkt
  m : Nat → Int

def evP (k : Int) (p : Pkt) : Ev := ⟨k, 0, [], p⟩
def Pkt.num (p : Pkt) (n : Int) : Pkt := ⟨p.k, p.pa, n, p.ofn, p.fr, p.da, p.fin, p.se, p.li⟩

/-- The number x is answered on the path i. -/
def ackP (P : Pa) (x now : Int) : Pa := match P.fl.findIdx? (fun q => q.n == x) with | some i => P.acked i now | none => P

namespace En
def pa (E : En) (i : Nat) : Pa := E.ps.getD i pz
def setP (E : En) (i : Nat) (P : Pa) : En := { E with ps := E.ps.set i P }
/-- An event is noted. -/
def note (E : En) (x : Ev) : En := { E with ev := E.ev ++ [x], m := bump E.m 0 1 }
/-- A packet is said, with the next number of the path i. -/
def say1 (E : En) (i : Nat) (p : Pkt) : En :=
  { E with ps := E.ps.set i (E.pa i).num, out := E.out ++ [p.num (E.pa i).sent], ev := E.ev ++ [evP 5 (p.num (E.pa i).sent)], m := bump (bump (bump E.m 0 1) 1 1) 2 (p.da.length : Int) }
def say (E : En) (i : Nat) (p : Pkt) : En := if (E.pa i).sent ≤ 65535 then E.say1 i p else E
/-- A packet is said, and out. -/
def sayOut (E : En) (i : Nat) (p : Pkt) (f t : Int) : En :=
  if (E.pa i).sent ≤ 65535 then (E.say1 i p).setP i ((E.pa i).num.out ⟨(E.pa i).sent, f, t, E.now⟩) else E
/-- Data of a piece. -/
def dataP (E : En) (i f t : Int) : Pkt := ⟨3, i, 0, 0, f, E.o.cut f t, E.o.fin f t, 0, 0⟩
def data (E : En) (i f t : Int) : En := E.sayOut i.toNat (E.dataP i f t) f t
def datas (E : En) (f t : Int) (L : List Int) : En := L.foldl (fun E i => E.data i f t) E
def means (E : En) : List Int := E.ps.map fun P => if P.usable && !P.be then P.g.mean else -1
def alls (E : En) : List Int := can (E.ps.map fun P => if P.usable then 0 else -1)
def fresh (E : En) : Bool := E.ps.any fun P => P.usable && !P.be
def usable (E : En) : Bool := E.ps.any Pa.usable
/-- Which paths are chosen. -/
def chosen (E : En) : List Int := if E.fresh then (pickF E.k E.l E.means).1 else E.alls
def choose (E : En) : En := if E.fresh then { E with l := (pickF E.k E.l E.means).2 } else E
def nx (E : En) : Nx := E.pl.next E.o E.limit E.c.chk
def setPl (E : En) (p : Pl) : En := { E with pl := p }
/-- One piece is sent. -/
def piece (E : En) : En := ((E.setPl E.nx.p).choose).datas E.nx.f E.nx.t (E.setPl E.nx.p).chosen
def pumpF : Nat → En → En
  | 0, E => E
  | n + 1, E => if E.usable then (if E.nx.ok then pumpF n E.piece else E.setPl E.nx.p) else E
/-- How many places may still be told. -/
def left (E : En) : Nat := (cntL E.pl.ls + (4097 - E.pl.sent)).toNat
def pump (E : En) : En := pumpF (E.left + 1) E
def setO (E : En) (o : Ou) : En := { E with o := o }
def setI (E : En) (i : In) : En := { E with i := i }
def count (E : En) (j : Nat) (n : Int) : En := { E with m := bump E.m j n }
/-- How many of some bytes a Write takes. -/
def takes (E : En) (ys : List Int) : Nat := (min (ys.length : Int) E.o.room).toNat
def write (E : En) (ys : List Int) : En :=
  if 0 < E.takes ys then ((((E.setO (E.o.more (ys.take (E.takes ys)))).note ⟨1, 0, ys.take (E.takes ys), Pkt.zero⟩)).count 5 (E.takes ys)).pump else E.setO (E.o.more (ys.take (E.takes ys)))
def readN (E : En) (n : Int) : List Int := E.i.next (E.i.many n)
def read (E : En) (n : Int) : En :=
  if 0 < E.i.many n then ((E.setI (E.i.read (E.i.many n))).note ⟨2, 0, E.readN n, Pkt.zero⟩).count 6 (E.i.many n) else E.setI (E.i.read (E.i.many n))
def close (E : En) : En := if E.o.cl then E else ((E.setO E.o.shut).note ⟨6, 0, [], Pkt.zero⟩).pump
def give1 (E : En) (q : Qd) : En := { E with pl := E.pl.lost q.f q.t, m := bump E.m 7 1 }
def given (E : En) (L : List Qd) : En := L.foldl give1 E
def setDue (E : En) (i : Nat) (d : Int) : En := { E with due := E.due.set i d }
def join (E : En) (i : Nat) : En := (E.say i ⟨1, i, 0, 0, 0, [], false, 0, 0⟩).setDue i (E.now + E.c.first)
/-- Is a Join of the path i due? -/
def dueJ (E : En) (i : Nat) : Bool := decide (E.side = 0) && (E.pa i).up && !(E.pa i).jo && decide (E.due.getD i 0 ≤ E.now)
def tick1 (E : En) (i : Nat) : En := if E.dueJ i then E.join i else (E.setP i ((E.pa i).lateN E.now)).given ((E.pa i).lates E.now)
/-- The first n paths have ticked. -/
def tickN (E : En) : Nat → En
  | 0 => E
  | n + 1 => (E.tickN n).tick1 n
def flying (E : En) : Int := (E.ps.map fun P => (P.fl.length : Int)).sum
def probeP (E : En) (i : Int) : Pkt := ⟨3, i, 0, 0, E.o.ak, [], false, 0, 0⟩
def probes (E : En) (L : List Int) : En := L.foldl (fun E i => E.sayOut i.toNat (E.probeP i) E.o.ak E.o.ak) E
def probe (E : En) : En := if E.flying = 0 ∧ E.o.ak < E.o.places then E.choose.probes E.chosen else E
def mayT (E : En) (now : Int) : Bool := decide (E.now < now) && decide (now ≤ 1048576)
def setNow (E : En) (now : Int) : En := { E with now := now }
def tick (E : En) (now : Int) : En := if E.mayT now then ((((E.setNow now).note ⟨3, now, [], Pkt.zero⟩).tickN E.ps.length).pump).probe else E
def there (E : En) (i : Int) : Bool := decide (0 ≤ i) && decide (i < (E.ps.length : Int))
def mayU (E : En) (i : Int) : Bool := E.there i && !(E.pa i.toNat).up
def up (E : En) (i : Int) : En :=
  if E.mayU i then
    let F := (E.note ⟨7, i, [], Pkt.zero⟩).setP i.toNat ((E.pa i.toNat).setUp true)
    if E.side = 0 ∧ (E.pa i.toNat).jo = false then F.join i.toNat else F.pump
  else E
def mayD (E : En) (i : Int) : Bool := E.there i && (E.pa i.toNat).up
def down (E : En) (i : Int) : En :=
  if E.mayD i then (((E.note ⟨8, i, [], Pkt.zero⟩).setP i.toNat (E.pa i.toNat).down).given (E.pa i.toNat).fl).pump else E
def mayC (E : En) (p : Pkt) : Bool :=
  p.ok && decide (p.pa < (E.ps.length : Int)) && (E.pa p.pa.toNat).up &&
    (if p.k = 1 then decide (E.side = 1) else if p.k = 2 then decide (E.side = 0) && decide (p.ofn < (E.pa p.pa.toNat).sent) else if p.k = 3 then (E.pa p.pa.toNat).jo
    else decide (p.ofn < (E.pa p.pa.toNat).sent) && decide (p.se ≤ E.pl.sent))
def setLim (E : En) (n : Int) : En := { E with limit := n }
noncomputable def came (E : En) (p : Pkt) : En :=
  let F := (E.note (evP 4 p)).count 3 1
  if p.k = 1 then (F.setP p.pa.toNat ((E.pa p.pa.toNat).setJo true)).say p.pa.toNat ⟨2, p.pa, 0, p.nu, 0, [], false, 0, 0⟩
  else if p.k = 2 then (F.setP p.pa.toNat ((E.pa p.pa.toNat).setJo true)).pump
  else if p.k = 3 then
    let G := F.setI (E.i.put p.fr p.da p.fin)
    G.say p.pa.toNat ⟨4, p.pa, 0, p.nu, 0, [], false, G.i.seen, G.i.limit⟩
  else (((F.setP p.pa.toNat (ackP (E.pa p.pa.toNat) p.ofn E.now)).setO (E.o.ack p.se)).setLim (max E.limit p.li)).pump
noncomputable def come (E : En) (p : Pkt) : En := if E.mayC p then E.came p else E.count 4 1
def taken (E : En) : En := { E with out := [] }
def done (E : En) : Bool := E.o.cl && decide (E.o.ak = E.o.places) && E.i.done
def lostL (ls : List (Int × Int)) : List Int := ls.flatMap fun q => [q.1, q.2]
def state (E : En) : List Int :=
  [E.now] ++ E.due ++ [E.limit, (E.o.xs.length : Int), oneI E.o.cl, E.o.ak, E.pl.sent, (E.pl.ls.length : Int)] ++ lostL E.pl.ls ++ [E.i.tk, E.i.seen, E.i.ready, oneI E.i.done] ++ E.ps.flatMap Pa.state
def meter (E : En) : List Int := (List.range 8).map E.m
def new (c : Cg) (side : Int) : En :=
  ⟨c, side, 0, List.replicate c.np.toNat (Pa.new c.first c.most), List.replicate c.np.toNat 0, c.win, Ou.new c.buf, Pl.new, In.new c.win, c.sched, -1, [], [], fun _ => 0⟩
end En
end Go.Proofs.YtpjlnpnadkbakaaGreat

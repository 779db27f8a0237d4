/-
  A path as mathematics ('Pa'): what it holds, what each call makes of it, what its state tells. No program.
-/
import Derived.Test.YtlkoenlimdfifaaRttMath
import Derived.Test.YtlkoenlimdfifaaCwndMath
import Derived.Test.YtlkoenlimdfifaaFlight3
namespace Go.Proofs.Ytlkoenlimdfifaa

/-- A path: up, joined, behind; how many numbers were given; its guess, its window, what is out. -/
structure Pa where
  up : Bool
  jo : Bool
  be : Bool
  sent : Int
  g : Gs
  wn : Wn
  fl : List Qd

/-- What holds of every path. -/
structure Pa.ok (P : Pa) : Prop where
  s1 : 0 ≤ P.sent
  s2 : P.sent ≤ 65536
  g : P.g.ok
  w : P.wn.ok
  n : P.fl.length ≤ 1048576

def Pa.new (first most : Int) : Pa := ⟨false, false, false, 0, Gs.new first, Wn.new most, []⟩
/-- A number is given. -/
def Pa.num (P : Pa) : Pa := ⟨P.up, P.jo, P.be, P.sent + 1, P.g, P.wn, P.fl⟩
def Pa.setUp (P : Pa) (b : Bool) : Pa := ⟨b, P.jo, P.be, P.sent, P.g, P.wn, P.fl⟩
def Pa.setJo (P : Pa) (b : Bool) : Pa := ⟨P.up, b, P.be, P.sent, P.g, P.wn, P.fl⟩
def Pa.setBe (P : Pa) (b : Bool) : Pa := ⟨P.up, P.jo, b, P.sent, P.g, P.wn, P.fl⟩
def Pa.setFl (P : Pa) (l : List Qd) : Pa := ⟨P.up, P.jo, P.be, P.sent, P.g, P.wn, l⟩
def Pa.setG (P : Pa) (g : Gs) : Pa := ⟨P.up, P.jo, P.be, P.sent, g, P.wn, P.fl⟩
def Pa.setW (P : Pa) (n : Wn) : Pa := ⟨P.up, P.jo, P.be, P.sent, P.g, n, P.fl⟩
/-- What was out is no more. -/
def Pa.down (P : Pa) : Pa := (P.setFl []).setUp false
def Pa.out (P : Pa) (q : Qd) : Pa := P.setFl (P.fl ++ [q])
/-- The one at the place i is answered, now. -/
def Pa.acked (P : Pa) (i : Nat) (now : Int) : Pa := ⟨P.up, P.jo, false, P.sent, P.g.sample (now - (P.fl.getD i qz).a), P.wn.ack, goneQ P.fl i⟩
/-- What is late, now. -/
def Pa.lates (P : Pa) (now : Int) : List Qd := lateQ P.fl (now - P.g.wait)
/-- Some were late. -/
def Pa.late (P : Pa) (now : Int) : Pa := ⟨P.up, P.jo, true, P.sent, P.g.later, P.wn.loss, stayQ P.fl (now - P.g.wait)⟩
def Pa.usable (P : Pa) : Bool := P.up && P.jo && decide ((P.fl.length : Int) < P.wn.size) && decide (P.sent ≤ 65535)
def oneI (b : Bool) : Int := if b then 1 else 0
/-- Outs as numbers, one behind the other. -/
def flat (l : List Qd) : List Int := l.flatMap fun q => [q.n, q.f, q.t, q.a]
def Pa.state (P : Pa) : List Int := [oneI P.up, oneI P.jo, oneI P.be, P.sent, P.g.mean, P.g.wait, P.wn.size, P.fl.length] ++ flat P.fl

theorem flat_app (a b : List Qd) : flat (a ++ b) = flat a ++ flat b := by simp [flat]
theorem flat_one (q : Qd) : flat [q] = [q.n, q.f, q.t, q.a] := by simp [flat]
theorem flat_len (a : List Qd) : (flat a).length = a.length * 4 := by
  induction a with
  | nil => rfl
  | cons x l ih =>
    have : flat (x :: l) = [x.n, x.f, x.t, x.a] ++ flat l := by simp [flat]
    rw [this, List.length_append, ih, List.length_cons]
    simp
    omega
theorem flat_next (l : List Qd) (i : Nat) (hi : i < l.length) : flat (l.take (i + 1)) = flat (l.take i) ++ [(l.getD i qz).n, (l.getD i qz).f, (l.getD i qz).t, (l.getD i qz).a] := by
  rw [take_nextQ l i hi, flat_app, flat_one]
theorem stay_all {l : List Qd} {d : Int} (h : lateQ l d = []) : stayQ l d = l := by
  unfold lateQ at h
  unfold stayQ
  rw [List.filter_eq_self]
  intro q hq
  have := (List.filter_eq_nil_iff.1 h) q hq
  simp only [decide_eq_true_eq] at this
  simp [this]
theorem stay_len (l : List Qd) (d : Int) : (stayQ l d).length ≤ l.length := List.length_filter_le _ _

theorem Pa.new_ok (first most : Int) : (Pa.new first most).ok := ⟨by simp [Pa.new], by simp [Pa.new], Gs.new_ok _, Wn.new_ok _, by simp [Pa.new]⟩
theorem Pa.ok.num {P : Pa} (h : P.ok) (hs : P.sent ≤ 65535) : P.num.ok := ⟨by have := h.s1; simp only [Pa.num]; omega, by simp only [Pa.num]; omega, h.g, h.w, h.n⟩
theorem Pa.ok.setUp {P : Pa} (h : P.ok) (b : Bool) : (P.setUp b).ok := ⟨h.s1, h.s2, h.g, h.w, h.n⟩
theorem Pa.ok.setJo {P : Pa} (h : P.ok) (b : Bool) : (P.setJo b).ok := ⟨h.s1, h.s2, h.g, h.w, h.n⟩
theorem Pa.ok.setBe {P : Pa} (h : P.ok) (b : Bool) : (P.setBe b).ok := ⟨h.s1, h.s2, h.g, h.w, h.n⟩
theorem Pa.ok.setFl {P : Pa} (h : P.ok) {l : List Qd} (hl : l.length ≤ 1048576) : (P.setFl l).ok := ⟨h.s1, h.s2, h.g, h.w, hl⟩
theorem Pa.ok.down {P : Pa} (h : P.ok) : P.down.ok := ⟨h.s1, h.s2, h.g, h.w, by simp [Pa.down, Pa.setFl, Pa.setUp]⟩
theorem Pa.ok.out {P : Pa} (h : P.ok) (q : Qd) (hn : P.fl.length < 1048576) : (P.out q).ok := h.setFl (by rw [List.length_append, List.length_singleton]; omega)
theorem Pa.ok.acked {P : Pa} (h : P.ok) (i : Nat) (now : Int) (hi : i < P.fl.length) : (P.acked i now).ok :=
  ⟨h.s1, h.s2, Gs.sample_ok h.g _, Wn.ack_ok h.w, by have := goneQ_len hi; have := h.n; simp only [Pa.acked]; omega⟩
theorem Pa.ok.late {P : Pa} (h : P.ok) (now : Int) : (P.late now).ok :=
  ⟨h.s1, h.s2, Gs.later_ok h.g, Wn.loss_ok h.w, by have := stay_len P.fl (now - P.g.wait); have := h.n; simp only [Pa.late]; omega⟩
/-- Behind a look at what is late, now. -/
def Pa.lateN (P : Pa) (now : Int) : Pa := if (P.lates now).length = 0 then P else P.late now
theorem Pa.ok.lateN {P : Pa} (h : P.ok) (now : Int) : (P.lateN now).ok := by
  unfold Pa.lateN
  split
  · exact h
  · exact h.late now
theorem Pa.lateN_no {P : Pa} {now : Int} (h : (P.lates now).length = 0) : P.setFl (stayQ P.fl (now - P.g.wait)) = P.lateN now := by
  unfold Pa.lateN
  rw [if_pos h, stay_all (List.eq_nil_of_length_eq_zero h)]
  rfl
theorem Pa.lateN_yes {P : Pa} {now : Int} (h : ¬ (P.lates now).length = 0) : ((((P.setFl (stayQ P.fl (now - P.g.wait))).setG P.g.later).setW P.wn.loss).setBe true) = P.lateN now := by
  unfold Pa.lateN
  rw [if_neg h]
  rfl
end Go.Proofs.Ytlkoenlimdfifaa

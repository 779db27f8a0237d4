/-
  Numbers that are gathered, append by append; a state's beginnings.
-/
import Derived.Test.YtpjlnpnadkbakaaGreatQBXOw
import Derived.Test.YtpjlnpnadkbakaaGreatQBEnOk
import Derived.Test.YtpjlnpnadkbakaaGreatQBFresh
import Derived.Test.YtpjlnpnadkbakaaGreatQBFlight4
import Derived.Test.YtpjlnpnadkbakaaGreatQBDocSched
import Derived.Test.YtpjlnpnadkbakaaGreatQBPair
namespace Go.Proofs.YtpjlnpnadkbakaaGreat
set_option maxRecDepth 10000
open Go.RowKit
structure StO (w wr : World) (A : Option Addr) (m c : Nat) (l : List Int) : Prop where
  len : l.length = m
  own : Own .i64 3 wr w.heap.size (.slice A m c) l
  bel : Below w.heap.size w wr
theorem StO.alloc {w wr : World} {A : Option Addr} {m c : Nat} {l : List Int} (h : StO w wr A m c l) (o : Obj) : StO w (wr.alloc o) A m c l := ⟨h.len, h.own.alloc o, h.bel.alloc h.bel.size o⟩
theorem StO.later {w wr w' : World} {A : Option Addr} {m c : Nat} {l : List Int} (h : StO w wr A m c l) (hb : Below wr.heap.size wr w') : StO w w' A m c l := ⟨h.len, h.own.later hb, h.bel.trans (hb.mono h.bel.size)⟩
theorem StO.app {w wr : World} {A : Option Addr} {m c : Nat} {l : List Int} (h : StO w wr A m c l) {B : Option Addr} {k d : Nat} {ys : List Int} (hk : ys.length = k) (hr : Rd .i64 wr B ys) (hm : m + k ≤ 1073741824) :
    ∃ A' c' w', (Builtin.append_ #[49, 49] 49 #[.slice A m c, .slice B k d]).run Tryz.prog wr = .ok (.slice A' (m + k) c') w' ∧ StO w w' A' (m + k) c' (l ++ ys) := by
  have hl := h.len
  obtain ⟨A2, c2, w2, hrun, ho2, hg2, -⟩ := run_append_f (P := Tryz.prog) wr .i64 49 49 3 (.int .i64 0) 8 Tryz.underlying49 info_intS rfl w.heap.size (.slice A m c) l h.own B k d ys hk hr (by unfold maxLen; omega) (by omega) h.bel.size
  rw [hl] at hrun ho2
  exact ⟨A2, c2, w2, hrun, by rw [List.length_append]; omega, ho2, h.bel.trans ((Trn.of_grown hg2).below h.bel.size (fun g hg => (h.own.lt g hg).1))⟩
theorem len_cnt : ∀ {ps : List (Int × Int)}, Norm ps → (ps.length : Int) ≤ cntL ps
  | [], _ => by simp [cntL]
  | p :: ps, h => by
    have h1 := h.head
    have h2 := len_cnt h.tail
    simp only [List.length_cons, cntL]
    omega
theorem En.ls_len {E : En} (hok : E.ok) : E.pl.ls.length ≤ 8194 := by
  have h1 := En.left_le hok
  have h2 := len_cnt hok.pl.norm
  have h3 := hok.pl.s1
  unfold En.left at h1
  omega
theorem lost_take {ls : List (Int × Int)} {j : Nat} (h : j < ls.length) : En.lostL (ls.take (j + 1)) = En.lostL (ls.take j) ++ [(ls.getD j (0, 0)).1, (ls.getD j (0, 0)).2] := by
  unfold En.lostL
  rw [List.take_add_one, List.flatMap_append, List.getElem?_eq_getElem h]
  simp [List.getD, h]
theorem lost_len : ∀ ls : List (Int × Int), (En.lostL ls).length = 2 * ls.length
  | [] => rfl
  | q :: ls => by
    have := lost_len ls
    unfold En.lostL at this ⊢
    rw [List.flatMap_cons, List.length_append, this]
    simp
    omega
theorem st_take {ps : List Pa} {j : Nat} (h : j < ps.length) : (ps.take (j + 1)).flatMap Pa.state = (ps.take j).flatMap Pa.state ++ (ps.getD j pz).state := by
  rw [List.take_add_one, List.flatMap_append, List.getElem?_eq_getElem h]
  simp [List.getD, h]
def En.st0 (E : En) : List Int := [E.now] ++ E.due
def En.st1 (E : En) : List Int := E.st0 ++ [E.limit, (E.o.xs.length : Int), oneI E.o.cl, E.o.ak, E.pl.sent, (E.pl.ls.length : Int)]
def En.stL (E : En) (j : Nat) : List Int := E.st1 ++ En.lostL (E.pl.ls.take j)
def En.st2 (E : En) : List Int := E.stL E.pl.ls.length ++ [E.i.tk, E.i.seen, E.i.ready, oneI E.i.done]
def En.stP (E : En) (j : Nat) : List Int := E.st2 ++ (E.ps.take j).flatMap Pa.state
theorem En.stP_all {E : En} {n : Nat} (h : E.ps.length = n) : E.stP n = E.state := by
  subst h
  unfold En.stP En.st2 En.stL En.st1 En.st0 En.state
  rw [List.take_length, List.take_length]
theorem En.stL_next {E : En} {j : Nat} (h : j < E.pl.ls.length) : E.stL (j + 1) = E.stL j ++ [(E.pl.ls.getD j (0, 0)).1, (E.pl.ls.getD j (0, 0)).2] := by
  unfold En.stL
  rw [lost_take h, List.append_assoc]
theorem En.stP_next {E : En} {j : Nat} (h : j < E.ps.length) : E.stP (j + 1) = E.stP j ++ (E.pa j).state := by
  unfold En.stP
  rw [st_take h, List.append_assoc]
  rfl
abbrev tRgS : TypeId := 143
structure StM (w wr : World) (A : Option Addr) (m c : Nat) (l : List Int) (M : Option Addr) (nl cm : Nat) (ls : List (Int × Int)) : Prop where
  st : StO w wr A m c l
  ow : OwnP tRgS wr w.heap.size (.slice M nl cm) ls
  ne : ∀ g, (Value.slice M nl cm).ownBlock = some g → (Value.slice A m c).ownBlock ≠ some g
section
variable {w wr w' : World} {A M : Option Addr} {m c nl cm : Nat} {l : List Int} {ls : List (Int × Int)}
theorem StM.new (h : StO w wr A m c l) (hm : OwnP tRgS w' wr.heap.size (.slice M nl cm) ls) (hb : Below wr.heap.size wr w') : StM w w' A m c l M nl cm ls :=
  ⟨h.later hb, hm.less h.bel.size, fun g hg e => by have h1 := (hm.lt g hg).1; have h2 := (h.own.lt g e).2; omega⟩
theorem StM.alloc (h : StM w wr A m c l M nl cm ls) (o : Obj) : StM w (wr.alloc o) A m c l M nl cm ls := ⟨h.st.alloc o, h.ow.alloc o, h.ne⟩
theorem StM.later (h : StM w wr A m c l M nl cm ls) (hb : Below wr.heap.size wr w') : StM w w' A m c l M nl cm ls := ⟨h.st.later hb, h.ow.later hb, h.ne⟩
theorem StM.app (h : StM w wr A m c l M nl cm ls) {B : Option Addr} {k d : Nat} {ys : List Int} (hk : ys.length = k) (hr : Rd .i64 wr B ys) (hm : m + k ≤ 1073741824) :
    ∃ A' c' w', (Builtin.append_ #[49, 49] 49 #[.slice A m c, .slice B k d]).run Tryz.prog wr = .ok (.slice A' (m + k) c') w' ∧ StM w w' A' (m + k) c' (l ++ ys) M nl cm ls := by
  have hl := h.st.len
  obtain ⟨A2, c2, w2, hrun, ho2, hg2, hw2⟩ := run_append_f (P := Tryz.prog) wr .i64 49 49 3 (.int .i64 0) 8 Tryz.underlying49 info_intS rfl w.heap.size (.slice A m c) l h.st.own B k d ys hk hr (by unfold maxLen; omega) (by omega) h.st.bel.size
  rw [hl] at hrun ho2 hw2
  refine ⟨A2, c2, w2, hrun, ⟨by rw [List.length_append]; omega, ho2, h.st.bel.trans ((Trn.of_grown hg2).below h.st.bel.size (fun g hg => (h.st.own.lt g hg).1))⟩, ?_, fun g hg e => ?_⟩
  · refine h.ow.kept hg2 ?_
    cases ho : (Value.slice M nl cm).ownBlock with
    | none => exact .inl rfl
    | some g => exact .inr (fun e => h.ne g ho e.symm)
  · rcases hw2 g e with h3 | h3
    · exact h.ne g hg h3
    · have := (h.ow.lt g hg).2
      omega
end
end Go.Proofs.YtpjlnpnadkbakaaGreat

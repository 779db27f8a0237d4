/-
  Mem · Tk · Clamp · RttMath · CwndMath · Own · Trn.
-/
import Derived.WalkKit
import Derived.WalkSpells
import Derived.Deep.Draws
import Derived.Lib.Hide
import Derived.ProofKit
import Derived.SizedLaws
import Derived.Deep.RegionHeld3
import Derived.Test.YtpjlnpnadkbakaaGreatRows
import Derived.IntWalk
import Derived.Deep.OwnRows
namespace Go.Proofs.YtpjlnpnadkbakaaGreat
set_option maxRecDepth 10000
open Go.RowKit
theorem ret_i {k : IntKind} {a b : Int} (h : a = b) : Ending.returned (.int k a) = .returned (.int k b) := by rw [h]
theorem ret_b {a b : Bool} (h : a = b) : Ending.returned (.bool a) = .returned (.bool b) := by rw [h]
def cel (k : IntKind) (xs : List Int) : List Value := xs.map (Value.int k)
def bts (xs : List Int) : Array Value := (xs.map (Value.int .u8)).toArray
theorem cel_len (k : IntKind) (xs : List Int) : (cel k xs).length = xs.length := by simp [cel]
theorem cel_one (k : IntKind) (xs : List Int) : ∀ u ∈ cel k xs, u.oneCell' = true := ints_oneCell k xs
def Rd (k : IntKind) (w : World) (A : Option Addr) (xs : List Int) : Prop :=
  xs = [] ∨ ∃ b off, A = some ⟨b, off, none⟩ ∧ ∀ i, i < xs.length → w.cell? ⟨b, off + i, none⟩ = some (.int k (xs.getD i 0))
section
variable {k : IntKind} {w w' : World} {A : Option Addr} {xs ys : List Int}
theorem Rd.drewN (h : Rd k w A xs) (n : Nat) : Rd k (w.drewN n) A xs := h
theorem Rd.drew (h : Rd k w A xs) : Rd k w.drew A xs := h
theorem Rd.later (h : Rd k w A xs) (hb : Below w.heap.size w w') : Rd k w' A xs := by
  rcases h with h | ⟨b, off, rfl, h⟩
  · exact .inl h
  · exact .inr ⟨b, off, rfl, fun i hi => cell_later hb (h i hi)⟩
theorem Rd.alloc (h : Rd k w A xs) (o : Obj) : Rd k (w.alloc o) A xs := h.later ((Below.refl _ _).alloc (Nat.le_refl _) _)
theorem Rd.keep (h : Rd k w A xs) (hk : ∀ a : Addr, (∃ v, w.cell? a = some v) → w'.cell? a = w.cell? a) : Rd k w' A xs := by
  rcases h with h | ⟨b, off, rfl, h⟩
  · exact .inl h
  · exact .inr ⟨b, off, rfl, fun i hi => by rw [hk _ ⟨_, h i hi⟩]; exact h i hi⟩
theorem Rd.new (w : World) (xs : List Int) (t : TypeId) : Rd .u8 (w.alloc (.cells (bts xs) t)) (some ⟨w.heap.size, 0, none⟩) xs := by
  refine .inr ⟨_, _, rfl, fun i hi => ?_⟩
  rw [Nat.zero_add]
  simp [bts, hi]
theorem Rd.take (h : Rd k w A xs) (n : Nat) : Rd k w A (xs.take n) := by
  rcases h with h | ⟨b, off, rfl, h⟩
  · exact .inl (by simp [h])
  · refine .inr ⟨b, off, rfl, fun i hi => ?_⟩
    have hi' : i < n ∧ i < xs.length := by simp at hi; omega
    rw [h i hi'.2]
    simp [List.getD, hi'.1]
theorem Rd.drop (h : Rd k w A xs) (n : Nat) (c : Nat) (hn : n ≤ xs.length) (hc : xs.length ≤ c) : Rd k w (if c = n then A else A.map (·.add n)) (xs.drop n) := by
  rcases h with h | ⟨b, off, rfl, h⟩
  · exact .inl (by simp [h])
  · by_cases e : c = n
    · exact .inl (by simp; omega)
    · rw [if_neg e]
      refine .inr ⟨b, off + n, by simp [Addr.add_lit], fun i hi => ?_⟩
      have hi' : n + i < xs.length := by simp at hi; omega
      rw [Nat.add_assoc, h (n + i) hi']
      simp [List.getD]
theorem Rd.cells (h : Rd k w A xs) : ∀ ad, A = some ad → ∀ j u, (cel k xs)[j]? = some u → w.cell? (ad.add j) = some u := by
  intro ad ha j u hu
  have hj : j < xs.length := by
    have := (List.getElem?_eq_some_iff.1 hu).1
    simpa [cel] using this
  rcases h with h | ⟨b, off, rfl, h⟩
  · subst h; simp at hj
  · obtain rfl := Option.some.inj ha
    rw [Addr.add_lit, h j hj]
    simp [cel, hj] at hu
    simp [List.getD, hj, hu]
theorem Rd.some_ (h : Rd k w A xs) (hne : 0 < xs.length) : ∃ b off, A = some ⟨b, off, none⟩ ∧ ∀ i, i < xs.length → w.cell? ⟨b, off + i, none⟩ = some (.int k (xs.getD i 0)) := by
  rcases h with h | h
  · subst h; simp at hne
  · exact h
theorem Rd.own {base : Nat} {e : TypeId} {n c : Nat} (h : w.ownsRow base e 1 (.slice A n c) n (cel k xs)) : Rd k w A xs := by
  have hl : xs.length = n := by have := h.1; rw [cel_len] at this; omega
  rcases h.2 with ⟨hv, h0⟩ | ⟨g, cap, cur, hv, _⟩
  · exact .inl (List.eq_nil_of_length_eq_zero (by omega))
  · injection hv with hA _ hc
    subst hA; subst hc
    refine .inr ⟨g, 0, rfl, fun i hi => ?_⟩
    rw [Nat.zero_add, h.cellAt i (by omega)]
    simp [cel, List.getD, hi]
end
theorem list_eq_of_getD {xs ys : List Int} (hl : xs.length = ys.length) (h : ∀ j, j < xs.length → xs.getD j 0 = ys.getD j 0) : xs = ys := by
  apply List.ext_getElem hl
  intro i h1 h2
  have := h i h1
  simpa [List.getD, h1, h2] using this
theorem below_drewN' {B : Nat} {a w : World} (h : Below B a w) (n : Nat) : Below B a (w.drewN n) := ⟨h.os, h.tape, h.output, h.size, h.block⟩
end Go.Proofs.YtpjlnpnadkbakaaGreat
namespace Go.Proofs.YtpjlnpnadkbakaaGreat
set_option maxRecDepth 10000
open Go.RowKit
theorem tkH {P : Program} {ops : Array Oper} {Q : Exit → Act → World → Prop} {md : Region.Mode} {S : World → Prop} (i : Nat) {oi : Oper} {v : Value} {fuel : Nat} {listed l2 : Array Bool} {a a2 : Act} {w : World}
    (h : wpAnyH P md ops Q S fuel l2 a2 w)
    (hi : ops[i]? = some oi := by rfl)
    (hs : Region.noSelect ops = true := by kernel_rfl)
    (hf : Region.free md ops listed i = true := by kernel_rfl)
    (hr : (Region.ready md ops listed).contains i = true := by kernel_rfl)
    (hQ : ∀ c a w, Q (.panic c) (a.put oi.dst v) w → Q (.panic c) a w := by exact fun _ _ _ h => h)
    (hg : Region.wanted oi (yielded ops a.tmps) = true := by rfl)
    (hy : ∀ w, S w → (execOp a.eval oi).run P w = .ok (.value v) w := by (intro w hSw; (try dsimp only at hSw); go_simp; try (with_reducible rfl)))
    (hS : S w := by assumption)
    (hl : listed.setIfInBounds i true = l2 := by ((try simp only [List.setIfInBounds_toArray, List.set_cons_zero, List.set_cons_succ]); exact rfl))
    (he : a.put oi.dst v = a2 := by ((try simp only [Act.put, List.getElem_toArray, List.getElem_cons_zero, List.getElem_cons_succ, List.setIfInBounds_toArray, List.set_cons_zero, List.set_cons_succ]); exact rfl)) :
    wpAnyH P md ops Q S (fuel + 1) listed a w := by
  subst hl; subst he
  exact wpAnyH_take hi hs hf hr hQ (Or.inl ⟨hg, hy⟩) hS h
end Go.Proofs.YtpjlnpnadkbakaaGreat
namespace Go.Proofs.YtpjlnpnadkbakaaGreat
set_option maxRecDepth 10000
def clampI (n lo hi : Int) : Int := min (max n lo) hi
theorem clampI_ge {n lo hi : Int} (h : lo ≤ hi) : lo ≤ clampI n lo hi := by unfold clampI; omega
theorem clampI_le (n lo hi : Int) : clampI n lo hi ≤ hi := by unfold clampI; omega
end Go.Proofs.YtpjlnpnadkbakaaGreat
namespace Go.Proofs.YtpjlnpnadkbakaaGreat
set_option maxRecDepth 10000
structure Gs where
  first : Int
  sm : Bool
  mean : Int
  spread : Int
  late : Nat
structure Gs.ok (g : Gs) : Prop where
  f1 : 1 ≤ g.first
  f2 : g.first ≤ 64
  m1 : 0 ≤ g.mean
  m2 : g.mean ≤ 1048576
  s1 : 0 ≤ g.spread
  s2 : g.spread ≤ 1048576
  l : g.late ≤ 6
def Gs.new (f : Int) : Gs := ⟨clampI f 1 64, false, 0, 0, 0⟩
def Gs.sp (g : Gs) (n : Int) : Int := if g.sm then (3 * g.spread + max (g.mean - n) (n - g.mean)) / 4 else n / 2
def Gs.mn (g : Gs) (n : Int) : Int := if g.sm then (7 * g.mean + n) / 8 else n
def Gs.sample (g : Gs) (n : Int) : Gs := ⟨g.first, true, g.mn (clampI n 0 1048576), g.sp (clampI n 0 1048576), 0⟩
def Gs.later (g : Gs) : Gs := ⟨g.first, g.sm, g.mean, g.spread, min (g.late + 1) 6⟩
def Gs.base (g : Gs) : Int := if g.sm then clampI (g.mean + max 1 (4 * g.spread)) 1 64 else g.first
def Gs.wait (g : Gs) : Int := min (g.base * 2 ^ g.late) 64
theorem Gs.new_ok (f : Int) : (Gs.new f).ok := ⟨clampI_ge (by decide), clampI_le _ _ _, by simp [Gs.new], by simp [Gs.new], by simp [Gs.new], by simp [Gs.new], by simp [Gs.new]⟩
theorem Gs.sample_ok {g : Gs} (h : g.ok) (n : Int) : (g.sample n).ok := by
  have h1 := clampI_ge (n := n) (lo := 0) (hi := 1048576) (by decide)
  have h2 := clampI_le n 0 1048576
  have := h.m1
  have := h.m2
  have := h.s1
  have := h.s2
  refine ⟨h.f1, h.f2, ?_, ?_, ?_, ?_, Nat.zero_le _⟩
  all_goals simp only [Gs.sample, Gs.mn, Gs.sp]; split <;> omega
theorem Gs.later_ok {g : Gs} (h : g.ok) : g.later.ok := ⟨h.f1, h.f2, h.m1, h.m2, h.s1, h.s2, by simp only [Gs.later]; omega⟩
theorem Gs.base_ge {g : Gs} (h : g.ok) : 1 ≤ g.base ∧ g.base ≤ 64 := by
  unfold Gs.base
  split
  · exact ⟨clampI_ge (by decide), clampI_le _ _ _⟩
  · exact ⟨h.f1, h.f2⟩
theorem Gs.prod {g : Gs} (h : g.ok) : 1 ≤ g.base * 2 ^ g.late ∧ g.base * 2 ^ g.late ≤ 4096 := by
  have ⟨b1, b2⟩ := Gs.base_ge h
  obtain ⟨b, hb⟩ : ∃ b, g.base = b := ⟨_, rfl⟩
  rw [hb] at b1 b2 ⊢
  have hl := h.l
  have : g.late = 0 ∨ g.late = 1 ∨ g.late = 2 ∨ g.late = 3 ∨ g.late = 4 ∨ g.late = 5 ∨ g.late = 6 := by omega
  rcases this with e | e | e | e | e | e | e <;> rw [e] <;> simp <;> omega
theorem Gs.wait_in {g : Gs} (h : g.ok) : 1 ≤ g.wait ∧ g.wait ≤ 64 := by
  have := Gs.prod h
  unfold Gs.wait
  omega
end Go.Proofs.YtpjlnpnadkbakaaGreat
namespace Go.Proofs.YtpjlnpnadkbakaaGreat
set_option maxRecDepth 10000
structure Wn where
  most : Int
  size : Int
  turn : Int
  count : Int
structure Wn.ok (g : Wn) : Prop where
  m1 : 1 ≤ g.most
  m2 : g.most ≤ 16
  s1 : 1 ≤ g.size
  s2 : g.size ≤ g.most
  t1 : 1 ≤ g.turn
  t2 : g.turn ≤ g.most
  k1 : 0 ≤ g.count
  k2 : g.count < g.size
def Wn.new (m : Int) : Wn := ⟨clampI m 1 16, min 2 (clampI m 1 16), clampI m 1 16, 0⟩
def Wn.ack (g : Wn) : Wn :=
  if g.size < g.turn then ⟨g.most, g.size + 1, g.turn, g.count⟩
  else if g.count + 1 = g.size then ⟨g.most, min (g.size + 1) g.most, g.turn, 0⟩
  else ⟨g.most, g.size, g.turn, g.count + 1⟩
def Wn.loss (g : Wn) : Wn := ⟨g.most, max (g.size / 2) 1, max (g.size / 2) 1, 0⟩
theorem Wn.new_ok (m : Int) : (Wn.new m).ok := by
  refine ⟨?_, ?_, ?_, ?_, ?_, ?_, ?_, ?_⟩ <;> simp only [Wn.new, clampI] <;> omega
theorem Wn.ack_ok {g : Wn} (h : g.ok) : g.ack.ok := by
  obtain ⟨most, size, turn, count⟩ := g
  obtain ⟨h1, h2, h3, h4, h5, h6, h7, h8⟩ := h
  simp only at h1 h2 h3 h4 h5 h6 h7 h8
  unfold Wn.ack
  simp only
  split
  · refine ⟨?_, ?_, ?_, ?_, ?_, ?_, ?_, ?_⟩ <;> simp only <;> omega
  · split
    · refine ⟨?_, ?_, ?_, ?_, ?_, ?_, ?_, ?_⟩ <;> simp only <;> omega
    · refine ⟨?_, ?_, ?_, ?_, ?_, ?_, ?_, ?_⟩ <;> simp only <;> omega
theorem Wn.loss_ok {g : Wn} (h : g.ok) : g.loss.ok := by
  obtain ⟨most, size, turn, count⟩ := g
  obtain ⟨h1, h2, h3, h4, h5, h6, h7, h8⟩ := h
  simp only at h1 h2 h3 h4 h5 h6 h7 h8
  refine ⟨?_, ?_, ?_, ?_, ?_, ?_, ?_, ?_⟩ <;> simp only [Wn.loss] <;> omega
end Go.Proofs.YtpjlnpnadkbakaaGreat
namespace Go.Proofs.YtpjlnpnadkbakaaGreat
set_option maxRecDepth 10000
open Go.RowKit
def Own (k : IntKind) (e : TypeId) (w : World) (B : Nat) (v : Value) (xs : List Int) : Prop := w.ownsRow B e 1 v xs.length (cel k xs)
section
variable {k : IntKind} {e : TypeId} {w w' : World} {B : Nat} {v : Value} {xs ys : List Int}
theorem Own.nil (k : IntKind) (e : TypeId) (w : World) (B : Nat) : Own k e w B (.slice none 0 0) [] := World.ownsRow_nil w B e 1
theorem Own.form (h : Own k e w B v xs) : ∃ A c, v = .slice A xs.length c := by
  rcases h.2 with ⟨rfl, h0⟩ | ⟨g, cap, cur, rfl, _⟩
  · exact ⟨none, 0, by rw [h0]⟩
  · exact ⟨_, _, rfl⟩
theorem Own.rd {A : Option Addr} {n c : Nat} (h : Own k e w B (.slice A n c) xs) : Rd k w A xs := by
  have hn : xs.length = n := by
    obtain ⟨A', c', hv⟩ := h.form
    injection hv with _ h2 _
    exact h2.symm
  have h' : w.ownsRow B e 1 (.slice A n c) n (cel k xs) := by rw [← hn]; unfold Own at h; rw [← hn] at h; exact h
  exact Rd.own h'
theorem Own.drewN (h : Own k e w B v xs) (n : Nat) : Own k e (w.drewN n) B v xs := h
theorem Own.alloc (h : Own k e w B v xs) (o : Obj) : Own k e (w.alloc o) B v xs := World.ownsRow.alloc h o
theorem Own.kept {row : Option Nat} (h : Own k e w B v xs) (hg : w.grownBy w' row) (hne : v.ownBlock = none ∨ v.ownBlock ≠ row) : Own k e w' B v xs := World.ownsRow.kept h hg hne
theorem Own.later (h : Own k e w B v xs) (hb : Below w.heap.size w w') : Own k e w' B v xs :=
  h.kept (row := none) ⟨hb.os, hb.tape, hb.output, hb.size, fun i hi _ => hb.block i hi⟩ (by cases v.ownBlock <;> simp)
theorem Own.lt (h : Own k e w B v xs) : ∀ g, v.ownBlock = some g → B ≤ g ∧ g < w.heap.size := World.ownsRow.lt h
theorem Own.less {B' : Nat} (h : Own k e w B v xs) (hB : B' ≤ B) : Own k e w B' v xs := by
  refine ⟨h.1, ?_⟩
  rcases h.2 with h2 | ⟨g, cap, cur, hv, hg, r⟩
  · exact .inl h2
  · exact .inr ⟨g, cap, cur, hv, Nat.le_trans hB hg, r⟩
theorem Own.apart {k' : IntKind} {e' : TypeId} {B' : Nat} {v' : Value} (h : Own k e w B v xs) (h' : Own k' e' w B' v' ys) (hne : e ≠ e') : v.ownBlock = none ∨ v.ownBlock ≠ v'.ownBlock := by
  rcases h.2 with ⟨rfl, _⟩ | ⟨g, cap, cur, rfl, _, hh, _⟩
  · exact .inl rfl
  · right
    rcases h'.2 with ⟨rfl, _⟩ | ⟨g', cap', cur', rfl, _, hh', _⟩
    · simp [Value.ownBlock]
    · intro he
      simp only [Value.ownBlock, Option.some.injEq] at he
      subst he
      rw [hh] at hh'
      injection hh' with hh'
      injection hh' with _ ht
      exact hne ht
theorem Own.block {A : Option Addr} {n c : Nat} (h : Own k e w B (.slice A n c) xs) (h0 : 0 < n) :
    ∃ g, A = some ⟨g, 0, none⟩ ∧ B ≤ g ∧ g < w.heap.size ∧ xs.length = n ∧ (∀ i, i < n → w.cell? ⟨g, i, none⟩ = some (.int k (xs.getD i 0))) ∧ ∀ i, w.frozen? ⟨g, i, none⟩ = false := by
  have hn : xs.length = n := by
    obtain ⟨A', c', hv⟩ := h.form
    injection hv with _ h2 _
    exact h2.symm
  have h' : w.ownsRow B e 1 (.slice A n c) n (cel k xs) := by unfold Own at h; rw [hn] at h; exact h
  rcases h'.2 with ⟨hv, h1⟩ | ⟨g, cap, cur, hv, hg, hh, _⟩
  · omega
  · injection hv with hA _ hc
    subst hA; subst hc
    refine ⟨g, rfl, hg, (h'.lt g (by simp [Value.ownBlock])).2, hn, fun i hi => ?_, fun i => h'.frozenAt i⟩
    rw [h'.cellAt i (by omega)]
    simp [cel, List.getD, hn, hi]
theorem Own.cap {A : Option Addr} {n c : Nat} (h : Own k e w B (.slice A n c) xs) : n ≤ c := by
  rcases h.2 with ⟨hv, _⟩ | ⟨g, cap, cur, hv, _, _, hn, _⟩
  · injection hv with _ h2 h3; omega
  · injection hv with _ h2 h3; omega
theorem Own.stored {g n c : Nat} (h : Own k e w B (.slice (some ⟨g, 0, none⟩) n c) xs) (hn : xs.length = n) (j : Nat) (x : Int) :
    Own k e (w.setCell ⟨g, j, none⟩ (.int k x)) B (.slice (some ⟨g, 0, none⟩) n c) (xs.set j x) := by
  unfold Own at h ⊢
  rw [List.length_set]
  rw [hn] at h ⊢
  have := (World.ownsRow.stored h j (.int k x)).1
  simpa [cel, List.map_set] using this
theorem Own.new (w : World) (xs : List Int) (t : TypeId) (hl : xs.length ≤ maxLen) : Own .u8 t (w.alloc (.cells (bts xs) t)) w.heap.size (.slice (some ⟨w.heap.size, 0, none⟩) xs.length xs.length) xs := by
  have := World.ownsRow_lit (base := w.heap.size) (e := t) (size := 1) w (bts xs) xs.length (Nat.le_refl _) hl (by simp [bts])
  simpa [Own, bts, cel] using this
theorem grown_below {row : Option Nat} (hg : w.grownBy w' row) (hB : B ≤ w.heap.size) (hr : ∀ g, row = some g → B ≤ g) : Below B w w' := (Below.refl B w).grown hg hB hr
theorem Own.none_len {k : IntKind} {e : TypeId} {w : World} {B : Nat} {A : Option Addr} {n c : Nat} {xs : List Int} (h : Own k e w B (.slice A n c) xs) (hA : A = none) : c = 0 ∧ n = 0 := by
  rcases h.2 with ⟨hv, _⟩ | ⟨g, cap, cur, hv, _⟩
  · injection hv with _ h2 h3; exact ⟨h3, h2⟩
  · injection hv with h1 _ _
    rw [hA] at h1; cases h1
end
theorem setCell_one (w : World) (b i : Nat) (v : Value) : w.grownBy (w.setCell ⟨b, i, none⟩ v) (some b) := by
  refine ⟨rfl, rfl, rfl, by simp, fun k hk hne => ?_⟩
  exact heap_setCell_other _ _ _ _ (fun e => hne (by simp [e]))
section
variable {P : Program} (w : World)
theorem run_app (k : IntKind) (t ty e : TypeId) (z : Value) (bytes : Nat) (ht : P.underlying t = some (.slice e)) (hinfo : (P.info? e).map (fun i => (i.zero, i.size, i.bytes)) = some (some z, 1, bytes)) (hz1 : z.cells.size = 1)
    (B : Nat) (v : Value) (xs : List Int) (hown : Own k e w B v xs) (A : Option Addr) (m c : Nat) (ys : List Int) (hm : ys.length = m) (hr : Rd k w A ys)
    (hmax : xs.length + m ≤ maxLen) (hbytes : (xs.length + m) * bytes ≤ 140737488355328) (hB : B ≤ w.heap.size) :
    ∃ A' c' w', (Builtin.append_ #[t, t] ty #[v, .slice A m c]).run P w = .ok (.slice A' (xs.length + m) c') w' ∧ Own k e w' B (.slice A' (xs.length + m) c') (xs ++ ys) ∧ w.grownBy w' v.ownBlock := by
  obtain ⟨i, hi, hz0, hz2, hz3⟩ := info_parts hinfo
  cases A with
  | some ad =>
    obtain ⟨v', w', hrun, h2, h3, _⟩ := run_append_own (P := P) w B t ty e i z 1 bytes ht hi hz0 hz2 hz3 hz1 (by omega) v xs.length (cel k xs) hown ad m c (cel k ys) (by simp [cel, hm]) (hr.cells ad rfl) (cel_one k ys) hmax hbytes hB
    have hlen : (xs ++ ys).length = xs.length + m := by simp [hm]
    have ho : Own k e w' B v' (xs ++ ys) := by
      unfold Own; rw [hlen]; simpa [cel] using h2
    obtain ⟨A', c', rfl⟩ := ho.form
    rw [hlen] at hrun ho
    exact ⟨A', c', w', hrun, ho, h3⟩
  | none =>
    have hy : ys = [] := by
      rcases hr with h | ⟨b, off, h, _⟩
      · exact h
      · cases h
    subst hy
    have hm0 : m = 0 := by simpa using hm.symm
    subst hm0
    obtain ⟨A', c', rfl⟩ := hown.form
    have hrun : (Builtin.append_ #[t, t] ty #[.slice A' xs.length c', .slice none 0 c]).run P w = .ok (.slice A' xs.length c') w := by
      rcases hown.2 with ⟨hv, h0⟩ | ⟨g, cap, cur, hv, _, _, hnc, _⟩
      · injection hv with h1 _ h3
        subst h1; subst h3
        rw [h0]
        simp [Builtin.append_, run_underlying ht, sizeOf, typeInfo, hi, Builtin.lenOf, Builtin.firstCells]
      · injection hv with h1 _ h3
        subst h1; subst h3
        simp [Builtin.append_, run_underlying ht, sizeOf, typeInfo, hi, Builtin.lenOf, Builtin.firstCells, hnc, storeCells]
    refine ⟨A', c', w, by simpa using hrun, by simpa using hown, World.grownBy.refl _ _⟩
theorem wpList_app (k : IntKind) {ops : Array Oper} {rest : List Oper} {o : Oper} {a : Act} {Q : Exit → Act → World → Prop} (hgd : o.guard = none) (s x : Operand) (t : TypeId)
    (ho : o.op = .call { callee := .builtin .append, args := #[s, x], argTypes := #[t, t] })
    (e : TypeId) (z : Value) (bytes : Nat) (ht : P.underlying t = some (.slice e)) (hinfo : (P.info? e).map (fun i => (i.zero, i.size, i.bytes)) = some (some z, 1, bytes)) (hz1 : z.cells.size = 1)
    (B : Nat) (v : Value) (xs : List Int) (hs : a.eval s = v) (hown : Own k e w B v xs) (A : Option Addr) (m c : Nat) (hx : a.eval x = .slice A m c) (ys : List Int) (hm : ys.length = m) (hr : Rd k w A ys)
    (hmax : xs.length + m ≤ maxLen) (hbytes : (xs.length + m) * bytes ≤ 140737488355328) (hB : B ≤ w.heap.size)
    (h : ∀ A' c' w', Own k e w' B (.slice A' (xs.length + m) c') (xs ++ ys) → w.grownBy w' v.ownBlock → wpList P ops Q rest (a.put o.dst (.slice A' (xs.length + m) c')) w') : wpList P ops Q (o :: rest) a w := by
  refine wpList_plain hgd fun _ hK => ?_
  obtain ⟨A', c', w', hrun, h2, h3⟩ := run_app (P := P) w k t o.type e z bytes ht hinfo hz1 B v xs hown A m c ys hm hr hmax hbytes hB
  unfold Oper.wp execOp
  simp only [ho, resolve, invoke, builtin, Sem.run_bind, Sem.run_pure, Result.andThen_ok, List.map_toArray, List.map_cons, List.map_nil, hs, hx, hrun]
  exact hK _ _ (h A' c' w' h2 h3)
end
end Go.Proofs.YtpjlnpnadkbakaaGreat
namespace Go.Proofs.YtpjlnpnadkbakaaGreat
set_option maxRecDepth 10000
open Go.RowKit
structure Trn (w w' : World) (F : Nat → Prop) : Prop where
  os : w'.os = w.os
  tape : w'.tape = w.tape
  output : w'.output = w.output
  size : w.heap.size ≤ w'.heap.size
  block : ∀ k, k < w.heap.size → ¬ F k → w'.heap[k]? = w.heap[k]?
section
variable {w w1 w' w2 w0 : World} {F G F' F'' : Nat → Prop}
theorem Trn.refl (w : World) (F : Nat → Prop) : Trn w w F := ⟨rfl, rfl, rfl, Nat.le_refl _, fun _ _ _ => rfl⟩
theorem Trn.of_grown {row : Option Nat} (h : w.grownBy w' row) : Trn w w' (fun k => row = some k) := ⟨h.os, h.tape, h.output, h.size, fun k hk hn => h.block k hk (fun e => hn e.symm)⟩
theorem Trn.of_below (h : Below w.heap.size w w') : Trn w w' F := ⟨h.os, h.tape, h.output, h.size, fun k hk _ => h.block k hk⟩
theorem Trn.trans (h : Trn w w1 F) (h' : Trn w1 w2 F') (hF : ∀ k, F k → G k) (hG : ∀ k, k < w.heap.size → F' k → G k) : Trn w w2 G :=
  ⟨h'.os.trans h.os, h'.tape.trans h.tape, h'.output.trans h.output, Nat.le_trans h.size h'.size, fun k hk hn =>
    (h'.block k (Nat.lt_of_lt_of_le hk h.size) (fun e => hn (hG k hk e))).trans (h.block k hk (fun e => hn (hF k e)))⟩
theorem Trn.mono (h : Trn w w' F) (hF : ∀ k, k < w.heap.size → F k → G k) : Trn w w' G := ⟨h.os, h.tape, h.output, h.size, fun k hk hn => h.block k hk (fun e => hn (hF k hk e))⟩
theorem Trn.below {B : Nat} (h : Trn w w' F) (hB : B ≤ w.heap.size) (hF : ∀ k, F k → B ≤ k) : Below B w w' :=
  ⟨h.os, h.tape, h.output, h.size, fun k hk => h.block k (by omega) (fun e => by have := hF k e; omega)⟩
theorem Trn.rowIs {b : Nat} {t : TypeId} {n : Nat} {f : Nat → Value} (h : Trn w w' F) (hr : w.rowIs b t n f) (hb : ¬ F b) : w'.rowIs b t n f := hr.of_block (h.block b hr.lt hb)
theorem Trn.own {q : IntKind} {e : TypeId} {B : Nat} {v : Value} {xs : List Int} (h : Trn w w' F) (ho : Own q e w B v xs) (hb : ∀ g, v.ownBlock = some g → ¬ F g) : Own q e w' B v xs := by
  refine ⟨ho.1, ?_⟩
  rcases ho.2 with h2 | ⟨g, cap, cur, rfl, hB, hg, r⟩
  · exact .inl h2
  · exact .inr ⟨g, cap, cur, rfl, hB, by rw [h.block g (Array.getElem?_eq_some_iff.1 hg).1 (hb g rfl)]; exact hg, r⟩
structure SC (w w' : World) (F F' : Nat → Prop) : Prop where
  trn : Trn w w' F
  sub : ∀ k, F' k → F k ∨ w.heap.size ≤ k
theorem SC.trans (h : SC w w1 F F') (h' : SC w1 w2 F' F'') : SC w w2 F F'' :=
  ⟨h.trn.trans h'.trn (fun _ hk => hk) (fun k hk hF => (h.sub k hF).resolve_right (by omega)), fun k hk => by
    rcases h'.sub k hk with h1 | h1
    · exact h.sub k h1
    · exact .inr (Nat.le_trans h.trn.size h1)⟩
theorem SC.refl (w : World) (F : Nat → Prop) : SC w w F F := ⟨Trn.refl _ _, fun _ h => .inl h⟩
theorem SC.of_below (h : Below w.heap.size w w') : SC w w' F F := ⟨Trn.of_below h, fun _ h => .inl h⟩
theorem SC.below {B : Nat} (h : SC w w' F F') (hB : B ≤ w.heap.size) (hF : ∀ k, F k → B ≤ k) : Below B w w' := h.trn.below hB hF
theorem SC.out {g : Nat} (h : SC w w' F F') (hg : g < w.heap.size) (hn : ¬ F g) : ¬ F' g := fun e => (h.sub g e).elim hn (fun h1 => by omega)
end
section
variable {w w' : World} {F F' : Nat → Prop}
theorem rd_trn {k : IntKind} {A : Option Addr} {xs : List Int} (h : Rd k w A xs) (ht : Trn w w' F) (hn : ∀ a, A = some a → ¬ F a.block) : Rd k w' A xs := by
  rcases h with h | ⟨b, off, rfl, h⟩
  · exact .inl h
  · refine .inr ⟨b, off, rfl, fun i hi => ?_⟩
    have hc := h i hi
    have hlt : b < w.heap.size := World.block_lt_of_cell? w _ hc
    rw [← hc]
    exact World.cell?_of_block (ht.block b hlt (hn _ rfl))
end
end Go.Proofs.YtpjlnpnadkbakaaGreat

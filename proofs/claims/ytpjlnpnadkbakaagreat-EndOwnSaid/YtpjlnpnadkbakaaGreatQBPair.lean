/-
  Pair · MinMax · SetF · DocIn.
-/
import Derived.Test.YtpjlnpnadkbakaaGreatQBMem
import Derived.Laws.CopyOwn
import Derived.Lib.AppendZerosOnto
import Derived.Lib.Overlaps
import Derived.Deep.OwnRows
import Derived.Test.YtpjlnpnadkbakaaGreatRows
import Derived.IntWalk
import Derived.WalkLawsBesides
import Derived.Handy
import Derived.Test.YtpjlnpnadkbakaaGreatQBRangesMath
import Derived.Test.YtpjlnpnadkbakaaGreatQBEnOk
import Derived.Deep.QuietTactic
import Derived.Deep.LoopGhost
import Derived.OwnWalk
import Derived.Test.YtpjlnpnadkbakaaGreatQBCountMath
import Derived.Test.YtpjlnpnadkbakaaGreatQBQuad
import Derived.Deep.RegionHeld3
import Derived.BigQuiet
namespace Go.Proofs.YtpjlnpnadkbakaaGreat
set_option maxRecDepth 10000
open Go.RowKit
def prs (ps : List (Int × Int)) : List Value := ps.flatMap fun p => [.int .i64 p.1, .int .i64 p.2]
theorem prs_nil : prs [] = [] := rfl
theorem prs_cons (p : Int × Int) (ps : List (Int × Int)) : prs (p :: ps) = .int .i64 p.1 :: .int .i64 p.2 :: prs ps := by simp [prs]
theorem prs_len (ps : List (Int × Int)) : (prs ps).length = ps.length * 2 := by
  induction ps with
  | nil => rfl
  | cons p ps ih => rw [prs_cons, List.length_cons, List.length_cons, List.length_cons, ih]; omega
theorem prs_app (a b : List (Int × Int)) : prs (a ++ b) = prs a ++ prs b := by simp [prs]
theorem prs_take (ps : List (Int × Int)) (k : Nat) : (prs ps).take (k * 2) = prs (ps.take k) := by
  induction ps generalizing k with
  | nil => simp [prs_nil]
  | cons p ps ih =>
    cases k with
    | zero => simp [prs_nil]
    | succ k => rw [show (k + 1) * 2 = k * 2 + 1 + 1 by omega, prs_cons, List.take_succ_cons, List.take_succ_cons, ih, List.take_succ_cons, prs_cons]
theorem prs_drop (ps : List (Int × Int)) (k : Nat) : (prs ps).drop (k * 2) = prs (ps.drop k) := by
  induction ps generalizing k with
  | nil => simp [prs_nil]
  | cons p ps ih =>
    cases k with
    | zero => simp
    | succ k => rw [show (k + 1) * 2 = k * 2 + 1 + 1 by omega, prs_cons, List.drop_succ_cons, List.drop_succ_cons, ih, List.drop_succ_cons]
theorem prs_get (ps : List (Int × Int)) (i : Nat) (hi : i < ps.length) : (prs ps)[i * 2]? = some (.int .i64 (ps.getD i (0, 0)).1) ∧ (prs ps)[i * 2 + 1]? = some (.int .i64 (ps.getD i (0, 0)).2) := by
  induction ps generalizing i with
  | nil => simp at hi
  | cons p ps ih =>
    cases i with
    | zero => simp [prs_cons]
    | succ i =>
      have := ih i (by simpa using hi)
      rw [prs_cons, show (i + 1) * 2 = i * 2 + 1 + 1 by omega, List.getElem?_cons_succ, List.getElem?_cons_succ, show i * 2 + 1 + 1 + 1 = i * 2 + 1 + 1 + 1 from rfl, List.getElem?_cons_succ, List.getElem?_cons_succ]
      simpa using this
theorem prs_one (ps : List (Int × Int)) : ∀ u ∈ prs ps, u.oneCell' = true := by
  intro u hu
  simp only [prs, List.mem_flatMap] at hu
  obtain ⟨p, _, hp⟩ := hu
  simp only [List.mem_cons, List.not_mem_nil, or_false] at hp
  rcases hp with rfl | rfl <;> rfl
def OwnP (e : TypeId) (w : World) (B : Nat) (v : Value) (ps : List (Int × Int)) : Prop := w.ownsRow B e 2 v ps.length (prs ps)
section
variable {e : TypeId} {w w' : World} {B : Nat} {v : Value} {ps qs : List (Int × Int)}
theorem OwnP.nil (e : TypeId) (w : World) (B : Nat) : OwnP e w B (.slice none 0 0) [] := World.ownsRow_nil w B e 2
theorem OwnP.parts (h : OwnP e w B v ps) : (v = .slice none 0 0 ∧ ps = []) ∨
    ∃ g cap, ∃ cur : List Value, v = .slice (some ⟨g, 0, none⟩) ps.length cap ∧ B ≤ g ∧ w.heap[g]? = some (.cells cur.toArray e (0, 0)) ∧ ps.length ≤ cap ∧ cap ≤ maxLen ∧ cur.length = cap * 2 ∧ cur.take (ps.length * 2) = prs ps := by
  rcases h.2 with ⟨rfl, h0⟩ | ⟨g, cap, cur, rfl, h1, h2, h3, h4, h5, h6⟩
  · exact .inl ⟨rfl, List.eq_nil_of_length_eq_zero h0⟩
  · exact .inr ⟨g, cap, cur.toList, rfl, h1, by simpa using h2, h3, h4, by simpa using h5, h6⟩
theorem OwnP.of {g cap n : Nat} {cur : List Value} (hB : B ≤ g) (hg : w.heap[g]? = some (.cells cur.toArray e (0, 0))) (hn : ps.length = n) (hc : n ≤ cap) (hm : cap ≤ maxLen) (hl : cur.length = cap * 2) (ht : cur.take (n * 2) = prs ps) :
    OwnP e w B (.slice (some ⟨g, 0, none⟩) n cap) ps := by
  subst hn
  exact ⟨prs_len ps, .inr ⟨g, cap, cur.toArray, rfl, hB, hg, hc, hm, by simpa using hl, by simpa using ht⟩⟩
theorem OwnP.form (h : OwnP e w B v ps) : ∃ A c, v = .slice A ps.length c := by
  rcases h.parts with ⟨rfl, rfl⟩ | ⟨g, cap, cur, rfl, _⟩
  · exact ⟨none, 0, rfl⟩
  · exact ⟨_, _, rfl⟩
theorem OwnP.len {A : Option Addr} {n c : Nat} (h : OwnP e w B (.slice A n c) ps) : ps.length = n := by
  obtain ⟨A', c', hv⟩ := h.form
  injection hv with _ h2 _
  exact h2.symm
theorem OwnP.drewN (h : OwnP e w B v ps) (n : Nat) : OwnP e (w.drewN n) B v ps := h
theorem OwnP.kept {row : Option Nat} (h : OwnP e w B v ps) (hg : w.grownBy w' row) (hne : v.ownBlock = none ∨ v.ownBlock ≠ row) : OwnP e w' B v ps := World.ownsRow.kept h hg hne
theorem OwnP.later (h : OwnP e w B v ps) (hb : Below w.heap.size w w') : OwnP e w' B v ps :=
  h.kept (row := none) ⟨hb.os, hb.tape, hb.output, hb.size, fun i hi _ => hb.block i hi⟩ (by cases v.ownBlock <;> simp)
theorem OwnP.alloc (h : OwnP e w B v ps) (o : Obj) : OwnP e (w.alloc o) B v ps := World.ownsRow.alloc h o
theorem OwnP.lt (h : OwnP e w B v ps) : ∀ g, v.ownBlock = some g → B ≤ g ∧ g < w.heap.size := World.ownsRow.lt h
theorem OwnP.less {B' : Nat} (h : OwnP e w B v ps) (hB : B' ≤ B) : OwnP e w B' v ps := by
  refine ⟨h.1, ?_⟩
  rcases h.2 with h2 | ⟨g, cap, cur, hv, hg, r⟩
  · exact .inl h2
  · exact .inr ⟨g, cap, cur, hv, Nat.le_trans hB hg, r⟩
theorem OwnP.more {B' : Nat} (h : OwnP e w B v ps) (hB : ∀ g, v.ownBlock = some g → B' ≤ g) : OwnP e w B' v ps := by
  refine ⟨h.1, ?_⟩
  rcases h.2 with h2 | ⟨g, cap, cur, hv, hg, r⟩
  · exact .inl h2
  · subst hv
    exact .inr ⟨g, cap, cur, rfl, hB g rfl, r⟩
theorem OwnP.cells {g n c : Nat} (h : OwnP e w B (.slice (some ⟨g, 0, none⟩) n c) ps) (i : Nat) (hi : i < n) :
    w.cell? ⟨g, i * 2, none⟩ = some (.int .i64 (ps.getD i (0, 0)).1) ∧ w.cell? ⟨g, i * 2 + 1, none⟩ = some (.int .i64 (ps.getD i (0, 0)).2) := by
  have hn := h.len
  have h' : w.ownsRow B e 2 (.slice (some ⟨g, 0, none⟩) n c) n (prs ps) := by unfold OwnP at h; rw [hn] at h; exact h
  have hg := prs_get ps i (by omega)
  exact ⟨(h'.cellAt (i * 2) (by omega)).trans hg.1, (h'.cellAt (i * 2 + 1) (by omega)).trans hg.2⟩
theorem OwnP.at {A : Option Addr} {n c : Nat} (h : OwnP e w B (.slice A n c) ps) (h0 : 0 < n) : ∃ g, A = some ⟨g, 0, none⟩ ∧ B ≤ g ∧ g < w.heap.size := by
  have hn := h.len
  rcases h.parts with ⟨_, rfl⟩ | ⟨g, cap, cur, hv, hB, _⟩
  · simp at hn; omega
  · injection hv with hA _ _
    subst hA
    exact ⟨g, rfl, hB, (h.lt g rfl).2⟩
theorem OwnP.src {g n c : Nat} (h : OwnP e w B (.slice (some ⟨g, 0, none⟩) n c) ps) (k : Nat) : ∀ j v, (prs (ps.drop k))[j]? = some v → w.cell? ((⟨g, k * 2, none⟩ : Addr).add j) = some v := by
  intro j v hj
  have hn := h.len
  have h' : w.ownsRow B e 2 (.slice (some ⟨g, 0, none⟩) n c) n (prs ps) := by unfold OwnP at h; rw [hn] at h; exact h
  have hl : k * 2 + j < n * 2 := by
    have := (List.getElem?_eq_some_iff.1 hj).1
    rw [prs_len, List.length_drop] at this
    omega
  rw [Addr.add_lit, h'.cellAt _ hl, ← hj, ← prs_drop, List.getElem?_drop]
theorem OwnP.cap {A : Option Addr} {n c : Nat} (h : OwnP e w B (.slice A n c) ps) : n ≤ c ∧ c ≤ maxLen := by
  rcases h.parts with ⟨hv, rfl⟩ | ⟨g, cap, cur, hv, _, _, h1, h2, _⟩
  · injection hv with _ h2 h3
    subst h2; subst h3
    exact ⟨Nat.le_refl _, by unfold maxLen; omega⟩
  · injection hv with _ h3 h4
    subst h4; subst h3
    exact ⟨h1, h2⟩
theorem OwnP.heap {a : Addr} {n c : Nat} (h : OwnP e w B (.slice (some a) n c) ps) : a = ⟨a.block, 0, none⟩ ∧ ∃ cur : List Value, w.heap[a.block]? = some (.cells cur.toArray e (0, 0)) ∧ cur.length = c * 2 ∧ cur.take (n * 2) = prs ps ∧ B ≤ a.block ∧ n ≤ c ∧ c ≤ maxLen ∧ ps.length = n := by
  rcases h.parts with ⟨hv, _⟩ | ⟨g, cap, cur, hv, h1, h2, h3, h4, h5, h6⟩
  · injection hv with hA _ _
    cases hA
  · injection hv with hA hn hc
    injection hA with hA
    subst hA
    subst hc
    rw [hn]
    rw [← hn] at h3 h6
    exact ⟨rfl, cur, h2, h5, by rw [hn] at h6; exact h6, h1, by omega, h4, rfl⟩
theorem OwnP.new (w : World) (cs : Array Value) (e : TypeId) (ps : List (Int × Int)) (hc : cs.toList = prs ps) (hl : ps.length ≤ maxLen) : OwnP e (w.alloc (.cells cs e)) w.heap.size (.slice (some ⟨w.heap.size, 0, none⟩) ps.length ps.length) ps := by
  have := World.ownsRow_lit (base := w.heap.size) (e := e) (size := 2) w cs ps.length (Nat.le_refl _) hl (by rw [← Array.length_toList, hc, prs_len])
  rwa [hc] at this
end
theorem grown_drP {w w' : World} {r : Option Nat} (h : w.drew.grownBy w' r) : w.grownBy w' r := ⟨h.os, h.tape, h.output, h.size, h.block⟩
theorem grown_drewN' {w w' : World} {k : Nat} {r : Option Nat} (h : (w.drewN k).grownBy w' r) : w.grownBy w' r := ⟨h.os, h.tape, h.output, h.size, h.block⟩
theorem grown_none {w w' : World} {r : Option Nat} (h : w.grownBy w' none) : w.grownBy w' r := ⟨h.os, h.tape, h.output, h.size, fun k hk _ => h.block k hk (by simp)⟩
theorem grown_new {w w1 w2 : World} {r : Option Nat} (h1 : w.grownBy w1 none) (h2 : w1.grownBy w2 (some w.heap.size)) : w.grownBy w2 r :=
  ⟨h2.os.trans h1.os, h2.tape.trans h1.tape, h2.output.trans h1.output, Nat.le_trans h1.size h2.size, fun k hk _ => (h2.block k (Nat.lt_of_lt_of_le hk h1.size) (by simp; omega)).trans (h1.block k hk (by simp))⟩
structure Src (w : World) (A : Option Addr) (m : Nat) (qs : List (Int × Int)) (g : Nat) : Prop where
  len : qs.length = m
  rd : 0 < m → ∃ gb, A = some ⟨gb, 0, none⟩ ∧ gb ≠ g ∧ ∀ j u, (prs qs)[j]? = some u → w.cell? ⟨gb, j, none⟩ = some u
theorem Src.grown {w w' : World} {A : Option Addr} {m : Nat} {qs : List (Int × Int)} {g : Nat} (h : Src w A m qs g) (hg : w.grownBy w' (some g)) : Src w' A m qs g :=
  ⟨h.len, fun h0 => by
    obtain ⟨gb, hA, hne, hc⟩ := h.rd h0
    exact ⟨gb, hA, hne, fun j u hj => hg.cell (hc j u hj) (by simpa using hne)⟩⟩
theorem Src.drew {w : World} {A : Option Addr} {m : Nat} {qs : List (Int × Int)} {g : Nat} (h : Src w A m qs g) : Src w.drew A m qs g := ⟨h.len, h.rd⟩
theorem Src.drewN {w : World} {A : Option Addr} {m : Nat} {qs : List (Int × Int)} {g : Nat} (h : Src w A m qs g) (n : Nat) : Src (w.drewN n) A m qs g := ⟨h.len, h.rd⟩
theorem Src.pos {w : World} {A : Option Addr} {m : Nat} {qs : List (Int × Int)} {g : Nat} (h : Src w A m qs g) (d : Option Addr) : 0 < m → d = d ∧ ∃ ad, A = some ad ∧ ∀ j v, (prs qs)[j]? = some v → w.cell? (ad.add j) = some v := fun h0 => by
  obtain ⟨gb, hA, _, hc⟩ := h.rd h0
  exact ⟨rfl, _, hA, fun j v hj => by rw [Addr.add_lit, Nat.zero_add]; exact hc j v hj⟩
theorem OwnP.toSrc {e : TypeId} {w : World} {B : Nat} {A : Option Addr} {m mc : Nat} {qs : List (Int × Int)} (h : OwnP e w B (.slice A m mc) qs) (g : Nat) (hne : ∀ gb, (Value.slice A m mc).ownBlock = some gb → gb ≠ g) : Src w A m qs g :=
  ⟨h.len, fun h0 => by
    obtain ⟨gb, hA, _⟩ := h.at h0
    subst hA
    refine ⟨gb, rfl, hne gb rfl, fun j u hj => ?_⟩
    have := h.src 0 j u (by simpa using hj)
    rw [Addr.add_lit] at this
    simpa using this⟩
theorem OwnP.cut {e : TypeId} {w : World} {B : Nat} {A : Option Addr} {n c : Nat} {ps : List (Int × Int)} (h : OwnP e w B (.slice A n c) ps) (i : Nat) (hi : i ≤ n) : OwnP e w B (.slice A i c) (ps.take i) := by
  have hl := h.len
  have htl : (ps.take i).length = i := by rw [List.length_take]; omega
  cases A with
  | none =>
    rcases h.parts with ⟨hv, rfl⟩ | ⟨g, cap, cur, hv, _⟩
    · injection hv with _ h1 h2
      subst h1
      subst h2
      obtain rfl : i = 0 := by omega
      exact OwnP.nil _ _ _
    · injection hv with hA _ _
      cases hA
  | some a =>
    obtain ⟨ha, cur, hg, hc, ht, hB, hnc, hcm, _⟩ := h.heap
    rw [ha]
    refine OwnP.of hB hg htl (by omega) hcm hc ?_
    rw [← prs_take, ← ht, List.take_take]
    congr 1
    omega
theorem splice_take {α : Type} (L : List α) (o k : Nat) (cs : List α) (ho : o ≤ L.length) : (splice L o cs).take (o + cs.length + k) = L.take o ++ cs ++ (L.drop (o + cs.length)).take k := by
  unfold splice
  rw [show o + cs.length + k = (L.take o).length + (cs.length + k) by rw [List.length_take]; omega, List.take_length_add_append, List.take_length_add_append, List.append_assoc]
theorem splice_ahead {α : Type} (L : List α) (o k : Nat) (cs : List α) (ho : o ≤ L.length) (hk : k ≤ o) : (splice L o cs).take k = L.take k := by
  unfold splice
  rw [List.take_append_of_le_length (by rw [List.length_take]; omega), List.take_take]
  congr 1
  omega
theorem splice_behind {α : Type} (L : List α) (o k : Nat) (cs : List α) (ho : o ≤ L.length) (hk : o + cs.length ≤ k) : (splice L o cs).drop k = L.drop k := by
  unfold splice
  rw [show k = (L.take o).length + (k - o) by rw [List.length_take]; omega, List.drop_length_add_append, show k - o = cs.length + (k - o - cs.length) by omega, List.drop_length_add_append, List.drop_drop]
  congr 1
  rw [List.length_take]
  omega
section
variable {P : Program} (w : World)
theorem run_copy2 (dT sT elem : TypeId) (hu : P.underlying dT = some (.slice elem)) (hs : (P.info? elem).map (·.size) = some 2) (dp sp : Option Addr) (dLen dCap sLen sCap k : Nat) (hk : Nat.min sLen dLen = k)
    (g o : Nat) (cur : List Value) (t : TypeId) (hg : w.heap[g]? = some (.cells cur.toArray t (0, 0))) (cs : List Value) (hn : cs.length = k * 2)
    (hpos : 0 < k → dp = some ⟨g, o, none⟩ ∧ ∃ ad, sp = some ad ∧ ∀ j v, cs[j]? = some v → w.cell? (ad.add j) = some v) (hfit : o + cs.length ≤ cur.length) (h1 : ∀ v ∈ cs, v.oneCell' = true) :
    ∃ w', (∀ ty, (Builtin.copy_ #[dT, sT] ty #[.slice dp dLen dCap, .slice sp sLen sCap]).run P w = .ok (goInt k) w') ∧ w'.heap[g]? = some (.cells (splice cur o cs).toArray t (0, 0)) ∧ w.grownBy w' (some g) ∧ w'.heap.size = w.heap.size := by
  cases hq : P.info? elem with
  | none => simp [hq] at hs
  | some i =>
    have hi : i.size = 2 := by simpa [hq] using hs
    by_cases h0 : k = 0
    · subst h0
      obtain rfl : cs = [] := List.eq_nil_of_length_eq_zero (by simpa using hn)
      refine ⟨w, fun ty => ?_, by simpa [splice] using hg, World.grownBy.refl _ _, rfl⟩
      cases dp <;> cases sp <;> simp [Builtin.copy_, run_underlying hu, Builtin.lenOf, Builtin.firstCells, sizeOf, typeInfo, hq, hk, loadCells, loadCellsFrom, storeCells]
    · obtain ⟨rfl, ad, rfl, hsrc⟩ := hpos (by omega)
      have hl := run_loadCells_list (P := P) w ad cs hsrc
      have hst := run_storeCells_at P g o t cs 0 cur.toArray w hg (by simpa using hfit) h1
      refine ⟨w.setRow g (splice cur o cs).toArray, fun ty => ?_, setRow_heap w g _ _ t _ hg, ⟨rfl, rfl, rfl, by simp [World.setRow], fun j _ hj => setRow_other w g j _ (fun e => hj (by rw [e]))⟩, by simp [World.setRow]⟩
      simp [Builtin.copy_, run_underlying hu, Builtin.lenOf, Builtin.firstCells, sizeOf, typeInfo, hq, hi, hk, ← hn, hl, hst, splice]
theorem run_clear2 (t e : TypeId) (z : Value) (ht : P.underlying t = some (.slice e)) (hv : ∀ w, (zeroValue e).run P w = .ok z w) (hz : z.cells = #[.int .i64 0, .int .i64 0])
    (dp : Option Addr) (n c g o : Nat) (cur : List Value) (t' : TypeId) (hg : w.heap[g]? = some (.cells cur.toArray t' (0, 0))) (hpos : 0 < n → dp = some ⟨g, o, none⟩) (hfit : o + n * 2 ≤ cur.length) :
    ∃ w' Z, (∀ ty, (Builtin.clear_ #[t] ty #[.slice dp n c]).run P w = .ok (.tuple #[]) w') ∧ Z.length = n * 2 ∧ w'.heap[g]? = some (.cells (splice cur o Z).toArray t' (0, 0)) ∧ w.grownBy w' (some g) ∧ w'.heap.size = w.heap.size := by
  cases n with
  | zero =>
    refine ⟨w, [], fun ty => ?_, rfl, by simpa [splice] using hg, World.grownBy.refl _ _, rfl⟩
    cases dp <;> simp [Builtin.clear_, run_underlying ht]
  | succ n =>
    obtain rfl := hpos (by omega)
    have hlen : (Builtin.zeroCells z.cells (n + 1)).toList.length = (n + 1) * 2 := by rw [Array.length_toList, size_zeroCells, hz]; rfl
    have hone : ∀ v ∈ (Builtin.zeroCells z.cells (n + 1)).toList, v.oneCell' = true := by
      intro v hv
      rw [hz] at hv
      simp only [Builtin.zeroCells, Array.toList_map, List.mem_map] at hv
      obtain ⟨i, _, rfl⟩ := hv
      have : i % 2 = 0 ∨ i % 2 = 1 := by omega
      rcases this with h | h <;> simp [h, Value.oneCell']
    have hst := run_storeCells_at P g o t' (Builtin.zeroCells z.cells (n + 1)).toList 0 cur.toArray w hg (by rw [hlen]; simpa using hfit) hone
    refine ⟨w.setRow g (splice cur o (Builtin.zeroCells z.cells (n + 1)).toList).toArray, _, fun ty => ?_, hlen, setRow_heap w g _ _ t' _ hg, ⟨rfl, rfl, rfl, by simp [World.setRow], fun j _ hj => setRow_other w g j _ (fun e => hj (by rw [e]))⟩, by simp [World.setRow]⟩
    simp only [Nat.add_zero] at hst
    simp [Builtin.clear_, run_underlying ht, hv, hst, splice]
theorem run_grow2 (t tn ty e : TypeId) (z : Value) (ht : P.underlying t = some (.slice e)) (htn : P.underlying tn = some (.int .i64)) (hinfo : (P.info? e).map (fun i => (i.zero, i.size, i.bytes)) = some (some z, 2, 16)) (hzs : z.cells.size = 2)
    (g i c k : Nat) (olds : List Value) (ho : olds.length = i * 2) (hold : ∀ j v, olds[j]? = some v → w.cell? ⟨g, j, none⟩ = some v) (h0 : 0 < k) (hg : c < i + k) (hb : (i + k) * 16 ≤ 140737488355328) (sp : Option Addr) (hsp : 0 < i → sp = some ⟨g, 0, none⟩) :
    ∃ C, ∃ cur : List Value, ∃ w', (Builtin.append_ #[t, tn] ty #[.slice sp i c, .int .i64 (k : Nat)]).run P w = .ok (.slice (some ⟨w.heap.size, 0, none⟩) (i + k) C) w' ∧ w'.heap[w.heap.size]? = some (.cells cur.toArray e (0, 0)) ∧
      cur.length = C * 2 ∧ cur.take (i * 2) = olds ∧ i + k ≤ C ∧ C ≤ maxLen ∧ w.grownBy w' none ∧ w'.heap.size = w.heap.size + 1 := by
  obtain ⟨inf, hi, hz0, hz2, hz3⟩ := info_parts hinfo
  have hfirst : (Builtin.firstCells inf.size i (.slice sp i c)).run P w.drew = .ok olds.toArray w.drew := by
    by_cases hi0 : i = 0
    · subst hi0
      obtain rfl : olds = [] := List.eq_nil_of_length_eq_zero (by simpa using ho)
      cases sp <;> simp [Builtin.firstCells, loadCells, loadCellsFrom]
    · obtain rfl := hsp (by omega)
      exact run_firstCells_some w.drew inf.size i ⟨g, 0, none⟩ i c olds (by rw [hz2]; exact ho) (fun j v hj => by rw [Addr.add_lit, Nat.zero_add]; exact hold j v hj)
  have hmax : i + k ≤ maxLen := by unfold maxLen; omega
  have h := Lib.run_append_grow_zeros w t tn ty e inf z .i64 .i64 ht htn hi hz0 sp i c olds hfirst k h0 (by omega) hg (by omega) (by rw [hz3]; omega) (by rw [hz3]; exact growslice_fits hg hb)
  refine ⟨grownCap w (i + k) c e, (olds.toArray ++ Builtin.zeroCells z.cells k ++ Builtin.zeroCells z.cells (grownCap w (i + k) c e - (i + k))).toList, _, h, ?_, ?_, ?_, grownCap_ge w _ _ _, grownCap_le_maxLen w _ _ _ hmax, ⟨rfl, rfl, rfl, by simp, fun j hj _ => heap_alloc_old w.drew _ hj⟩, by simp⟩
  · rw [Array.toArray_toList]
    exact heap_alloc_new w.drew _
  · have := grownCap_ge w (i + k) c e
    rw [Array.length_toList, Array.size_append, Array.size_append, size_zeroCells, size_zeroCells, hzs, List.size_toArray, ho]
    omega
  · rw [Array.toList_append, Array.toList_append, List.append_assoc, ← ho]
    exact List.take_left
theorem run_app2 (t ty e : TypeId) (z : Value) (ht : P.underlying t = some (.slice e)) (hinfo : (P.info? e).map (fun i => (i.zero, i.size, i.bytes)) = some (some z, 2, 16)) (hzs : z.cells.size = 2)
    (B : Nat) (v : Value) (ps : List (Int × Int)) (hown : OwnP e w B v ps) (A : Option Addr) (m c : Nat) (qs : List (Int × Int)) (hm : qs.length = m) (hsrc : 0 < m → ∃ ad, A = some ad ∧ ∀ j u, (prs qs)[j]? = some u → w.cell? (ad.add j) = some u)
    (hb : (ps.length + m) * 16 ≤ 140737488355328) (hB : B ≤ w.heap.size) :
    ∃ A' c' w', (Builtin.append_ #[t, t] ty #[v, .slice A m c]).run P w = .ok (.slice A' (ps.length + m) c') w' ∧ OwnP e w' B (.slice A' (ps.length + m) c') (ps ++ qs) ∧ w.grownBy w' v.ownBlock ∧ (∀ g, (Value.slice A' (ps.length + m) c').ownBlock = some g → v.ownBlock = some g ∨ w.heap.size ≤ g) := by
  obtain ⟨i, hi, hz0, hz2, hz3⟩ := info_parts hinfo
  have hmax : ps.length + m ≤ maxLen := by unfold maxLen; omega
  have hlen : (ps ++ qs).length = ps.length + m := by simp [hm]
  have hnil : ∀ (A : Option Addr), m = 0 → (Builtin.append_ #[t, t] ty #[v, .slice A m c]).run P w = .ok v w := by
    intro A h0
    subst h0
    rcases hown.parts with ⟨rfl, rfl⟩ | ⟨g, cap, cur, rfl, _, _, hnc, _⟩
    · cases A <;> simp [Builtin.append_, run_underlying ht, sizeOf, typeInfo, hi, Builtin.lenOf, Builtin.firstCells, loadCells, loadCellsFrom]
    · cases A <;> simp [Builtin.append_, run_underlying ht, sizeOf, typeInfo, hi, Builtin.lenOf, Builtin.firstCells, hnc, storeCells, loadCells, loadCellsFrom]
  by_cases h0 : m = 0
  · have hq : qs = [] := List.eq_nil_of_length_eq_zero (by omega)
    have hr := hnil A h0
    subst hq
    subst h0
    obtain ⟨A', c', rfl⟩ := hown.form
    exact ⟨A', c', w, by simpa using hr, by simpa using hown, World.grownBy.refl _ _, fun g hg => .inl hg⟩
  · obtain ⟨ad, rfl, hsr⟩ := hsrc (by omega)
    replace hsrc := hsr
    have hlc : (prs qs).length = m * 2 := by rw [prs_len, hm]
    obtain ⟨v', w', hrun, h2, h3, _⟩ := run_append_own (P := P) w B t ty e i z 2 16 ht hi hz0 hz2 hz3 hzs (by omega) v ps.length (prs ps) hown ad m c (prs qs) hlc hsrc (prs_one qs) hmax hb hB
    have ho : OwnP e w' B v' (ps ++ qs) := by
      unfold OwnP; rw [hlen, prs_app]; exact h2
    obtain ⟨A', c', rfl⟩ := ho.form
    rw [hlen] at hrun ho
    refine ⟨A', c', w', hrun, ho, h3, ?_⟩
    rcases hown.parts with ⟨rfl, rfl⟩ | ⟨b, cap, cur, rfl, _, hbk, hnc, _, hcs, htake⟩
    · obtain ⟨v2, w2, hrun2, h4, _, _⟩ := run_append_own (P := P) w w.heap.size t ty e i z 2 16 ht hi hz0 hz2 hz3 hzs (by omega) (.slice none 0 0) 0 (prs []) (World.ownsRow_nil _ _ _ _) ad m c (prs qs) hlc hsrc (prs_one qs) (by simpa using hmax) (by simpa using hb) (Nat.le_refl _)
      rw [hrun2] at hrun
      injection hrun with hv _
      subst hv
      intro g hg
      exact .inr (World.ownsRow.lt h4 g hg).1
    · by_cases hroom : ps.length + m ≤ cap
      · have hr1 := run_append_room (P := P) w t ty e i ht hi b ps.length cap cur.toArray hbk ad m c (prs qs) (by rw [hz2]; exact hlc) hsrc (prs_one qs) hroom (by rw [hz2, hlc, List.size_toArray, hcs]; omega)
        rw [hr1] at hrun
        injection hrun with hv _
        intro g hg
        rw [← hv] at hg
        exact .inl (by simpa [Value.ownBlock] using hg)
      · have holds := World.ownsRow.cells hown (g := b) rfl
        have hr1 := run_append_grow (P := P) w t ty e i z ht hi hz0 ⟨b, 0, none⟩ ps.length cap (prs ps) (by rw [hz2, prs_len]) holds ad m c (prs qs) (by rw [hz2]; exact hlc) hsrc (by omega) (by unfold maxLen at hmax; omega) (growslice_fits (by omega) (by rw [hz3]; exact hb))
        rw [hr1] at hrun
        injection hrun with hv _
        intro g hg
        right
        rw [← hv] at hg
        simp [Value.ownBlock] at hg
        omega
theorem run_app2_fits (t ty e : TypeId) (z : Value) (ht : P.underlying t = some (.slice e)) (hinfo : (P.info? e).map (fun i => (i.zero, i.size, i.bytes)) = some (some z, 2, 16))
    (B g n c : Nat) (ps : List (Int × Int)) (hown : OwnP e w B (.slice (some ⟨g, 0, none⟩) n c) ps) (A : Option Addr) (m mc : Nat) (qs : List (Int × Int)) (hm : qs.length = m) (hsrc : 0 < m → ∃ ad, A = some ad ∧ ∀ j u, (prs qs)[j]? = some u → w.cell? (ad.add j) = some u) (hroom : n + m ≤ c) :
    ∃ w', (Builtin.append_ #[t, t] ty #[.slice (some ⟨g, 0, none⟩) n c, .slice A m mc]).run P w = .ok (.slice (some ⟨g, 0, none⟩) (n + m) c) w' ∧ OwnP e w' B (.slice (some ⟨g, 0, none⟩) (n + m) c) (ps ++ qs) ∧ w.grownBy w' (some g) := by
  obtain ⟨i, hi, hz0, hz2, hz3⟩ := info_parts hinfo
  have hl := hown.len
  by_cases h0 : m = 0
  · have hq : qs = [] := List.eq_nil_of_length_eq_zero (by omega)
    subst hq
    subst h0
    refine ⟨w, ?_, by simpa using hown, World.grownBy.refl _ _⟩
    cases A <;> simp [Builtin.append_, run_underlying ht, sizeOf, typeInfo, hi, Builtin.lenOf, Builtin.firstCells, hown.cap.1, storeCells, loadCells, loadCellsFrom]
  · obtain ⟨ad, rfl, hsr⟩ := hsrc (by omega)
    have h' : w.ownsRow B e 2 (.slice (some ⟨g, 0, none⟩) n c) n (prs ps) := by unfold OwnP at hown; rw [hl] at hown; exact hown
    obtain ⟨w', hr, h2, h3⟩ := run_append_fits (P := P) w B t ty e i 2 ht hi hz2 g n c (prs ps) h' ad m mc (prs qs) (by rw [prs_len, hm]) hsr (prs_one qs) hroom
    refine ⟨w', hr, ?_, h3⟩
    unfold OwnP
    rw [List.length_append, hl, hm, prs_app]
    exact h2
end
end Go.Proofs.YtpjlnpnadkbakaaGreat
namespace Go.Proofs.YtpjlnpnadkbakaaGreat
set_option maxRecDepth 10000
open Go.RowKit
theorem run_max2 (a b K : Int) (hK : K = max a b) (ts : Array TypeId) (t : TypeId) (w : World) : (Builtin.max_ ts t #[.int .i64 a, .int .i64 b]).run Tryz.prog w = .ok (.int .i64 K) w := by
  rw [run_max_int2]
  congr 2
  split <;> omega
theorem run_min2 (a b K : Int) (hK : K = min a b) (ts : Array TypeId) (t : TypeId) (w : World) : (Builtin.min_ ts t #[.int .i64 a, .int .i64 b]).run Tryz.prog w = .ok (.int .i64 K) w := by
  rw [run_min_int2]
  congr 2
  split <;> omega
end Go.Proofs.YtpjlnpnadkbakaaGreat
namespace Go.Proofs.YtpjlnpnadkbakaaGreat
set_option maxRecDepth 10000
open Go.RowKit
abbrev tDR : TypeId := 208
structure SfA (ty : TypeId) (n o : Nat) (f : Nat → Value) (w : World) (B b : Nat) (v : Value) (ps : List (Int × Int)) : Prop where
  row : w.rowIs b ty n (fun i => if i = o then v else f i)
  own : OwnP tDR w B v ps
  ge : B ≤ b
  norm : Norm ps
  on : o < n
  ne : tDR ≠ ty
def Sft (b : Nat) (v : Value) (k : Nat) : Prop := k = b ∨ v.ownBlock = some k
section
variable {w w' : World} {B b : Nat} {v v' : Value} {ps : List (Int × Int)} {F : Nat → Prop} {ty : TypeId} {n o : Nat} {f : Nat → Value}
theorem ownP_not_row {e t : TypeId} {b : Nat} {B' : Nat} {u : Value} {qs : List (Int × Int)} (h : OwnP e w B' u qs) {f : Nat → Value} {n : Nat} (hr : w.rowIs b t n f) (ht : e ≠ t) : u.ownBlock ≠ some b := by
  rcases h.parts with ⟨rfl, _⟩ | ⟨g, cap, cur, rfl, _, hh, _⟩
  · simp [Value.ownBlock]
  · intro he
    simp only [Value.ownBlock, Option.some.injEq] at he
    subst he
    obtain ⟨cur', hh', _⟩ := hr
    rw [hh] at hh'
    injection hh' with hh'
    injection hh' with _ ht'
    exact ht ht'
theorem ownP_trn {e : TypeId} (h : OwnP e w B v ps) (ht : Trn w w' F) (hn : ∀ g, v.ownBlock = some g → ¬ F g) : OwnP e w' B v ps := by
  refine ⟨h.1, ?_⟩
  rcases h.2 with h2 | ⟨g, cap, cur, rfl, hB, hg, r⟩
  · exact .inl h2
  · exact .inr ⟨g, cap, cur, rfl, hB, by rw [ht.block g (Array.getElem?_eq_some_iff.1 hg).1 (hn g rfl)]; exact hg, r⟩
theorem SfA.lt (h : SfA ty n o f w B b v ps) : b < w.heap.size := h.row.lt
theorem SfA.vb (h : SfA ty n o f w B b v ps) : v.ownBlock ≠ some b := ownP_not_row h.own h.row h.ne
theorem SfA.kept (h : SfA ty n o f w B b v ps) (ht : Trn w w' F) (hf : ∀ k, Sft b v k → ¬ F k) : SfA ty n o f w' B b v ps := ⟨ht.rowIs h.row (hf _ (.inl rfl)), ownP_trn h.own ht (fun g hg => hf g (.inr hg)), h.ge, h.norm, h.on, h.ne⟩
theorem SfA.later (h : SfA ty n o f w B b v ps) (hb : Below w.heap.size w w') : SfA ty n o f w' B b v ps := h.kept (Trn.of_below (F := fun _ => False) hb) (fun _ _ => id)
theorem SfA.drewN (h : SfA ty n o f w B b v ps) (m : Nat) : SfA ty n o f (w.drewN m) B b v ps := h.later ⟨rfl, rfl, rfl, Nat.le_refl _, fun _ _ => rfl⟩
theorem SfA.foot_lt (h : SfA ty n o f w B b v ps) : ∀ k, Sft b v k → B ≤ k ∧ k < w.heap.size := by
  rintro k (rfl | hk)
  · exact ⟨h.ge, h.lt⟩
  · exact h.own.lt k hk
theorem SfA.size (h : SfA ty n o f w B b v ps) : B ≤ w.heap.size := Nat.le_trans h.ge (Nat.le_of_lt h.lt)
theorem SfA.fr (h : SfA ty n o f w B b v ps) (i : Nat) : w.frozen? ⟨b, i, none⟩ = false := World.rowIs.frozen h.row i
theorem SfA.put (h : SfA ty n o f w B b v ps) {w1 : World} (hb : Below w.heap.size w w1) {qs : List (Int × Int)} (ho : OwnP tDR w1 w.heap.size v' qs) (hn : Norm qs) : SfA ty n o f (w1.setCell ⟨b, o, none⟩ v') B b v' qs ∧ SC w (w1.setCell ⟨b, o, none⟩ v') (Sft b v) (Sft b v') := by
  have h1 := h.later hb
  have hlt := h.lt
  have hne : v'.ownBlock ≠ some b := fun e => by have := (ho.lt b e).1; omega
  refine ⟨⟨(h1.row.set o _).congr fun i hi => ?_, (ho.kept (setCell_one _ _ _ _) (.inr hne)).less h.size, h.ge, hn, h.on, h.ne⟩, ?_, ?_⟩
  · by_cases e : i = o <;> simp [e]
  · exact (Trn.of_below (F := Sft b v) hb).trans (Trn.of_grown (setCell_one w1 b o v')) (fun _ hk => hk) (fun k _ hk => .inl (Option.some.inj hk).symm)
  · rintro k (rfl | hk)
    · exact .inl (.inl rfl)
    · exact .inr (ho.lt k hk).1
end
structure AddMid (L : List (Int × Int)) (d : Bool) (F T : Int) (rest os : List (Int × Int)) : Prop where
  lt : F < T
  no : d = false → L = os ++ addS rest F T
  yes : d = true → L = os ++ rest ∧ ∀ q ∈ rest, T < q.1
section
variable {L : List (Int × Int)} {d : Bool} {F T : Int} {rest os : List (Int × Int)} {q : Int × Int}
theorem AddMid.ahead (h : AddMid L d F T (q :: rest) os) (hq : q.1 < q.2) (h1 : q.2 < F) : AddMid L d F T rest (os ++ [q]) := by
  have hl := h.lt
  cases d
  · refine ⟨hl, fun _ => ?_, fun e => by cases e⟩
    have := h.no rfl
    unfold addS at this
    rw [if_pos h1] at this
    rw [this]; simp
  · have := (h.yes rfl).2 q List.mem_cons_self
    omega
theorem AddMid.behind (h : AddMid L false F T (q :: rest) os) (hn : Norm (q :: rest)) (h1 : ¬ q.2 < F) (h2 : T < q.1) : AddMid L true F T rest (os ++ [(F, T)] ++ [q]) := by
  refine ⟨h.lt, fun e => (by cases e), fun _ => ?_⟩
  have := h.no rfl
  unfold addS at this
  rw [if_neg h1, if_pos h2] at this
  exact ⟨by rw [this]; simp, fun r hr => by have := hn.rest r hr; have := hn.head; omega⟩
theorem AddMid.on (h : AddMid L true F T (q :: rest) os) : AddMid L true F T rest (os ++ [q]) := by
  refine ⟨h.lt, fun e => (by cases e), fun _ => ?_⟩
  have := h.yes rfl
  exact ⟨by rw [this.1]; simp, fun r hr => this.2 r (List.mem_cons_of_mem _ hr)⟩
end
def frontOf (ps : List (Int × Int)) : Int := match ps with | [] => 0 | q :: _ => if q.1 = 0 then q.2 else 0
end Go.Proofs.YtpjlnpnadkbakaaGreat
namespace Go.Proofs.YtpjlnpnadkbakaaGreat
set_option maxRecDepth 10000
open Go.RowKit
abbrev tDIn : TypeId := 196
def diF (win tk en : Int) (bv : Value) (i : Nat) : Value := if i = 0 then .int .i64 win else if i = 1 then .int .i64 tk else if i = 2 then .int .i64 en else bv
structure DiAt (w : World) (B b : Nat) (bv gv : Value) (xs : List Int) (ps : List (Int × Int)) (s : In) : Prop where
  sf : SfA tDIn 5 4 (diF s.win s.tk s.en bv) w B b gv ps
  own : Own .u8 5 w B bv xs
  rep : Rep xs ps s.g
  ok : s.ok
def Dif (b : Nat) (bv gv : Value) (k : Nat) : Prop := k = b ∨ gv.ownBlock = some k ∨ bv.ownBlock = some k
section
variable {w w' : World} {B B' b : Nat} {bv gv bv' gv' : Value} {xs : List Int} {ps : List (Int × Int)} {s : In} {F : Nat → Prop}
theorem own_not_rowI {k : IntKind} {e t : TypeId} {v : Value} (h : Own k e w B v xs) {f : Nat → Value} {n b : Nat} (hr : w.rowIs b t n f) (ht : e ≠ t) : v.ownBlock ≠ some b := by
  rcases h.2 with ⟨hv, _⟩ | ⟨g, cap, cur, hv, _, hh, _⟩
  · rw [hv]; simp [Value.ownBlock]
  · rw [hv]
    intro he
    simp only [Value.ownBlock, Option.some.injEq] at he
    subst he
    obtain ⟨cur', hh', _⟩ := hr
    rw [hh] at hh'
    injection hh' with hh'
    injection hh' with _ ht'
    exact ht ht'
theorem own_not_pair {k : IntKind} {e t : TypeId} {v u : Value} (h : Own k e w B v xs) (h' : OwnP t w B' u ps) (ht : e ≠ t) : ∀ g, v.ownBlock = some g → u.ownBlock ≠ some g := by
  intro g hg hu
  rcases h.2 with ⟨hv, _⟩ | ⟨g1, cap, cur, hv, _, hh, _⟩
  · rw [hv] at hg; simp [Value.ownBlock] at hg
  · rcases h'.parts with ⟨rfl, _⟩ | ⟨g2, cap', cur', rfl, _, hh', _⟩
    · simp [Value.ownBlock] at hu
    · rw [hv] at hg
      simp only [Value.ownBlock, Option.some.injEq] at hg hu
      subst hg
      subst hu
      rw [hh] at hh'
      injection hh' with hh'
      injection hh' with _ ht'
      exact ht ht'
theorem DiAt.lt (h : DiAt w B b bv gv xs ps s) : b < w.heap.size := h.sf.lt
theorem DiAt.size (h : DiAt w B b bv gv xs ps s) : B ≤ w.heap.size := h.sf.size
theorem DiAt.nb (h : DiAt w B b bv gv xs ps s) : bv.ownBlock ≠ some b := own_not_rowI h.own h.sf.row (by decide)
theorem DiAt.ng (h : DiAt w B b bv gv xs ps s) : ∀ g, bv.ownBlock = some g → gv.ownBlock ≠ some g := own_not_pair h.own h.sf.own (by decide)
theorem DiAt.kept (h : DiAt w B b bv gv xs ps s) (ht : Trn w w' F) (hf : ∀ k, Dif b bv gv k → ¬ F k) : DiAt w' B b bv gv xs ps s :=
  ⟨h.sf.kept ht (fun k hk => hf k (hk.elim .inl (fun h => .inr (.inl h)))), ht.own h.own (fun g hg => hf g (.inr (.inr hg))), h.rep, h.ok⟩
theorem DiAt.later (h : DiAt w B b bv gv xs ps s) (hb : Below w.heap.size w w') : DiAt w' B b bv gv xs ps s := h.kept (Trn.of_below (F := fun _ => False) hb) (fun _ _ => id)
theorem DiAt.drewN (h : DiAt w B b bv gv xs ps s) (n : Nat) : DiAt (w.drewN n) B b bv gv xs ps s := h.later ⟨rfl, rfl, rfl, Nat.le_refl _, fun _ _ => rfl⟩
theorem DiAt.foot_lt (h : DiAt w B b bv gv xs ps s) : ∀ k, Dif b bv gv k → B ≤ k ∧ k < w.heap.size := by
  rintro k (rfl | hk | hk)
  · exact ⟨h.sf.ge, h.lt⟩
  · exact h.sf.own.lt k hk
  · exact h.own.lt k hk
theorem DiAt.c0 (h : DiAt w B b bv gv xs ps s) : w.cell? ⟨b, 0, none⟩ = some (.int .i64 s.win) := World.rowIs.cell (i := 0) h.sf.row (by omega)
theorem DiAt.c1 (h : DiAt w B b bv gv xs ps s) : w.cell? ⟨b, 0 + 1, none⟩ = some (.int .i64 s.tk) := World.rowIs.cell (i := 1) h.sf.row (by omega)
theorem DiAt.c2 (h : DiAt w B b bv gv xs ps s) : w.cell? ⟨b, 0 + 2, none⟩ = some (.int .i64 s.en) := World.rowIs.cell (i := 2) h.sf.row (by omega)
theorem DiAt.c3 (h : DiAt w B b bv gv xs ps s) : w.cell? ⟨b, 0 + 3, none⟩ = some bv := World.rowIs.cell (i := 3) h.sf.row (by omega)
theorem DiAt.c4 (h : DiAt w B b bv gv xs ps s) : w.cell? ⟨b, 0 + 4, none⟩ = some gv := World.rowIs.cell (i := 4) h.sf.row (by omega)
theorem DiAt.fr (h : DiAt w B b bv gv xs ps s) (i : Nat) : w.frozen? ⟨b, i, none⟩ = false := h.sf.fr i
theorem DiAt.own_set (h : DiAt w B b bv gv xs ps s) (i : Nat) (x : Value) : Own .u8 5 (w.setCell ⟨b, i, none⟩ x) B bv xs ∧ OwnP tDR (w.setCell ⟨b, i, none⟩ x) B gv ps :=
  ⟨h.own.kept (setCell_one _ _ _ _) (.inr h.nb), h.sf.own.kept (setCell_one _ _ _ _) (.inr h.sf.vb)⟩
theorem DiAt.set1 (h : DiAt w B b bv gv xs ps s) {n : Int} (hk : (s.read n).ok) : DiAt (w.setCell ⟨b, 0 + 1, none⟩ (.int .i64 (s.tk + n))) B b bv gv xs ps (s.read n) :=
  ⟨⟨(h.sf.row.set (0 + 1) _).congr fun i hi => by
    have : i = 0 ∨ i = 1 ∨ i = 2 ∨ i = 3 ∨ i = 4 := by omega
    rcases this with rfl | rfl | rfl | rfl | rfl <;> simp [diF, In.read], (h.own_set _ _).2, h.sf.ge, h.sf.norm, h.sf.on, h.sf.ne⟩, (h.own_set _ _).1, h.rep, hk⟩
theorem DiAt.set2 (h : DiAt w B b bv gv xs ps s) {k : Int} (hk : (s.shut k).ok) : DiAt (w.setCell ⟨b, 0 + 2, none⟩ (.int .i64 k)) B b bv gv xs ps (s.shut k) :=
  ⟨⟨(h.sf.row.set (0 + 2) _).congr fun i hi => by
    have : i = 0 ∨ i = 1 ∨ i = 2 ∨ i = 3 ∨ i = 4 := by omega
    rcases this with rfl | rfl | rfl | rfl | rfl <;> simp [diF, In.shut], (h.own_set _ _).2, h.sf.ge, h.sf.norm, h.sf.on, h.sf.ne⟩, (h.own_set _ _).1, h.rep, hk⟩
theorem DiAt.set3 (h : DiAt w B b bv gv xs ps s) {zs : List Int} (ht : Trn w w' (fun k => bv.ownBlock = some k)) (ho : Own .u8 5 w' B bv' zs) (hf : ∀ g, bv'.ownBlock = some g → bv.ownBlock = some g ∨ w.heap.size ≤ g) (hr : Rep zs ps s.g) :
    w'.cell? ⟨b, 0 + 3, none⟩ = some bv ∧ w'.frozen? ⟨b, 0 + 3, none⟩ = false ∧ DiAt (w'.setCell ⟨b, 0 + 3, none⟩ bv') B b bv' gv zs ps s ∧ SC w (w'.setCell ⟨b, 0 + 3, none⟩ bv') (Dif b bv gv) (Dif b bv' gv) := by
  have hrow := ht.rowIs h.sf.row h.nb
  have hgv := ownP_trn h.sf.own ht (fun g hg e => h.ng g e hg)
  have hnb : bv'.ownBlock ≠ some b := own_not_rowI ho hrow (by decide)
  refine ⟨World.rowIs.cell (i := 3) hrow (by omega), World.rowIs.frozen hrow _, ⟨⟨(hrow.set (0 + 3) _).congr fun i hi => ?_, hgv.kept (setCell_one _ _ _ _) (.inr (ownP_not_row hgv hrow (by decide))), h.sf.ge, h.sf.norm, h.sf.on, h.sf.ne⟩, ho.kept (setCell_one _ _ _ _) (.inr hnb), hr, h.ok⟩, ?_, ?_⟩
  · have : i = 0 ∨ i = 1 ∨ i = 2 ∨ i = 3 ∨ i = 4 := by omega
    rcases this with rfl | rfl | rfl | rfl | rfl <;> simp [diF]
  · exact ht.trans (Trn.of_grown (setCell_one w' b (0 + 3) bv')) (fun k hk => .inr (.inr hk)) (fun k _ hk => .inl (Option.some.inj hk).symm)
  · rintro k (rfl | hk | hk)
    · exact .inl (.inl rfl)
    · exact .inl (.inr (.inl hk))
    · exact (hf k hk).imp (fun h => .inr (.inr h)) id
theorem DiAt.set4 (h : DiAt w B b bv gv xs ps s) {qs : List (Int × Int)} {s' : In} (hs : SfA tDIn 5 4 (diF s.win s.tk s.en bv) w' B b gv' qs) (hsc : SC w w' (Sft b gv) (Sft b gv')) (hw : s'.win = s.win ∧ s'.tk = s.tk ∧ s'.en = s.en) (hr : Rep xs qs s'.g) (hk : s'.ok) :
    DiAt w' B b bv gv' xs qs s' ∧ SC w w' (Dif b bv gv) (Dif b bv gv') := by
  have hap : ∀ g, bv.ownBlock = some g → ¬ Sft b gv g := fun g hg hs => by
    rcases hs with rfl | hs
    · exact h.nb hg
    · exact h.ng g hg hs
  refine ⟨⟨by rw [hw.1, hw.2.1, hw.2.2]; exact hs, hsc.trn.own h.own hap, hr, hk⟩, hsc.trn.mono (fun k _ hk => hk.elim .inl (fun h => .inr (.inl h))), ?_⟩
  rintro k (rfl | hk | hk)
  · exact .inl (.inl rfl)
  · rcases hsc.sub k (.inr hk) with (h1 | h1) | h1
    · exact .inl (.inl h1)
    · exact .inl (.inr (.inl h1))
    · exact .inr h1
  · exact .inl (.inr (.inr hk))
end
theorem front_of {xs : List Int} {ps : List (Int × Int)} {g : Int → Option Int} (h : Rep xs ps g) : Front g (frontOf ps) := by
  cases ps with
  | nil => exact ⟨by simp [frontOf], fun k h1 h2 => by simp [frontOf] at h2; omega, h.no _ (ins_nil _)⟩
  | cons q qs =>
    have hq := h.norm.each q List.mem_cons_self
    by_cases e : q.1 = 0
    · have ef : frontOf (q :: qs) = q.2 := by simp [frontOf, e]
      rw [ef]
      refine ⟨by omega, fun k h1 h2 => ?_, h.no _ ?_⟩
      · rw [(h.yes k ⟨q, List.mem_cons_self, by omega, h2⟩).2.2]; simp
      · rintro ⟨r, hr, h1, h2⟩
        rcases List.mem_cons.1 hr with rfl | hr
        · omega
        · have := h.norm.rest r hr
          omega
    · have ef : frontOf (q :: qs) = 0 := by simp [frontOf, e]
      rw [ef]
      refine ⟨by omega, fun k h1 h2 => by omega, h.no _ ?_⟩
      rintro ⟨r, hr, h1, h2⟩
      rcases List.mem_cons.1 hr with rfl | hr
      · omega
      · have := h.norm.rest r hr
        omega
section
variable {w : World} {B b : Nat} {bv gv : Value} {xs : List Int} {ps : List (Int × Int)} {s : In}
end
end Go.Proofs.YtpjlnpnadkbakaaGreat

/-
  A flight in memory ('FlA': the program's type, or the document's), its mathematics; what New, find, Len, All of package flight do: contracts over the program.
-/
import Derived.Test.YtlkoenlimdfifaaRows
import Derived.Test.YtlkoenlimdfifaaQuad
import Derived.Test.YtlkoenlimdfifaaTail
import Derived.Deep.QuietTactic
import Derived.Deep.RegionHeld3
import Derived.Lib.SliceRun
import Derived.BigQuiet
import Derived.IntWalk
import Derived.WalkLawsBesides
namespace Go.Proofs.Ytlkoenlimdfifaa
open Go.RowKit

theorem wrap_q {n m : Int} (h : n = m) (h1 : -9223372036854775808 ≤ m) (h2 : m ≤ 9223372036854775807) : wrap64 n = m := by
  rw [h]
  exact IntWalk.wrap64_in (by omega) (by omega)

abbrev tOutP : TypeId := 36
abbrev tFl : TypeId := 92

/-- Block p, of the type ty, is a flight of ps; its list, of the type e, is the slice v. -/
structure FlA (ty e : TypeId) (w : World) (B p : Nat) (v : Value) (ps : List Qd) : Prop where
  row : w.rowIs p ty 1 (fun _ => v)
  own : OwnQ e w B v ps
  ge : B ≤ p
/-- Its blocks. -/
def Fft (p : Nat) (v : Value) (k : Nat) : Prop := k = p ∨ v.ownBlock = some k

/-- i is the first place of the number n. -/
structure FirstQ (ps : List Qd) (n : Int) (i : Nat) : Prop where
  lt : i < ps.length
  eq : (ps.getD i qz).n = n
  no : ∀ j, j < i → (ps.getD j qz).n ≠ n
/-- None has the number n. -/
def NoneQ (ps : List Qd) (n : Int) : Prop := ∀ j, j < ps.length → (ps.getD j qz).n ≠ n
theorem firstQ_or (ps : List Qd) (n : Int) : (∃ i, FirstQ ps n i) ∨ NoneQ ps n := by
  induction ps with
  | nil => exact .inr (fun j hj => by simp at hj)
  | cons p ps ih =>
    by_cases hp : p.n = n
    · exact .inl ⟨0, by simp, by simpa using hp, fun j hj => by omega⟩
    · rcases ih with ⟨i, h⟩ | h
      · refine .inl ⟨i + 1, by have := h.lt; simp; omega, by simpa using h.eq, fun j hj => ?_⟩
        cases j with
        | zero => simpa using hp
        | succ j => simpa using h.no j (by omega)
      · refine .inr fun j hj => ?_
        cases j with
        | zero => simpa using hp
        | succ j => simpa using h j (by simpa using hj)
/-- Those that are late, and the others. -/
def lateQ (ps : List Qd) (d : Int) : List Qd := ps.filter fun q => decide (q.a ≤ d)
def stayQ (ps : List Qd) (d : Int) : List Qd := ps.filter fun q => !decide (q.a ≤ d)
/-- One is gone. -/
def goneQ (ps : List Qd) (i : Nat) : List Qd := ps.take i ++ ps.drop (i + 1)
theorem goneQ_len {ps : List Qd} {i : Nat} (h : i < ps.length) : (goneQ ps i).length = ps.length - 1 := by simp [goneQ]; omega

theorem info_fo : (Try.prog.info? tOutP).map (fun i => (i.zero, i.size, i.bytes)) = some (some (.agg #[.int .i64 0, .int .i64 0, .int .i64 0, .int .i64 0]), 4, 32) := by kernel_rfl

section
variable {ty e : TypeId} {w w' : World} {B B' p : Nat} {v v' : Value} {ps qs : List Qd} {F : Nat → Prop}
theorem FlA.lt (h : FlA ty e w B p v ps) : p < w.heap.size := h.row.lt
theorem FlA.kept (h : FlA ty e w B p v ps) (ht : Trn w w' F) (hf : ∀ k, Fft p v k → ¬ F k) : FlA ty e w' B p v ps :=
  ⟨ht.rowIs h.row (hf _ (.inl rfl)), h.own.trn ht (fun g hg => hf g (.inr hg)), h.ge⟩
theorem FlA.later (h : FlA ty e w B p v ps) (hb : Below w.heap.size w w') : FlA ty e w' B p v ps := h.kept (Trn.of_below (F := fun _ => False) hb) (fun _ _ => id)
theorem FlA.drewN (h : FlA ty e w B p v ps) (n : Nat) : FlA ty e (w.drewN n) B p v ps := h.later ⟨rfl, rfl, rfl, Nat.le_refl _, fun _ _ => rfl⟩
theorem FlA.alloc (h : FlA ty e w B p v ps) (o : Obj) : FlA ty e (w.alloc o) B p v ps := h.later ((Below.refl _ _).alloc (Nat.le_refl _) _)
theorem FlA.less (h : FlA ty e w B p v ps) (hB : B' ≤ B) : FlA ty e w B' p v ps := ⟨h.row, h.own.less hB, Nat.le_trans hB h.ge⟩
theorem FlA.foot_lt (h : FlA ty e w B p v ps) : ∀ k, Fft p v k → B ≤ k ∧ k < w.heap.size := by
  rintro k (rfl | hk)
  · exact ⟨h.ge, h.lt⟩
  · exact h.own.lt k hk
theorem FlA.size (h : FlA ty e w B p v ps) : B ≤ w.heap.size := Nat.le_trans h.ge (Nat.le_of_lt h.lt)
theorem FlA.bel {B0 : Nat} (h : FlA ty e w B p v ps) (hsc : SC w w' (Fft p v) (Fft p v')) (hB : B0 ≤ B) : Below B0 w w' := (hsc.below h.size (fun k hk => (h.foot_lt k hk).1)).mono hB
theorem FlA.c0 (h : FlA ty e w B p v ps) : w.cell? ⟨p, 0, none⟩ = some v := World.rowIs.cell (i := 0) h.row (by omega)
theorem FlA.fr (h : FlA ty e w B p v ps) (i : Nat) : w.frozen? ⟨p, i, none⟩ = false := World.rowIs.frozen h.row i
/-- A new list is stored: it was laid beside the old one, or over it. -/
theorem FlA.put (h : FlA ty e w B p v ps) (hne : e ≠ ty) (ht : Trn w w' (fun k => v.ownBlock = some k)) (hv : OwnQ e w' B v' qs) (hf : ∀ g, v'.ownBlock = some g → v.ownBlock = some g ∨ w.heap.size ≤ g) :
    w'.cell? ⟨p, 0, none⟩ = some v ∧ w'.frozen? ⟨p, 0, none⟩ = false ∧ FlA ty e (w'.setCell ⟨p, 0, none⟩ v') B p v' qs ∧ SC w (w'.setCell ⟨p, 0, none⟩ v') (Fft p v) (Fft p v') := by
  have hr : w'.rowIs p ty 1 (fun _ => v) := ht.rowIs h.row (h.own.not_row h.row hne)
  have hp : v'.ownBlock ≠ some p := hv.not_row hr hne
  refine ⟨World.rowIs.cell (i := 0) hr (by omega), World.rowIs.frozen hr 0, ⟨(hr.set 0 v').congr fun i hi => by simp [show i = 0 by omega], hv.kept (setCell_one w' p 0 v') (.inr hp), h.ge⟩, ⟨?_, ?_⟩⟩
  · exact ht.trans (Trn.of_grown (setCell_one w' p 0 v')) (fun k hk => .inr hk) (fun k _ hk => .inl (Option.some.inj hk).symm)
  · rintro k (rfl | hk)
    · exact .inl (.inl rfl)
    · exact (hf k hk).imp .inr id
end

theorem newfl_any (w : World) : Calls Try.prog 39 #[] w fun e w' => e = .returned (.pointer (some ⟨w.heap.size, 0, none⟩)) ∧ FlA tFl tOutP w' w.heap.size w.heap.size (.slice none 0 0) [] ∧ Below w.heap.size w w' ∧ w'.heap.size = w.heap.size + 1 := by
  go_enter Try.func39, Try.ntmps39
  go_wp2
  go_ret
  refine ⟨rfl, ⟨?_, OwnQ.nil _ _ _, Nat.le_refl _⟩, (Below.refl _ _).alloc (Nat.le_refl _) _, by simp⟩
  exact World.rowIs_alloc w _ _ _ (fun i hi => by
    have : i < 1 := hi
    match i, this with
    | 0, _ => rfl)

theorem flclo_any (b : Nat) (n x y z u : Int) (w : World) (h : w.cell? ⟨b, 0, none⟩ = some (.int .i64 n)) :
    Calls Try.prog 75 #[.agg #[.int .i64 x, .int .i64 y, .int .i64 z, .int .i64 u], .pointer (some ⟨b, 0, none⟩)] w fun e w' => e = .returned (.bool (decide (x = n))) ∧ Below w.heap.size w w' := by
  have h1 := (World.block_lt_of_cell? w _ h : b < w.heap.size)
  have hb := (Below.refl w.heap.size w).alloc (Nat.le_refl _) (.cells #[.int .i64 x, .int .i64 y, .int .i64 z, .int .i64 u] tOutP)
  have h2 := cell_later ((Below.refl w.heap.size w).alloc (Nat.le_refl _) (.cells #[.int .i64 x, .int .i64 y, .int .i64 z, .int .i64 u] tOutP)) h
  have HB := Lib.hid hb
  clear hb
  go_enter Try.func75, Try.ntmps75
  go_wp2
  go_ret
  exact ⟨ret_b (by first | rfl | (rw [Bool.eq_iff_iff]; simp)), HB.out⟩

section
variable {w : World} {B p : Nat} {v : Value} {ps : List Qd}

set_option maxHeartbeats 1000000 in
/-- The first place of the number n, or below 0. -/
theorem flindex_any (b : Nat) (n k : Int) (A : Option Addr) (m c : Nat) (hown : OwnQ tOutP w B (.slice A m c) ps) (hc : w.cell? ⟨b, 0, none⟩ = some (.int .i64 n)) (hm : m ≤ 1099511627776) (hk : (∃ i : Nat, k = i ∧ FirstQ ps n i) ∨ (k = -1 ∧ NoneQ ps n)) :
    Calls Try.prog 74 #[.slice A m c, .func (.func 75) #[] #[.pointer (some ⟨b, 0, none⟩)]] w fun e w' => e = .returned (.int .i64 k) ∧ Below w.heap.size w w' := by
  have hlen := hown.len
  have HCELL := Lib.hid (show ∀ (W : World) i, Below w.heap.size w W → i < m → ∃ g, A = some ⟨g, 0, none⟩ ∧ W.cell? ⟨g, i * 4, none⟩ = some (.int .i64 (ps.getD i qz).n) ∧ W.cell? ⟨g, i * 4 + 1, none⟩ = some (.int .i64 (ps.getD i qz).f) ∧ W.cell? ⟨g, i * 4 + 2, none⟩ = some (.int .i64 (ps.getD i qz).t) ∧ W.cell? ⟨g, i * 4 + 3, none⟩ = some (.int .i64 (ps.getD i qz).a) from fun W i hb hi => by
    have h1 := hown.later hb
    obtain ⟨g, rfl, _⟩ := h1.at (by omega)
    exact ⟨g, rfl, h1.cells i hi⟩)
  have HC := Lib.hid (show ∀ (W : World), Below w.heap.size w W → W.cell? ⟨b, 0, none⟩ = some (.int .i64 n) from fun W hb => cell_later hb hc)
  have HEND := Lib.hid (show (∀ j, j < m → (ps.getD j qz).n ≠ n) → k = -1 from fun h => by
    rcases hk with ⟨i, _, hi⟩ | ⟨h1, _⟩
    · exact absurd hi.eq (h i (by have := hi.lt; omega))
    · exact h1)
  have HHIT := Lib.hid (show ∀ i : Nat, i < m → (ps.getD i qz).n = n → (∀ j, j < i → (ps.getD j qz).n ≠ n) → k = i from fun i hi he hn => by
    rcases hk with ⟨i', h1, hi'⟩ | ⟨_, h1⟩
    · rcases Nat.lt_trichotomy i i' with h | h | h
      · exact absurd he (hi'.no i h)
      · omega
      · exact absurd hi'.eq (hn i' h)
    · exact absurd he (h1 i (by omega)))
  clear hown hk hc hlen
  go_enter Try.func74, Try.ntmps74
  go_wp2
  go_loopw [8] (fun iv wr => ∃ (i : Nat), i ≤ m ∧ iv = .int .i64 i ∧ Hid (∀ j, j < i → (ps.getD j qz).n ≠ n) ∧ Hid (Below w.heap.size w wr)) (fun iv _ => m - (intOf iv).toNat)
  case atStart => exact ⟨0, by omega, rfl, fun j hj => absurd hj (by omega), Below.refl _ _⟩
  case round =>
    obtain ⟨i, hi, rfl, hno, hb⟩ := hrel
    by_cases hin : i < m
    · obtain ⟨g, rfl, y1, y2, y3, y4⟩ := HCELL.out wr i hb.out hin
      have hcl := flclo_any b n (ps.getD i qz).n (ps.getD i qz).f (ps.getD i qz).t (ps.getD i qz).a wr (HC.out wr hb.out)
      have hsz : w.heap.size ≤ wr.heap.size := hb.out.size
      have i1 : (i : Int) < (m : Int) := by omega
      have i2 : (0 : Int) ≤ (i : Int) := by omega
      have hst := HHIT.out i hin
      obtain ⟨q, hq⟩ : ∃ q, ps.getD i qz = q := ⟨_, rfl⟩
      rw [hq] at y1 y2 y3 y4 hcl hst
      have HQ := Lib.hid hq
      have HST := Lib.hid hst
      have HSZ := Lib.hid hsz
      clear hq hst hsz
      by_cases he : q.n = n
      · rw [decide_eq_true he] at hcl
        have HE := Lib.hid he
        clear he
        go_wp2_with fail
        refine hcl.mono ?_
        rintro e w1 ⟨rfl, hb1⟩
        have HB1 := Lib.hid (hb.out.trans (hb1.mono HSZ.out))
        clear hb1
        go_wp2
        go_ret
        exact ⟨ret_i (HST.out HE.out hno.out).symm, HB1.out⟩
      · rw [decide_eq_false he] at hcl
        have HE := Lib.hid he
        have HIW := Lib.hid (show wrap64 ((i : Int) + 1) = ((i + 1 : Nat) : Int) from wrap_q (by omega) (by omega) (by omega))
        clear he
        go_wp2_with fail
        refine hcl.mono ?_
        rintro e w1 ⟨rfl, hb1⟩
        have HB1 := Lib.hid (hb.out.trans (hb1.mono HSZ.out))
        clear hb1
        go_wp2
        go_roundw
        case rel => exact ⟨i + 1, by omega, by first | rfl | (rw [HIW.out]) | go_num, fun j hj => by
          rcases Nat.lt_or_ge j i with h | h
          · exact hno.out j h
          · have : j = i := by omega
            rw [this, HQ.out]; exact HE.out, HB1⟩
        case measure => simp [intOf]; omega
    · have : i = m := by omega
      subst this
      have j1 : ¬ ((i : Int) < (i : Int)) := by omega
      go_wp2
      go_ret
      exact ⟨ret_i (HEND.out hno.out).symm, hb.out⟩
end
end Go.Proofs.Ytlkoenlimdfifaa

/-
  Flight · Flight2.
-/
import Derived.Test.YtpjlnpnadkbakaaGreatRows
import Derived.Test.YtpjlnpnadkbakaaGreatQEcQuad
import Derived.Deep.QuietTactic
import Derived.Deep.RegionHeld3
import Derived.Lib.SliceRun
import Derived.BigQuiet
import Derived.IntWalk
import Derived.WalkLawsBesides
namespace Go.Proofs.YtpjlnpnadkbakaaGreat
set_option maxRecDepth 10000
open Go.RowKit

theorem wrap_q {n m : Int} (h : n = m) (h1 : -9223372036854775808 ≤ m) (h2 : m ≤ 9223372036854775807) : wrap64 n = m := by
  rw [h]
  exact IntWalk.wrap64_in (by omega) (by omega)

abbrev tOutP : TypeId := 181
abbrev tFl : TypeId := 235

/-- Block p, of the type ty, is a flight of ps; its list, of the type e, is the slice v. -/
structure FlA (ty e : TypeId) (w : World) (B p : Nat) (v : Value) (ps : List Qd) : Prop where
  row : w.rowIs p ty 1 (fun _ => v)
  own : OwnQ e w B v ps
  ge : B ≤ p
/-- Its blocks. -/
def Fft (p : Nat) (v : Value) (k : Nat) : Prop := k = p ∨ v.ownBlock = some k

/-- i is the first place of the number n. -/
structure FirstQ (ps : List Qd) (n : Int) (i : Nat) : Prop where
  lt : i < ps.length
  eq : (ps.getD i qz).n = n
  no : ∀ j, j < i → (ps.getD j qz).n ≠ n
/-- None has the number n. -/
def NoneQ (ps : List Qd) (n : Int) : Prop := ∀ j, j < ps.length → (ps.getD j qz).n ≠ n
theorem firstQ_or (ps : List Qd) (n : Int) : (∃ i, FirstQ ps n i) ∨ NoneQ ps n := by
  induction ps with
  | nil => exact .inr (fun j hj => by simp at hj)
  | cons p ps ih =>
    by_cases hp : p.n = n
    · exact .inl ⟨0, by simp, by simpa using hp, fun j hj => by omega⟩
    · rcases ih with ⟨i, h⟩ | h
      · refine .inl ⟨i + 1, by have := h.lt; simp; omega, by simpa using h.eq, fun j hj => ?_⟩
        cases j with
        | zero => simpa using hp
        | succ j => simpa using h.no j (by omega)
      · refine .inr fun j hj => ?_
        cases j with
        | zero => simpa using hp
        | succ j => simpa using h j (by simpa using hj)
/-- Those that are late, and the others. -/
def lateQ (ps : List Qd) (d : Int) : List Qd := ps.filter fun q => decide (q.a ≤ d)
def stayQ (ps : List Qd) (d : Int) : List Qd := ps.filter fun q => !decide (q.a ≤ d)
/-- One is gone. -/
def goneQ (ps : List Qd) (i : Nat) : List Qd := ps.take i ++ ps.drop (i + 1)
theorem goneQ_len {ps : List Qd} {i : Nat} (h : i < ps.length) : (goneQ ps i).length = ps.length - 1 := by simp [goneQ]; omega

theorem info_fo : (Tryz.prog.info? tOutP).map (fun i => (i.zero, i.size, i.bytes)) = some (some (.agg #[.int .i64 0, .int .i64 0, .int .i64 0, .int .i64 0]), 4, 32) := by kernel_rfl

section
variable {ty e : TypeId} {w w' : World} {B B' p : Nat} {v v' : Value} {ps qs : List Qd} {F : Nat → Prop}
theorem FlA.lt (h : FlA ty e w B p v ps) : p < w.heap.size := h.row.lt
theorem FlA.kept (h : FlA ty e w B p v ps) (ht : Trn w w' F) (hf : ∀ k, Fft p v k → ¬ F k) : FlA ty e w' B p v ps :=
  ⟨ht.rowIs h.row (hf _ (.inl rfl)), h.own.trn ht (fun g hg => hf g (.inr hg)), h.ge⟩
theorem FlA.later (h : FlA ty e w B p v ps) (hb : Below w.heap.size w w') : FlA ty e w' B p v ps := h.kept (Trn.of_below (F := fun _ => False) hb) (fun _ _ => id)
theorem FlA.drewN (h : FlA ty e w B p v ps) (n : Nat) : FlA ty e (w.drewN n) B p v ps := h.later ⟨rfl, rfl, rfl, Nat.le_refl _, fun _ _ => rfl⟩
theorem FlA.alloc (h : FlA ty e w B p v ps) (o : Obj) : FlA ty e (w.alloc o) B p v ps := h.later ((Below.refl _ _).alloc (Nat.le_refl _) _)
theorem FlA.less (h : FlA ty e w B p v ps) (hB : B' ≤ B) : FlA ty e w B' p v ps := ⟨h.row, h.own.less hB, Nat.le_trans hB h.ge⟩
theorem FlA.foot_lt (h : FlA ty e w B p v ps) : ∀ k, Fft p v k → B ≤ k ∧ k < w.heap.size := by
  rintro k (rfl | hk)
  · exact ⟨h.ge, h.lt⟩
  · exact h.own.lt k hk
theorem FlA.size (h : FlA ty e w B p v ps) : B ≤ w.heap.size := Nat.le_trans h.ge (Nat.le_of_lt h.lt)
theorem FlA.bel {B0 : Nat} (h : FlA ty e w B p v ps) (hsc : SC w w' (Fft p v) (Fft p v')) (hB : B0 ≤ B) : Below B0 w w' := (hsc.below h.size (fun k hk => (h.foot_lt k hk).1)).mono hB
theorem FlA.c0 (h : FlA ty e w B p v ps) : w.cell? ⟨p, 0, none⟩ = some v := World.rowIs.cell (i := 0) h.row (by omega)
theorem FlA.fr (h : FlA ty e w B p v ps) (i : Nat) : w.frozen? ⟨p, i, none⟩ = false := World.rowIs.frozen h.row i
/-- A new list is stored: it was laid beside the old one, or over it. -/
theorem FlA.put (h : FlA ty e w B p v ps) (hne : e ≠ ty) (ht : Trn w w' (fun k => v.ownBlock = some k)) (hv : OwnQ e w' B v' qs) (hf : ∀ g, v'.ownBlock = some g → v.ownBlock = some g ∨ w.heap.size ≤ g) :
    w'.cell? ⟨p, 0, none⟩ = some v ∧ w'.frozen? ⟨p, 0, none⟩ = false ∧ FlA ty e (w'.setCell ⟨p, 0, none⟩ v') B p v' qs ∧ SC w (w'.setCell ⟨p, 0, none⟩ v') (Fft p v) (Fft p v') := by
  have hr : w'.rowIs p ty 1 (fun _ => v) := ht.rowIs h.row (h.own.not_row h.row hne)
  have hp : v'.ownBlock ≠ some p := hv.not_row hr hne
  refine ⟨World.rowIs.cell (i := 0) hr (by omega), World.rowIs.frozen hr 0, ⟨(hr.set 0 v').congr fun i hi => by simp [show i = 0 by omega], hv.kept (setCell_one w' p 0 v') (.inr hp), h.ge⟩, ⟨?_, ?_⟩⟩
  · exact ht.trans (Trn.of_grown (setCell_one w' p 0 v')) (fun k hk => .inr hk) (fun k _ hk => .inl (Option.some.inj hk).symm)
  · rintro k (rfl | hk)
    · exact .inl (.inl rfl)
    · exact (hf k hk).imp .inr id
end

theorem newfl_any (w : World) : Calls Tryz.prog 169 #[] w fun e w' => e = .returned (.pointer (some ⟨w.heap.size, 0, none⟩)) ∧ FlA tFl tOutP w' w.heap.size w.heap.size (.slice none 0 0) [] ∧ Below w.heap.size w w' ∧ w'.heap.size = w.heap.size + 1 := by
  go_enter Tryz.func169, Tryz.ntmps169
  go_wp2
  go_ret
  refine ⟨rfl, ⟨?_, OwnQ.nil _ _ _, Nat.le_refl _⟩, (Below.refl _ _).alloc (Nat.le_refl _) _, by simp⟩
  exact World.rowIs_alloc w _ _ _ (fun i hi => by
    have : i < 1 := hi
    match i, this with
    | 0, _ => rfl)

theorem flclo_any (b : Nat) (n x y z u : Int) (w : World) (h : w.cell? ⟨b, 0, none⟩ = some (.int .i64 n)) :
    Calls Tryz.prog 271 #[.agg #[.int .i64 x, .int .i64 y, .int .i64 z, .int .i64 u], .pointer (some ⟨b, 0, none⟩)] w fun e w' => e = .returned (.bool (decide (x = n))) ∧ Below w.heap.size w w' := by
  have h1 := (World.block_lt_of_cell? w _ h : b < w.heap.size)
  have hb := (Below.refl w.heap.size w).alloc (Nat.le_refl _) (.cells #[.int .i64 x, .int .i64 y, .int .i64 z, .int .i64 u] tOutP)
  have h2 := cell_later ((Below.refl w.heap.size w).alloc (Nat.le_refl _) (.cells #[.int .i64 x, .int .i64 y, .int .i64 z, .int .i64 u] tOutP)) h
  have HB := Lib.hid hb
  clear hb
  go_enter Tryz.func271, Tryz.ntmps271
  go_wp2
  go_ret
  exact ⟨ret_b (by first | rfl | (rw [Bool.eq_iff_iff]; simp)), HB.out⟩

section
variable {w : World} {B p : Nat} {v : Value} {ps : List Qd}

set_option maxHeartbeats 1000000 in
/-- The first place of the number n, or below 0. -/
theorem flindex_any (b : Nat) (n k : Int) (A : Option Addr) (m c : Nat) (hown : OwnQ tOutP w B (.slice A m c) ps) (hc : w.cell? ⟨b, 0, none⟩ = some (.int .i64 n)) (hm : m ≤ 1099511627776) (hk : (∃ i : Nat, k = i ∧ FirstQ ps n i) ∨ (k = -1 ∧ NoneQ ps n)) :
    Calls Tryz.prog 270 #[.slice A m c, .func (.func 271) #[] #[.pointer (some ⟨b, 0, none⟩)]] w fun e w' => e = .returned (.int .i64 k) ∧ Below w.heap.size w w' := by
  have hlen := hown.len
  have HCELL := Lib.hid (show ∀ (W : World) i, Below w.heap.size w W → i < m → ∃ g, A = some ⟨g, 0, none⟩ ∧ W.cell? ⟨g, i * 4, none⟩ = some (.int .i64 (ps.getD i qz).n) ∧ W.cell? ⟨g, i * 4 + 1, none⟩ = some (.int .i64 (ps.getD i qz).f) ∧ W.cell? ⟨g, i * 4 + 2, none⟩ = some (.int .i64 (ps.getD i qz).t) ∧ W.cell? ⟨g, i * 4 + 3, none⟩ = some (.int .i64 (ps.getD i qz).a) from fun W i hb hi => by
    have h1 := hown.later hb
    obtain ⟨g, rfl, _⟩ := h1.at (by omega)
    exact ⟨g, rfl, h1.cells i hi⟩)
  have HC := Lib.hid (show ∀ (W : World), Below w.heap.size w W → W.cell? ⟨b, 0, none⟩ = some (.int .i64 n) from fun W hb => cell_later hb hc)
  have HEND := Lib.hid (show (∀ j, j < m → (ps.getD j qz).n ≠ n) → k = -1 from fun h => by
    rcases hk with ⟨i, _, hi⟩ | ⟨h1, _⟩
    · exact absurd hi.eq (h i (by have := hi.lt; omega))
    · exact h1)
  have HHIT := Lib.hid (show ∀ i : Nat, i < m → (ps.getD i qz).n = n → (∀ j, j < i → (ps.getD j qz).n ≠ n) → k = i from fun i hi he hn => by
    rcases hk with ⟨i', h1, hi'⟩ | ⟨_, h1⟩
    · rcases Nat.lt_trichotomy i i' with h | h | h
      · exact absurd he (hi'.no i h)
      · omega
      · exact absurd hi'.eq (hn i' h)
    · exact absurd he (h1 i (by omega)))
  clear hown hk hc hlen
  go_enter Tryz.func270, Tryz.ntmps270
  go_wp2
  go_loopw [8] (fun iv wr => ∃ (i : Nat), i ≤ m ∧ iv = .int .i64 i ∧ Hid (∀ j, j < i → (ps.getD j qz).n ≠ n) ∧ Hid (Below w.heap.size w wr)) (fun iv _ => m - (intOf iv).toNat)
  case atStart => exact ⟨0, by omega, rfl, fun j hj => absurd hj (by omega), Below.refl _ _⟩
  case round =>
    obtain ⟨i, hi, rfl, hno, hb⟩ := hrel
    by_cases hin : i < m
    · obtain ⟨g, rfl, y1, y2, y3, y4⟩ := HCELL.out wr i hb.out hin
      have hcl := flclo_any b n (ps.getD i qz).n (ps.getD i qz).f (ps.getD i qz).t (ps.getD i qz).a wr (HC.out wr hb.out)
      have hsz : w.heap.size ≤ wr.heap.size := hb.out.size
      have i1 : (i : Int) < (m : Int) := by omega
      have i2 : (0 : Int) ≤ (i : Int) := by omega
      have hst := HHIT.out i hin
      obtain ⟨q, hq⟩ : ∃ q, ps.getD i qz = q := ⟨_, rfl⟩
      rw [hq] at y1 y2 y3 y4 hcl hst
      have HQ := Lib.hid hq
      have HST := Lib.hid hst
      have HSZ := Lib.hid hsz
      clear hq hst hsz
      by_cases he : q.n = n
      · rw [decide_eq_true he] at hcl
        have HE := Lib.hid he
        clear he
        go_wp2_with fail
        refine hcl.mono ?_
        rintro e w1 ⟨rfl, hb1⟩
        have HB1 := Lib.hid (hb.out.trans (hb1.mono HSZ.out))
        clear hb1
        go_wp2
        go_ret
        exact ⟨ret_i (HST.out HE.out hno.out).symm, HB1.out⟩
      · rw [decide_eq_false he] at hcl
        have HE := Lib.hid he
        have HIW := Lib.hid (show wrap64 ((i : Int) + 1) = ((i + 1 : Nat) : Int) from wrap_q (by omega) (by omega) (by omega))
        clear he
        go_wp2_with fail
        refine hcl.mono ?_
        rintro e w1 ⟨rfl, hb1⟩
        have HB1 := Lib.hid (hb.out.trans (hb1.mono HSZ.out))
        clear hb1
        go_wp2
        go_roundw
        case rel => exact ⟨i + 1, by omega, by first | rfl | (rw [HIW.out]) | go_num, fun j hj => by
          rcases Nat.lt_or_ge j i with h | h
          · exact hno.out j h
          · have : j = i := by omega
            rw [this, HQ.out]; exact HE.out, HB1⟩
        case measure => simp [intOf]; omega
    · have : i = m := by omega
      subst this
      have j1 : ¬ ((i : Int) < (i : Int)) := by omega
      go_wp2
      go_ret
      exact ⟨ret_i (HEND.out hno.out).symm, hb.out⟩
end
end Go.Proofs.YtpjlnpnadkbakaaGreat
namespace Go.Proofs.YtpjlnpnadkbakaaGreat
set_option maxRecDepth 10000
open Go.RowKit

/-- Four cells of a block. -/
def Bx (w : World) (b : Nat) (q : Qd) : Prop := w.cell? ⟨b, 0, none⟩ = some (.int .i64 q.n) ∧ w.cell? ⟨b, 1, none⟩ = some (.int .i64 q.f) ∧ w.cell? ⟨b, 2, none⟩ = some (.int .i64 q.t) ∧ w.cell? ⟨b, 3, none⟩ = some (.int .i64 q.a)
section
variable {w w' : World} {b : Nat} {q : Qd}
theorem Bx.of_block (h : Bx w b q) (e : w'.heap[b]? = w.heap[b]?) : Bx w' b q :=
  ⟨(World.cell?_of_block e).trans h.1, (World.cell?_of_block e).trans h.2.1, (World.cell?_of_block e).trans h.2.2.1, (World.cell?_of_block e).trans h.2.2.2⟩
theorem Bx.lt (h : Bx w b q) : b < w.heap.size := World.block_lt_of_cell? w _ h.1
theorem Bx.later (h : Bx w b q) (hb : Below w.heap.size w w') : Bx w' b q := h.of_block (hb.block b h.lt)
theorem Bx.new (w : World) (t : TypeId) (x y z u : Int) : Bx (w.alloc (.cells #[.int .i64 x, .int .i64 y, .int .i64 z, .int .i64 u] t)) w.heap.size ⟨x, y, z, u⟩ := by
  refine ⟨?_, ?_, ?_, ?_⟩ <;> go_simp
end
theorem info_tOutP : (Tryz.prog.info? tOutP).map (fun i => (i.zero, i.size, i.bytes)) = some (some (.agg #[.int .i64 0, .int .i64 0, .int .i64 0, .int .i64 0]), 4, 32) := info_fo

section
variable {w : World} {B p : Nat} {v : Value} {ps : List Qd}

set_option maxHeartbeats 400000 in
theorem flfind_any (h : FlA tFl tOutP w B p v ps) (n k : Int) (hm : ps.length ≤ 1099511627776) (hk : (∃ i : Nat, k = i ∧ FirstQ ps n i) ∨ (k = -1 ∧ NoneQ ps n)) :
    Calls Tryz.prog 234 #[.pointer (some ⟨p, 0, none⟩), .int .i64 n] w fun e w' => e = .returned (.int .i64 k) ∧ Below w.heap.size w w' := by
  obtain ⟨A, c, hv⟩ := h.own.form
  have hb := (Below.refl w.heap.size w).alloc (Nat.le_refl _) (.cells #[.int .i64 n] 3)
  have h1 := h.later hb
  have c0 := h1.c0
  have ho := h1.own
  rw [hv] at c0 ho
  have hx : (w.alloc (.cells #[.int .i64 n] 3)).cell? ⟨w.heap.size, 0, none⟩ = some (.int .i64 n) := by go_simp
  have HI := Lib.hid (flindex_any w.heap.size n k A ps.length c ho hx hm hk)
  have HB := Lib.hid hb
  obtain ⟨m, hm2⟩ : ∃ m, ps.length = m := ⟨_, rfl⟩
  rw [hm2] at c0 HI
  clear h h1 ho hb hk hv hm hm2
  go_enter Tryz.func234, Tryz.ntmps234
  go_wp2_with fail
  refine HI.out.mono ?_
  rintro e w' ⟨rfl, hb⟩
  have HB2 := Lib.hid (HB.out.trans (hb.mono (by rw [World.size_alloc]; omega)))
  clear hb
  go_wp2
  go_ret
  exact ⟨rfl, HB2.out⟩

theorem fllen_any (h : FlA tFl tOutP w B p v ps) : Calls Tryz.prog 206 #[.pointer (some ⟨p, 0, none⟩)] w fun e w' => e = .returned (.int .i64 (ps.length : Int)) ∧ w = w' := by
  obtain ⟨A, c, hv⟩ := h.own.form
  have c0 := h.c0
  rw [hv] at c0
  obtain ⟨m, hm⟩ : ∃ m, ps.length = m := ⟨_, rfl⟩
  rw [hm] at c0 ⊢
  clear h hv hm
  go_enter Tryz.func206, Tryz.ntmps206
  go_wp2
  go_ret
  exact ⟨rfl, rfl⟩

set_option maxHeartbeats 400000 in
theorem cloneQ_any (A : Option Addr) (n c : Nat) (h : OwnQ tOutP w B (.slice A n c) ps) (hb : n ≤ 1099511627776) :
    Calls Tryz.prog 254 #[.slice A n c] w fun e w' => ∃ A' c', e = .returned (.slice A' n c') ∧ OwnQ tOutP w' w.heap.size (.slice A' n c') ps ∧ Below w.heap.size w w' := by
  have ke := fun (w : World) (a : Option Addr) (n c : Nat) => Lib.run_eql_slice_nil (P := Tryz.prog) w 107 tOutP a n c 0 0 Tryz.underlying107
  cases A with
  | none =>
    rcases h.parts with ⟨hv, rfl⟩ | ⟨g, cap, cur, hv, _⟩
    · injection hv with _ h1 h2
      subst h1
      subst h2
      clear h hb
      go_enter Tryz.func254, Tryz.ntmps254
      go_wp2
      go_ret
      exact ⟨_, _, rfl, OwnQ.nil _ _ _, Below.refl _ _⟩
    · injection hv with hA _ _
      cases hA
  | some a =>
    obtain ⟨ha, _⟩ := h.heap
    have hl := h.len
    rw [ha] at h
    have hsr := h.src 0
    rw [List.drop_zero, Nat.zero_mul, ← ha] at hsr
    have h0 : OwnQ tOutP (w.alloc (.cells #[] tOutP)) w.heap.size (.slice (some ⟨w.heap.size, 0, none⟩) 0 0) [] := OwnQ.new w #[] _ [] rfl (by simp [maxLen])
    obtain ⟨A', c', w', hr, ho, hg, _⟩ := run_app4 (P := Tryz.prog) (w.alloc (.cells #[] tOutP)) 107 107 tOutP _ Tryz.underlying107 info_fo rfl w.heap.size _ [] h0 (some a) n c ps hl
      (fun _ => ⟨a, rfl, fun j u hj => cell_later ((Below.refl _ _).alloc (Nat.le_refl _) _) (hsr j u hj)⟩) (by simp; omega) (by simp)
    simp only [List.length_nil, Nat.zero_add, List.nil_append] at hr ho
    have HO := Lib.hid ho
    have HG := Lib.hid (((Below.refl _ _).alloc (Nat.le_refl _) (.cells #[] tOutP)).trans (grown_below hg (by simp) (by simp [Value.ownBlock])))
    clear h h0 ho hg hsr hl ha
    go_enter Tryz.func254, Tryz.ntmps254
    go_wp2_with (at_builtin; refine wpList_app_r rfl _ _ 107 107 rfl _ _ rfl rfl hr ?_)
    go_ret
    exact ⟨A', c', rfl, HO.out, HG.out⟩

set_option maxHeartbeats 400000 in
theorem flall_any (h : FlA tFl tOutP w B p v ps) (hb : ps.length ≤ 1099511627776) :
    Calls Tryz.prog 207 #[.pointer (some ⟨p, 0, none⟩)] w fun e w' => ∃ A' c', e = .returned (.slice A' ps.length c') ∧ OwnQ tOutP w' w.heap.size (.slice A' ps.length c') ps ∧ Below w.heap.size w w' := by
  obtain ⟨A, c, hv⟩ := h.own.form
  have c0 := h.c0
  have ho := h.own
  rw [hv] at c0 ho
  have HC := Lib.hid (cloneQ_any A ps.length c ho hb)
  clear h hb ho hv
  obtain ⟨n, hn⟩ : ∃ n, ps.length = n := ⟨_, rfl⟩
  rw [hn] at c0 HC ⊢
  clear hn
  go_enter Tryz.func207, Tryz.ntmps207
  go_wp2_with fail
  refine HC.out.mono ?_
  rintro e w' ⟨A', c', rfl, h1, h2⟩
  have H1 := Lib.hid h1
  have H2 := Lib.hid h2
  clear h1 h2
  go_wp2
  go_ret
  exact ⟨A', c', rfl, H1.out, H2.out⟩

set_option maxHeartbeats 400000 in
/-- Add, of a number that is there. -/
theorem fladd_no (h : FlA tFl tOutP w B p v ps) (x y z u : Int) (i : Nat) (hi : FirstQ ps x i) (hm : ps.length ≤ 1099511627776) :
    Calls Tryz.prog 260 #[.pointer (some ⟨p, 0, none⟩), .agg #[.int .i64 x, .int .i64 y, .int .i64 z, .int .i64 u]] w fun e w' => e = .returned (.bool false) ∧ Below w.heap.size w w' := by
  have hb := (Below.refl w.heap.size w).alloc (Nat.le_refl _) (.cells #[.int .i64 x, .int .i64 y, .int .i64 z, .int .i64 u] tOutP)
  have HF := Lib.hid (flfind_any (h.later hb) x (i : Int) hm (.inl ⟨i, rfl, hi⟩))
  have HB := Lib.hid hb
  have i0 : (0 : Int) ≤ (i : Int) := by omega
  clear h hb hm hi
  go_enter Tryz.func260, Tryz.ntmps260
  go_wp2_with fail
  refine HF.out.mono ?_
  rintro e w' ⟨rfl, hb⟩
  have HB2 := Lib.hid (HB.out.trans (hb.mono (by rw [World.size_alloc]; omega)))
  clear hb
  go_wp2
  go_ret
  exact ⟨rfl, HB2.out⟩

set_option maxHeartbeats 1000000 in
/-- Add, of a number that isn't there. -/
theorem fladd_yes (h : FlA tFl tOutP w B p v ps) (x y z u : Int) (hno : NoneQ ps x) (hm : ps.length ≤ 1099511627775) :
    Calls Tryz.prog 260 #[.pointer (some ⟨p, 0, none⟩), .agg #[.int .i64 x, .int .i64 y, .int .i64 z, .int .i64 u]] w fun e w' => e = .returned (.bool true) ∧ ∃ v', FlA tFl tOutP w' B p v' (ps ++ [⟨x, y, z, u⟩]) ∧ SC w w' (Fft p v) (Fft p v') := by
  have hb := (Below.refl w.heap.size w).alloc (Nat.le_refl _) (.cells #[.int .i64 x, .int .i64 y, .int .i64 z, .int .i64 u] tOutP)
  have HF := Lib.hid (flfind_any (h.later hb) x (-1) (by omega) (.inr ⟨rfl, hno⟩))
  obtain ⟨A, c, hv⟩ := h.own.form
  obtain ⟨n, hn⟩ : ∃ n, ps.length = n := ⟨_, rfl⟩
  rw [hn] at hm
  have HN := Lib.hid hn
  have HL := Lib.hid hm
  have HB := Lib.hid hb
  have H := Lib.hid h
  have HVB := Lib.hid (show ¬ v.ownBlock = some w.heap.size from fun e => by have := (h.own.lt _ e).2; omega)
  have HPB := Lib.hid (show w.heap.size ≠ (⟨p, 0, none⟩ : Addr).block from fun e => by have := h.lt; simp only at e; omega)
  rw [hn] at hv
  have HV := Lib.hid hv
  clear h hb hno hm hn hv
  go_enter Tryz.func260, Tryz.ntmps260
  go_wp2_with fail
  refine HF.out.mono ?_
  rintro e w2 ⟨rfl, hb⟩
  have HBB := Lib.hid (HB.out.trans (hb.mono (by rw [World.size_alloc]; omega)))
  have HX := Lib.hid (H.out.later HBB.out)
  have HBX := Lib.hid ((Bx.new w tOutP x y z u).later hb)
  clear hb H HB HF
  go_wp2_with fail
  obtain ⟨W, hW⟩ : ∃ W, w2.drew = W := ⟨_, rfl⟩
  have hX : FlA tFl tOutP W B p v ps := by rw [← hW]; exact HX.out.drewN 1
  have hgw : SC w W (Fft p v) (Fft p v) := by rw [← hW]; exact SC.of_below (HBB.out.trans ⟨rfl, rfl, rfl, Nat.le_refl _, fun _ _ => rfl⟩)
  have hs0 : Bx W w.heap.size ⟨x, y, z, u⟩ := by rw [← hW]; exact HBX.out
  have hsz : w.heap.size ≤ W.heap.size := by rw [← hW]; exact HBB.out.size
  have hbl : w.heap.size < W.heap.size := World.block_lt_of_cell? W _ hs0.1
  have c0 := hX.c0
  rw [HV.out] at c0
  obtain ⟨A', c', w3, hrun, ho, ht, hf⟩ := app_q (P := Tryz.prog) 107 107 _ Tryz.underlying107 (info_tOutP) rfl hX.own n HN.out (by have := HL.out; omega) hX.size ⟨x, y, z, u⟩
  rw [HV.out] at hrun
  have c0a := (hX.alloc (.cells #[.int .i64 x, .int .i64 y, .int .i64 z, .int .i64 u] tOutP)).c0
  rw [HV.out] at c0a
  obtain ⟨y1, y2, hnew⟩ := hX.put (by decide) ht ho hf
  have hs1 : Bx (W.alloc (.cells #[.int .i64 x, .int .i64 y, .int .i64 z, .int .i64 u] tOutP)) w.heap.size ⟨x, y, z, u⟩ := hs0.of_block (heap_alloc_old W _ hbl)
  have hs2 : Bx w3 w.heap.size ⟨x, y, z, u⟩ := hs0.of_block (ht.block _ hbl HVB.out)
  have hs3 : Bx (w3.setCell ⟨p, 0, none⟩ (.slice A' (n + 1) c')) w.heap.size ⟨x, y, z, u⟩ := hs2.of_block (heap_setCell_other _ _ _ _ HPB.out)
  have HNEW := Lib.hid hnew
  have HGW := Lib.hid hgw
  have S0 := Lib.hid (show Bx w2.drew w.heap.size ⟨x, y, z, u⟩ by rw [hW]; exact hs0)
  have S0W := Lib.hid hs0
  have S1 := Lib.hid hs1
  have S2 := Lib.hid hs2
  have S3 := Lib.hid hs3
  clear hX hgw hnew ho ht hf hs0 hs1 hs2 hs3 hsz hbl HX HBB HBX HVB HPB
  refine wp_region_held_drew (S := fun wi => wi.cell? ⟨w.heap.size, 0, none⟩ = some (.int .i64 x) ∧ wi.cell? ⟨w.heap.size, 1, none⟩ = some (.int .i64 y) ∧ wi.cell? ⟨w.heap.size, 2, none⟩ = some (.int .i64 z) ∧ wi.cell? ⟨w.heap.size, 3, none⟩ = some (.int .i64 u)) (by kernel_rfl) S0.out ?_
  intro hHeld
  rw [hW]
  clear hW
  refine wpAnyH_take (i := 0) (v := ?_) rfl (by kernel_rfl) (by kernel_rfl) (by kernel_rfl) (fun _ _ _ h => h) (Or.inl ⟨by rfl, ?_⟩) (by assumption) ?_
  rotate_left
  · intro w hSw
    (try dsimp only at hSw)
    go_simp
    try (with_reducible rfl)
  try simp only [Act.put, List.getElem_toArray, List.getElem_cons_zero, List.setIfInBounds_toArray, List.set_cons_zero, List.set_cons_succ]
  refine wpAnyH_take (i := 1) (v := ?_) rfl (by kernel_rfl) (by kernel_rfl) (by kernel_rfl) (fun _ _ _ h => h) (Or.inl ⟨by rfl, ?_⟩) (by assumption) ?_
  rotate_left
  · intro w hSw
    (try dsimp only at hSw)
    go_simp
    try (with_reducible rfl)
  try simp only [Act.put, List.getElem_toArray, List.getElem_cons_zero, List.getElem_cons_succ, List.setIfInBounds_toArray, List.set_cons_zero, List.set_cons_succ]
  refine wpAnyH_take (i := 2) (v := ?_) rfl (by kernel_rfl) (by kernel_rfl) (by kernel_rfl) (fun _ _ _ h => h) (Or.inl ⟨by rfl, ?_⟩) (by assumption) ?_
  rotate_left
  · intro w hSw
    (try dsimp only at hSw)
    go_simp
    try (with_reducible rfl)
  try simp only [Act.put, List.getElem_toArray, List.getElem_cons_zero, List.getElem_cons_succ, List.setIfInBounds_toArray, List.set_cons_zero, List.set_cons_succ]
  refine wpAnyH_take (i := 3) (v := ?_) rfl (by kernel_rfl) (by kernel_rfl) (by kernel_rfl) (fun _ _ _ h => h) (Or.inl ⟨by rfl, ?_⟩) (by assumption) ?_
  rotate_left
  · intro w hSw
    (try dsimp only at hSw)
    go_simp
    try (with_reducible rfl)
  try simp only [Act.put, List.getElem_toArray, List.getElem_cons_zero, List.getElem_cons_succ, List.setIfInBounds_toArray, List.set_cons_zero, List.set_cons_succ]
  refine wpAnyH_take (i := 5) (v := ?_) rfl (by kernel_rfl) (by kernel_rfl) (by kernel_rfl) (fun _ _ _ h => h) (Or.inl ⟨by rfl, ?_⟩) (by assumption) ?_
  rotate_left
  · intro w hSw
    (try dsimp only at hSw)
    go_simp
    try (with_reducible rfl)
  try simp only [Act.put, List.getElem_toArray, List.getElem_cons_zero, List.getElem_cons_succ, List.setIfInBounds_toArray, List.set_cons_zero, List.set_cons_succ]
  refine wpAnyH_ready (rs := [4, 6]) (by kernel_rfl) (by simp) ?_
  refine AllReadyH.cons rfl (fun K hK => ?_) (AllReadyH.cons rfl (fun K hK => ?_) AllReadyH.nil)
  · go_simp
    refine hK.out _ _ S0W.out (fun hHeld2 => ?_)
    clear hK K hHeld
    have hHeld := hHeld2
    clear hHeld2
    try simp only [Act.put, List.getElem_toArray, List.getElem_cons_zero, List.getElem_cons_succ, List.setIfInBounds_toArray, List.set_cons_zero, List.set_cons_succ]
    refine wpAnyH_ready (rs := [6]) (by kernel_rfl) (by simp) ?_
    refine AllReadyH.cons rfl (fun K hK => ?_) AllReadyH.nil
    go_simp
    refine hK.out _ _ S1.out (fun hHeld2 => ?_)
    clear hK K hHeld
    have hHeld := hHeld2
    clear hHeld2
    try simp only [Act.put, List.getElem_toArray, List.getElem_cons_zero, List.getElem_cons_succ, List.setIfInBounds_toArray, List.set_cons_zero, List.set_cons_succ]
    refine wpAnyH_ready (rs := [7]) (by kernel_rfl) (by simp) ?_
    refine AllReadyH.cons rfl (fun K hK => ?_) AllReadyH.nil
    refine step_app_r4 (by rfl) (.tmp 14) (.tmp 16) 107 rfl _ _ _ rfl rfl hrun ?_
    refine hK.out _ _ S2.out (fun hHeld2 => ?_)
    clear hK K hHeld
    have hHeld := hHeld2
    clear hHeld2
    try simp only [Act.put, List.getElem_toArray, List.getElem_cons_zero, List.getElem_cons_succ, List.setIfInBounds_toArray, List.set_cons_zero, List.set_cons_succ]
    refine wpAnyH_take (i := 8) (v := ?_) rfl (by kernel_rfl) (by kernel_rfl) (by kernel_rfl) (fun _ _ _ h => h) (Or.inl ⟨by rfl, ?_⟩) (by assumption) ?_
    rotate_left
    · intro w hSw
      (try dsimp only at hSw)
      go_simp
      try (with_reducible rfl)
    try simp only [Act.put, List.getElem_toArray, List.getElem_cons_zero, List.getElem_cons_succ, List.setIfInBounds_toArray, List.set_cons_zero, List.set_cons_succ]
    refine wpAnyH_take (i := 9) (v := ?_) rfl (by kernel_rfl) (by kernel_rfl) (by kernel_rfl) (fun _ _ _ h => h) (Or.inl ⟨by rfl, ?_⟩) (by assumption) ?_
    rotate_left
    · intro w hSw
      (try dsimp only at hSw)
      go_simp
      try (with_reducible rfl)
    try simp only [Act.put, List.getElem_toArray, List.getElem_cons_zero, List.getElem_cons_succ, List.setIfInBounds_toArray, List.set_cons_zero, List.set_cons_succ]
    refine wpAnyH_ready (rs := [10]) (by kernel_rfl) (by simp) ?_
    refine AllReadyH.cons rfl (fun K hK => ?_) AllReadyH.nil
    go_simp
    refine hK.out _ _ S3.out (fun hHeld2 => ?_)
    clear hK K hHeld
    have hHeld := hHeld2
    clear hHeld2
    try simp only [Act.put, List.getElem_toArray, List.getElem_cons_zero, List.getElem_cons_succ, List.setIfInBounds_toArray, List.set_cons_zero, List.set_cons_succ]
    refine wpAnyH_done (by kernel_rfl) ?_ _
    go_wp2
    go_ret
    exact ⟨rfl, _, HNEW.out.1, HGW.out.trans HNEW.out.2⟩
  · go_simp
    refine hK.out _ _ S1.out (fun hHeld2 => ?_)
    clear hK K hHeld
    have hHeld := hHeld2
    clear hHeld2
    try simp only [Act.put, List.getElem_toArray, List.getElem_cons_zero, List.getElem_cons_succ, List.setIfInBounds_toArray, List.set_cons_zero, List.set_cons_succ]
    refine wpAnyH_ready (rs := [4]) (by kernel_rfl) (by simp) ?_
    refine AllReadyH.cons rfl (fun K hK => ?_) AllReadyH.nil
    go_simp
    refine hK.out _ _ S1.out (fun hHeld2 => ?_)
    clear hK K hHeld
    have hHeld := hHeld2
    clear hHeld2
    try simp only [Act.put, List.getElem_toArray, List.getElem_cons_zero, List.getElem_cons_succ, List.setIfInBounds_toArray, List.set_cons_zero, List.set_cons_succ]
    refine wpAnyH_ready (rs := [7]) (by kernel_rfl) (by simp) ?_
    refine AllReadyH.cons rfl (fun K hK => ?_) AllReadyH.nil
    refine step_app_r4 (by rfl) (.tmp 14) (.tmp 16) 107 rfl _ _ _ rfl rfl hrun ?_
    refine hK.out _ _ S2.out (fun hHeld2 => ?_)
    clear hK K hHeld
    have hHeld := hHeld2
    clear hHeld2
    try simp only [Act.put, List.getElem_toArray, List.getElem_cons_zero, List.getElem_cons_succ, List.setIfInBounds_toArray, List.set_cons_zero, List.set_cons_succ]
    refine wpAnyH_take (i := 8) (v := ?_) rfl (by kernel_rfl) (by kernel_rfl) (by kernel_rfl) (fun _ _ _ h => h) (Or.inl ⟨by rfl, ?_⟩) (by assumption) ?_
    rotate_left
    · intro w hSw
      (try dsimp only at hSw)
      go_simp
      try (with_reducible rfl)
    try simp only [Act.put, List.getElem_toArray, List.getElem_cons_zero, List.getElem_cons_succ, List.setIfInBounds_toArray, List.set_cons_zero, List.set_cons_succ]
    refine wpAnyH_take (i := 9) (v := ?_) rfl (by kernel_rfl) (by kernel_rfl) (by kernel_rfl) (fun _ _ _ h => h) (Or.inl ⟨by rfl, ?_⟩) (by assumption) ?_
    rotate_left
    · intro w hSw
      (try dsimp only at hSw)
      go_simp
      try (with_reducible rfl)
    try simp only [Act.put, List.getElem_toArray, List.getElem_cons_zero, List.getElem_cons_succ, List.setIfInBounds_toArray, List.set_cons_zero, List.set_cons_succ]
    refine wpAnyH_ready (rs := [10]) (by kernel_rfl) (by simp) ?_
    refine AllReadyH.cons rfl (fun K hK => ?_) AllReadyH.nil
    go_simp
    refine hK.out _ _ S3.out (fun hHeld2 => ?_)
    clear hK K hHeld
    have hHeld := hHeld2
    clear hHeld2
    try simp only [Act.put, List.getElem_toArray, List.getElem_cons_zero, List.getElem_cons_succ, List.setIfInBounds_toArray, List.set_cons_zero, List.set_cons_succ]
    refine wpAnyH_done (by kernel_rfl) ?_ _
    go_wp2
    go_ret
    exact ⟨rfl, _, HNEW.out.1, HGW.out.trans HNEW.out.2⟩
end
end Go.Proofs.YtpjlnpnadkbakaaGreat

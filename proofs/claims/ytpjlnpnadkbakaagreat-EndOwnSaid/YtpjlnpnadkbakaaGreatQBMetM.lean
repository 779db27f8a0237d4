/-
  MetM · PrEnd.
-/
import Derived.Test.YtpjlnpnadkbakaaGreatRows
import Derived.Test.YtpjlnpnadkbakaaGreatQBMem
import Derived.Test.YtpjlnpnadkbakaaGreatQBDocSched
import Derived.Conc.RwLoneW
import Derived.Deep.OwnRows
import Derived.Laws.CopyOwn
import Derived.IntWalk
import Derived.Test.YtpjlnpnadkbakaaGreatQBFresh
import Derived.Test.YtpjlnpnadkbakaaGreatQBRowN
import Derived.Test.YtpjlnpnadkbakaaGreatQBPath
import Derived.Test.YtpjlnpnadkbakaaGreatQBOutbox
import Derived.Test.YtpjlnpnadkbakaaGreatQBOutbox2
import Derived.Test.YtpjlnpnadkbakaaGreatQBInbox3
namespace Go.Proofs.YtpjlnpnadkbakaaGreat
set_option maxRecDepth 10000
open Go.RowKit
open Go.RwLone
def metF (cs : List Int) (i : Nat) : Value :=
  if i = 0 then .int .i32 0 else if i = 4 then .int .i32 0 else if i = 5 then .int .i32 0 else if i < 6 then .int .u32 0 else .int .i64 (cs.getD (i - 6) 0)
def Met (w : World) (b : Nat) (cs : List Int) : Prop := cs.length = 8 ∧ w.rowIs b 163 14 (metF cs)
section
variable {w w' : World} {b : Nat} {cs : List Int}
theorem Met.lt (h : Met w b cs) : b < w.heap.size := World.rowIs.lt h.2
theorem Met.drewN (h : Met w b cs) (n : Nat) : Met (w.drewN n) b cs := h
theorem Met.drew (h : Met w b cs) : Met w.drew b cs := h
theorem Met.alloc (h : Met w b cs) (o : Obj) : Met (w.alloc o) b cs := ⟨h.1, World.rowIs.alloc h.2 o⟩
theorem Met.of_block (h : Met w b cs) (hb : w'.heap[b]? = w.heap[b]?) : Met w' b cs := ⟨h.1, World.rowIs.of_block h.2 hb⟩
theorem Met.later (h : Met w b cs) (hb : Below w.heap.size w w') : Met w' b cs := h.of_block (hb.block b h.lt)
theorem Met.count (h : Met w b cs) (j : Nat) (hj : j < 8) : w.cell? ⟨b, 6 + j, none⟩ = some (.int .i64 (cs.getD j 0)) := by
  rw [World.rowIs.cell h.2 (by omega)]
  simp only [metF, if_neg (show ¬ 6 + j = 0 by omega), if_neg (show ¬ 6 + j = 4 by omega), if_neg (show ¬ 6 + j = 5 by omega), if_neg (show ¬ 6 + j < 6 by omega), Nat.add_sub_cancel_left]
end
theorem set_getD (cs : List Int) (j t : Nat) (x : Int) (hj : j < cs.length) : (cs.set j x).getD t 0 = if t = j then x else cs.getD t 0 := by
  by_cases h : t = j
  · subst h; simp [List.getD, hj]
  · rw [if_neg h]
    simp [List.getD, Ne.symm h]
theorem mthere_yes (a : Int) (w : World) (h0 : 0 ≤ a) (h1 : a < 8) : Calls Tryz.prog 137 #[.int .i64 a] w fun e w' => e = .returned (.bool true) ∧ w = w' := by
  go_enter Tryz.func137, Tryz.ntmps137
  go_wp2
  go_ret
  exact ⟨rfl, rfl⟩
theorem aadd_any (b off : Nat) (x y : Int) (w : World) (hc : w.cell? ⟨b, off, none⟩ = some (.int .i64 x)) (hz : w.frozen? ⟨b, off, none⟩ = false) (h1 : -9223372036854775808 ≤ x + y) (h2 : x + y ≤ 9223372036854775807) :
    Calls Tryz.prog 140 #[.pointer (some ⟨b, off, none⟩), .int .i64 y] w fun e w' => e = .returned (.int .i64 (x + y)) ∧ w' = w.setCell ⟨b, off, none⟩ (.int .i64 (x + y)) := by
  have hs : (Op.intArith .add .i64 x y).run Tryz.prog w = .ok (.int .i64 (x + y)) w := by
    have := IntWalk.i64_in (x + y) ⟨h1, h2⟩
    simp [go_sem, this]
  have hadd := run_call_add (P := Tryz.prog) Tryz.func216 (by kernel_rfl) (by kernel_rfl) (by kernel_rfl) .i64 (by kernel_rfl) hc hz hs
  clear hs h1 h2
  go_enter Tryz.func140, Tryz.ntmps140
  go_wp2
  go_ret
  exact ⟨rfl, rfl⟩
theorem aload_any (b off : Nat) (x : Int) (w : World) (hc : w.cell? ⟨b, off, none⟩ = some (.int .i64 x)) :
    Calls Tryz.prog 173 #[.pointer (some ⟨b, off, none⟩)] w fun e w' => e = .returned (.int .i64 x) ∧ w = w' := by
  have hl := run_call_load (P := Tryz.prog) Tryz.func245 (by kernel_rfl) (by kernel_rfl) (by kernel_rfl) .i64 (by kernel_rfl) hc
  go_enter Tryz.func173, Tryz.ntmps173
  go_wp2
  go_ret
  exact ⟨rfl, rfl⟩
theorem newmet_any (w : World) : Calls Tryz.prog 92 #[] w fun e w' => e = .returned (.pointer (some ⟨w.heap.size, 0, none⟩)) ∧ Met w' w.heap.size [0,0,0,0,0,0,0,0] ∧ Below w.heap.size w w' ∧ w'.heap.size = w.heap.size + 1 := by
  go_enter Tryz.func92, Tryz.ntmps92
  go_wp2
  go_ret
  refine ⟨rfl, ⟨rfl, ?_⟩, (Below.refl _ _).alloc (Nat.le_refl _) _, by simp⟩
  exact World.rowIs_alloc w _ _ _ (fun i hi => by
    have : i < 14 := hi
    match i, this with
    | 0, _ | 1, _ | 2, _ | 3, _ | 4, _ | 5, _ | 6, _ | 7, _ | 8, _ | 9, _ | 10, _ | 11, _ | 12, _ | 13, _ => rfl)
def Held (w : World) (b : Nat) (p r : Int) (cs : List Int) : Prop := cs.length = 8 ∧ w.rowIs b 163 14 (fun j => if j = 0 then .int .i32 p else if j = 4 then .int .i32 r else metF cs j)
section
variable {w w' : World} {b : Nat} {p r : Int} {cs : List Int}
theorem Held.of (h : Met w b cs) : Held w b 0 0 cs := ⟨h.1, h.2.congr fun i _ => by
  by_cases h0 : i = 0
  · subst h0; rfl
  · by_cases h4 : i = 4
    · subst h4; rfl
    · simp only [h0, h4, if_false]⟩
theorem Held.met (h : Held w b 0 0 cs) : Met w b cs := ⟨h.1, h.2.congr fun i _ => by
  by_cases h0 : i = 0
  · subst h0; rfl
  · by_cases h4 : i = 4
    · subst h4; rfl
    · simp only [h0, h4, if_false]⟩
theorem Held.lt (h : Held w b p r cs) : b < w.heap.size := World.rowIs.lt h.2
theorem Held.drew (h : Held w b p r cs) : Held w.drew b p r cs := h
theorem Held.drewN (h : Held w b p r cs) (n : Nat) : Held (w.drewN n) b p r cs := h
theorem Held.of_block (h : Held w b p r cs) (hb : w'.heap[b]? = w.heap[b]?) : Held w' b p r cs := ⟨h.1, World.rowIs.of_block h.2 hb⟩
theorem Held.alloc (h : Held w b p r cs) (o : Obj) : Held (w.alloc o) b p r cs := ⟨h.1, World.rowIs.alloc h.2 o⟩
theorem Held.set0 (h : Held w b p r cs) (q : Int) : Held (w.setCell ⟨b, 0, none⟩ (.int .i32 q)) b q r cs := ⟨h.1, (h.2.set 0 _).congr fun i _ => by
  by_cases h0 : i = 0
  · simp only [h0, if_true]
  · simp only [h0, if_false]⟩
theorem Held.set4 (h : Held w b p r cs) (q : Int) : Held (w.setCell ⟨b, 4, none⟩ (.int .i32 q)) b p q cs := ⟨h.1, (h.2.set 4 _).congr fun i _ => by
  by_cases h0 : i = 4
  · subst h0; simp
  · simp only [h0, if_false]⟩
theorem Held.setC (h : Held w b p r cs) (k : Nat) (hk : k < 8) (x : Int) : Held (w.setCell ⟨b, 6 + k, none⟩ (.int .i64 x)) b p r (cs.set k x) := ⟨by rw [List.length_set]; exact h.1, (h.2.set (6 + k) _).congr fun i _ => by
  by_cases h0 : i = 6 + k
  · subst h0
    rw [if_pos rfl, if_neg (by omega), if_neg (by omega)]
    simp only [metF, if_neg (show ¬ 6 + k = 0 by omega), if_neg (show ¬ 6 + k = 4 by omega), if_neg (show ¬ 6 + k = 5 by omega), if_neg (show ¬ 6 + k < 6 by omega), Nat.add_sub_cancel_left]
    rw [set_getD _ _ _ _ (by rw [h.1]; exact hk), if_pos rfl]
  · rw [if_neg h0]
    by_cases h1 : i = 0
    · simp only [h1, if_true]
    · by_cases h2 : i = 4
      · simp only [h2, if_true]
      · rw [if_neg h1, if_neg h2, if_neg h1, if_neg h2]
        unfold metF
        by_cases h3 : i < 6
        · simp only [h1, h2, h3, if_true, if_false]
        · rw [if_neg h1, if_neg h2, if_neg (show ¬ i = 5 by omega), if_neg h3, if_neg h1, if_neg h2, if_neg (show ¬ i = 5 by omega), if_neg h3]
          rw [set_getD _ _ _ _ (by rw [h.1]; exact hk), if_neg (by omega)]⟩
theorem Held.c0 (h : Held w b p r cs) : w.cell? ⟨b, 0, none⟩ = some (.int .i32 p) := World.rowIs.cell (i := 0) h.2 (by omega)
theorem Held.c2 (h : Held w b p r cs) : w.cell? ⟨b, 0 + 2, none⟩ = some (.int .u32 0) := World.rowIs.cell (i := 2) h.2 (by omega)
theorem Held.c3 (h : Held w b p r cs) : w.cell? ⟨b, 0 + 3, none⟩ = some (.int .u32 0) := World.rowIs.cell (i := 3) h.2 (by omega)
theorem Held.c4 (h : Held w b p r cs) : w.cell? ⟨b, 0 + 4, none⟩ = some (.int .i32 r) := World.rowIs.cell (i := 4) h.2 (by omega)
theorem Held.fr (h : Held w b p r cs) (i : Nat) : w.frozen? ⟨b, i, none⟩ = false := World.rowIs.frozen h.2 i
theorem Held.count (h : Held w b p r cs) (j : Nat) (hj : j < 8) : w.cell? ⟨b, 6 + j, none⟩ = some (.int .i64 (cs.getD j 0)) := by
  rw [World.rowIs.cell h.2 (by omega), if_neg (by omega), if_neg (by omega)]
  simp only [metF, if_neg (show ¬ 6 + j = 0 by omega), if_neg (show ¬ 6 + j = 4 by omega), if_neg (show ¬ 6 + j = 5 by omega), if_neg (show ¬ 6 + j < 6 by omega), Nat.add_sub_cancel_left]
end
section
variable {w : World} {b : Nat} {cs : List Int}
theorem rl_any (h : Met w b cs) : Calls Tryz.prog 138 #[.pointer (some ⟨b, 0, none⟩)] w fun e w' => e = .returned (.tuple #[]) ∧ Held w' b 0 1 cs ∧ w.grownBy w' (some b) := by
  have H := Held.of h
  refine (rlock_open rwRLib b 0 0 _ _ _ H.c0 H.c3 H.c4 (H.fr _) (by simp [wrap32])).mono ?_
  rintro e w' ⟨rfl, rfl⟩
  exact ⟨rfl, by simpa [wrap32] using H.set4 1, setCell_one _ _ _ _⟩
theorem ru_any (h : Held w b 0 1 cs) (u : FrameMode) : CallsD Tryz.prog 139 #[.pointer (some ⟨b, 0, none⟩)] u w fun e u' w' => u' = u ∧ e = .returned (.tuple #[]) ∧ Met w' b cs ∧ w.grownBy w' (some b) := by
  refine (runlock_deferred rwRLib b 0 1 _ _ u _ h.c0 h.c2 h.c4 (h.fr _) (by simp [wrap32])).mono ?_
  rintro e u' w' ⟨rfl, rfl, rfl⟩
  exact ⟨rfl, rfl, by simpa [wrap32] using (h.set4 0).met, setCell_one _ _ _ _⟩
theorem wl_any (h : Met w b cs) : Calls Tryz.prog 171 #[.pointer (some ⟨b, 0, none⟩)] w fun e w' => e = .returned (.tuple #[]) ∧ Held w' b 1 (-1073741824) cs ∧ w.grownBy w' (some b) := by
  have H := Held.of h
  refine (wlock_free rwWLib b 0 _ _ _ H.c0 H.c2 H.c3 H.c4 (H.fr _) (H.fr _)).mono ?_
  rintro e w' ⟨rfl, rfl⟩
  exact ⟨rfl, (H.set0 1).set4 _, (setCell_one _ _ _ _).trans (setCell_one _ _ _ _)⟩
theorem wu_any (h : Held w b 1 (-1073741824) cs) (u : FrameMode) : CallsD Tryz.prog 172 #[.pointer (some ⟨b, 0, none⟩)] u w fun e u' w' => u' = u ∧ e = .returned (.tuple #[]) ∧ Met w' b cs ∧ w.grownBy w' (some b) := by
  refine (wunlock_deferred rwWLib b 0 _ _ u _ h.c0 h.c2 h.c3 h.c4 (h.fr _) (h.fr _)).mono ?_
  rintro e u' w' ⟨rfl, rfl, rfl⟩
  exact ⟨rfl, rfl, ((h.set4 0).set0 0).met, (setCell_one _ _ _ _).trans (setCell_one _ _ _ _)⟩
end
set_option maxHeartbeats 1600000 in
set_option maxRecDepth 100000 in
theorem madd_yes (b : Nat) (cs : List Int) (k : Nat) (n : Int) (w : World) (hm : Met w b cs) (hk : k < 8) (h0 : 0 ≤ n) (h1 : n ≤ 2147483647) (hs : 0 ≤ cs.getD k 0) (ht : cs.getD k 0 ≤ 4611686018427387904) :
    Calls Tryz.prog 66 #[.pointer (some ⟨b, 0, none⟩), .int .i64 k, .int .i64 n] w fun e w' => e = .returned (.int .i64 (cs.getD k 0 + n)) ∧ Met w' b (cs.set k (cs.getD k 0 + n)) ∧ w.grownBy w' (some b) := by
  have HM := Lib.hid hm
  clear hm
  have hk1 : (k : Int) < 8 := by omega
  have hk0 : (0 : Int) ≤ (k : Int) := by omega
  have d1 : decide (n < 0) = false := by simp; omega
  have d2 : decide (n > 2147483647) = false := by simp; omega
  go_enter_defers Tryz.func66, Tryz.ntmps66
  go_wp2_with (go_at_call 137; refine (mthere_yes _ _ hk0 hk1).mono ?_; rintro e w' ⟨rfl, rfl⟩)
  refine (rl_any HM.out).mono ?_
  rintro e w1 ⟨rfl, h1, g1⟩
  have H1 := Lib.hid h1
  have G1 := Lib.hid g1
  clear h1 g1
  go_wp2_with fail
  refine (aadd_any b (6 + k) _ _ _ (H1.out.count k hk) (H1.out.fr _) (by omega) (by omega)).mono ?_
  rintro e w2 ⟨rfl, rfl⟩
  go_wp2_with fail
  refine leaves_cons (f := 139) (args := #[.pointer (some ⟨b, 0, none⟩)]) (by simp) (by simp [go_sem]) ?_
  refine (ru_any (H1.out.setC k hk _) .returning).mono ?_
  rintro e u' w'' ⟨rfl, rfl, h3, g3⟩
  exact ⟨_, results_tmp rfl _ _ _, rfl, h3, (G1.out.trans (setCell_one _ _ _ _)).trans g3⟩
theorem info_intM : (Tryz.prog.info? 3).map (fun i => (i.zero, i.size, i.bytes)) = some (some (.int .i64 0), 1, 8) := by kernel_rfl
def allF (cs : List Int) (j t : Nat) : Value := .int .i64 (if t < j then cs.getD t 0 else 0)
set_option maxHeartbeats 1600000 in
set_option maxRecDepth 100000 in
theorem mall_any (b : Nat) (cs : List Int) (w : World) (hm : Met w b cs) :
    Calls Tryz.prog 98 #[.pointer (some ⟨b, 0, none⟩)] w fun e w' => ∃ g, w.heap.size ≤ g ∧ e = .returned (.slice (some ⟨g, 0, none⟩) 8 8) ∧ w'.rowIs g 3 8 (allF cs 8) ∧ Met w' b cs ∧ w.grownBy w' (some b) := by
  obtain ⟨i0, hi0, hz0, hz1, hz2⟩ := info_parts info_intM
  have hmk : ∀ w, (Instr.makeSlice 49 (.int .i64 8) (.int .i64 8)).run Tryz.prog w = .ok (.slice (some ⟨w.heap.size, 0, none⟩) 8 8) (w.alloc (.cells (madeCells #[.int .i64 0] 8) 3)) := fun w => by
    have := run_make (P := Tryz.prog) w 49 3 i0 (.int .i64 0) Tryz.underlying49 hi0 hz0 .i64 .i64 8 8 (by omega) (by omega) (by rw [hz2]; omega) (by omega)
    rw [hz1] at this
    exact this
  have HM := Lib.hid hm
  have hlt := hm.lt
  clear hm hi0 hz0 hz1 hz2
  go_enter_defers Tryz.func98, Tryz.ntmps98
  go_wp2_with fail
  refine (wl_any HM.out).mono ?_
  rintro e w1 ⟨rfl, h1, g1⟩
  have r0 := (World.rowIs_made w1 (.int .i64 0) 8 3).congr (g := allF cs 0) (fun i _ => by simp [allF])
  have h2 := h1.alloc (.cells (madeCells #[.int .i64 0] 8) 3)
  have g2 := g1.trans (World.grownBy_alloc w1 (.cells (madeCells #[.int .i64 0] 8) 3) (some b))
  have s1 := h1.lt
  have s2 := g1.size
  have R0 := Lib.hid r0
  have H2 := Lib.hid h2
  have G2 := Lib.hid g2
  clear r0 h2 g2 h1 g1
  go_wp2_with fail
  clear hmk
  obtain ⟨g, hg⟩ : ∃ g, w1.heap.size = g := ⟨_, rfl⟩
  obtain ⟨W1, hW1⟩ : ∃ W1, w1.alloc (Obj.cells (madeCells #[Value.int IntKind.i64 0] 8) 3) = W1 := ⟨_, rfl⟩
  rw [hg] at R0 s1 s2 ⊢
  rw [hW1] at R0 H2 G2 ⊢
  clear hg hW1
  go_loopw [15] (fun i wr => ∃ j : Nat, j ≤ 8 ∧ i = .int .i64 (j : Nat) ∧ Hid (wr.rowIs g 3 8 (allF cs j)) ∧ Hid (Held wr b 1 (-1073741824) cs) ∧ Hid (w.grownBy wr (some b))) (fun i _ => 8 - (intOf i).toNat)
  case atStart => exact ⟨0, by omega, rfl, R0, H2, G2⟩
  case round =>
    obtain ⟨j, hj, rfl, hr, hh, hgr⟩ := hrel
    by_cases hlt : j < 8
    · have hn1 : (j : Int) < 8 := by omega
      have hn2 : (0 : Int) ≤ (j : Int) := by omega
      have f1 := hr.out.frozen j
      have c1 := hr.out.cell (i := j) hlt
      go_wp2_with fail
      refine (aload_any b (6 + j) _ _ (hh.out.count j hlt)).mono ?_
      rintro e w2 ⟨rfl, rfl⟩
      go_wp2
      go_roundw
      case rel =>
        refine ⟨j + 1, by omega, by go_num, Lib.hid ((hr.out.set j _).congr fun t ht => ?_), Lib.hid (hh.out.of_block (heap_setCell_other _ _ _ _ (by simp; omega))), Lib.hid (hgr.out.andThen (setCell_one _ _ _ _) (fun k hk => .inl (by simp at hk; omega)))⟩
        simp only [allF]
        by_cases h1 : t = j
        · subst h1; rw [if_pos rfl, if_pos (by omega)]; rfl
        · rw [if_neg h1]
          by_cases h2 : t < j
          · rw [if_pos h2, if_pos (by omega)]
          · rw [if_neg h2, if_neg (by omega)]
      case measure => simp [intOf]; omega
    · have : j = 8 := by omega
      subst this
      go_wp2_with fail
      refine leaves_cons (f := 172) (args := #[.pointer (some ⟨b, 0, none⟩)]) (by simp) (by simp [go_sem]) ?_
      refine (wu_any hh.out .returning).mono ?_
      rintro e u' w'' ⟨rfl, rfl, h3, g3⟩
      exact ⟨_, results_tmp rfl _ _ _, g, s2, rfl, hr.out.of_block (g3.block g hr.out.lt (by simp; omega)), h3, hgr.out.trans g3⟩
end Go.Proofs.YtpjlnpnadkbakaaGreat
namespace Go.Proofs.YtpjlnpnadkbakaaGreat
set_option maxRecDepth 10000
open Go.RowKit
abbrev tEnd : TypeId := 99
abbrev tPPa : TypeId := 101
structure EeS where
  pv : Value
  pb : List Nat
  pg : Nat → Nat
  pw : Nat → Nat
  pf : Nat → Nat
  dv : Value
  ob : Nat
  pl : Nat
  plq : Nat
  ib : Nat
  ibq : Nat
  ibg : Nat
  ibn : Nat
  sb : Nat
  mb : Nat
structure EeQ where
  fv : Nat → Value
  ov : Value
  lv : Value
  iv : Value
  ev : Value
  to : Nat
structure EnV where
  ps : List Pa
  due : List Int
  o : Ou
  pl : Pl
  i : In
  k : Int
  l : Int
  ev : List Ev
  m : Nat → Int
abbrev En.view (E : En) : EnV := ⟨E.ps, E.due, E.o, E.pl, E.i, E.k, E.l, E.ev, E.m⟩
def eeL (s : EeS) (q : EeQ) (E : En) : List Value :=
  [.int .i64 E.c.np, .int .i64 E.c.buf, .int .i64 E.c.win, .int .i64 E.c.chk, .int .i64 E.c.most, .int .i64 E.c.first, .int .i64 E.c.sched, .int .i64 E.side, .int .i64 E.now, .int .i64 E.limit, s.pv, s.dv,
    .pointer (some ⟨s.sb, 0, none⟩), .pointer (some ⟨s.ob, 0, none⟩), .pointer (some ⟨s.pl, 0, none⟩), .pointer (some ⟨s.ib, 0, none⟩), q.ev, .int .i64 (q.to : Int), .pointer (some ⟨s.mb, 0, none⟩)]
def mets (m : Nat → Int) : List Int := (List.range 8).map m
structure EeP (w : World) (L : Lab) (K : Nat) (s : EeS) (q : EeQ) (V : EnV) : Prop where
  pvr : PtrRow tPPa w s.pv s.pb
  pvl : OfV L (K + 1) s.pv
  pbn : s.pb.length = V.ps.length
  pth : ∀ j, j < V.ps.length → PaAt w 0 (s.pb.getD j 0) (s.pg j) (s.pw j) (s.pf j) (q.fv j) (V.ps.getD j pz)
  ptl : ∀ j, j < V.ps.length → Of L (K + 8 + j) (Pat (s.pb.getD j 0) (s.pg j) (s.pw j) (s.pf j) (q.fv j))
  dvr : Own .i64 3 w 0 s.dv V.due
  dvl : OfV L (K + 2) s.dv
  out : OutAt w 0 s.ob q.ov V.o
  outl : Of L (K + 3) (Oft s.ob q.ov)
  pln : PlanAt w 0 s.pl s.plq q.lv V.pl
  plnl : Of L (K + 7) (Pft s.pl s.plq q.lv)
  inb : ∃ xs ps, IbAt w 0 s.ib s.ibq s.ibg s.ibn q.iv xs ps V.i
  inl : Of L (K + 4) (Ibf s.ib s.ibq s.ibg q.iv)
  sch : ScS w s.sb V.k V.l
  schl : L s.sb = K + 5
  evs : EvLs w L (K + 6) q.ev V.ev
  met : Met w s.mb (mets V.m)
  metl : L s.mb = K + 11
  n3 : V.ps.length ≤ 3
structure EeAt (w : World) (L : Lab) (K b : Nat) (s : EeS) (q : EeQ) (E : En) : Prop where
  row : w.rowIs b tEnd 19 (fun i => (eeL s q E).getD i undef)
  lb : L b = K
  to1 : q.to ≤ E.ev.length
  to2 : E.out = saids (E.ev.drop q.to)
  p : EeP w L K s q E.view
def EE (w : World) (L : Lab) (K b : Nat) (s : EeS) (E : En) : Prop := ∃ q : EeQ, EeAt w L K b s q E
def Es (K : Nat) (x : Nat) : Prop := K ≤ x ∧ x < K + 12
theorem mets_at (m : Nat → Int) {j : Nat} (hj : j < 8) : (mets m).getD j 0 = m j := by
  have : j = 0 ∨ j = 1 ∨ j = 2 ∨ j = 3 ∨ j = 4 ∨ j = 5 ∨ j = 6 ∨ j = 7 := by omega
  rcases this with rfl | rfl | rfl | rfl | rfl | rfl | rfl | rfl <;> rfl
theorem mets_bump (m : Nat → Int) {j : Nat} (hj : j < 8) (n : Int) : (mets m).set j ((mets m).getD j 0 + n) = mets (bump m j n) := by
  have : j = 0 ∨ j = 1 ∨ j = 2 ∨ j = 3 ∨ j = 4 ∨ j = 5 ∨ j = 6 ∨ j = 7 := by omega
  rcases this with rfl | rfl | rfl | rfl | rfl | rfl | rfl | rfl <;> rfl
section
variable {w w' : World} {L L' : Lab} {K b : Nat} {s : EeS} {q q' : EeQ} {E E' : En} {V : EnV} {S : Nat → Prop}
theorem EeAt.cell (h : EeAt w L K b s q E) (i : Nat) (hi : i < 19) : w.cell? ⟨b, i, none⟩ = some ((eeL s q E).getD i undef) := World.rowIs.cell (i := i) h.row hi
theorem EeAt.fr (h : EeAt w L K b s q E) (i : Nat) : w.frozen? ⟨b, i, none⟩ = false := World.rowIs.frozen h.row i
theorem EeAt.lt (h : EeAt w L K b s q E) : b < w.heap.size := World.rowIs.lt h.row
theorem EeAt.pth (h : EeAt w L K b s q E) (j : Nat) (hj : j < E.ps.length) : PaAt w 0 (s.pb.getD j 0) (s.pg j) (s.pw j) (s.pf j) (q.fv j) (E.pa j) := h.p.pth j hj
structure EeR (w' : World) (L' : Lab) (K : Nat) (s : EeS) (q : EeQ) (V : EnV) (S : Nat → Prop) : Prop where
  pvr : ¬ S (K + 1) → PtrRow tPPa w' s.pv s.pb
  pvl : OfV L' (K + 1) s.pv
  pth : ∀ j, j < V.ps.length → ¬ S (K + 8 + j) → PaAt w' 0 (s.pb.getD j 0) (s.pg j) (s.pw j) (s.pf j) (q.fv j) (V.ps.getD j pz)
  ptl : ∀ j, j < V.ps.length → Of L' (K + 8 + j) (Pat (s.pb.getD j 0) (s.pg j) (s.pw j) (s.pf j) (q.fv j))
  dvr : ¬ S (K + 2) → Own .i64 3 w' 0 s.dv V.due
  dvl : OfV L' (K + 2) s.dv
  out : ¬ S (K + 3) → OutAt w' 0 s.ob q.ov V.o
  outl : Of L' (K + 3) (Oft s.ob q.ov)
  pln : ¬ S (K + 7) → PlanAt w' 0 s.pl s.plq q.lv V.pl
  plnl : Of L' (K + 7) (Pft s.pl s.plq q.lv)
  inb : ¬ S (K + 4) → ∃ xs ps, IbAt w' 0 s.ib s.ibq s.ibg s.ibn q.iv xs ps V.i
  inl : Of L' (K + 4) (Ibf s.ib s.ibq s.ibg q.iv)
  sch : ¬ S (K + 5) → ScS w' s.sb V.k V.l
  schl : L' s.sb = K + 5
  evs : ¬ S (K + 6) → ¬ S 0 → EvLs w' L' (K + 6) q.ev V.ev
  met : ¬ S (K + 11) → Met w' s.mb (mets V.m)
  metl : L' s.mb = K + 11
theorem EeP.rest (h : EeP w L K s q V) (ht : Tn w w' L L' S) : EeR w' L' K s q V S where
  pvr := fun hS => h.pvr.keep ht h.pvl hS
  pvl := h.pvl.keep ht h.pvr.lt
  pth := fun i hi hS => (h.pth i hi).kept ht.trn ((h.ptl i hi).apart hS)
  ptl := fun i hi => (h.ptl i hi).keep ht (fun k hk => ((h.pth i hi).foot_lt k hk).2)
  dvr := fun hS => ht.own h.dvr h.dvl hS
  dvl := h.dvl.keep ht (own_lt h.dvr)
  out := fun hS => h.out.kept ht.trn (h.outl.apart hS)
  outl := h.outl.keep ht (fun k hk => (h.out.foot_lt k hk).2)
  pln := fun hS => h.pln.kept ht.trn (h.plnl.apart hS)
  plnl := h.plnl.keep ht (fun k hk => (h.pln.foot_lt k hk).2)
  inb := fun hS => by
    obtain ⟨xs, ps, h1⟩ := h.inb
    exact ⟨xs, ps, h1.kept ht.trn (h.inl.apart hS)⟩
  inl := by
    obtain ⟨xs, ps, h1⟩ := h.inb
    exact h.inl.keep ht (fun k hk => (h1.foot_lt k hk).2)
  sch := fun hS => h.sch.kept ht.trn (by show ¬ S (L s.sb); rw [h.schl]; exact hS)
  schl := ht.lab h.schl h.sch.lt
  evs := fun hS h0 => h.evs.keep ht hS h0
  met := fun hS => h.met.of_block (ht.block h.metl hS h.met.lt)
  metl := ht.lab h.metl h.met.lt
theorem EeP.keep (h : EeP w L K s q V) (ht : Tn w w' L L' S) (hS : ∀ j, 1 ≤ j → j < 12 → ¬ S (K + j)) (h0 : ¬ S 0) : EeP w' L' K s q V := by
  have r := h.rest ht
  have h3 := h.n3
  exact ⟨r.pvr (hS 1 (by omega) (by omega)), r.pvl, h.pbn, fun j hj => r.pth j hj (by have := hS (8 + j) (by omega) (by omega); rwa [← Nat.add_assoc] at this), r.ptl, r.dvr (hS 2 (by omega) (by omega)), r.dvl, r.out (hS 3 (by omega) (by omega)), r.outl, r.pln (hS 7 (by omega) (by omega)), r.plnl, r.inb (hS 4 (by omega) (by omega)), r.inl, r.sch (hS 5 (by omega) (by omega)), r.schl, r.evs (hS 6 (by omega) (by omega)) h0, r.met (hS 11 (by omega) (by omega)), r.metl, h3⟩
theorem EeAt.keep (h : EeAt w L K b s q E) (ht : Tn w w' L L' S) (hS : ∀ x, Es K x → ¬ S x) (h0 : ¬ S 0) : EeAt w' L' K b s q E :=
  ⟨ht.row h.row h.lb (hS _ ⟨by omega, by omega⟩), ht.lab h.lb h.lt, h.to1, h.to2, h.p.keep ht (fun j _ hj => hS _ ⟨by omega, by omega⟩) h0⟩
theorem EE.keep (h : EE w L K b s E) (ht : Tn w w' L L' S) (hS : ∀ x, Es K x → ¬ S x) (h0 : ¬ S 0) : EE w' L' K b s E := by
  obtain ⟨q, h⟩ := h
  exact ⟨q, h.keep ht hS h0⟩
theorem EeAt.drewN (h : EeAt w L K b s q E) (n : Nat) : EeAt (w.drewN n) L K b s q E := h.keep (Tn.drewN w L n (fun _ => False)) (fun _ _ => id) id
theorem EE.drewN (h : EE w L K b s E) (n : Nat) : EE (w.drewN n) L K b s E := h.keep (Tn.drewN w L n (fun _ => False)) (fun _ _ => id) id
theorem EeAt.grow (h : EeAt w L K b s q E) (hb : Below w.heap.size w w') (i : Nat) : EeAt w' (relab L w.heap.size i) K b s q E := h.keep (Tn.of_below hb L i (fun _ => False)) (fun _ _ => id) id
theorem EE.grow (h : EE w L K b s E) (hb : Below w.heap.size w w') (i : Nat) : EE w' (relab L w.heap.size i) K b s E := h.keep (Tn.of_below hb L i (fun _ => False)) (fun _ _ => id) id
theorem setEt_cells {L1 L2 : List Value} (i : Nat) (u : Value) (hl : L1.length = 19) (he : L1.set i u = L2) : ∀ j, j < 19 → (if j = i then u else L1.getD j undef) = L2.getD j undef := fun j hj => by
  subst he
  by_cases e : j = i
  · subst e
    simp [List.getD, show j < L1.length by omega]
  · rw [if_neg e]
    simp [List.getD, Ne.symm e]
theorem EeAt.turn (h : EeAt w L K b s q E) (ht : Tn w w' L L' S) (hS : ¬ S K) (hp : EeP w' L' K s q' E'.view) (he : eeL s q' E' = eeL s q E) (h1 : q'.to = q.to ∧ E'.ev = E.ev ∧ E'.out = E.out) : EeAt w' L' K b s q' E' := by
  obtain ⟨e1, e2, e3⟩ := h1
  exact ⟨by rw [he]; exact ht.row h.row h.lb hS, ht.lab h.lb h.lt, by rw [e1, e2]; exact h.to1, by rw [e1, e2, e3]; exact h.to2, hp⟩
theorem EeAt.poke (h : EeAt w L K b s q E) (hK : K ≠ 0) (i : Nat) (u : Value) (he : (eeL s q E).set i u = eeL s q' E') (hv : EeP w L K s q E.view → EeP w L K s q' E'.view) (h1 : q'.to ≤ E'.ev.length) (h2 : E'.out = saids (E'.ev.drop q'.to)) :
    EeAt (w.setCell ⟨b, i, none⟩ u) L K b s q' E' ∧ Tn w (w.setCell ⟨b, i, none⟩ u) L L (fun x => x = K) := by
  have ht : Tn w (w.setCell ⟨b, i, none⟩ u) L L (fun x => x = K) := Tn.store w L ⟨b, i, none⟩ u h.lb rfl
  exact ⟨⟨(h.row.set i u).congr (setEt_cells i u rfl he), h.lb, h1, h2, (hv h.p).keep ht (fun j _ _ => by omega) (fun e => hK e.symm)⟩, ht⟩
theorem EeAt.path (h : EeAt w L K b s q E) (_ : K ≠ 0) {i : Nat} (hi : i < E.ps.length) {v' : Value} {P : Pa} (hp : PaAt w' 0 (s.pb.getD i 0) (s.pg i) (s.pw i) (s.pf i) v' P) (hsc : SC w w' (Pat (s.pb.getD i 0) (s.pg i) (s.pw i) (s.pf i) (q.fv i)) (Pat (s.pb.getD i 0) (s.pg i) (s.pw i) (s.pf i) v')) :
    EeAt w' (relab L w.heap.size (K + 8 + i)) K b s { q with fv := fun j => if j = i then v' else q.fv j } (E.setP i P) ∧ Tn w w' L (relab L w.heap.size (K + 8 + i)) (fun x => x = K + 8 + i) := by
  have ht : Tn w w' L (relab L w.heap.size (K + 8 + i)) (fun x => x = K + 8 + i) := Tn.of_sc hsc (h.p.ptl i hi) rfl
  refine ⟨h.turn ht (by omega) ?_ rfl ⟨rfl, rfl, rfl⟩, ht⟩
  have h3 := h.p.n3
  have hl : (E.setP i P).ps.length = E.ps.length := by simp [En.setP]
  have hi3 : i < 3 := Nat.lt_of_lt_of_le hi h3
  have r := h.p.rest ht
  have hh := h.p
  refine ⟨r.pvr (by omega), r.pvl, by show s.pb.length = (E.setP i P).ps.length; rw [hl]; exact hh.pbn, ?_, ?_, r.dvr (by omega), r.dvl, r.out (by omega), r.outl, r.pln (by omega), r.plnl, r.inb (by omega), r.inl, r.sch (by omega), r.schl, r.evs (by omega) (by omega), r.met (by omega), r.metl, by show (E.setP i P).ps.length ≤ 3; rw [hl]; exact h3⟩
  · intro j hj
    have hj2 : j < E.ps.length := hl ▸ hj
    clear hj
    by_cases e : j = i
    · subst e
      have : (E.setP j P).ps.getD j pz = P := by simp [En.setP, List.getD, hj2]
      show PaAt w' 0 _ _ _ _ _ ((E.setP j P).ps.getD j pz)
      rw [this]
      simpa using hp
    · have : (E.setP i P).ps.getD j pz = E.ps.getD j pz := by simp [En.setP, List.getD, Ne.symm e]
      show PaAt w' 0 _ _ _ _ _ ((E.setP i P).ps.getD j pz)
      rw [this]
      simpa [e] using r.pth j hj2 (by omega)
  · intro j hj
    have hj2 : j < E.ps.length := hl ▸ hj
    clear hj
    by_cases e : j = i
    · subst e
      simpa using Of.sc hsc (h.p.ptl j hj2)
    · simpa [e] using r.ptl j hj2
theorem EeAt.turnO (h : EeAt w L K b s q E) (_ : K ≠ 0) {v' : Value} {o' : Ou} (ho : OutAt w' 0 s.ob v' o') (hsc : SC w w' (Oft s.ob q.ov) (Oft s.ob v')) :
    EeAt w' (relab L w.heap.size (K + 3)) K b s { q with ov := v' } (E.setO o') ∧ Tn w w' L (relab L w.heap.size (K + 3)) (fun x => x = K + 3) := by
  have ht : Tn w w' L (relab L w.heap.size (K + 3)) (fun x => x = K + 3) := Tn.of_sc hsc h.p.outl rfl
  refine ⟨h.turn ht (by omega) ?_ rfl ⟨rfl, rfl, rfl⟩, ht⟩
  have h3 := h.p.n3
  have r := h.p.rest ht
  have h := h.p
  exact ⟨r.pvr (by omega), r.pvl, h.pbn, fun j hj => r.pth j hj (by have : j < E.ps.length := hj; have : E.ps.length ≤ 3 := h3; omega), r.ptl, r.dvr (by omega), r.dvl, ho, Of.sc hsc h.outl, r.pln (by omega), r.plnl, r.inb (by omega), r.inl, r.sch (by omega), r.schl, r.evs (by omega) (by omega), r.met (by omega), r.metl, h3⟩
theorem EeAt.turnP (h : EeAt w L K b s q E) (_ : K ≠ 0) {v' : Value} {p' : Pl} (ho : PlanAt w' 0 s.pl s.plq v' p') (hsc : SC w w' (Pft s.pl s.plq q.lv) (Pft s.pl s.plq v')) :
    EeAt w' (relab L w.heap.size (K + 7)) K b s { q with lv := v' } (E.setPl p') ∧ Tn w w' L (relab L w.heap.size (K + 7)) (fun x => x = K + 7) := by
  have ht : Tn w w' L (relab L w.heap.size (K + 7)) (fun x => x = K + 7) := Tn.of_sc hsc h.p.plnl rfl
  refine ⟨h.turn ht (by omega) ?_ rfl ⟨rfl, rfl, rfl⟩, ht⟩
  have h3 := h.p.n3
  have r := h.p.rest ht
  have h := h.p
  exact ⟨r.pvr (by omega), r.pvl, h.pbn, fun j hj => r.pth j hj (by have : j < E.ps.length := hj; have : E.ps.length ≤ 3 := h3; omega), r.ptl, r.dvr (by omega), r.dvl, r.out (by omega), r.outl, ho, Of.sc hsc h.plnl, r.inb (by omega), r.inl, r.sch (by omega), r.schl, r.evs (by omega) (by omega), r.met (by omega), r.metl, h3⟩
theorem EeAt.turnI (h : EeAt w L K b s q E) (_ : K ≠ 0) (j : Nat) {v' : Value} {xs : List Int} {ps : List (Int × Int)} {i' : In} (ho : IbAt w' 0 s.ib s.ibq s.ibg s.ibn v' xs ps i') (hsc : SC w w' (Ibf s.ib s.ibq s.ibg q.iv) (Ibf s.ib s.ibq s.ibg v')) (hj : j = K + 4 ∨ v' = q.iv) :
    EeAt w' (relab L w.heap.size j) K b s { q with iv := v' } (E.setI i') ∧ Tn w w' L (relab L w.heap.size j) (fun x => x = K + 4) := by
  have ht : Tn w w' L (relab L w.heap.size j) (fun x => x = K + 4) := ⟨hsc.trn.mono (fun k _ hk => h.p.inl k hk), fun k hk => relab_old hk⟩
  refine ⟨h.turn ht (by omega) ?_ rfl ⟨rfl, rfl, rfl⟩, ht⟩
  have h3 := h.p.n3
  have r := h.p.rest ht
  have h := h.p
  exact ⟨r.pvr (by omega), r.pvl, h.pbn, fun j hj => r.pth j hj (by have : j < E.ps.length := hj; have : E.ps.length ≤ 3 := h3; omega), r.ptl, r.dvr (by omega), r.dvl, r.out (by omega), r.outl, r.pln (by omega), r.plnl, ⟨xs, ps, ho⟩, hj.elim (fun e => by subst e; exact Of.sc hsc h.inl) (fun e => by subst e; exact r.inl), r.sch (by omega), r.schl, r.evs (by omega) (by omega), r.met (by omega), r.metl, h3⟩
theorem EeAt.turnS (h : EeAt w L K b s q E) (_ : K ≠ 0) (j : Nat) {l' : Int} (ho : ScS w' s.sb E.k l') (hsc : SC w w' (fun k => k = s.sb) (fun k => k = s.sb)) :
    EeAt w' (relab L w.heap.size j) K b s q { E with l := l' } ∧ Tn w w' L (relab L w.heap.size j) (fun x => x = K + 5) := by
  have ht : Tn w w' L (relab L w.heap.size j) (fun x => x = K + 5) := ⟨hsc.trn.mono (fun k _ hk => by rw [hk]; exact h.p.schl), fun k hk => relab_old hk⟩
  refine ⟨h.turn ht (by omega) ?_ rfl ⟨rfl, rfl, rfl⟩, ht⟩
  have h3 := h.p.n3
  have r := h.p.rest ht
  have h := h.p
  exact ⟨r.pvr (by omega), r.pvl, h.pbn, fun j hj => r.pth j hj (by have : j < E.ps.length := hj; have : E.ps.length ≤ 3 := h3; omega), r.ptl, r.dvr (by omega), r.dvl, r.out (by omega), r.outl, r.pln (by omega), r.plnl, r.inb (by omega), r.inl, ho, r.schl, r.evs (by omega) (by omega), r.met (by omega), r.metl, h3⟩
theorem EeAt.turnM (h : EeAt w L K b s q E) (_ : K ≠ 0) {m' : Nat → Int} (ho : Met w' s.mb (mets m')) (hg : w.grownBy w' (some s.mb)) :
    EeAt w' (relab L w.heap.size (K + 11)) K b s q { E with m := m' } ∧ Tn w w' L (relab L w.heap.size (K + 11)) (fun x => x = K + 11) := by
  have ht : Tn w w' L (relab L w.heap.size (K + 11)) (fun x => x = K + 11) := Tn.of_grown hg h.p.metl rfl
  refine ⟨h.turn ht (by omega) ?_ rfl ⟨rfl, rfl, rfl⟩, ht⟩
  have h3 := h.p.n3
  have r := h.p.rest ht
  have h := h.p
  exact ⟨r.pvr (by omega), r.pvl, h.pbn, fun j hj => r.pth j hj (by have : j < E.ps.length := hj; have : E.ps.length ≤ 3 := h3; omega), r.ptl, r.dvr (by omega), r.dvl, r.out (by omega), r.outl, r.pln (by omega), r.plnl, r.inb (by omega), r.inl, r.sch (by omega), r.schl, r.evs (by omega) (by omega), ho, r.metl, h3⟩
theorem EeAt.turnD (h : EeAt w L K b s q E) (_ : K ≠ 0) {ds : List Int} (ho : Own .i64 3 w' 0 s.dv ds) (hg : w.grownBy w' s.dv.ownBlock) :
    EeAt w' (relab L w.heap.size (K + 2)) K b s q { E with due := ds } ∧ Tn w w' L (relab L w.heap.size (K + 2)) (fun x => x = K + 2) := by
  have ht : Tn w w' L (relab L w.heap.size (K + 2)) (fun x => x = K + 2) := Tn.of_row hg h.p.dvl rfl
  refine ⟨h.turn ht (by omega) ?_ rfl ⟨rfl, rfl, rfl⟩, ht⟩
  have h3 := h.p.n3
  have r := h.p.rest ht
  have h := h.p
  exact ⟨r.pvr (by omega), r.pvl, h.pbn, fun j hj => r.pth j hj (by have : j < E.ps.length := hj; have : E.ps.length ≤ 3 := h3; omega), r.ptl, ho, r.dvl, r.out (by omega), r.outl, r.pln (by omega), r.plnl, r.inb (by omega), r.inl, r.sch (by omega), r.schl, r.evs (by omega) (by omega), r.met (by omega), r.metl, h3⟩
theorem EeAt.turnE (h : EeAt w L K b s q E) (hK : K ≠ 0) {v' : Value} {es : List Ev} {E' : En} (hv : EvLs w' (relab L w.heap.size (K + 6)) (K + 6) v' es) (hg : w.grownBy w' q.ev.ownBlock) (hE : E'.view = { E.view with ev := es }) (hc : eeL s q E' = eeL s q E) (h1 : q.to ≤ E'.ev.length) (h2 : E'.out = saids (E'.ev.drop q.to)) :
    EeAt (w'.setCell ⟨b, 16, none⟩ v') (relab L w.heap.size (K + 6)) K b s { q with ev := v' } E' ∧ Tn w (w'.setCell ⟨b, 16, none⟩ v') L (relab L w.heap.size (K + 6)) (fun x => x = K + 6 ∨ x = K) := by
  have ht1 : Tn w w' L (relab L w.heap.size (K + 6)) (fun x => x = K + 6) := Tn.of_row hg h.p.evs.lab rfl
  have hrow := ht1.row h.row h.lb (by omega)
  have hlb := ht1.lab h.lb h.lt
  have ht2 : Tn w' (w'.setCell ⟨b, 16, none⟩ v') (relab L w.heap.size (K + 6)) (relab L w.heap.size (K + 6)) (fun x => x = K) := Tn.store w' _ ⟨b, 16, none⟩ v' hlb rfl
  have ht := (ht1.mono (S' := fun x => x = K + 6 ∨ x = K) (fun x hx => .inl hx)).trans (ht2.mono (fun x hx => .inr hx))
  have h3 := h.p.n3
  refine ⟨⟨(hrow.set 16 v').congr (setEt_cells 16 v' rfl (by have e : eeL s { q with ev := v' } E' = (eeL s q E').set 16 v' := rfl; rw [e, hc])), hlb, h1, h2, ?_⟩, ht⟩
  rw [hE]
  have r := h.p.rest ht
  have h := h.p
  exact ⟨r.pvr (by omega), r.pvl, h.pbn, fun j hj => r.pth j hj (by have : j < E.ps.length := hj; have : E.ps.length ≤ 3 := h3; omega), r.ptl, r.dvr (by omega), r.dvl, r.out (by omega), r.outl, r.pln (by omega), r.plnl, r.inb (by omega), r.inl, r.sch (by omega), r.schl, hv.keep ht2 (by omega) (fun e => hK e.symm), r.met (by omega), r.metl, h3⟩
end
end Go.Proofs.YtpjlnpnadkbakaaGreat

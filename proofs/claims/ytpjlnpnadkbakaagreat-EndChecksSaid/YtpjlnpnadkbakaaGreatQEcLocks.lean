/-
  Locks · MetM.
-/
import Derived.Test.YtpjlnpnadkbakaaGreatProg
import Derived.Conc.RwLib
import Derived.KernelRfl
import Derived.Test.YtpjlnpnadkbakaaGreatRows
import Derived.Test.YtpjlnpnadkbakaaGreatQEcClamp
import Derived.Conc.RwLoneW
import Derived.Deep.OwnRows
import Derived.Laws.CopyOwn
import Derived.IntWalk
namespace Go.Proofs.YtpjlnpnadkbakaaGreat
abbrev muLink : Go.Conc.Locks.MuLink := { lock := 239, unlock := 244, ilock := 272, iunlock := 273, lockSlow := 280, unlockSlow := 281, disable := 209, enable := 212, acquire := 213, relMerge := 214, cas32 := 279, add32 := 255, tMutex := 152, tIMutex := 150, tPMutex := 216, tPIMutex := 266, tPI32 := 253, tUP := 215, tNoCopy := 147, tU32 := 148 }
theorem muLib : Go.Conc.Locks.MuLib Tryz.prog muLink :=
  ⟨Tryz.func239, Tryz.func244, Tryz.func272, Tryz.func273, Tryz.func209, Tryz.func212, Tryz.func213, Tryz.func214, Tryz.func279, Tryz.func255, Tryz.underlying150, Tryz.runUnderlying150, Tryz.sizeOf150, Tryz.isAgg150, Tryz.zeroValue150, Tryz.underlying152, Tryz.runUnderlying152, Tryz.sizeOf152, Tryz.isAgg152, Tryz.zeroValue152, Tryz.underlying216, Tryz.runUnderlying216, Tryz.sizeOf216, Tryz.isAgg216, Tryz.zeroValue216, Tryz.underlying266, Tryz.runUnderlying266, Tryz.sizeOf266, Tryz.isAgg266, Tryz.zeroValue266, Tryz.underlying253, Tryz.runUnderlying253, Tryz.sizeOf253, Tryz.isAgg253, Tryz.zeroValue253, Tryz.underlying215, Tryz.runUnderlying215, Tryz.sizeOf215, Tryz.isAgg215, Tryz.zeroValue215, Tryz.underlying147, Tryz.runUnderlying147, Tryz.sizeOf147, Tryz.isAgg147, Tryz.zeroValue147, Tryz.underlying21, Tryz.runUnderlying21, Tryz.sizeOf21, Tryz.isAgg21, Tryz.zeroValue21, (by kernel_rfl)⟩
abbrev rwLink : Go.Conc.Locks.RwLink := { lock := 239, unlock := 244, ilock := 272, iunlock := 273, lockSlow := 280, unlockSlow := 281, disable := 209, enable := 212, acquire := 213, relMerge := 214, cas32 := 279, add32 := 255, tMutex := 152, tIMutex := 150, tPMutex := 216, tPIMutex := 266, tPI32 := 253, tUP := 215, tNoCopy := 147, tU32 := 148, rlock := 138, runlock := 139, wlock := 171, wunlock := 172, i32add := 210, raceRead := 208, release := 241, rUnlockSlow := 215, semacqR := 211, semacqW := 240, semrel := 243, sfatal := 242, tRW := 157, tPRW := 213, tAI32 := 155, tPAI32 := 251, tPU32 := 219, tANoCopy := 153 }
theorem rwCore : Go.Conc.Locks.RwCore Tryz.prog rwLink :=
  ⟨Tryz.func210, Tryz.func208, Tryz.func209, Tryz.func212, Tryz.func213, Tryz.func214, Tryz.func255, Tryz.underlying157, Tryz.runUnderlying157, Tryz.sizeOf157, Tryz.isAgg157, Tryz.zeroValue157, Tryz.underlying155, Tryz.runUnderlying155, Tryz.sizeOf155, Tryz.isAgg155, Tryz.zeroValue155, Tryz.underlying213, Tryz.runUnderlying213, Tryz.sizeOf213, Tryz.isAgg213, Tryz.zeroValue213, Tryz.underlying251, Tryz.runUnderlying251, Tryz.sizeOf251, Tryz.isAgg251, Tryz.zeroValue251, Tryz.underlying219, Tryz.runUnderlying219, Tryz.sizeOf219, Tryz.isAgg219, Tryz.zeroValue219, Tryz.underlying153, Tryz.runUnderlying153, Tryz.sizeOf153, Tryz.isAgg153, Tryz.zeroValue153, Tryz.underlying148, Tryz.runUnderlying148, Tryz.sizeOf148, Tryz.isAgg148, Tryz.zeroValue148, Tryz.underlying152, Tryz.runUnderlying152, Tryz.sizeOf152, Tryz.isAgg152, Tryz.zeroValue152, Tryz.underlying216, Tryz.runUnderlying216, Tryz.sizeOf216, Tryz.isAgg216, Tryz.zeroValue216, Tryz.underlying253, Tryz.runUnderlying253, Tryz.sizeOf253, Tryz.isAgg253, Tryz.zeroValue253, Tryz.underlying215, Tryz.runUnderlying215, Tryz.sizeOf215, Tryz.isAgg215, Tryz.zeroValue215, Tryz.underlying21, Tryz.runUnderlying21, Tryz.sizeOf21, Tryz.isAgg21, Tryz.zeroValue21, (by kernel_rfl), (by kernel_rfl)⟩
theorem rwRLib : Go.Conc.Locks.RwRLib Tryz.prog rwLink := ⟨rwCore, Tryz.func138, Tryz.func139⟩
theorem rwWLib : Go.Conc.Locks.RwWLib Tryz.prog rwLink := ⟨rwCore, muLib, Tryz.func171, Tryz.func172, Tryz.func241, Tryz.underlying3, Tryz.runUnderlying3, Tryz.sizeOf3, Tryz.isAgg3, Tryz.zeroValue3⟩
end Go.Proofs.YtpjlnpnadkbakaaGreat
namespace Go.Proofs.YtpjlnpnadkbakaaGreat
set_option maxRecDepth 10000
open Go.RowKit
open Go.RwLone

/-- The cells of a Meter: the lock's six, free; the counters. -/
def metF (cs : List Int) (i : Nat) : Value :=
  if i = 0 then .int .i32 0 else if i = 4 then .int .i32 0 else if i = 5 then .int .i32 0 else if i < 6 then .int .u32 0 else .int .i64 (cs.getD (i - 6) 0)
/-- Block b is a Meter whose counters are cs; its lock is free. -/
def Met (w : World) (b : Nat) (cs : List Int) : Prop := cs.length = 8 ∧ w.rowIs b 163 14 (metF cs)

section
variable {w w' : World} {b : Nat} {cs : List Int}
theorem Met.lt (h : Met w b cs) : b < w.heap.size := World.rowIs.lt h.2
theorem Met.drewN (h : Met w b cs) (n : Nat) : Met (w.drewN n) b cs := h
theorem Met.drew (h : Met w b cs) : Met w.drew b cs := h
theorem Met.alloc (h : Met w b cs) (o : Obj) : Met (w.alloc o) b cs := ⟨h.1, World.rowIs.alloc h.2 o⟩
theorem Met.of_block (h : Met w b cs) (hb : w'.heap[b]? = w.heap[b]?) : Met w' b cs := ⟨h.1, World.rowIs.of_block h.2 hb⟩
theorem Met.later (h : Met w b cs) (hb : Below w.heap.size w w') : Met w' b cs := h.of_block (hb.block b h.lt)
theorem Met.count (h : Met w b cs) (j : Nat) (hj : j < 8) : w.cell? ⟨b, 6 + j, none⟩ = some (.int .i64 (cs.getD j 0)) := by
  rw [World.rowIs.cell h.2 (by omega)]
  simp only [metF, if_neg (show ¬ 6 + j = 0 by omega), if_neg (show ¬ 6 + j = 4 by omega), if_neg (show ¬ 6 + j = 5 by omega), if_neg (show ¬ 6 + j < 6 by omega), Nat.add_sub_cancel_left]
end

theorem set_getD (cs : List Int) (j t : Nat) (x : Int) (hj : j < cs.length) : (cs.set j x).getD t 0 = if t = j then x else cs.getD t 0 := by
  by_cases h : t = j
  · subst h; simp [List.getD, hj]
  · rw [if_neg h]
    simp [List.getD, Ne.symm h]

theorem zero_step (cs : List Int) (j : Nat) (h : j < cs.length) : (List.replicate j 0 ++ cs.drop j).set j 0 = List.replicate (j + 1) 0 ++ cs.drop (j + 1) := by
  rw [List.drop_eq_getElem_cons h, List.set_append_right _ _ (by simp), List.length_replicate, Nat.sub_self, List.set_cons_zero, List.replicate_succ', List.append_assoc]
  rfl

theorem mthere_yes (a : Int) (w : World) (h0 : 0 ≤ a) (h1 : a < 8) : Calls Tryz.prog 137 #[.int .i64 a] w fun e w' => e = .returned (.bool true) ∧ w = w' := by
  go_enter Tryz.func137, Tryz.ntmps137
  go_wp2
  go_ret
  exact ⟨rfl, rfl⟩
theorem mthere_no (a : Int) (w : World) (h : a < 0 ∨ 8 ≤ a) : Calls Tryz.prog 137 #[.int .i64 a] w fun e w' => e = .returned (.bool false) ∧ w = w' := by
  rcases h with h | h
  · have h' : decide (0 ≤ a) = false := by simpa using h
    go_enter Tryz.func137, Tryz.ntmps137
    go_wp2
    go_ret
    exact ⟨rfl, rfl⟩
  · have h' : decide (a < 8) = false := by simpa using h
    have h2 : 0 ≤ a := by omega
    go_enter Tryz.func137, Tryz.ntmps137
    go_wp2
    go_ret
    exact ⟨rfl, rfl⟩

theorem aadd_any (b off : Nat) (x y : Int) (w : World) (hc : w.cell? ⟨b, off, none⟩ = some (.int .i64 x)) (hz : w.frozen? ⟨b, off, none⟩ = false) (h1 : -9223372036854775808 ≤ x + y) (h2 : x + y ≤ 9223372036854775807) :
    Calls Tryz.prog 140 #[.pointer (some ⟨b, off, none⟩), .int .i64 y] w fun e w' => e = .returned (.int .i64 (x + y)) ∧ w' = w.setCell ⟨b, off, none⟩ (.int .i64 (x + y)) := by
  have hs : (Op.intArith .add .i64 x y).run Tryz.prog w = .ok (.int .i64 (x + y)) w := by
    have := IntWalk.i64_in (x + y) ⟨h1, h2⟩
    simp [go_sem, this]
  have hadd := run_call_add (P := Tryz.prog) Tryz.func216 (by kernel_rfl) (by kernel_rfl) (by kernel_rfl) .i64 (by kernel_rfl) hc hz hs
  clear hs h1 h2
  go_enter Tryz.func140, Tryz.ntmps140
  go_wp2
  go_ret
  exact ⟨rfl, rfl⟩
theorem aload_any (b off : Nat) (x : Int) (w : World) (hc : w.cell? ⟨b, off, none⟩ = some (.int .i64 x)) :
    Calls Tryz.prog 173 #[.pointer (some ⟨b, off, none⟩)] w fun e w' => e = .returned (.int .i64 x) ∧ w = w' := by
  have hl := run_call_load (P := Tryz.prog) Tryz.func245 (by kernel_rfl) (by kernel_rfl) (by kernel_rfl) .i64 (by kernel_rfl) hc
  go_enter Tryz.func173, Tryz.ntmps173
  go_wp2
  go_ret
  exact ⟨rfl, rfl⟩
theorem newmet_any (w : World) : Calls Tryz.prog 92 #[] w fun e w' => e = .returned (.pointer (some ⟨w.heap.size, 0, none⟩)) ∧ Met w' w.heap.size [0,0,0,0,0,0,0,0] ∧ Below w.heap.size w w' ∧ w'.heap.size = w.heap.size + 1 := by
  go_enter Tryz.func92, Tryz.ntmps92
  go_wp2
  go_ret
  refine ⟨rfl, ⟨rfl, ?_⟩, (Below.refl _ _).alloc (Nat.le_refl _) _, by simp⟩
  exact World.rowIs_alloc w _ _ _ (fun i hi => by
    have : i < 14 := hi
    match i, this with
    | 0, _ | 1, _ | 2, _ | 3, _ | 4, _ | 5, _ | 6, _ | 7, _ | 8, _ | 9, _ | 10, _ | 11, _ | 12, _ | 13, _ => rfl)

/-- Block b is a Meter whose counters are cs; of its lock the words 0 and 4 are p and r. -/
def Held (w : World) (b : Nat) (p r : Int) (cs : List Int) : Prop := cs.length = 8 ∧ w.rowIs b 163 14 (fun j => if j = 0 then .int .i32 p else if j = 4 then .int .i32 r else metF cs j)

section
variable {w w' : World} {b : Nat} {p r : Int} {cs : List Int}
theorem Held.of (h : Met w b cs) : Held w b 0 0 cs := ⟨h.1, h.2.congr fun i _ => by
  by_cases h0 : i = 0
  · subst h0; rfl
  · by_cases h4 : i = 4
    · subst h4; rfl
    · simp only [h0, h4, if_false]⟩
theorem Held.met (h : Held w b 0 0 cs) : Met w b cs := ⟨h.1, h.2.congr fun i _ => by
  by_cases h0 : i = 0
  · subst h0; rfl
  · by_cases h4 : i = 4
    · subst h4; rfl
    · simp only [h0, h4, if_false]⟩
theorem Held.lt (h : Held w b p r cs) : b < w.heap.size := World.rowIs.lt h.2
theorem Held.drew (h : Held w b p r cs) : Held w.drew b p r cs := h
theorem Held.drewN (h : Held w b p r cs) (n : Nat) : Held (w.drewN n) b p r cs := h
theorem Held.of_block (h : Held w b p r cs) (hb : w'.heap[b]? = w.heap[b]?) : Held w' b p r cs := ⟨h.1, World.rowIs.of_block h.2 hb⟩
theorem Held.alloc (h : Held w b p r cs) (o : Obj) : Held (w.alloc o) b p r cs := ⟨h.1, World.rowIs.alloc h.2 o⟩
theorem Held.set0 (h : Held w b p r cs) (q : Int) : Held (w.setCell ⟨b, 0, none⟩ (.int .i32 q)) b q r cs := ⟨h.1, (h.2.set 0 _).congr fun i _ => by
  by_cases h0 : i = 0
  · simp only [h0, if_true]
  · simp only [h0, if_false]⟩
theorem Held.set4 (h : Held w b p r cs) (q : Int) : Held (w.setCell ⟨b, 4, none⟩ (.int .i32 q)) b p q cs := ⟨h.1, (h.2.set 4 _).congr fun i _ => by
  by_cases h0 : i = 4
  · subst h0; simp
  · simp only [h0, if_false]⟩
theorem Held.setC (h : Held w b p r cs) (k : Nat) (hk : k < 8) (x : Int) : Held (w.setCell ⟨b, 6 + k, none⟩ (.int .i64 x)) b p r (cs.set k x) := ⟨by rw [List.length_set]; exact h.1, (h.2.set (6 + k) _).congr fun i _ => by
  by_cases h0 : i = 6 + k
  · subst h0
    rw [if_pos rfl, if_neg (by omega), if_neg (by omega)]
    simp only [metF, if_neg (show ¬ 6 + k = 0 by omega), if_neg (show ¬ 6 + k = 4 by omega), if_neg (show ¬ 6 + k = 5 by omega), if_neg (show ¬ 6 + k < 6 by omega), Nat.add_sub_cancel_left]
    rw [set_getD _ _ _ _ (by rw [h.1]; exact hk), if_pos rfl]
  · rw [if_neg h0]
    by_cases h1 : i = 0
    · simp only [h1, if_true]
    · by_cases h2 : i = 4
      · simp only [h2, if_true]
      · rw [if_neg h1, if_neg h2, if_neg h1, if_neg h2]
        unfold metF
        by_cases h3 : i < 6
        · simp only [h1, h2, h3, if_true, if_false]
        · rw [if_neg h1, if_neg h2, if_neg (show ¬ i = 5 by omega), if_neg h3, if_neg h1, if_neg h2, if_neg (show ¬ i = 5 by omega), if_neg h3]
          rw [set_getD _ _ _ _ (by rw [h.1]; exact hk), if_neg (by omega)]⟩
theorem Held.c0 (h : Held w b p r cs) : w.cell? ⟨b, 0, none⟩ = some (.int .i32 p) := World.rowIs.cell (i := 0) h.2 (by omega)
theorem Held.c2 (h : Held w b p r cs) : w.cell? ⟨b, 0 + 2, none⟩ = some (.int .u32 0) := World.rowIs.cell (i := 2) h.2 (by omega)
theorem Held.c3 (h : Held w b p r cs) : w.cell? ⟨b, 0 + 3, none⟩ = some (.int .u32 0) := World.rowIs.cell (i := 3) h.2 (by omega)
theorem Held.c4 (h : Held w b p r cs) : w.cell? ⟨b, 0 + 4, none⟩ = some (.int .i32 r) := World.rowIs.cell (i := 4) h.2 (by omega)
theorem Held.fr (h : Held w b p r cs) (i : Nat) : w.frozen? ⟨b, i, none⟩ = false := World.rowIs.frozen h.2 i
theorem Held.count (h : Held w b p r cs) (j : Nat) (hj : j < 8) : w.cell? ⟨b, 6 + j, none⟩ = some (.int .i64 (cs.getD j 0)) := by
  rw [World.rowIs.cell h.2 (by omega), if_neg (by omega), if_neg (by omega)]
  simp only [metF, if_neg (show ¬ 6 + j = 0 by omega), if_neg (show ¬ 6 + j = 4 by omega), if_neg (show ¬ 6 + j = 5 by omega), if_neg (show ¬ 6 + j < 6 by omega), Nat.add_sub_cancel_left]
end

section
variable {w : World} {b : Nat} {cs : List Int}
theorem rl_any (h : Met w b cs) : Calls Tryz.prog 138 #[.pointer (some ⟨b, 0, none⟩)] w fun e w' => e = .returned (.tuple #[]) ∧ Held w' b 0 1 cs ∧ w.grownBy w' (some b) := by
  have H := Held.of h
  refine (rlock_open rwRLib b 0 0 _ _ _ H.c0 H.c3 H.c4 (H.fr _) (by simp [wrap32])).mono ?_
  rintro e w' ⟨rfl, rfl⟩
  exact ⟨rfl, by simpa [wrap32] using H.set4 1, setCell_one _ _ _ _⟩
theorem ru_any (h : Held w b 0 1 cs) (u : FrameMode) : CallsD Tryz.prog 139 #[.pointer (some ⟨b, 0, none⟩)] u w fun e u' w' => u' = u ∧ e = .returned (.tuple #[]) ∧ Met w' b cs ∧ w.grownBy w' (some b) := by
  refine (runlock_deferred rwRLib b 0 1 _ _ u _ h.c0 h.c2 h.c4 (h.fr _) (by simp [wrap32])).mono ?_
  rintro e u' w' ⟨rfl, rfl, rfl⟩
  exact ⟨rfl, rfl, by simpa [wrap32] using (h.set4 0).met, setCell_one _ _ _ _⟩
theorem wl_any (h : Met w b cs) : Calls Tryz.prog 171 #[.pointer (some ⟨b, 0, none⟩)] w fun e w' => e = .returned (.tuple #[]) ∧ Held w' b 1 (-1073741824) cs ∧ w.grownBy w' (some b) := by
  have H := Held.of h
  refine (wlock_free rwWLib b 0 _ _ _ H.c0 H.c2 H.c3 H.c4 (H.fr _) (H.fr _)).mono ?_
  rintro e w' ⟨rfl, rfl⟩
  exact ⟨rfl, (H.set0 1).set4 _, (setCell_one _ _ _ _).trans (setCell_one _ _ _ _)⟩
theorem wu_any (h : Held w b 1 (-1073741824) cs) (u : FrameMode) : CallsD Tryz.prog 172 #[.pointer (some ⟨b, 0, none⟩)] u w fun e u' w' => u' = u ∧ e = .returned (.tuple #[]) ∧ Met w' b cs ∧ w.grownBy w' (some b) := by
  refine (wunlock_deferred rwWLib b 0 _ _ u _ h.c0 h.c2 h.c3 h.c4 (h.fr _) (h.fr _)).mono ?_
  rintro e u' w' ⟨rfl, rfl, rfl⟩
  exact ⟨rfl, rfl, ((h.set4 0).set0 0).met, (setCell_one _ _ _ _).trans (setCell_one _ _ _ _)⟩
end

set_option maxHeartbeats 1600000 in
set_option maxRecDepth 100000 in
theorem madd_yes (b : Nat) (cs : List Int) (k : Nat) (n : Int) (w : World) (hm : Met w b cs) (hk : k < 8) (h0 : 0 ≤ n) (h1 : n ≤ 2147483647) (hs : 0 ≤ cs.getD k 0) (ht : cs.getD k 0 ≤ 4611686018427387904) :
    Calls Tryz.prog 66 #[.pointer (some ⟨b, 0, none⟩), .int .i64 k, .int .i64 n] w fun e w' => e = .returned (.int .i64 (cs.getD k 0 + n)) ∧ Met w' b (cs.set k (cs.getD k 0 + n)) ∧ w.grownBy w' (some b) := by
  have HM := Lib.hid hm
  clear hm
  have hk1 : (k : Int) < 8 := by omega
  have hk0 : (0 : Int) ≤ (k : Int) := by omega
  have d1 : decide (n < 0) = false := by simp; omega
  have d2 : decide (n > 2147483647) = false := by simp; omega
  go_enter_defers Tryz.func66, Tryz.ntmps66
  go_wp2_with (go_at_call 137; refine (mthere_yes _ _ hk0 hk1).mono ?_; rintro e w' ⟨rfl, rfl⟩)
  refine (rl_any HM.out).mono ?_
  rintro e w1 ⟨rfl, h1, g1⟩
  have H1 := Lib.hid h1
  have G1 := Lib.hid g1
  clear h1 g1
  go_wp2_with fail
  refine (aadd_any b (6 + k) _ _ _ (H1.out.count k hk) (H1.out.fr _) (by omega) (by omega)).mono ?_
  rintro e w2 ⟨rfl, rfl⟩
  go_wp2_with fail
  refine leaves_cons (f := 139) (args := #[.pointer (some ⟨b, 0, none⟩)]) (by simp) (by simp [go_sem]) ?_
  refine (ru_any (H1.out.setC k hk _) .returning).mono ?_
  rintro e u' w'' ⟨rfl, rfl, h3, g3⟩
  exact ⟨_, results_tmp rfl _ _ _, rfl, h3, (G1.out.trans (setCell_one _ _ _ _)).trans g3⟩

set_option maxHeartbeats 1600000 in
theorem madd_no (b : Nat) (m n : Int) (w : World) (h : m < 0 ∨ 8 ≤ m ∨ n < 0 ∨ 2147483647 < n) :
    Calls Tryz.prog 66 #[.pointer (some ⟨b, 0, none⟩), .int .i64 m, .int .i64 n] w fun e w' => e = .returned (.int .i64 0) ∧ w = w' := by
  by_cases hm : m < 0 ∨ 8 ≤ m
  · clear h
    go_enter_defers Tryz.func66, Tryz.ntmps66
    go_wp2_with (go_at_call 137; refine (mthere_no _ _ hm).mono ?_; rintro e w' ⟨rfl, rfl⟩)
    exact ⟨_, results_tmp rfl _ _ _, rfl, rfl⟩
  · have h0 : 0 ≤ m := by omega
    have h1 : m < 8 := by omega
    have h2 : n < 0 ∨ 2147483647 < n := by omega
    clear h hm
    rcases h2 with h2 | h2
    · go_enter_defers Tryz.func66, Tryz.ntmps66
      go_wp2_with (go_at_call 137; refine (mthere_yes _ _ h0 h1).mono ?_; rintro e w' ⟨rfl, rfl⟩)
      exact ⟨_, results_tmp rfl _ _ _, rfl, rfl⟩
    · have h3 : decide (n < 0) = false := by simp; omega
      go_enter_defers Tryz.func66, Tryz.ntmps66
      go_wp2_with (go_at_call 137; refine (mthere_yes _ _ h0 h1).mono ?_; rintro e w' ⟨rfl, rfl⟩)
      exact ⟨_, results_tmp rfl _ _ _, rfl, rfl⟩

theorem info_intM : (Tryz.prog.info? 3).map (fun i => (i.zero, i.size, i.bytes)) = some (some (.int .i64 0), 1, 8) := by kernel_rfl

/-- The cells ahead of the place j are those of cs, those behind it 0. -/
def allF (cs : List Int) (j t : Nat) : Value := .int .i64 (if t < j then cs.getD t 0 else 0)

set_option maxHeartbeats 1600000 in
set_option maxRecDepth 100000 in
theorem mall_any (b : Nat) (cs : List Int) (w : World) (hm : Met w b cs) :
    Calls Tryz.prog 98 #[.pointer (some ⟨b, 0, none⟩)] w fun e w' => ∃ g, w.heap.size ≤ g ∧ e = .returned (.slice (some ⟨g, 0, none⟩) 8 8) ∧ w'.rowIs g 3 8 (allF cs 8) ∧ Met w' b cs ∧ w.grownBy w' (some b) := by
  obtain ⟨i0, hi0, hz0, hz1, hz2⟩ := info_parts info_intM
  have hmk : ∀ w, (Instr.makeSlice 49 (.int .i64 8) (.int .i64 8)).run Tryz.prog w = .ok (.slice (some ⟨w.heap.size, 0, none⟩) 8 8) (w.alloc (.cells (madeCells #[.int .i64 0] 8) 3)) := fun w => by
    have := run_make (P := Tryz.prog) w 49 3 i0 (.int .i64 0) Tryz.underlying49 hi0 hz0 .i64 .i64 8 8 (by omega) (by omega) (by rw [hz2]; omega) (by omega)
    rw [hz1] at this
    exact this
  have HM := Lib.hid hm
  have hlt := hm.lt
  clear hm hi0 hz0 hz1 hz2
  go_enter_defers Tryz.func98, Tryz.ntmps98
  go_wp2_with fail
  refine (wl_any HM.out).mono ?_
  rintro e w1 ⟨rfl, h1, g1⟩
  have r0 := (World.rowIs_made w1 (.int .i64 0) 8 3).congr (g := allF cs 0) (fun i _ => by simp [allF])
  have h2 := h1.alloc (.cells (madeCells #[.int .i64 0] 8) 3)
  have g2 := g1.trans (World.grownBy_alloc w1 (.cells (madeCells #[.int .i64 0] 8) 3) (some b))
  have s1 := h1.lt
  have s2 := g1.size
  have R0 := Lib.hid r0
  have H2 := Lib.hid h2
  have G2 := Lib.hid g2
  clear r0 h2 g2 h1 g1
  go_wp2_with fail
  clear hmk
  obtain ⟨g, hg⟩ : ∃ g, w1.heap.size = g := ⟨_, rfl⟩
  obtain ⟨W1, hW1⟩ : ∃ W1, w1.alloc (Obj.cells (madeCells #[Value.int IntKind.i64 0] 8) 3) = W1 := ⟨_, rfl⟩
  rw [hg] at R0 s1 s2 ⊢
  rw [hW1] at R0 H2 G2 ⊢
  clear hg hW1
  go_loopw [15] (fun i wr => ∃ j : Nat, j ≤ 8 ∧ i = .int .i64 (j : Nat) ∧ Hid (wr.rowIs g 3 8 (allF cs j)) ∧ Hid (Held wr b 1 (-1073741824) cs) ∧ Hid (w.grownBy wr (some b))) (fun i _ => 8 - (intOf i).toNat)
  case atStart => exact ⟨0, by omega, rfl, R0, H2, G2⟩
  case round =>
    obtain ⟨j, hj, rfl, hr, hh, hgr⟩ := hrel
    by_cases hlt : j < 8
    · have hn1 : (j : Int) < 8 := by omega
      have hn2 : (0 : Int) ≤ (j : Int) := by omega
      have f1 := hr.out.frozen j
      have c1 := hr.out.cell (i := j) hlt
      go_wp2_with fail
      refine (aload_any b (6 + j) _ _ (hh.out.count j hlt)).mono ?_
      rintro e w2 ⟨rfl, rfl⟩
      go_wp2
      go_roundw
      case rel =>
        refine ⟨j + 1, by omega, by go_num, Lib.hid ((hr.out.set j _).congr fun t ht => ?_), Lib.hid (hh.out.of_block (heap_setCell_other _ _ _ _ (by simp; omega))), Lib.hid (hgr.out.andThen (setCell_one _ _ _ _) (fun k hk => .inl (by simp at hk; omega)))⟩
        simp only [allF]
        by_cases h1 : t = j
        · subst h1; rw [if_pos rfl, if_pos (by omega)]; rfl
        · rw [if_neg h1]
          by_cases h2 : t < j
          · rw [if_pos h2, if_pos (by omega)]
          · rw [if_neg h2, if_neg (by omega)]
      case measure => simp [intOf]; omega
    · have : j = 8 := by omega
      subst this
      go_wp2_with fail
      refine leaves_cons (f := 172) (args := #[.pointer (some ⟨b, 0, none⟩)]) (by simp) (by simp [go_sem]) ?_
      refine (wu_any hh.out .returning).mono ?_
      rintro e u' w'' ⟨rfl, rfl, h3, g3⟩
      exact ⟨_, results_tmp rfl _ _ _, g, s2, rfl, hr.out.of_block (g3.block g hr.out.lt (by simp; omega)), h3, hgr.out.trans g3⟩
end Go.Proofs.YtpjlnpnadkbakaaGreat

/-
  DocSched · Sched · Sched2 · Locks.
-/
import Derived.Test.YtpjlnpnadkbakaaGreatQBCountMath
import Derived.Test.YtpjlnpnadkbakaaGreatQBFresh
import Derived.Test.YtpjlnpnadkbakaaGreatQBMem
import Derived.Deep.QuietTactic
import Derived.BigQuiet
import Derived.Lib.AppendZerosOnto
import Derived.Deep.LoopGhost
import Derived.Shelf.Abstract
import Derived.Test.YtpjlnpnadkbakaaGreatProg
import Derived.Conc.RwLib
import Derived.KernelRfl
namespace Go.Proofs.YtpjlnpnadkbakaaGreat
set_option maxRecDepth 10000
open Go.RowKit
def scF (k l : Int) (i : Nat) : Value := if i = 0 then .int .i64 k else .int .i64 l
def ScA (ty : TypeId) (w : World) (b : Nat) (k l : Int) : Prop := w.rowIs b ty 2 (scF k l)
section
variable {ty : TypeId} {w w' : World} {b : Nat} {k l : Int} {F : Nat → Prop}
theorem ScA.lt (h : ScA ty w b k l) : b < w.heap.size := World.rowIs.lt h
theorem ScA.kept (h : ScA ty w b k l) (ht : Trn w w' F) (hf : ¬ F b) : ScA ty w' b k l := ht.rowIs h hf
theorem ScA.later (h : ScA ty w b k l) (hb : Below w.heap.size w w') : ScA ty w' b k l := World.rowIs.of_block h (hb.block b (World.rowIs.lt h))
theorem ScA.c0 (h : ScA ty w b k l) : w.cell? ⟨b, 0, none⟩ = some (.int .i64 k) := World.rowIs.cell (i := 0) h (by omega)
theorem ScA.c1 (h : ScA ty w b k l) : w.cell? ⟨b, 0 + 1, none⟩ = some (.int .i64 l) := World.rowIs.cell (i := 1) h (by omega)
theorem ScA.fr (h : ScA ty w b k l) (i : Nat) : w.frozen? ⟨b, i, none⟩ = false := World.rowIs.frozen h i
theorem ScA.set1 (h : ScA ty w b k l) (m : Int) : ScA ty (w.setCell ⟨b, 0 + 1, none⟩ (.int .i64 m)) b k m := (World.rowIs.set h (0 + 1) _).congr fun i hi => by
  have : i = 0 ∨ i = 1 := by omega
  rcases this with rfl | rfl <;> simp [scF]
theorem ScA.new (ty : TypeId) (w : World) (k l : Int) : ScA ty (w.alloc (.cells #[.int .i64 k, .int .i64 l] ty)) w.heap.size k l := World.rowIs_alloc w _ _ _ (fun i hi => by
  have : i < 2 := hi
  match i, this with
  | 0, _ | 1, _ => rfl)
end
theorem wrap_atS {n m : Int} (h : n = m) (h1 : -9223372036854775808 ≤ m) (h2 : m ≤ 9223372036854775807) : wrap64 n = m := by subst h; unfold wrap64; omega
theorem info_intS : (Tryz.prog.info? 3).map (fun i => (i.zero, i.size, i.bytes)) = some (some (.int .i64 0), 1, 8) := by kernel_rfl
theorem Rd.newK (q : IntKind) (w : World) (xs : List Int) (t : TypeId) (fr : Nat × Nat) : Rd q (w.alloc (.cells (cel q xs).toArray t fr)) (some ⟨w.heap.size, 0, none⟩) xs := by
  refine .inr ⟨_, _, rfl, fun i hi => ?_⟩
  rw [Nat.zero_add, World.cell?_alloc_mark]
  simp [cel, List.getD, hi]
theorem Own.newK (q : IntKind) (w : World) (xs : List Int) (t : TypeId) (hl : xs.length ≤ maxLen) : Own q t (w.alloc (.cells (cel q xs).toArray t)) w.heap.size (.slice (some ⟨w.heap.size, 0, none⟩) xs.length xs.length) xs := by
  have := World.ownsRow_lit (base := w.heap.size) (e := t) (size := 1) w (cel q xs).toArray xs.length (Nat.le_refl _) hl (by simp [cel])
  simpa [Own, cel] using this
section
variable {w : World} {b : Nat} {k l : Int}
theorem below_drS (w : World) (k : Nat) : Below w.heap.size w (w.drewN k) := ⟨rfl, rfl, rfl, Nat.le_refl _, fun _ _ => rfl⟩
end
end Go.Proofs.YtpjlnpnadkbakaaGreat
namespace Go.Proofs.YtpjlnpnadkbakaaGreat
set_option maxRecDepth 10000
open Go.RowKit
abbrev tSch : TypeId := 186
abbrev ScS (w : World) (b : Nat) (k l : Int) : Prop := ScA tSch w b k (l + 1)
def PickEndS (w : World) (b : Nat) (k l : Int) (ms : List Int) (e : Ending) (w' : World) : Prop :=
  ∃ A' c' L l', e = .returned (.slice A' (List.length L) c') ∧ Own .i64 3 w' w.heap.size (.slice A' (List.length L) c') L ∧ IsPick k l ms L l' ∧ ScS w' b k l' ∧ SC w w' (fun j => j = b) (fun j => j = b)
section
variable {ty : TypeId} {w : World} {b : Nat} {k l : Int}
theorem own_ne_sc {q : IntKind} {e : TypeId} {B : Nat} {v : Value} {xs : List Int} (h : Own q e w B v xs) (hs : ScA ty w b k l) (ht : e ≠ ty) : v.ownBlock ≠ some b := by
  rcases h.2 with ⟨hv, _⟩ | ⟨g, cap, cur, hv, _, hh, _⟩
  · rw [hv]; simp [Value.ownBlock]
  · rw [hv]
    intro he
    simp only [Value.ownBlock, Option.some.injEq] at he
    subst he
    obtain ⟨cur', hh', _⟩ := hs
    rw [hh] at hh'
    injection hh' with hh'
    injection hh' with _ ht'
    exact ht ht'
end
theorem newsc_any (k : Int) (w : World) : Calls Tryz.prog 88 #[.int .i64 k] w fun e w' => e = .returned (.pointer (some ⟨w.heap.size, 0, none⟩)) ∧ ScS w' w.heap.size k (-1) ∧ Below w.heap.size w w' := by
  go_enter Tryz.func88, Tryz.ntmps88
  go_wp2
  go_ret
  exact ⟨rfl, ScA.new _ _ k 0, (Below.refl _ _).alloc (Nat.le_refl _) _⟩
theorem ret_bool {a b : Bool} (h : a = b) : Ending.returned (.bool a) = .returned (.bool b) := by rw [h]
theorem nan_s (x : Int) (w : World) : Calls Tryz.prog 283 #[.int .i64 x] w fun e w' => e = .returned (.bool false) ∧ ∃ q, w' = w.drewN q := by
  go_enter Tryz.func283, Tryz.ntmps283
  go_wp2
  go_ret
  exact ⟨ret_bool (by simp), 0, rfl⟩
theorem nan_c (x : Int) (w : World) : Calls Tryz.prog 284 #[.int .i64 x] w fun e w' => e = .returned (.bool false) ∧ ∃ q, w' = w.drewN q := by
  go_enter Tryz.func284, Tryz.ntmps284
  go_wp2
  go_ret
  exact ⟨ret_bool (by simp), 0, rfl⟩
theorem less_any (x y : Int) (w : World) : Calls Tryz.prog 282 #[.int .i64 x, .int .i64 y] w fun e w' => e = .returned (.bool (decide (x < y))) ∧ ∃ q, w' = w.drewN q := by
  go_enter Tryz.func282, Tryz.ntmps282
  go_wp2_with fail
  refine (nan_c x _).mono ?_
  rintro e w1 ⟨rfl, q1, rfl⟩
  go_wp2
  go_ret
  exact ⟨rfl, _, rfl⟩
def cmpZ (x y : Int) : Int := if x < y then -1 else if y < x then 1 else 0
theorem cmpZ_lt {x y : Int} : cmpZ x y < 0 ↔ x < y := by unfold cmpZ; split <;> first | omega | (split <;> omega)
theorem ret_int {a b : Int} (h : a = b) : Ending.returned (.int .i64 a) = .returned (.int .i64 b) := by rw [h]
theorem compare_any (x y : Int) (w : World) : Calls Tryz.prog 277 #[.int .i64 x, .int .i64 y] w fun e w' => e = .returned (.int .i64 (cmpZ x y)) ∧ ∃ q, w' = w.drewN q := by
  go_enter Tryz.func277, Tryz.ntmps277
  go_wp2_with fail
  refine (nan_c x _).mono ?_
  rintro e w1 ⟨rfl, q1, rfl⟩
  go_wp2_with fail
  refine (nan_c y _).mono ?_
  rintro e w2 ⟨rfl, q2, rfl⟩
  go_wp2
  all_goals go_ret
  · exact ⟨ret_int (by unfold cmpZ; rw [if_pos (by assumption)]), _, rfl⟩
  · exact ⟨ret_int (by unfold cmpZ; rw [if_neg (by omega), if_pos (by assumption)]), _, rfl⟩
  · exact ⟨ret_int (by unfold cmpZ; rw [if_neg (by omega), if_neg (by omega)]), _, rfl⟩
theorem compare_q (x y : Int) (w : World) (n : Nat) : Calls Tryz.prog 277 #[.int .i64 x, .int .i64 y] (w.drewN n) fun e w' => e = .returned (.int .i64 (cmpZ x y)) ∧ ∃ q, w' = w.drewN q :=
  (compare_any x y _).mono fun _ _ ⟨h1, q, h2⟩ => ⟨h1, n + q, by rw [h2, World.drewN_drewN]⟩
def BinEnd (r : Nat) (e : Ending) : Prop := ∃ f, e = .returned (.tuple #[.int .i64 r, .bool f])
set_option maxHeartbeats 1000000 in
theorem bin_any (A : Option Addr) (n c : Nat) (C : List Int) (hC : C.length = n) (t : Int) (w : World) (hr : Rd .i64 w A C) (hn : n ≤ 1048576) (r : Nat) (hrn : r ≤ n)
    (hlo : ∀ j, j < r → C.getD j 0 < t) (hhi : ∀ j, r ≤ j → j < n → t ≤ C.getD j 0) :
    Calls Tryz.prog 274 #[.slice A n c, .int .i64 t] w fun e w' => BinEnd r e ∧ ∃ q, w' = w.drewN q := by
  have HRD := Lib.hid (show ∀ q i, i < n → ∃ a o, A = some ⟨a, o, none⟩ ∧ (w.drewN q).cell? ⟨a, o + i, none⟩ = some (.int .i64 (C.getD i 0)) from fun q i hi => by
    obtain ⟨a, o, rfl, hc⟩ := (show Rd .i64 (w.drewN q) A C from hr).some_ (by rw [hC]; omega)
    exact ⟨a, o, rfl, hc i (by omega)⟩)
  have HLO := Lib.hid hlo
  have HHI := Lib.hid hhi
  clear hlo hhi hr hC
  go_enter Tryz.func274, Tryz.ntmps274
  go_wp2
  go_loopg [7, 8] n (fun kx s5 s6 wr => ∃ (lo hi q : Nat), s5 = .int .i64 lo ∧ s6 = .int .i64 hi ∧ lo ≤ r ∧ r ≤ hi ∧ hi ≤ n ∧ hi - lo ≤ kx ∧ wr = w.drewN q)
  case atStart => exact ⟨0, n, 0, rfl, rfl, Nat.zero_le _, hrn, Nat.le_refl _, by omega, rfl⟩
  case round =>
    obtain ⟨lo, hi, q, rfl, rfl, hlr, hrh, hin, hg, rfl⟩ := hrel
    by_cases hlt : lo < hi
    · obtain ⟨a, o, rfl, y⟩ := HRD.out q ((lo + hi) / 2) (by omega)
      obtain ⟨x, hx⟩ : ∃ x, C.getD ((lo + hi) / 2) 0 = x := ⟨_, rfl⟩
      rw [hx] at y
      have HX := Lib.hid hx
      clear hx
      have b1 : ((lo : Int) + (hi : Int)) / 2 < (n : Int) := by omega
      have b2 : 0 ≤ ((lo : Int) + (hi : Int)) / 2 := by omega
      by_cases hu : x < t
      · have HU := Lib.hid (show (lo + hi) / 2 + 1 ≤ r by
          rcases Nat.lt_or_ge ((lo + hi) / 2) r with h | h
          · exact h
          · have := HHI.out _ h (by omega); rw [HX.out] at this; omega)
        go_wp2_with fail
        refine (less_any x t _).mono ?_
        rintro e w1 ⟨rfl, q1, rfl⟩
        rw [decide_eq_true hu]
        go_wp2
        go_roundg (hi - ((lo + hi) / 2 + 1))
        case measure => omega
        case rel => exact ⟨(lo + hi) / 2 + 1, hi, q + q1, by rw [show ((lo : Int) + (hi : Int)) / 2 + 1 = (((lo + hi) / 2 + 1 : Nat) : Int) by omega], rfl, HU.out, hrh, hin, Nat.le_refl _, rfl⟩
      · have HU := Lib.hid (show r ≤ (lo + hi) / 2 by
          rcases Nat.lt_or_ge ((lo + hi) / 2) r with h | h
          · have := HLO.out _ h; rw [HX.out] at this; omega
          · exact h)
        go_wp2_with fail
        refine (less_any x t _).mono ?_
        rintro e w1 ⟨rfl, q1, rfl⟩
        rw [decide_eq_false (show ¬ x < t by omega)]
        go_wp2
        go_roundg ((lo + hi) / 2 - lo)
        case measure => omega
        case rel => exact ⟨lo, (lo + hi) / 2, q + q1, rfl, by rw [show ((lo : Int) + (hi : Int)) / 2 = (((lo + hi) / 2 : Nat) : Int) by omega], hlr, HU.out, by omega, Nat.le_refl _, rfl⟩
    · obtain rfl : hi = lo := by omega
      obtain rfl : hi = r := by omega
      by_cases hb : hi < n
      · obtain ⟨a, o, rfl, y⟩ := HRD.out q hi hb
        obtain ⟨x, hx⟩ : ∃ x, C.getD hi 0 = x := ⟨_, rfl⟩
        rw [hx] at y
        have b1 : (hi : Int) < (n : Int) := by omega
        have b2 : 0 ≤ (hi : Int) := by omega
        by_cases he : x = t
        · go_wp2
          go_ret2
          exact ⟨⟨_, rfl⟩, _, rfl⟩
        · go_wp2_with fail
          refine (nan_s x _).mono ?_
          rintro e w1 ⟨rfl, q1, rfl⟩
          go_wp2
          go_ret2
          exact ⟨⟨_, rfl⟩, _, rfl⟩
      · have b1 : ¬ (hi : Int) < (n : Int) := by omega
        go_wp2
        go_ret2
        exact ⟨⟨_, rfl⟩, _, rfl⟩
theorem cell_drS {w : World} {a : Addr} {v : Value} (h : w.cell? a = some v) (q : Nat) : (w.drewN q).cell? a = some v := h
theorem qclo_any (b a o n c i j : Nat) (x y : Int) (w : World) (h : w.cell? ⟨b, 0, none⟩ = some (.slice (some ⟨a, o, none⟩) n c)) (hi : i < n) (hj : j < n) (hx : w.cell? ⟨a, o + i, none⟩ = some (.int .i64 x)) (hy : w.cell? ⟨a, o + j, none⟩ = some (.int .i64 y)) :
    Calls Tryz.prog 276 (#[.int .i64 i, .int .i64 j] ++ #[.pointer (some ⟨b, 0, none⟩)]) w fun e w' => e = .returned (.int .i64 (cmpZ x y)) ∧ ∃ q, w' = w.drewN q := by
  have i0 : (0 : Int) ≤ (i : Int) := by omega
  have j0 : (0 : Int) ≤ (j : Int) := by omega
  have i1 : (i : Int) < (n : Int) := by omega
  have j1 : (j : Int) < (n : Int) := by omega
  clear hi hj
  go_enter Tryz.func276, Tryz.ntmps276
  go_wp2
  go_quiet ((go_at_call 277; exact compare_q _ _ _ _))
  go_wp2
  go_ret
  exact ⟨rfl, _, rfl⟩
set_option maxHeartbeats 4000000 in
theorem minf_any (cb : Array Value) (g : Nat) (A : Option Addr) (n c : Nat) (C : List Int) (hC : C.length = n) (hn : n ≤ 1048576) (h0 : 0 < n) (w : World) (hr : Rd .i64 w A C) (eg : ∀ args w, (callFunc g args).run Tryz.prog w = .ok (.enter g args) w)
    (f : Nat → Int) (hf : ∀ (m i j : Nat), i < n → j < n → Calls Tryz.prog g (#[.int .i64 (C.getD i 0), .int .i64 (C.getD j 0)] ++ cb) (w.drewN m) fun e w' => e = .returned (.int .i64 (cmpZ (f i) (f j))) ∧ ∃ q, w' = (w.drewN m).drewN q) :
    Calls Tryz.prog 275 #[.slice A n c, .func (.func g) #[] cb] w fun e w' => (∃ B : Nat, B < n ∧ e = .returned (.int .i64 (C.getD B 0)) ∧ ∀ j, j < n → f B ≤ f j ∧ (j < B → f B < f j)) ∧ ∃ q, w' = w.drewN q := by
  have HRD := Lib.hid (show ∀ q i, i < n → ∃ a o, A = some ⟨a, o, none⟩ ∧ (w.drewN q).cell? ⟨a, o + i, none⟩ = some (.int .i64 (C.getD i 0)) from fun q i hi => by
    obtain ⟨a, o, rfl, hc⟩ := (show Rd .i64 (w.drewN q) A C from hr).some_ (by rw [hC]; omega)
    exact ⟨a, o, rfl, hc i (by omega)⟩)
  have HF := Lib.hid hf
  clear hf hr hC
  obtain ⟨a, o, rfl, y0⟩ := HRD.out 0 0 h0
  have hz : w.drewN 0 = w := rfl
  rw [hz] at y0
  clear hz
  have n0 : ¬ (n : Int) < 1 := by omega
  have n1 : (0 : Int) < (n : Int) := by omega
  obtain ⟨x0, hx0⟩ : ∃ x, C.getD 0 0 = x := ⟨_, rfl⟩
  rw [hx0, Nat.add_zero] at y0
  have HX0 := Lib.hid hx0
  clear hx0
  go_enter Tryz.func275, Tryz.ntmps275
  go_wp2_with fail
  go_loopw [5, 6] (fun mv iv wr => ∃ (i B q : Nat), 0 < i ∧ i ≤ n ∧ B < i ∧ mv = .int .i64 (C.getD B 0) ∧ iv = .int .i64 i ∧ wr = w.drewN q ∧ Hid (∀ j, j < i → f B ≤ f j ∧ (j < B → f B < f j))) (fun _ iv _ => n - (intOf iv).toNat)
  case atStart => exact ⟨1, 0, 0, by omega, by omega, by omega, by rw [HX0.out], rfl, rfl, Lib.hid (fun j hj => by
    have : j = 0 := by omega
    subst this
    exact ⟨Int.le_refl _, fun x => by omega⟩)⟩
  case round =>
    obtain ⟨i, B, q, hi0, hi, hB, rfl, rfl, rfl, hall⟩ := hrel
    by_cases hin : i < n
    · obtain ⟨a9, o9, hA9, y⟩ := HRD.out q i hin
      obtain ⟨rfl, rfl⟩ : a = a9 ∧ o = o9 := by injection hA9 with hA9; injection hA9 with h1 h2; exact ⟨h1, h2⟩
      clear hA9
      have hc := HF.out q i B hin (by omega)
      obtain ⟨x, hx⟩ : ∃ x, C.getD i 0 = x := ⟨_, rfl⟩
      obtain ⟨xb, hxb⟩ : ∃ x, C.getD B 0 = x := ⟨_, rfl⟩
      rw [hx] at y
      rw [hx, hxb] at hc
      rw [hxb]
      have HX := Lib.hid hx
      have HXB := Lib.hid hxb
      have i1 : (i : Int) < (n : Int) := by omega
      have i2 : (0 : Int) ≤ (i : Int) := by omega
      have HIW := Lib.hid (show wrap64 ((i : Int) + 1) = ((i + 1 : Nat) : Int) from wrap_atS (by omega) (by omega) (by omega))
      have HI := Lib.hid (And.intro hin (And.intro hi0 hB))
      obtain ⟨z, hz⟩ : ∃ z, cmpZ (f i) (f B) = z := ⟨_, rfl⟩
      rw [hz] at hc
      clear hx hxb hin hi0 hi hB
      by_cases hu : f i < f B
      · have hz0 : z < 0 := by rw [← hz]; exact cmpZ_lt.2 hu
        have HNX : Hid (∀ j, j < i + 1 → f i ≤ f j ∧ (j < i → f i < f j)) := Lib.hid (fun j hj => by
          by_cases e : j = i
          · subst e; exact ⟨Int.le_refl _, fun x => by omega⟩
          · have := hall.out j (by omega)
            exact ⟨by omega, fun _ => by omega⟩)
        clear hz hall hu
        go_wp2_with fail
        refine hc.mono ?_
        rintro e w1 ⟨rfl, q1, rfl⟩
        have y2 : (w.drewN (q + q1)).cell? ⟨a, o + i, none⟩ = some (.int .i64 x) := y
        go_wp2
        go_roundw
        case rel => exact ⟨i + 1, i, q + q1, by omega, by have := HI.out; omega, by omega, by rw [HX.out], by first | rfl | (rw [HIW.out]) | go_num, by first | rfl | (rw [World.drewN_drewN]), HNX⟩
        case measure => (try rw [HIW.out]); have := HI.out; simp [intOf]; omega
      · have hz0 : ¬ z < 0 := by rw [← hz]; exact fun h => hu (cmpZ_lt.1 h)
        have HNX : Hid (∀ j, j < i + 1 → f B ≤ f j ∧ (j < B → f B < f j)) := Lib.hid (fun j hj => by
          by_cases e : j = i
          · subst e; exact ⟨by omega, fun x => by have := HI.out; omega⟩
          · exact hall.out j (by omega))
        clear hz hall hu
        go_wp2_with fail
        refine hc.mono ?_
        rintro e w1 ⟨rfl, q1, rfl⟩
        go_wp2
        go_roundw
        case rel => exact ⟨i + 1, B, q + q1, by omega, by have := HI.out; omega, by have := HI.out; omega, by rw [HXB.out], by first | rfl | (rw [HIW.out]) | go_num, by first | rfl | (rw [World.drewN_drewN]), HNX⟩
        case measure => (try rw [HIW.out]); have := HI.out; simp [intOf]; omega
    · have : i = n := by omega
      subst this
      have HFIN := Lib.hid (show ∃ B' : Nat, B' < i ∧ Ending.returned (.int .i64 (C.getD B 0)) = .returned (.int .i64 (C.getD B' 0)) ∧ ∀ j, j < i → f B' ≤ f j ∧ (j < B' → f B' < f j) from ⟨B, hB, rfl, hall.out⟩)
      have i1 : ¬ ((i : Int) < (i : Int)) := by omega
      obtain ⟨xb, hxb⟩ : ∃ x, C.getD B 0 = x := ⟨_, rfl⟩
      rw [hxb] at HFIN ⊢
      clear hall hxb hB
      go_wp2
      go_ret
      exact ⟨HFIN.out, _, rfl⟩
end Go.Proofs.YtpjlnpnadkbakaaGreat
namespace Go.Proofs.YtpjlnpnadkbakaaGreat
set_option maxRecDepth 10000
open Go.RowKit
theorem turn_place (ms : List Int) (l : Int) : ∃ r, r ≤ (can ms).length ∧ (∀ j, j < r → (can ms).getD j 0 < l + 1) ∧ ∀ j, r ≤ j → j < (can ms).length → l + 1 ≤ (can ms).getD j 0 := by
  have hh : ∀ n : Nat, n ≤ (can ms).length → ∃ r, r ≤ n ∧ (∀ j, j < r → (can ms).getD j 0 < l + 1) ∧ ∀ j, r ≤ j → j < n → l + 1 ≤ (can ms).getD j 0 := by
    intro n
    induction n with
    | zero => exact fun _ => ⟨0, Nat.le_refl _, fun j hj => by omega, fun j _ hj => by omega⟩
    | succ n ih =>
      intro hn
      obtain ⟨r, h1, h2, h3⟩ := ih (by omega)
      by_cases e : r = n
      · by_cases hv : (can ms).getD n 0 < l + 1
        · exact ⟨n + 1, Nat.le_refl _, fun j hj => by
            by_cases e2 : j = n
            · rw [e2]; exact hv
            · exact h2 j (by omega), fun j h4 h5 => by omega⟩
        · exact ⟨n, by omega, fun j hj => h2 j (by omega), fun j h4 h5 => by
            have : j = n := by omega
            rw [this]; omega⟩
      · exact ⟨r, by omega, h2, fun j h4 h5 => by
          by_cases e2 : j = n
          · have h6 := h3 r (Nat.le_refl _) (by omega)
            have h7 : (can ms).getD r 0 < (can ms).getD n 0 := canF_rise (by omega) hn
            rw [e2]; omega
          · exact h3 j h4 (by omega)⟩
  exact hh _ (Nat.le_refl _)
section
variable {w : World} {b : Nat} {k l : Int}
set_option maxHeartbeats 1000000 in
theorem usable_any (A : Option Addr) (n c : Nat) (ms : List Int) (hm : ms.length = n) (hr : Rd .i64 w A ms) (hn : n ≤ 1048576) :
    Calls Tryz.prog 257 #[.slice A n c] w fun e w' => ∃ A' c', e = .returned (.slice A' (can ms).length c') ∧ Hid (Own .i64 3 w' w.heap.size (.slice A' (can ms).length c') (can ms) ∧ Below w.heap.size w w') := by
  have HRD := Lib.hid (show ∀ (W : World), Below w.heap.size w W → ∀ i, i < n → ∃ a o, A = some ⟨a, o, none⟩ ∧ W.cell? ⟨a, o + i, none⟩ = some (.int .i64 (ms.getD i 0)) from fun W hw i hi => by
    obtain ⟨a, o, rfl, hc⟩ := (hr.later hw).some_ (by rw [hm]; omega)
    exact ⟨a, o, rfl, hc i (by omega)⟩)
  have HM := Lib.hid (And.intro hm hn)
  have HB0 : Hid (Own .i64 3 w w.heap.size (.slice none 0 0) (canF ms 0) ∧ Below w.heap.size w w) := Lib.hid ⟨Own.nil _ _ _ _, Below.refl _ _⟩
  clear hm hr hn
  go_enter Tryz.func257, Tryz.ntmps257
  go_wp2
  go_loopw [8, 3] (fun iv cv wr => ∃ (i : Nat) (A1 : Option Addr) (c1 : Nat), i ≤ n ∧ iv = .int .i64 i ∧ cv = .slice A1 (canF ms i).length c1 ∧ Hid (Own .i64 3 wr w.heap.size (.slice A1 (canF ms i).length c1) (canF ms i) ∧ Below w.heap.size w wr)) (fun iv _ _ => n - (intOf iv).toNat)
  case atStart => exact ⟨0, none, 0, by omega, rfl, rfl, HB0⟩
  case round =>
    clear HB0
    obtain ⟨i, A1, c1, hi, rfl, rfl, hmid⟩ := hrel
    by_cases hin : i < n
    · obtain ⟨a, o, rfl, y0⟩ := HRD.out wr hmid.out.2 i hin
      obtain ⟨x, hx⟩ : ∃ x, ms.getD i 0 = x := ⟨_, rfl⟩
      rw [hx] at y0
      have HX := Lib.hid hx
      have HI := Lib.hid (And.intro hin (show i ≤ 1048576 by have := HM.out; omega))
      have i1 : (i : Int) < (n : Int) := by omega
      have i2 : (0 : Int) ≤ (i : Int) := by omega
      have HIW := Lib.hid (show wrap64 ((i : Int) + 1) = ((i + 1 : Nat) : Int) from wrap_atS (by omega) (by omega) (by have := HI.out; omega))
      have HL := Lib.hid (canF_len ms i)
      clear hx hi hin
      by_cases hu : x ≥ 0
      · have hcan : canF ms (i + 1) = canF ms i ++ [(i : Int)] := canF_yes (by rw [HX.out]; exact hu)
        obtain ⟨ln, hln⟩ : ∃ ln, (canF ms i).length = ln := ⟨_, rfl⟩
        have ho := hmid.out.1
        rw [hln] at ho ⊢
        obtain ⟨A2, c2, w2, hrun, ho2, hg2, -⟩ := run_append_f (P := Tryz.prog) (wr.alloc (.cells #[.int .i64 (i : Int)] 3)) .i64 49 49 3 (.int .i64 0) 8 Tryz.underlying49 info_intS rfl w.heap.size (.slice A1 ln c1) (canF ms i) (ho.alloc _) (some ⟨wr.heap.size, 0, none⟩) 1 1 [(i : Int)] rfl (Rd.newK .i64 wr [(i : Int)] 3 (0, 0)) (by have := HL.out; have := HI.out; unfold maxLen; omega) (by have := HL.out; have := HI.out; omega) (by have := hmid.out.2.size; simp; omega)
        rw [hln] at hrun ho2
        rw [← hcan] at ho2
        have hlen : (canF ms (i + 1)).length = ln + 1 := by rw [hcan, List.length_append, hln]; rfl
        have HNX : Hid (Own .i64 3 w2 w.heap.size (.slice A2 (canF ms (i + 1)).length c2) (canF ms (i + 1)) ∧ Below w.heap.size w w2) := Lib.hid ⟨by rw [hlen]; exact ho2, (hmid.out.2.alloc hmid.out.2.size _).trans ((Trn.of_grown hg2).below (by have := hmid.out.2.size; simp; omega) (fun g hg => (ho.lt g hg).1))⟩
        have HLN := Lib.hid hlen
        clear hcan hln ho ho2 hg2 hlen hmid HL
        go_wp2_with (at_builtin; refine Lib.wpList_append_run _ rfl _ _ _ _ rfl _ _ rfl rfl _ _ hrun ?_)
        clear hrun
        go_roundw
        case rel => exact ⟨i + 1, A2, c2, by have := HI.out; omega, by first | rfl | (rw [HIW.out]) | go_num, by rw [HLN.out], HNX⟩
        case measure => (try rw [HIW.out]); have := HI.out; simp [intOf]; omega
      · have hcan : canF ms (i + 1) = canF ms i := canF_no (by rw [HX.out]; omega)
        have HNX : Hid (Own .i64 3 wr w.heap.size (.slice A1 (canF ms (i + 1)).length c1) (canF ms (i + 1)) ∧ Below w.heap.size w wr) := Lib.hid (by rw [hcan]; exact hmid.out)
        have HLN := Lib.hid (show (canF ms (i + 1)).length = (canF ms i).length by rw [hcan])
        clear hcan hmid HL
        go_wp2
        go_roundw
        case rel => exact ⟨i + 1, A1, c1, by have := HI.out; omega, by first | rfl | (rw [HIW.out]) | go_num, by rw [HLN.out], HNX⟩
        case measure => (try rw [HIW.out]); have := HI.out; simp [intOf]; omega
    · have : i = n := by omega
      subst this
      have hcm : canF ms i = can ms := by unfold can; rw [HM.out.1]
      rw [hcm] at hmid ⊢
      have j1 : ¬ ((i : Int) < (i : Int)) := by omega
      have HFIN := Lib.hid hmid.out
      clear hcm hmid hi hin
      go_wp2
      go_ret
      exact ⟨_, _, rfl, HFIN⟩
set_option maxHeartbeats 1000000 in
theorem quickest_any (A : Option Addr) (n c : Nat) (ms : List Int) (hm : ms.length = n) (hr : Rd .i64 w A ms) (hn : n ≤ 1048576) (G : Option Addr) (N cG : Nat) (hN : (can ms).length = N) (h0 : 0 < N) (hrc : Rd .i64 w G (can ms)) :
    Calls Tryz.prog 259 #[.slice G N cG, .slice A n c] w fun e w' => (∃ p : Nat, e = .returned (.int .i64 (p : Int)) ∧ QuickP ms p) ∧ Below w.heap.size w w' := by
  have eg : ∀ args w, (callFunc 276 args).run Tryz.prog w = .ok (.enter 276 args) w := enters_of Tryz.func276 (by kernel_rfl) rfl
  have hNn : N ≤ n := by rw [← hN, ← hm]; exact canF_len ms _
  obtain ⟨a, o, rfl, hcell⟩ := hr.some_ (by omega)
  obtain ⟨W0, hW0⟩ : ∃ W0, W0 = w.alloc (.cells #[.slice (some ⟨a, o, none⟩) n c] 49) := ⟨_, rfl⟩
  have hb0 : Below w.heap.size w W0 := by rw [hW0]; exact (Below.refl _ _).alloc (Nat.le_refl _) _
  have k0 : W0.cell? ⟨w.heap.size, 0, none⟩ = some (.slice (some ⟨a, o, none⟩) n c) := by
    rw [hW0, World.cell?_alloc_at _ _ _ _ rfl]; rfl
  have hS := minf_any #[.pointer (some ⟨w.heap.size, 0, none⟩)] 276 G N cG (can ms) hN (by omega) h0 W0 (hrc.later hb0) eg (fun i => ms.getD ((can ms).getD i 0).toNat 0) (fun m i j hi hj => by
    obtain ⟨pi, i1, i2, _⟩ := canF_at (ms := ms) (i := ms.length) (j := i) (by unfold can at hN; omega)
    obtain ⟨pj, j1, j2, _⟩ := canF_at (ms := ms) (i := ms.length) (j := j) (by unfold can at hN; omega)
    have e1 : (can ms).getD i 0 = (pi : Int) := i1
    have e2 : (can ms).getD j 0 = (pj : Int) := j1
    rw [e1, e2, Int.toNat_natCast, Int.toNat_natCast]
    have hcl := qclo_any w.heap.size a o n c pi pj (ms.getD pi 0) (ms.getD pj 0) (W0.drewN m) k0 (by omega) (by omega) (cell_drS (cell_later hb0 (hcell pi i2)) m) (cell_drS (cell_later hb0 (hcell pj j2)) m)
    exact hcl)
  have hS2 : Calls Tryz.prog 275 #[.slice G N cG, .func (.func 276) #[] #[.pointer (some ⟨w.heap.size, 0, none⟩)]] W0 fun e w' => (∃ p : Nat, e = .returned (.int .i64 (p : Int)) ∧ QuickP ms p) ∧ ∃ q, w' = W0.drewN q := hS.mono (by
    rintro e w' ⟨⟨B, hB, rfl, hall⟩, hq⟩
    obtain ⟨p, h1, h2⟩ := quick_best (ms := ms) (B := B) (by omega) (fun j hj => hall j (by omega))
    exact ⟨⟨p, by rw [h1], h2⟩, hq⟩)
  have HS := Lib.hid hS2
  have HB := Lib.hid hb0
  clear hS hS2 hb0 eg hr hrc hcell k0 hm hN hNn h0
  subst hW0
  go_enter Tryz.func259, Tryz.ntmps259
  go_wp2_with fail
  refine HS.out.mono ?_
  rintro e w' ⟨⟨p, rfl, hp⟩, q, rfl⟩
  have HP := Lib.hid hp
  clear hp
  go_wp2
  go_ret
  exact ⟨⟨_, rfl, HP.out⟩, HB.out.trans ((below_drS _ q).mono HB.out.size)⟩
theorem turn_end {ms : List Int} {B : Nat} {v : Value} {q p : Nat} (h : ScS w b k l) (ho : Own .i64 3 w B v (can ms)) (_ : RoundP ms l p) :
    let w' := (w.drewN q).setCell ⟨b, 0 + 1, none⟩ (.int .i64 ((p : Int) + 1))
    ScS w' b k p ∧ SC w w' (fun j => j = b) (fun j => j = b) ∧ Own .i64 3 w' B v (can ms) := by
  have hs : ScS (w.drewN q) b k l := h
  have hg := Trn.of_grown (setCell_one (w.drewN q) b (0 + 1) (.int .i64 ((p : Int) + 1)))
  refine ⟨hs.set1 ((p : Int) + 1), (SC.of_below (below_drS w q)).trans (⟨hg.mono (fun j _ hj => (Option.some.inj hj).symm), fun j hj => .inl hj⟩ : SC (w.drewN q) _ (fun j => j = b) (fun j => j = b)), ?_⟩
  have ho2 : Own .i64 3 (w.drewN q) B v (can ms) := ho
  exact hg.own ho2 (fun g hg e => own_ne_sc ho h (by decide) (by rw [hg]; exact e.symm ▸ rfl))
set_option maxHeartbeats 1000000 in
theorem turn_any (h : ScS w b k l) (ms : List Int) (hn : ms.length ≤ 1048576) (G : Option Addr) (N cG : Nat) (hN : (can ms).length = N) (h0 : 0 < N) {B : Nat} (ho : Own .i64 3 w B (.slice G N cG) (can ms)) :
    Calls Tryz.prog 258 #[.pointer (some ⟨b, 0, none⟩), .slice G N cG] w fun e w' => (∃ p : Nat, e = .returned (.int .i64 (p : Int)) ∧ RoundP ms l p ∧ ScS w' b k p) ∧ SC w w' (fun j => j = b) (fun j => j = b) := by
  obtain ⟨r, hr1, hr2, hr3⟩ := turn_place ms l
  have hNn : N ≤ ms.length := by rw [← hN]; exact canF_len ms _
  obtain ⟨g, rfl, -, -, -, hcell, -⟩ := ho.block (by omega)
  have HBIN := Lib.hid (bin_any (some ⟨g, 0, none⟩) N cG (can ms) hN (l + 1) w ho.rd (by omega) r (by omega) hr2 (fun j h1 h2 => hr3 j h1 (by omega)))
  have hc0 := h.c1
  have hfr := h.fr (0 + 1)
  by_cases e : r = N
  · obtain ⟨p, hp1, hp2⟩ := round_wrap (ms := ms) (l := l) (by omega) (fun j hj => by have := hr2 j (by omega); omega)
    have HEND := Lib.hid (fun q => turn_end (q := q) h ho hp2)
    have HCELL := Lib.hid (show ∀ W, Own .i64 3 W B (.slice (some ⟨g, 0, none⟩) N cG) (can ms) → W.cell? ⟨g, 0, none⟩ = some (.int .i64 (p : Int)) from fun W hW => by
      obtain ⟨g', hg', -, -, -, hc, -⟩ := hW.block (by omega)
      obtain rfl : g = g' := by injection hg' with h1; injection h1 with h1
      rw [hc 0 h0, hp1])
    have HP := Lib.hid (show wrap64 ((p : Int) + 1) = (p : Int) + 1 from wrap_atS rfl (by omega) (by have := hp2.lt; omega))
    have HP2 := Lib.hid hp2
    have HO := Lib.hid ho
    have n0 : (0 : Int) < (N : Int) := by omega
    subst e
    clear hp1 hp2 hcell h ho hr1 hr2 hr3 hNn hn hN h0
    go_enter Tryz.func258, Tryz.ntmps258
    go_wp2_with fail
    refine HBIN.out.mono ?_
    rintro e w1 ⟨⟨f, rfl⟩, q, rfl⟩
    obtain ⟨e1, e2, e3⟩ := HEND.out q
    have y0 := HCELL.out (w.drewN q) HO.out
    have y1 := HCELL.out _ e3
    have HE := Lib.hid (And.intro e1 e2)
    have hw := HP.out
    clear e1 e2 e3
    go_wp2
    go_ret
    exact ⟨⟨_, rfl, HP2.out, HE.out.1⟩, HE.out.2⟩
  · obtain ⟨p, hp1, hp2⟩ := round_found (ms := ms) (l := l) (j := r) (by omega) (fun j hj => by have := hr2 j hj; omega) (by have := hr3 r (Nat.le_refl _) (by omega); omega)
    have HEND := Lib.hid (fun q => turn_end (q := q) h ho hp2)
    have HCELL := Lib.hid (show ∀ W, Own .i64 3 W B (.slice (some ⟨g, 0, none⟩) N cG) (can ms) → W.cell? ⟨g, r, none⟩ = some (.int .i64 (p : Int)) from fun W hW => by
      obtain ⟨g', hg', -, -, -, hc, -⟩ := hW.block (by omega)
      obtain rfl : g = g' := by injection hg' with h1; injection h1 with h1
      rw [hc r (by omega), hp1])
    have HP := Lib.hid (show wrap64 ((p : Int) + 1) = (p : Int) + 1 from wrap_atS rfl (by omega) (by have := hp2.lt; omega))
    have HP2 := Lib.hid hp2
    have HO := Lib.hid ho
    have n0 : (r : Int) < (N : Int) := by omega
    have n1 : (0 : Int) ≤ (r : Int) := by omega
    have n2 : ((r : Int) == (N : Int)) = false := by rw [beq_eq_false_iff_ne]; omega
    clear hp1 hp2 hcell h ho hr1 hr2 hr3 hNn hn hN h0 e
    go_enter Tryz.func258, Tryz.ntmps258
    go_wp2_with fail
    refine HBIN.out.mono ?_
    rintro e w1 ⟨⟨f, rfl⟩, q, rfl⟩
    obtain ⟨e1, e2, e3⟩ := HEND.out q
    have y0 := HCELL.out (w.drewN q) HO.out
    have y1 := HCELL.out _ e3
    have HE := Lib.hid (And.intro e1 e2)
    have hw := HP.out
    clear e1 e2 e3
    go_wp2
    go_ret
    exact ⟨⟨_, rfl, HP2.out, HE.out.1⟩, HE.out.2⟩
theorem pick_roundS {ms : List Int} {wr w2 : World} {p : Nat} (hNN : ¬ NoneU ms) (hB : Below w.heap.size w wr) (hS : ScS w2 b 2 p) (hsc : SC wr w2 (fun j => j = b) (fun j => j = b)) (hz : w.heap.size ≤ w2.heap.size) (hp : RoundP ms l p) :
    PickEndS w b 2 l ms (.returned (.slice (some ⟨w2.heap.size, 0, none⟩) 1 1)) (w2.alloc (.cells #[.int .i64 (p : Int)] 3)) := by
  have ho := Own.newK .i64 w2 [(p : Int)] 3 (by simp [maxLen])
  exact ⟨_, _, [(p : Int)], p, rfl, ho.less hz, .inr ⟨hNN, .inr (.inl ⟨rfl, p, hp, rfl, rfl⟩)⟩, hS.later ((Below.refl _ _).alloc (Nat.le_refl _) _), (SC.of_below hB).trans (hsc.trans (SC.of_below ((Below.refl _ _).alloc (Nat.le_refl _) _)))⟩
theorem pick_quickS {ms : List Int} {wr : World} {p : Nat} (hNN : ¬ NoneU ms) (hB : Below w.heap.size w wr) (hS : ScS wr b k l) (h2 : k ≠ 2) (h3 : k ≠ 3) (hF : QuickP ms p) :
    PickEndS w b k l ms (.returned (.slice (some ⟨wr.heap.size, 0, none⟩) 1 1)) (wr.alloc (.cells #[.int .i64 (p : Int)] 3)) := by
  have ho := Own.newK .i64 wr [(p : Int)] 3 (by simp [maxLen])
  exact ⟨_, _, [(p : Int)], l, rfl, ho.less hB.size, .inr ⟨hNN, .inr (.inr ⟨h2, h3, p, hF, rfl, rfl⟩)⟩, hS.later ((Below.refl _ _).alloc (Nat.le_refl _) _), SC.of_below (hB.alloc hB.size _)⟩
set_option maxHeartbeats 2000000 in
theorem pick_any (h : ScS w b k l) (A : Option Addr) (n c : Nat) (ms : List Int) (hm : ms.length = n) (hr : Rd .i64 w A ms) (_ : -1 ≤ l ∧ l ≤ 1048576) (hn : n ≤ 1048576) :
    Calls Tryz.prog 224 #[.pointer (some ⟨b, 0, none⟩), .slice A n c] w fun e w' => PickEndS w b k l ms e w' := by
  have HU := Lib.hid (usable_any (w := w) A n c ms hm hr hn)
  have HR := Lib.hid hr
  have H := Lib.hid h
  have HM := Lib.hid (And.intro hm hn)
  obtain ⟨Q, hQ⟩ : ∃ Q : Ending → World → Prop, (fun e w' => PickEndS w b k l ms e w') = Q := ⟨_, rfl⟩
  have HQ := Lib.hid (show ∀ e w', PickEndS w b k l ms e w' → Q e w' from fun e w' hp => by rw [← hQ]; exact hp)
  rw [hQ]
  clear hQ h hm hr hn
  go_enter Tryz.func224, Tryz.ntmps224
  go_wp2_with fail
  refine HU.out.mono ?_
  rintro e w1 ⟨G, cG, rfl, hmid⟩
  have HO := Lib.hid hmid.out.1
  have HB := Lib.hid hmid.out.2
  have HS := Lib.hid (H.out.later HB.out)
  have c0 := HS.out.c0
  have HRC := Lib.hid (HR.out.later HB.out)
  obtain ⟨N, hN⟩ : ∃ N, (can ms).length = N := ⟨_, rfl⟩
  have HO2 : Hid (Own .i64 3 w1 w.heap.size (.slice G N cG) (can ms)) := Lib.hid (by rw [← hN]; exact HO.out)
  rw [hN]
  have HN := Lib.hid hN
  clear hmid hN HU HR H HO
  by_cases hN0 : N = 0
  · have HFIN := Lib.hid (show PickEndS w b k l ms (.returned (.slice G N cG)) w1 from ⟨G, cG, can ms, l, by rw [HN.out], by rw [HN.out]; exact HO2.out, .inl ⟨can_none.2 (List.eq_nil_of_length_eq_zero (HN.out.trans hN0)), List.eq_nil_of_length_eq_zero (HN.out.trans hN0), rfl⟩, HS.out, SC.of_below HB.out⟩)
    subst hN0
    clear c0
    go_wp2
    exact HQ.out _ _ HFIN.out
  · have hN1 : ((N : Int) == 0) = false := by rw [beq_eq_false_iff_ne]; omega
    have HNN : Hid (¬ NoneU ms) := Lib.hid (fun x => hN0 (by rw [← HN.out, can_none.1 x]; rfl))
    by_cases hk3 : k = 3
    · have HFIN := Lib.hid (show PickEndS w b k l ms (.returned (.slice G N cG)) w1 from ⟨G, cG, can ms, l, by rw [HN.out], by rw [HN.out]; exact HO2.out, .inr ⟨HNN.out, .inl ⟨hk3, rfl, rfl⟩⟩, HS.out, SC.of_below HB.out⟩)
      subst hk3
      go_wp2
      exact HQ.out _ _ HFIN.out
    · have hk3b : (k == 3) = false := by rw [beq_eq_false_iff_ne]; exact hk3
      have HK3 := Lib.hid hk3
      clear hk3
      by_cases hk2 : k = 2
      · subst hk2
        have HT := Lib.hid (turn_any HS.out ms (by have := HM.out; omega) G N cG HN.out (by omega) HO2.out)
        clear hk3b hN0
        go_wp2_with fail
        refine HT.out.mono ?_
        rintro e w2 ⟨⟨p, rfl, hp, hs⟩, hsc⟩
        have HFIN := Lib.hid (pick_roundS HNN.out HB.out hs hsc (Nat.le_trans HB.out.size hsc.trn.size) hp)
        clear hp hs hsc HT
        go_wp2
        exact HQ.out _ _ HFIN.out
      · have hk2b : (k == 2) = false := by rw [beq_eq_false_iff_ne]; exact hk2
        have HT := Lib.hid (quickest_any A n c ms HM.out.1 HRC.out HM.out.2 G N cG HN.out (by omega) HO2.out.rd)
        have HK2 := Lib.hid hk2
        clear hk2 hN0
        go_wp2_with fail
        refine HT.out.mono ?_
        rintro e w2 ⟨⟨p, rfl, hp⟩, hb⟩
        have HFIN := Lib.hid (pick_quickS HNN.out (HB.out.trans (hb.mono HB.out.size)) (HS.out.later hb) HK2.out HK3.out hp)
        clear hp hb HT
        go_wp2
        exact HQ.out _ _ HFIN.out
end
end Go.Proofs.YtpjlnpnadkbakaaGreat
namespace Go.Proofs.YtpjlnpnadkbakaaGreat
abbrev muLink : Go.Conc.Locks.MuLink := { lock := 239, unlock := 244, ilock := 272, iunlock := 273, lockSlow := 280, unlockSlow := 281, disable := 209, enable := 212, acquire := 213, relMerge := 214, cas32 := 279, add32 := 255, tMutex := 152, tIMutex := 150, tPMutex := 216, tPIMutex := 266, tPI32 := 253, tUP := 215, tNoCopy := 147, tU32 := 148 }
theorem muLib : Go.Conc.Locks.MuLib Tryz.prog muLink :=
  ⟨Tryz.func239, Tryz.func244, Tryz.func272, Tryz.func273, Tryz.func209, Tryz.func212, Tryz.func213, Tryz.func214, Tryz.func279, Tryz.func255, Tryz.underlying150, Tryz.runUnderlying150, Tryz.sizeOf150, Tryz.isAgg150, Tryz.zeroValue150, Tryz.underlying152, Tryz.runUnderlying152, Tryz.sizeOf152, Tryz.isAgg152, Tryz.zeroValue152, Tryz.underlying216, Tryz.runUnderlying216, Tryz.sizeOf216, Tryz.isAgg216, Tryz.zeroValue216, Tryz.underlying266, Tryz.runUnderlying266, Tryz.sizeOf266, Tryz.isAgg266, Tryz.zeroValue266, Tryz.underlying253, Tryz.runUnderlying253, Tryz.sizeOf253, Tryz.isAgg253, Tryz.zeroValue253, Tryz.underlying215, Tryz.runUnderlying215, Tryz.sizeOf215, Tryz.isAgg215, Tryz.zeroValue215, Tryz.underlying147, Tryz.runUnderlying147, Tryz.sizeOf147, Tryz.isAgg147, Tryz.zeroValue147, Tryz.underlying21, Tryz.runUnderlying21, Tryz.sizeOf21, Tryz.isAgg21, Tryz.zeroValue21, (by kernel_rfl)⟩
abbrev rwLink : Go.Conc.Locks.RwLink := { lock := 239, unlock := 244, ilock := 272, iunlock := 273, lockSlow := 280, unlockSlow := 281, disable := 209, enable := 212, acquire := 213, relMerge := 214, cas32 := 279, add32 := 255, tMutex := 152, tIMutex := 150, tPMutex := 216, tPIMutex := 266, tPI32 := 253, tUP := 215, tNoCopy := 147, tU32 := 148, rlock := 138, runlock := 139, wlock := 171, wunlock := 172, i32add := 210, raceRead := 208, release := 241, rUnlockSlow := 215, semacqR := 211, semacqW := 240, semrel := 243, sfatal := 242, tRW := 157, tPRW := 213, tAI32 := 155, tPAI32 := 251, tPU32 := 219, tANoCopy := 153 }
theorem rwCore : Go.Conc.Locks.RwCore Tryz.prog rwLink :=
  ⟨Tryz.func210, Tryz.func208, Tryz.func209, Tryz.func212, Tryz.func213, Tryz.func214, Tryz.func255, Tryz.underlying157, Tryz.runUnderlying157, Tryz.sizeOf157, Tryz.isAgg157, Tryz.zeroValue157, Tryz.underlying155, Tryz.runUnderlying155, Tryz.sizeOf155, Tryz.isAgg155, Tryz.zeroValue155, Tryz.underlying213, Tryz.runUnderlying213, Tryz.sizeOf213, Tryz.isAgg213, Tryz.zeroValue213, Tryz.underlying251, Tryz.runUnderlying251, Tryz.sizeOf251, Tryz.isAgg251, Tryz.zeroValue251, Tryz.underlying219, Tryz.runUnderlying219, Tryz.sizeOf219, Tryz.isAgg219, Tryz.zeroValue219, Tryz.underlying153, Tryz.runUnderlying153, Tryz.sizeOf153, Tryz.isAgg153, Tryz.zeroValue153, Tryz.underlying148, Tryz.runUnderlying148, Tryz.sizeOf148, Tryz.isAgg148, Tryz.zeroValue148, Tryz.underlying152, Tryz.runUnderlying152, Tryz.sizeOf152, Tryz.isAgg152, Tryz.zeroValue152, Tryz.underlying216, Tryz.runUnderlying216, Tryz.sizeOf216, Tryz.isAgg216, Tryz.zeroValue216, Tryz.underlying253, Tryz.runUnderlying253, Tryz.sizeOf253, Tryz.isAgg253, Tryz.zeroValue253, Tryz.underlying215, Tryz.runUnderlying215, Tryz.sizeOf215, Tryz.isAgg215, Tryz.zeroValue215, Tryz.underlying21, Tryz.runUnderlying21, Tryz.sizeOf21, Tryz.isAgg21, Tryz.zeroValue21, (by kernel_rfl), (by kernel_rfl)⟩
theorem rwRLib : Go.Conc.Locks.RwRLib Tryz.prog rwLink := ⟨rwCore, Tryz.func138, Tryz.func139⟩
theorem rwWLib : Go.Conc.Locks.RwWLib Tryz.prog rwLink := ⟨rwCore, muLib, Tryz.func171, Tryz.func172, Tryz.func241, Tryz.underlying3, Tryz.runUnderlying3, Tryz.sizeOf3, Tryz.isAgg3, Tryz.zeroValue3⟩
end Go.Proofs.YtpjlnpnadkbakaaGreat

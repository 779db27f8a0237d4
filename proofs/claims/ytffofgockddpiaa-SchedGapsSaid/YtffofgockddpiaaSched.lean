/-
  The developers' Sched in memory ('ScS': behind the kind it keeps the place behind the one that was picked last); what New, usable, and the library's Less, Compare, BinarySearch do: contracts over the program.
-/
import Derived.Test.YtffofgockddpiaaDocSched
import Derived.Deep.LoopGhost
namespace Go.Proofs.Ytffofgockddpiaa
open Go.RowKit

abbrev tSch : TypeId := 35
/-- The developers' Sched: it keeps the place behind the one that was picked last. -/
abbrev ScS (w : World) (b : Nat) (k l : Int) : Prop := ScA tSch w b k (l + 1)
/-- A Pick's answer, of the developers' Sched. -/
def PickEndS (w : World) (b : Nat) (k l : Int) (ms : List Int) (e : Ending) (w' : World) : Prop :=
  ∃ A' c' L l', e = .returned (.slice A' (List.length L) c') ∧ Own .i64 3 w' w.heap.size (.slice A' (List.length L) c') L ∧ IsPick k l ms L l' ∧ ScS w' b k l' ∧ SC w w' (fun j => j = b) (fun j => j = b)

section
variable {ty : TypeId} {w : World} {b : Nat} {k l : Int}
theorem own_ne_sc {q : IntKind} {e : TypeId} {B : Nat} {v : Value} {xs : List Int} (h : Own q e w B v xs) (hs : ScA ty w b k l) (ht : e ≠ ty) : v.ownBlock ≠ some b := by
  rcases h.2 with ⟨hv, _⟩ | ⟨g, cap, cur, hv, _, hh, _⟩
  · rw [hv]; simp [Value.ownBlock]
  · rw [hv]
    intro he
    simp only [Value.ownBlock, Option.some.injEq] at he
    subst he
    obtain ⟨cur', hh', _⟩ := hs
    rw [hh] at hh'
    injection hh' with hh'
    injection hh' with _ ht'
    exact ht ht'
end

theorem newsc_any (k : Int) (w : World) : Calls Try.prog 7 #[.int .i64 k] w fun e w' => e = .returned (.pointer (some ⟨w.heap.size, 0, none⟩)) ∧ ScS w' w.heap.size k (-1) ∧ Below w.heap.size w w' := by
  go_enter Try.func7, Try.ntmps7
  go_wp2
  go_ret
  exact ⟨rfl, ScA.new _ _ k 0, (Below.refl _ _).alloc (Nat.le_refl _) _⟩

theorem ret_bool {a b : Bool} (h : a = b) : Ending.returned (.bool a) = .returned (.bool b) := by rw [h]
theorem nan_s (x : Int) (w : World) : Calls Try.prog 22 #[.int .i64 x] w fun e w' => e = .returned (.bool false) ∧ ∃ q, w' = w.drewN q := by
  go_enter Try.func22, Try.ntmps22
  go_wp2
  go_ret
  exact ⟨ret_bool (by simp), 0, rfl⟩
theorem nan_c (x : Int) (w : World) : Calls Try.prog 23 #[.int .i64 x] w fun e w' => e = .returned (.bool false) ∧ ∃ q, w' = w.drewN q := by
  go_enter Try.func23, Try.ntmps23
  go_wp2
  go_ret
  exact ⟨ret_bool (by simp), 0, rfl⟩
theorem less_any (x y : Int) (w : World) : Calls Try.prog 21 #[.int .i64 x, .int .i64 y] w fun e w' => e = .returned (.bool (decide (x < y))) ∧ ∃ q, w' = w.drewN q := by
  go_enter Try.func21, Try.ntmps21
  go_wp2_with fail
  refine (nan_c x _).mono ?_
  rintro e w1 ⟨rfl, q1, rfl⟩
  go_wp2
  go_ret
  exact ⟨rfl, _, rfl⟩
/-- What the library's Compare answers. -/
def cmpZ (x y : Int) : Int := if x < y then -1 else if y < x then 1 else 0
theorem cmpZ_lt {x y : Int} : cmpZ x y < 0 ↔ x < y := by unfold cmpZ; split <;> first | omega | (split <;> omega)
theorem ret_int {a b : Int} (h : a = b) : Ending.returned (.int .i64 a) = .returned (.int .i64 b) := by rw [h]
theorem compare_any (x y : Int) (w : World) : Calls Try.prog 20 #[.int .i64 x, .int .i64 y] w fun e w' => e = .returned (.int .i64 (cmpZ x y)) ∧ ∃ q, w' = w.drewN q := by
  go_enter Try.func20, Try.ntmps20
  go_wp2_with fail
  refine (nan_c x _).mono ?_
  rintro e w1 ⟨rfl, q1, rfl⟩
  go_wp2_with fail
  refine (nan_c y _).mono ?_
  rintro e w2 ⟨rfl, q2, rfl⟩
  go_wp2
  all_goals go_ret
  · exact ⟨ret_int (by unfold cmpZ; rw [if_pos (by assumption)]), _, rfl⟩
  · exact ⟨ret_int (by unfold cmpZ; rw [if_neg (by omega), if_pos (by assumption)]), _, rfl⟩
  · exact ⟨ret_int (by unfold cmpZ; rw [if_neg (by omega), if_neg (by omega)]), _, rfl⟩

theorem compare_q (x y : Int) (w : World) (n : Nat) : Calls Try.prog 20 #[.int .i64 x, .int .i64 y] (w.drewN n) fun e w' => e = .returned (.int .i64 (cmpZ x y)) ∧ ∃ q, w' = w.drewN q :=
  (compare_any x y _).mono fun _ _ ⟨h1, q, h2⟩ => ⟨h1, n + q, by rw [h2, World.drewN_drewN]⟩

/-- The place, and whether it stands there. -/
def BinEnd (r : Nat) (e : Ending) : Prop := ∃ f, e = .returned (.tuple #[.int .i64 r, .bool f])
set_option maxHeartbeats 1000000 in
/-- Where a number stands in a row that rises, or would. -/
theorem bin_any (A : Option Addr) (n c : Nat) (C : List Int) (hC : C.length = n) (t : Int) (w : World) (hr : Rd .i64 w A C) (hn : n ≤ 1048576) (r : Nat) (hrn : r ≤ n)
    (hlo : ∀ j, j < r → C.getD j 0 < t) (hhi : ∀ j, r ≤ j → j < n → t ≤ C.getD j 0) :
    Calls Try.prog 17 #[.slice A n c, .int .i64 t] w fun e w' => BinEnd r e ∧ ∃ q, w' = w.drewN q := by
  have HRD := Lib.hid (show ∀ q i, i < n → ∃ a o, A = some ⟨a, o, none⟩ ∧ (w.drewN q).cell? ⟨a, o + i, none⟩ = some (.int .i64 (C.getD i 0)) from fun q i hi => by
    obtain ⟨a, o, rfl, hc⟩ := (show Rd .i64 (w.drewN q) A C from hr).some_ (by rw [hC]; omega)
    exact ⟨a, o, rfl, hc i (by omega)⟩)
  have HLO := Lib.hid hlo
  have HHI := Lib.hid hhi
  clear hlo hhi hr hC
  go_enter Try.func17, Try.ntmps17
  go_wp2
  go_loopg [7, 8] n (fun kx s5 s6 wr => ∃ (lo hi q : Nat), s5 = .int .i64 lo ∧ s6 = .int .i64 hi ∧ lo ≤ r ∧ r ≤ hi ∧ hi ≤ n ∧ hi - lo ≤ kx ∧ wr = w.drewN q)
  case atStart => exact ⟨0, n, 0, rfl, rfl, Nat.zero_le _, hrn, Nat.le_refl _, by omega, rfl⟩
  case round =>
    obtain ⟨lo, hi, q, rfl, rfl, hlr, hrh, hin, hg, rfl⟩ := hrel
    by_cases hlt : lo < hi
    · obtain ⟨a, o, rfl, y⟩ := HRD.out q ((lo + hi) / 2) (by omega)
      obtain ⟨x, hx⟩ : ∃ x, C.getD ((lo + hi) / 2) 0 = x := ⟨_, rfl⟩
      rw [hx] at y
      have HX := Lib.hid hx
      clear hx
      have b1 : ((lo : Int) + (hi : Int)) / 2 < (n : Int) := by omega
      have b2 : 0 ≤ ((lo : Int) + (hi : Int)) / 2 := by omega
      by_cases hu : x < t
      · have HU := Lib.hid (show (lo + hi) / 2 + 1 ≤ r by
          rcases Nat.lt_or_ge ((lo + hi) / 2) r with h | h
          · exact h
          · have := HHI.out _ h (by omega); rw [HX.out] at this; omega)
        go_wp2_with fail
        refine (less_any x t _).mono ?_
        rintro e w1 ⟨rfl, q1, rfl⟩
        rw [decide_eq_true hu]
        go_wp2
        go_roundg (hi - ((lo + hi) / 2 + 1))
        case measure => omega
        case rel => exact ⟨(lo + hi) / 2 + 1, hi, q + q1, by rw [show ((lo : Int) + (hi : Int)) / 2 + 1 = (((lo + hi) / 2 + 1 : Nat) : Int) by omega], rfl, HU.out, hrh, hin, Nat.le_refl _, rfl⟩
      · have HU := Lib.hid (show r ≤ (lo + hi) / 2 by
          rcases Nat.lt_or_ge ((lo + hi) / 2) r with h | h
          · have := HLO.out _ h; rw [HX.out] at this; omega
          · exact h)
        go_wp2_with fail
        refine (less_any x t _).mono ?_
        rintro e w1 ⟨rfl, q1, rfl⟩
        rw [decide_eq_false (show ¬ x < t by omega)]
        go_wp2
        go_roundg ((lo + hi) / 2 - lo)
        case measure => omega
        case rel => exact ⟨lo, (lo + hi) / 2, q + q1, rfl, by rw [show ((lo : Int) + (hi : Int)) / 2 = (((lo + hi) / 2 : Nat) : Int) by omega], hlr, HU.out, by omega, Nat.le_refl _, rfl⟩
    · obtain rfl : hi = lo := by omega
      obtain rfl : hi = r := by omega
      by_cases hb : hi < n
      · obtain ⟨a, o, rfl, y⟩ := HRD.out q hi hb
        obtain ⟨x, hx⟩ : ∃ x, C.getD hi 0 = x := ⟨_, rfl⟩
        rw [hx] at y
        have b1 : (hi : Int) < (n : Int) := by omega
        have b2 : 0 ≤ (hi : Int) := by omega
        by_cases he : x = t
        · go_wp2
          go_ret2
          exact ⟨⟨_, rfl⟩, _, rfl⟩
        · go_wp2_with fail
          refine (nan_s x _).mono ?_
          rintro e w1 ⟨rfl, q1, rfl⟩
          go_wp2
          go_ret2
          exact ⟨⟨_, rfl⟩, _, rfl⟩
      · have b1 : ¬ (hi : Int) < (n : Int) := by omega
        go_wp2
        go_ret2
        exact ⟨⟨_, rfl⟩, _, rfl⟩

theorem cell_drS {w : World} {a : Addr} {v : Value} (h : w.cell? a = some v) (q : Nat) : (w.drewN q).cell? a = some v := h
/-- How two paths' means are to each other. -/
theorem qclo_any (b a o n c i j : Nat) (x y : Int) (w : World) (h : w.cell? ⟨b, 0, none⟩ = some (.slice (some ⟨a, o, none⟩) n c)) (hi : i < n) (hj : j < n) (hx : w.cell? ⟨a, o + i, none⟩ = some (.int .i64 x)) (hy : w.cell? ⟨a, o + j, none⟩ = some (.int .i64 y)) :
    Calls Try.prog 19 (#[.int .i64 i, .int .i64 j] ++ #[.pointer (some ⟨b, 0, none⟩)]) w fun e w' => e = .returned (.int .i64 (cmpZ x y)) ∧ ∃ q, w' = w.drewN q := by
  have i0 : (0 : Int) ≤ (i : Int) := by omega
  have j0 : (0 : Int) ≤ (j : Int) := by omega
  have i1 : (i : Int) < (n : Int) := by omega
  have j1 : (j : Int) < (n : Int) := by omega
  clear hi hj
  go_enter Try.func19, Try.ntmps19
  go_wp2
  go_quiet ((go_at_call 20; exact compare_q _ _ _ _))
  go_wp2
  go_ret
  exact ⟨rfl, _, rfl⟩

set_option maxHeartbeats 4000000 in
/-- The first of the least. -/
theorem minf_any (cb : Array Value) (g : Nat) (A : Option Addr) (n c : Nat) (C : List Int) (hC : C.length = n) (hn : n ≤ 1048576) (h0 : 0 < n) (w : World) (hr : Rd .i64 w A C) (eg : ∀ args w, (callFunc g args).run Try.prog w = .ok (.enter g args) w)
    (f : Nat → Int) (hf : ∀ (m i j : Nat), i < n → j < n → Calls Try.prog g (#[.int .i64 (C.getD i 0), .int .i64 (C.getD j 0)] ++ cb) (w.drewN m) fun e w' => e = .returned (.int .i64 (cmpZ (f i) (f j))) ∧ ∃ q, w' = (w.drewN m).drewN q) :
    Calls Try.prog 18 #[.slice A n c, .func (.func g) #[] cb] w fun e w' => (∃ B : Nat, B < n ∧ e = .returned (.int .i64 (C.getD B 0)) ∧ ∀ j, j < n → f B ≤ f j ∧ (j < B → f B < f j)) ∧ ∃ q, w' = w.drewN q := by
  have HRD := Lib.hid (show ∀ q i, i < n → ∃ a o, A = some ⟨a, o, none⟩ ∧ (w.drewN q).cell? ⟨a, o + i, none⟩ = some (.int .i64 (C.getD i 0)) from fun q i hi => by
    obtain ⟨a, o, rfl, hc⟩ := (show Rd .i64 (w.drewN q) A C from hr).some_ (by rw [hC]; omega)
    exact ⟨a, o, rfl, hc i (by omega)⟩)
  have HF := Lib.hid hf
  clear hf hr hC
  obtain ⟨a, o, rfl, y0⟩ := HRD.out 0 0 h0
  have hz : w.drewN 0 = w := rfl
  rw [hz] at y0
  clear hz
  have n0 : ¬ (n : Int) < 1 := by omega
  have n1 : (0 : Int) < (n : Int) := by omega
  obtain ⟨x0, hx0⟩ : ∃ x, C.getD 0 0 = x := ⟨_, rfl⟩
  rw [hx0, Nat.add_zero] at y0
  have HX0 := Lib.hid hx0
  clear hx0
  go_enter Try.func18, Try.ntmps18
  go_wp2_with fail
  go_loopw [5, 6] (fun mv iv wr => ∃ (i B q : Nat), 0 < i ∧ i ≤ n ∧ B < i ∧ mv = .int .i64 (C.getD B 0) ∧ iv = .int .i64 i ∧ wr = w.drewN q ∧ Hid (∀ j, j < i → f B ≤ f j ∧ (j < B → f B < f j))) (fun _ iv _ => n - (intOf iv).toNat)
  case atStart => exact ⟨1, 0, 0, by omega, by omega, by omega, by rw [HX0.out], rfl, rfl, Lib.hid (fun j hj => by
    have : j = 0 := by omega
    subst this
    exact ⟨Int.le_refl _, fun x => by omega⟩)⟩
  case round =>
    obtain ⟨i, B, q, hi0, hi, hB, rfl, rfl, rfl, hall⟩ := hrel
    by_cases hin : i < n
    · obtain ⟨a9, o9, hA9, y⟩ := HRD.out q i hin
      obtain ⟨rfl, rfl⟩ : a = a9 ∧ o = o9 := by injection hA9 with hA9; injection hA9 with h1 h2; exact ⟨h1, h2⟩
      clear hA9
      have hc := HF.out q i B hin (by omega)
      obtain ⟨x, hx⟩ : ∃ x, C.getD i 0 = x := ⟨_, rfl⟩
      obtain ⟨xb, hxb⟩ : ∃ x, C.getD B 0 = x := ⟨_, rfl⟩
      rw [hx] at y
      rw [hx, hxb] at hc
      rw [hxb]
      have HX := Lib.hid hx
      have HXB := Lib.hid hxb
      have i1 : (i : Int) < (n : Int) := by omega
      have i2 : (0 : Int) ≤ (i : Int) := by omega
      have HIW := Lib.hid (show wrap64 ((i : Int) + 1) = ((i + 1 : Nat) : Int) from wrap_atS (by omega) (by omega) (by omega))
      have HI := Lib.hid (And.intro hin (And.intro hi0 hB))
      obtain ⟨z, hz⟩ : ∃ z, cmpZ (f i) (f B) = z := ⟨_, rfl⟩
      rw [hz] at hc
      clear hx hxb hin hi0 hi hB
      by_cases hu : f i < f B
      · have hz0 : z < 0 := by rw [← hz]; exact cmpZ_lt.2 hu
        have HNX : Hid (∀ j, j < i + 1 → f i ≤ f j ∧ (j < i → f i < f j)) := Lib.hid (fun j hj => by
          by_cases e : j = i
          · subst e; exact ⟨Int.le_refl _, fun x => by omega⟩
          · have := hall.out j (by omega)
            exact ⟨by omega, fun _ => by omega⟩)
        clear hz hall hu
        go_wp2_with fail
        refine hc.mono ?_
        rintro e w1 ⟨rfl, q1, rfl⟩
        have y2 : (w.drewN (q + q1)).cell? ⟨a, o + i, none⟩ = some (.int .i64 x) := y
        go_wp2
        go_roundw
        case rel => exact ⟨i + 1, i, q + q1, by omega, by have := HI.out; omega, by omega, by rw [HX.out], by first | rfl | (rw [HIW.out]) | go_num, by first | rfl | (rw [World.drewN_drewN]), HNX⟩
        case measure => (try rw [HIW.out]); have := HI.out; simp [intOf]; omega
      · have hz0 : ¬ z < 0 := by rw [← hz]; exact fun h => hu (cmpZ_lt.1 h)
        have HNX : Hid (∀ j, j < i + 1 → f B ≤ f j ∧ (j < B → f B < f j)) := Lib.hid (fun j hj => by
          by_cases e : j = i
          · subst e; exact ⟨by omega, fun x => by have := HI.out; omega⟩
          · exact hall.out j (by omega))
        clear hz hall hu
        go_wp2_with fail
        refine hc.mono ?_
        rintro e w1 ⟨rfl, q1, rfl⟩
        go_wp2
        go_roundw
        case rel => exact ⟨i + 1, B, q + q1, by omega, by have := HI.out; omega, by have := HI.out; omega, by rw [HXB.out], by first | rfl | (rw [HIW.out]) | go_num, by first | rfl | (rw [World.drewN_drewN]), HNX⟩
        case measure => (try rw [HIW.out]); have := HI.out; simp [intOf]; omega
    · have : i = n := by omega
      subst this
      have HFIN := Lib.hid (show ∃ B' : Nat, B' < i ∧ Ending.returned (.int .i64 (C.getD B 0)) = .returned (.int .i64 (C.getD B' 0)) ∧ ∀ j, j < i → f B' ≤ f j ∧ (j < B' → f B' < f j) from ⟨B, hB, rfl, hall.out⟩)
      have i1 : ¬ ((i : Int) < (i : Int)) := by omega
      obtain ⟨xb, hxb⟩ : ∃ x, C.getD B 0 = x := ⟨_, rfl⟩
      rw [hxb] at HFIN ⊢
      clear hall hxb hB
      go_wp2
      go_ret
      exact ⟨HFIN.out, _, rfl⟩
end Go.Proofs.Ytffofgockddpiaa

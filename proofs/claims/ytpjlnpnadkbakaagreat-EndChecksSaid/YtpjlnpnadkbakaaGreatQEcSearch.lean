/-
  Search.
-/
import Derived.Test.YtpjlnpnadkbakaaGreatRows
import Derived.Test.YtpjlnpnadkbakaaGreatQEcPair
import Derived.Test.YtpjlnpnadkbakaaGreatQEcRangesMath
import Derived.Handy
import Derived.Deep.QuietTactic
import Derived.Deep.LoopGhost
import Derived.BigQuiet
import Derived.Shelf.SlSortCmp.QuietGrown
import Derived.WalkLawsBesides
namespace Go.Proofs.YtpjlnpnadkbakaaGreat
set_option maxRecDepth 10000
open Go.RowKit
open Go.Sort (grow grow_grow grow_empty alloc_eq_grow)

/-- A Set: one cell that holds its list, which is the call's own. -/
structure SetAt (w : World) (B p : Nat) (v : Value) (ps : List (Int × Int)) : Prop where
  row : w.rowIs p 230 1 (fun _ => v)
  own : OwnP 143 w B v ps
  ge : B ≤ p
  norm : Norm ps

section
variable {w w' : World} {B p : Nat} {v : Value} {ps : List (Int × Int)}
theorem SetAt.lt (h : SetAt w B p v ps) : p < w.heap.size := World.rowIs.lt h.row
theorem SetAt.drewN (h : SetAt w B p v ps) (n : Nat) : SetAt (w.drewN n) B p v ps := ⟨h.row, h.own, h.ge, h.norm⟩
theorem SetAt.drew (h : SetAt w B p v ps) : SetAt w.drew B p v ps := ⟨h.row, h.own, h.ge, h.norm⟩
theorem SetAt.later (h : SetAt w B p v ps) (hb : Below w.heap.size w w') : SetAt w' B p v ps := ⟨World.rowIs.of_block h.row (hb.block p h.lt), h.own.later hb, h.ge, h.norm⟩
theorem SetAt.alloc (h : SetAt w B p v ps) (o : Obj) : SetAt (w.alloc o) B p v ps := h.later ((Below.refl _ _).alloc (Nat.le_refl _) _)
theorem SetAt.c0 (h : SetAt w B p v ps) : w.cell? ⟨p, 0, none⟩ = some v := World.rowIs.cell (i := 0) h.row (by omega)
theorem SetAt.fr (h : SetAt w B p v ps) (i : Nat) : w.frozen? ⟨p, i, none⟩ = false := World.rowIs.frozen h.row i
theorem SetAt.form (h : SetAt w B p v ps) : (v = .slice none 0 0 ∧ ps = []) ∨ ∃ g c, v = .slice (some ⟨g, 0, none⟩) ps.length c := by
  rcases h.own.parts with h | ⟨g, cap, cur, h, _⟩
  · exact .inl h
  · exact .inr ⟨g, cap, h⟩
/-- A Set's list never lies where a Set lies. -/
theorem own_not_set {q : Nat} {u : Value} {B' : Nat} {qs : List (Int × Int)} (h : OwnP 143 w B' u qs) {f : Nat → Value} {n : Nat} (hr : w.rowIs q 230 n f) : u.ownBlock ≠ some q := by
  rcases h.parts with ⟨rfl, _⟩ | ⟨g, cap, cur, rfl, _, hg, _⟩
  · simp [Value.ownBlock]
  · intro he
    simp only [Value.ownBlock, Option.some.injEq] at he
    subst he
    obtain ⟨cur', hh, _⟩ := hr
    rw [hg] at hh
    injection hh with hh
    injection hh with _ ht
    exact absurd ht (by decide)
end

theorem below_grow (B : Nat) (w : World) (q : Nat) (os : Array Obj) (hB : B ≤ w.heap.size) : Below B w (grow (w.drewN q) os) :=
  ⟨rfl, rfl, rfl, by first | (simp [grow]; done) | (simp [grow]; omega), fun i hi => by
    show ((w.drewN q).heap ++ os)[i]? = _
    rw [Array.getElem?_append_left (by show i < w.heap.size; omega)]
    rfl⟩
theorem SetAt.grow {w : World} {B p : Nat} {v : Value} {ps : List (Int × Int)} (h : SetAt w B p v ps) (q : Nat) (os : Array Obj) : SetAt (grow (w.drewN q) os) B p v ps := h.later (below_grow _ _ _ _ (Nat.le_refl _))
theorem two_grown (w : World) (o1 o2 : Obj) (q : Nat) : ((w.alloc o1).alloc o2).drewN q = grow (w.drewN q) #[o1, o2] := by
  rw [alloc_eq_grow, alloc_eq_grow]
  show grow (grow (w.drewN q) #[o1]) #[o2] = _
  rw [grow_grow]
  rfl

set_option maxHeartbeats 1000000 in
/-- sort.Search, of a function that only reads. -/
theorem search_any (g : Nat) (cb : Array Value) (n : Nat) (p : Nat → Bool) (w : World) (eg : ∀ args w, (callFunc g args).run Tryz.prog w = .ok (.enter g args) w) (hsz : n < 4611686018427387904)
    (hf : ∀ (m : Nat) (i : Nat), i < n → Calls Tryz.prog g (#[.int .i64 i] ++ cb) (w.drewN m) fun e w' => e = .returned (.bool (p i)) ∧ ∃ q, w' = (w.drewN m).drewN q)
    (r : Nat) (hr : r ≤ n) (hlo : ∀ t, t < r → p t = false) (hhi : ∀ t, r ≤ t → t < n → p t = true) :
    Calls Tryz.prog 263 #[.int .i64 n, .func (.func g) #[] cb] w fun e w' => e = .returned (.int .i64 r) ∧ ∃ q, w' = w.drewN q := by
  have hmono : ∀ a b, a ≤ b → b < n → p a = true → p b = true := fun a b hab hb ha => by
    refine hhi b ?_ hb
    rcases Nat.lt_or_ge a r with h | h
    · rw [hlo a h] at ha; cases ha
    · omega
  have HLO := Lib.hid hlo
  have HHI := Lib.hid hhi
  clear hlo hhi
  have HF := Lib.hid hf
  have M := Lib.hid hmono
  clear hf hmono
  go_enter Tryz.func263, Tryz.ntmps263
  go_wp2
  go_loopg [5, 6] n (fun kx s5 s6 wr => ∃ (lo hi q : Nat), s5 = .int .i64 lo ∧ s6 = .int .i64 hi ∧ lo ≤ hi ∧ hi ≤ n ∧ hi - lo ≤ kx ∧ wr = w.drewN q ∧
    Hid ((∀ t, t < lo → p t = false) ∧ (∀ t, hi ≤ t → t < n → p t = true)))
  case atStart => exact ⟨0, n, 0, rfl, rfl, Nat.zero_le _, Nat.le_refl _, by omega, rfl, (⟨fun t ht => absurd ht (Nat.not_lt_zero _), fun t h1 h2 => by omega⟩ : (∀ t, t < 0 → p t = false) ∧ (∀ t, n ≤ t → t < n → p t = true))⟩
  case round =>
    obtain ⟨lo, hi, q, rfl, rfl, hlh, hin, hg, rfl, I⟩ := hrel
    by_cases hlt : lo < hi
    · have hc := HF.out q ((lo + hi) / 2) (by omega)
      rw [show (((lo + hi) / 2 : Nat) : Int) = ((lo : Int) + (hi : Int)) / 2 by omega] at hc
      cases hp : p ((lo + hi) / 2) <;> rw [hp] at hc
      · have HP := Lib.hid hp
        clear hp
        go_wp2_with fail
        refine hc.mono ?_
        rintro e w' ⟨rfl, nq, rfl⟩
        go_wp2
        go_roundg (hi - ((lo + hi) / 2 + 1))
        case measure => omega
        case rel =>
          have I2 : Hid ((∀ t, t < (lo + hi) / 2 + 1 → p t = false) ∧ (∀ t, hi ≤ t → t < n → p t = true)) := ⟨fun t ht => (by
            cases h : p t with
            | false => rfl
            | true => have := M.out t ((lo + hi) / 2) (by omega) (by omega) h; rw [HP.out] at this; cases this), I.out.2⟩
          exact ⟨(lo + hi) / 2 + 1, hi, q + nq, by rw [show ((lo : Int) + (hi : Int)) / 2 + 1 = (((lo + hi) / 2 + 1 : Nat) : Int) by omega], rfl, by omega, hin, Nat.le_refl _, rfl, I2⟩
      · have HP := Lib.hid hp
        clear hp
        go_wp2_with fail
        refine hc.mono ?_
        rintro e w' ⟨rfl, nq, rfl⟩
        go_wp2
        go_roundg ((lo + hi) / 2 - lo)
        case measure => omega
        case rel =>
          have I2 : Hid ((∀ t, t < lo → p t = false) ∧ (∀ t, (lo + hi) / 2 ≤ t → t < n → p t = true)) := ⟨I.out.1, fun t ht htn => M.out ((lo + hi) / 2) t ht htn HP.out⟩
          exact ⟨lo, (lo + hi) / 2, q + nq, rfl, by rw [show ((lo : Int) + (hi : Int)) / 2 = (((lo + hi) / 2 : Nat) : Int) by omega], by omega, by omega, Nat.le_refl _, rfl, I2⟩
    · obtain rfl : hi = lo := by omega
      have er : hi = r := by
        rcases Nat.lt_trichotomy hi r with h | h | h
        · have h1 := I.out.2 hi (Nat.le_refl _) (by omega)
          rw [HLO.out hi h] at h1; cases h1
        · exact h
        · have h1 := I.out.1 r h
          rw [HHI.out r (Nat.le_refl _) (by omega)] at h1; cases h1
      subst er
      go_wp2
      go_ret
      exact ⟨rfl, q, rfl⟩

set_option maxHeartbeats 400000 in
theorem reach_clo (b1 b2 p g n c i : Nat) (place y : Int) (w : World) (h1 : w.cell? ⟨b1, 0, none⟩ = some (.pointer (some ⟨p, 0, none⟩))) (h2 : w.cell? ⟨b2, 0, none⟩ = some (.int .i64 place))
    (hp : w.cell? ⟨p, 0, none⟩ = some (.slice (some ⟨g, 0, none⟩) n c)) (hi : (i : Int) < (n : Int)) (hc : w.cell? ⟨g, i * 2 + 1, none⟩ = some (.int .i64 y)) :
    Calls Tryz.prog 264 (#[.int .i64 i] ++ #[.pointer (some ⟨b1, 0, none⟩), .pointer (some ⟨b2, 0, none⟩)]) w fun e w' => e = .returned (.bool (decide (place ≤ y))) ∧ ∃ q, w' = w.drewN q := by
  have h0 : (0 : Int) ≤ (i : Int) := by omega
  go_enter Tryz.func264, Tryz.ntmps264
  go_wp2
  go_quiet (fail)
  go_wp2
  go_ret
  exact ⟨rfl, _, rfl⟩

set_option maxHeartbeats 400000 in
theorem touch_clo (b1 b2 p g n c i : Nat) (place y : Int) (w : World) (h1 : w.cell? ⟨b1, 0, none⟩ = some (.pointer (some ⟨p, 0, none⟩))) (h2 : w.cell? ⟨b2, 0, none⟩ = some (.int .i64 place))
    (hp : w.cell? ⟨p, 0, none⟩ = some (.slice (some ⟨g, 0, none⟩) n c)) (hi : (i : Int) < (n : Int)) (hc : w.cell? ⟨g, i * 2, none⟩ = some (.int .i64 y)) :
    Calls Tryz.prog 265 (#[.int .i64 i] ++ #[.pointer (some ⟨b1, 0, none⟩), .pointer (some ⟨b2, 0, none⟩)]) w fun e w' => e = .returned (.bool (decide (place < y))) ∧ ∃ q, w' = w.drewN q := by
  have h0 : (0 : Int) ≤ (i : Int) := by omega
  go_enter Tryz.func265, Tryz.ntmps265
  go_wp2
  go_quiet (fail)
  go_wp2
  go_ret
  exact ⟨rfl, _, rfl⟩

/-- Where the Ranges begin that end at place or behind. -/
structure Reach (ps : List (Int × Int)) (place : Int) (a : Nat) : Prop where
  le : a ≤ ps.length
  ahead : ∀ i, i < a → (ps.getD i (0, 0)).2 < place
  from_ : ∀ i, a ≤ i → i < ps.length → place ≤ (ps.getD i (0, 0)).2

set_option maxHeartbeats 1000000 in
theorem reaching_any (p : Nat) (v : Value) (ps : List (Int × Int)) (B a : Nat) (place : Int) (w : World) (h : SetAt w B p v ps) (hr : Reach ps place a) (hl : ps.length < 4611686018427387904) :
    Calls Tryz.prog 231 #[.pointer (some ⟨p, 0, none⟩), .int .i64 place] w fun e w' => e = .returned (.int .i64 a) ∧ ∃ q os, w' = grow (w.drewN q) os := by
  have eg : ∀ args w, (callFunc 264 args).run Tryz.prog w = .ok (.enter 264 args) w := enters_of Tryz.func264 (by kernel_rfl) rfl
  obtain ⟨W0, hW0⟩ : ∃ W0, W0 = (w.alloc (.cells #[.pointer (some ⟨p, 0, none⟩)] 177)).alloc (.cells #[.int .i64 place] 3) := ⟨_, rfl⟩
  have c0 : w.cell? ⟨p, 0, none⟩ = some v := h.c0
  have hS : Calls Tryz.prog 263 #[.int .i64 ps.length, .func (.func 264) #[] #[.pointer (some ⟨w.heap.size, 0, none⟩), .pointer (some ⟨w.heap.size + 1, 0, none⟩)]] W0 fun e w' => e = .returned (.int .i64 a) ∧ ∃ q, w' = W0.drewN q := by
    have hs0 : SetAt W0 B p v ps := by rw [hW0]; exact (h.alloc _).alloc _
    have k1 : W0.cell? ⟨w.heap.size, 0, none⟩ = some (.pointer (some ⟨p, 0, none⟩)) := by
      rw [hW0]
      exact cell_later ((Below.refl _ _).alloc (Nat.le_refl _) _) (by rw [World.cell?_alloc_at _ _ _ _ rfl]; rfl)
    have k2 : W0.cell? ⟨w.heap.size + 1, 0, none⟩ = some (.int .i64 place) := by
      rw [hW0, World.cell?_alloc_at _ _ _ _ (by simp)]; rfl
    refine search_any 264 _ ps.length (fun i => decide (place ≤ (ps.getD i (0, 0)).2)) W0 eg hl ?_ a hr.le (fun t ht => by simpa using hr.ahead t ht) (fun t h1 h2 => by simpa using hr.from_ t h1 h2)
    intro m i hi
    rcases hs0.form with ⟨_, rfl⟩ | ⟨g, c, rfl⟩
    · simp at hi
    · exact reach_clo w.heap.size (w.heap.size + 1) p g ps.length c i place _ (W0.drewN m) k1 k2 hs0.c0 (by omega) (hs0.own.cells i hi).2
  have HS := Lib.hid hS
  clear hS eg
  have hfin : ∀ q, W0.drewN q = grow (w.drewN q) #[.cells #[.pointer (some ⟨p, 0, none⟩)] 177, .cells #[.int .i64 place] 3] := fun q => by rw [hW0]; exact two_grown _ _ _ _
  obtain ⟨A, c, hv⟩ := h.own.form
  subst hv
  have hc : (w.alloc (.cells #[.pointer (some ⟨p, 0, none⟩)] 177)).cell? ⟨p, 0, none⟩ = some (.slice A ps.length c) := (h.alloc _).c0
  have hc2 : W0.cell? ⟨p, 0, none⟩ = some (.slice A ps.length c) := by rw [hW0]; exact ((h.alloc _).alloc _).c0
  have HFIN := Lib.hid hfin
  clear h hr hfin
  subst hW0
  obtain ⟨n, hn⟩ : ∃ n, ps.length = n := ⟨_, rfl⟩
  rw [hn] at HS hc hc2 c0
  clear hn hl
  go_enter Tryz.func231, Tryz.ntmps231
  go_wp2_with fail
  refine HS.out.mono ?_
  rintro e w' ⟨rfl, q, rfl⟩
  go_wp2
  go_ret
  exact ⟨rfl, q, _, HFIN.out q⟩

set_option maxHeartbeats 2000000 in
theorem touched_any (p : Nat) (v : Value) (ps : List (Int × Int)) (B a b : Nat) (f t : Int) (w : World) (h : SetAt w B p v ps) (hr : Touch ps f t a b) (hl : ps.length < 4611686018427387904) :
    Calls Tryz.prog 232 #[.pointer (some ⟨p, 0, none⟩), .int .i64 f, .int .i64 t] w fun e w' => e = .returned (.tuple #[.int .i64 a, .int .i64 b]) ∧ ∃ q os, w' = grow (w.drewN q) os := by
  have eg : ∀ args w, (callFunc 265 args).run Tryz.prog w = .ok (.enter 265 args) w := enters_of Tryz.func265 (by kernel_rfl) rfl
  obtain ⟨W0, hW0⟩ : ∃ W0, W0 = (w.alloc (.cells #[.pointer (some ⟨p, 0, none⟩)] 177)).alloc (.cells #[.int .i64 t] 3) := ⟨_, rfl⟩
  have hs0 : SetAt W0 B p v ps := by rw [hW0]; exact (h.alloc _).alloc _
  have k1 : W0.cell? ⟨w.heap.size, 0, none⟩ = some (.pointer (some ⟨p, 0, none⟩)) := by
    rw [hW0]
    exact cell_later ((Below.refl _ _).alloc (Nat.le_refl _) _) (by rw [World.cell?_alloc_at _ _ _ _ rfl]; rfl)
  have k2 : W0.cell? ⟨w.heap.size + 1, 0, none⟩ = some (.int .i64 t) := by
    rw [hW0, World.cell?_alloc_at _ _ _ _ (by simp)]; rfl
  have hsz : W0.heap.size = w.heap.size + 2 := by rw [hW0]; simp
  have g1 : ∀ n os, (grow (W0.drewN n) os).cell? ⟨w.heap.size, 0, none⟩ = some (.pointer (some ⟨p, 0, none⟩)) := fun n os => cell_grown (by show w.heap.size < _; omega) k1 n os
  have g2 : ∀ n os, (grow (W0.drewN n) os).cell? ⟨w.heap.size + 1, 0, none⟩ = some (.int .i64 t) := fun n os => cell_grown (by show w.heap.size + 1 < _; omega) k2 n os
  have g3 : ∀ n os, (grow (W0.drewN n) os).cell? ⟨p, 0, none⟩ = some v := fun n os => (hs0.grow n os).c0
  have hS : ∀ n os, Calls Tryz.prog 263 #[.int .i64 ps.length, .func (.func 265) #[] #[.pointer (some ⟨w.heap.size, 0, none⟩), .pointer (some ⟨w.heap.size + 1, 0, none⟩)]] (grow (W0.drewN n) os) fun e w' => e = .returned (.int .i64 b) ∧ ∃ q os', w' = grow ((grow (W0.drewN n) os).drewN q) os' := by
    intro n os
    have hs1 := hs0.grow n os
    refine (search_any 265 _ ps.length (fun i => decide (t < (ps.getD i (0, 0)).1)) (grow (W0.drewN n) os) eg hl ?_ b hr.lb (fun i hi => by have := hr.upto i hi; simpa using this) (fun i h1 h2 => by simpa using hr.behind i h1 h2)).mono fun _ _ ⟨he, q, hq⟩ => ⟨he, q, #[], by rw [hq, grow_empty]⟩
    intro m i hi
    rcases hs1.form with ⟨_, rfl⟩ | ⟨g, c, rfl⟩
    · simp at hi
    · exact touch_clo w.heap.size (w.heap.size + 1) p g ps.length c i t _ ((grow (W0.drewN n) os).drewN m) (g1 n os) (g2 n os) hs1.c0 (by omega) (hs1.own.cells i hi).1
  have hR : ∀ n os, Calls Tryz.prog 231 #[.pointer (some ⟨p, 0, none⟩), .int .i64 f] (grow (W0.drewN n) os) fun e w' => e = .returned (.int .i64 a) ∧ ∃ q os', w' = grow ((grow (W0.drewN n) os).drewN q) os' :=
    fun n os => reaching_any p v ps B a f _ (hs0.grow n os) ⟨Nat.le_trans hr.le hr.lb, hr.ahead, hr.from_⟩ hl
  have HS := Lib.hid hS
  have HR := Lib.hid hR
  have hfin : ∀ q os, grow (W0.drewN q) os = grow (w.drewN q) (#[.cells #[.pointer (some ⟨p, 0, none⟩)] 177, .cells #[.int .i64 t] 3] ++ os) := fun q os => by rw [hW0, two_grown, grow_grow]
  have HFIN := Lib.hid hfin
  obtain ⟨A, c, hv⟩ := h.own.form
  subst hv
  clear hS hR eg hfin h hr hs0 k1 k2 hsz
  obtain ⟨n, hn⟩ : ∃ n, ps.length = n := ⟨_, rfl⟩
  rw [hn] at HS g3
  clear hn hl
  go_enter Tryz.func232, Tryz.ntmps232
  have mixed : Tryz.prog.follows .mixedOrders = true := by kernel_rfl
  go_wp2
  rw [← hW0]
  clear hW0
  go_quiet_grown ((first | (go_at_call 231; exact Calls.grown_of (HR.out _ _)) | (go_at_call 263; exact Calls.grown_of (HS.out _ _))))
  go_wp2
  go_ret2
  exact ⟨rfl, _, _, HFIN.out _ _⟩
end Go.Proofs.YtpjlnpnadkbakaaGreat

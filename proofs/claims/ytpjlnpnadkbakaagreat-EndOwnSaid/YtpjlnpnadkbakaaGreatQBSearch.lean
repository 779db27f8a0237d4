/-
  Search · Replace.
-/
import Derived.Test.YtpjlnpnadkbakaaGreatRows
import Derived.Test.YtpjlnpnadkbakaaGreatQBPair
import Derived.Test.YtpjlnpnadkbakaaGreatQBRangesMath
import Derived.Handy
import Derived.Deep.QuietTactic
import Derived.Deep.LoopGhost
import Derived.BigQuiet
import Derived.Shelf.SlSortCmp.QuietGrown
import Derived.WalkLawsBesides
import Derived.Deep.RegionLaw
import Derived.Lib.Walk
namespace Go.Proofs.YtpjlnpnadkbakaaGreat
set_option maxRecDepth 10000
open Go.RowKit
open Go.Sort (grow grow_grow grow_empty alloc_eq_grow)
structure SetAt (w : World) (B p : Nat) (v : Value) (ps : List (Int × Int)) : Prop where
  row : w.rowIs p 230 1 (fun _ => v)
  own : OwnP 143 w B v ps
  ge : B ≤ p
  norm : Norm ps
section
variable {w w' : World} {B p : Nat} {v : Value} {ps : List (Int × Int)}
theorem SetAt.lt (h : SetAt w B p v ps) : p < w.heap.size := World.rowIs.lt h.row
theorem SetAt.drewN (h : SetAt w B p v ps) (n : Nat) : SetAt (w.drewN n) B p v ps := ⟨h.row, h.own, h.ge, h.norm⟩
theorem SetAt.drew (h : SetAt w B p v ps) : SetAt w.drew B p v ps := ⟨h.row, h.own, h.ge, h.norm⟩
theorem SetAt.later (h : SetAt w B p v ps) (hb : Below w.heap.size w w') : SetAt w' B p v ps := ⟨World.rowIs.of_block h.row (hb.block p h.lt), h.own.later hb, h.ge, h.norm⟩
theorem SetAt.alloc (h : SetAt w B p v ps) (o : Obj) : SetAt (w.alloc o) B p v ps := h.later ((Below.refl _ _).alloc (Nat.le_refl _) _)
theorem SetAt.c0 (h : SetAt w B p v ps) : w.cell? ⟨p, 0, none⟩ = some v := World.rowIs.cell (i := 0) h.row (by omega)
theorem SetAt.fr (h : SetAt w B p v ps) (i : Nat) : w.frozen? ⟨p, i, none⟩ = false := World.rowIs.frozen h.row i
theorem SetAt.form (h : SetAt w B p v ps) : (v = .slice none 0 0 ∧ ps = []) ∨ ∃ g c, v = .slice (some ⟨g, 0, none⟩) ps.length c := by
  rcases h.own.parts with h | ⟨g, cap, cur, h, _⟩
  · exact .inl h
  · exact .inr ⟨g, cap, h⟩
theorem own_not_set {q : Nat} {u : Value} {B' : Nat} {qs : List (Int × Int)} (h : OwnP 143 w B' u qs) {f : Nat → Value} {n : Nat} (hr : w.rowIs q 230 n f) : u.ownBlock ≠ some q := by
  rcases h.parts with ⟨rfl, _⟩ | ⟨g, cap, cur, rfl, _, hg, _⟩
  · simp [Value.ownBlock]
  · intro he
    simp only [Value.ownBlock, Option.some.injEq] at he
    subst he
    obtain ⟨cur', hh, _⟩ := hr
    rw [hg] at hh
    injection hh with hh
    injection hh with _ ht
    exact absurd ht (by decide)
end
theorem below_grow (B : Nat) (w : World) (q : Nat) (os : Array Obj) (hB : B ≤ w.heap.size) : Below B w (grow (w.drewN q) os) :=
  ⟨rfl, rfl, rfl, by first | (simp [grow]; done) | (simp [grow]; omega), fun i hi => by
    show ((w.drewN q).heap ++ os)[i]? = _
    rw [Array.getElem?_append_left (by show i < w.heap.size; omega)]
    rfl⟩
theorem SetAt.grow {w : World} {B p : Nat} {v : Value} {ps : List (Int × Int)} (h : SetAt w B p v ps) (q : Nat) (os : Array Obj) : SetAt (grow (w.drewN q) os) B p v ps := h.later (below_grow _ _ _ _ (Nat.le_refl _))
theorem two_grown (w : World) (o1 o2 : Obj) (q : Nat) : ((w.alloc o1).alloc o2).drewN q = grow (w.drewN q) #[o1, o2] := by
  rw [alloc_eq_grow, alloc_eq_grow]
  show grow (grow (w.drewN q) #[o1]) #[o2] = _
  rw [grow_grow]
  rfl
set_option maxHeartbeats 1000000 in
theorem search_any (g : Nat) (cb : Array Value) (n : Nat) (p : Nat → Bool) (w : World) (eg : ∀ args w, (callFunc g args).run Tryz.prog w = .ok (.enter g args) w) (hsz : n < 4611686018427387904)
    (hf : ∀ (m : Nat) (i : Nat), i < n → Calls Tryz.prog g (#[.int .i64 i] ++ cb) (w.drewN m) fun e w' => e = .returned (.bool (p i)) ∧ ∃ q, w' = (w.drewN m).drewN q)
    (r : Nat) (hr : r ≤ n) (hlo : ∀ t, t < r → p t = false) (hhi : ∀ t, r ≤ t → t < n → p t = true) :
    Calls Tryz.prog 263 #[.int .i64 n, .func (.func g) #[] cb] w fun e w' => e = .returned (.int .i64 r) ∧ ∃ q, w' = w.drewN q := by
  have hmono : ∀ a b, a ≤ b → b < n → p a = true → p b = true := fun a b hab hb ha => by
    refine hhi b ?_ hb
    rcases Nat.lt_or_ge a r with h | h
    · rw [hlo a h] at ha; cases ha
    · omega
  have HLO := Lib.hid hlo
  have HHI := Lib.hid hhi
  clear hlo hhi
  have HF := Lib.hid hf
  have M := Lib.hid hmono
  clear hf hmono
  go_enter Tryz.func263, Tryz.ntmps263
  go_wp2
  go_loopg [5, 6] n (fun kx s5 s6 wr => ∃ (lo hi q : Nat), s5 = .int .i64 lo ∧ s6 = .int .i64 hi ∧ lo ≤ hi ∧ hi ≤ n ∧ hi - lo ≤ kx ∧ wr = w.drewN q ∧
    Hid ((∀ t, t < lo → p t = false) ∧ (∀ t, hi ≤ t → t < n → p t = true)))
  case atStart => exact ⟨0, n, 0, rfl, rfl, Nat.zero_le _, Nat.le_refl _, by omega, rfl, (⟨fun t ht => absurd ht (Nat.not_lt_zero _), fun t h1 h2 => by omega⟩ : (∀ t, t < 0 → p t = false) ∧ (∀ t, n ≤ t → t < n → p t = true))⟩
  case round =>
    obtain ⟨lo, hi, q, rfl, rfl, hlh, hin, hg, rfl, I⟩ := hrel
    by_cases hlt : lo < hi
    · have hc := HF.out q ((lo + hi) / 2) (by omega)
      rw [show (((lo + hi) / 2 : Nat) : Int) = ((lo : Int) + (hi : Int)) / 2 by omega] at hc
      cases hp : p ((lo + hi) / 2) <;> rw [hp] at hc
      · have HP := Lib.hid hp
        clear hp
        go_wp2_with fail
        refine hc.mono ?_
        rintro e w' ⟨rfl, nq, rfl⟩
        go_wp2
        go_roundg (hi - ((lo + hi) / 2 + 1))
        case measure => omega
        case rel =>
          have I2 : Hid ((∀ t, t < (lo + hi) / 2 + 1 → p t = false) ∧ (∀ t, hi ≤ t → t < n → p t = true)) := ⟨fun t ht => (by
            cases h : p t with
            | false => rfl
            | true => have := M.out t ((lo + hi) / 2) (by omega) (by omega) h; rw [HP.out] at this; cases this), I.out.2⟩
          exact ⟨(lo + hi) / 2 + 1, hi, q + nq, by rw [show ((lo : Int) + (hi : Int)) / 2 + 1 = (((lo + hi) / 2 + 1 : Nat) : Int) by omega], rfl, by omega, hin, Nat.le_refl _, rfl, I2⟩
      · have HP := Lib.hid hp
        clear hp
        go_wp2_with fail
        refine hc.mono ?_
        rintro e w' ⟨rfl, nq, rfl⟩
        go_wp2
        go_roundg ((lo + hi) / 2 - lo)
        case measure => omega
        case rel =>
          have I2 : Hid ((∀ t, t < lo → p t = false) ∧ (∀ t, (lo + hi) / 2 ≤ t → t < n → p t = true)) := ⟨I.out.1, fun t ht htn => M.out ((lo + hi) / 2) t ht htn HP.out⟩
          exact ⟨lo, (lo + hi) / 2, q + nq, rfl, by rw [show ((lo : Int) + (hi : Int)) / 2 = (((lo + hi) / 2 : Nat) : Int) by omega], by omega, by omega, Nat.le_refl _, rfl, I2⟩
    · obtain rfl : hi = lo := by omega
      have er : hi = r := by
        rcases Nat.lt_trichotomy hi r with h | h | h
        · have h1 := I.out.2 hi (Nat.le_refl _) (by omega)
          rw [HLO.out hi h] at h1; cases h1
        · exact h
        · have h1 := I.out.1 r h
          rw [HHI.out r (Nat.le_refl _) (by omega)] at h1; cases h1
      subst er
      go_wp2
      go_ret
      exact ⟨rfl, q, rfl⟩
set_option maxHeartbeats 400000 in
theorem reach_clo (b1 b2 p g n c i : Nat) (place y : Int) (w : World) (h1 : w.cell? ⟨b1, 0, none⟩ = some (.pointer (some ⟨p, 0, none⟩))) (h2 : w.cell? ⟨b2, 0, none⟩ = some (.int .i64 place))
    (hp : w.cell? ⟨p, 0, none⟩ = some (.slice (some ⟨g, 0, none⟩) n c)) (hi : (i : Int) < (n : Int)) (hc : w.cell? ⟨g, i * 2 + 1, none⟩ = some (.int .i64 y)) :
    Calls Tryz.prog 264 (#[.int .i64 i] ++ #[.pointer (some ⟨b1, 0, none⟩), .pointer (some ⟨b2, 0, none⟩)]) w fun e w' => e = .returned (.bool (decide (place ≤ y))) ∧ ∃ q, w' = w.drewN q := by
  have h0 : (0 : Int) ≤ (i : Int) := by omega
  go_enter Tryz.func264, Tryz.ntmps264
  go_wp2
  go_quiet (fail)
  go_wp2
  go_ret
  exact ⟨rfl, _, rfl⟩
set_option maxHeartbeats 400000 in
theorem touch_clo (b1 b2 p g n c i : Nat) (place y : Int) (w : World) (h1 : w.cell? ⟨b1, 0, none⟩ = some (.pointer (some ⟨p, 0, none⟩))) (h2 : w.cell? ⟨b2, 0, none⟩ = some (.int .i64 place))
    (hp : w.cell? ⟨p, 0, none⟩ = some (.slice (some ⟨g, 0, none⟩) n c)) (hi : (i : Int) < (n : Int)) (hc : w.cell? ⟨g, i * 2, none⟩ = some (.int .i64 y)) :
    Calls Tryz.prog 265 (#[.int .i64 i] ++ #[.pointer (some ⟨b1, 0, none⟩), .pointer (some ⟨b2, 0, none⟩)]) w fun e w' => e = .returned (.bool (decide (place < y))) ∧ ∃ q, w' = w.drewN q := by
  have h0 : (0 : Int) ≤ (i : Int) := by omega
  go_enter Tryz.func265, Tryz.ntmps265
  go_wp2
  go_quiet (fail)
  go_wp2
  go_ret
  exact ⟨rfl, _, rfl⟩
structure Reach (ps : List (Int × Int)) (place : Int) (a : Nat) : Prop where
  le : a ≤ ps.length
  ahead : ∀ i, i < a → (ps.getD i (0, 0)).2 < place
  from_ : ∀ i, a ≤ i → i < ps.length → place ≤ (ps.getD i (0, 0)).2
set_option maxHeartbeats 1000000 in
theorem reaching_any (p : Nat) (v : Value) (ps : List (Int × Int)) (B a : Nat) (place : Int) (w : World) (h : SetAt w B p v ps) (hr : Reach ps place a) (hl : ps.length < 4611686018427387904) :
    Calls Tryz.prog 231 #[.pointer (some ⟨p, 0, none⟩), .int .i64 place] w fun e w' => e = .returned (.int .i64 a) ∧ ∃ q os, w' = grow (w.drewN q) os := by
  have eg : ∀ args w, (callFunc 264 args).run Tryz.prog w = .ok (.enter 264 args) w := enters_of Tryz.func264 (by kernel_rfl) rfl
  obtain ⟨W0, hW0⟩ : ∃ W0, W0 = (w.alloc (.cells #[.pointer (some ⟨p, 0, none⟩)] 177)).alloc (.cells #[.int .i64 place] 3) := ⟨_, rfl⟩
  have c0 : w.cell? ⟨p, 0, none⟩ = some v := h.c0
  have hS : Calls Tryz.prog 263 #[.int .i64 ps.length, .func (.func 264) #[] #[.pointer (some ⟨w.heap.size, 0, none⟩), .pointer (some ⟨w.heap.size + 1, 0, none⟩)]] W0 fun e w' => e = .returned (.int .i64 a) ∧ ∃ q, w' = W0.drewN q := by
    have hs0 : SetAt W0 B p v ps := by rw [hW0]; exact (h.alloc _).alloc _
    have k1 : W0.cell? ⟨w.heap.size, 0, none⟩ = some (.pointer (some ⟨p, 0, none⟩)) := by
      rw [hW0]
      exact cell_later ((Below.refl _ _).alloc (Nat.le_refl _) _) (by rw [World.cell?_alloc_at _ _ _ _ rfl]; rfl)
    have k2 : W0.cell? ⟨w.heap.size + 1, 0, none⟩ = some (.int .i64 place) := by
      rw [hW0, World.cell?_alloc_at _ _ _ _ (by simp)]; rfl
    refine search_any 264 _ ps.length (fun i => decide (place ≤ (ps.getD i (0, 0)).2)) W0 eg hl ?_ a hr.le (fun t ht => by simpa using hr.ahead t ht) (fun t h1 h2 => by simpa using hr.from_ t h1 h2)
    intro m i hi
    rcases hs0.form with ⟨_, rfl⟩ | ⟨g, c, rfl⟩
    · simp at hi
    · exact reach_clo w.heap.size (w.heap.size + 1) p g ps.length c i place _ (W0.drewN m) k1 k2 hs0.c0 (by omega) (hs0.own.cells i hi).2
  have HS := Lib.hid hS
  clear hS eg
  have hfin : ∀ q, W0.drewN q = grow (w.drewN q) #[.cells #[.pointer (some ⟨p, 0, none⟩)] 177, .cells #[.int .i64 place] 3] := fun q => by rw [hW0]; exact two_grown _ _ _ _
  obtain ⟨A, c, hv⟩ := h.own.form
  subst hv
  have hc : (w.alloc (.cells #[.pointer (some ⟨p, 0, none⟩)] 177)).cell? ⟨p, 0, none⟩ = some (.slice A ps.length c) := (h.alloc _).c0
  have hc2 : W0.cell? ⟨p, 0, none⟩ = some (.slice A ps.length c) := by rw [hW0]; exact ((h.alloc _).alloc _).c0
  have HFIN := Lib.hid hfin
  clear h hr hfin
  subst hW0
  obtain ⟨n, hn⟩ : ∃ n, ps.length = n := ⟨_, rfl⟩
  rw [hn] at HS hc hc2 c0
  clear hn hl
  go_enter Tryz.func231, Tryz.ntmps231
  go_wp2_with fail
  refine HS.out.mono ?_
  rintro e w' ⟨rfl, q, rfl⟩
  go_wp2
  go_ret
  exact ⟨rfl, q, _, HFIN.out q⟩
set_option maxHeartbeats 2000000 in
theorem touched_any (p : Nat) (v : Value) (ps : List (Int × Int)) (B a b : Nat) (f t : Int) (w : World) (h : SetAt w B p v ps) (hr : Touch ps f t a b) (hl : ps.length < 4611686018427387904) :
    Calls Tryz.prog 232 #[.pointer (some ⟨p, 0, none⟩), .int .i64 f, .int .i64 t] w fun e w' => e = .returned (.tuple #[.int .i64 a, .int .i64 b]) ∧ ∃ q os, w' = grow (w.drewN q) os := by
  have eg : ∀ args w, (callFunc 265 args).run Tryz.prog w = .ok (.enter 265 args) w := enters_of Tryz.func265 (by kernel_rfl) rfl
  obtain ⟨W0, hW0⟩ : ∃ W0, W0 = (w.alloc (.cells #[.pointer (some ⟨p, 0, none⟩)] 177)).alloc (.cells #[.int .i64 t] 3) := ⟨_, rfl⟩
  have hs0 : SetAt W0 B p v ps := by rw [hW0]; exact (h.alloc _).alloc _
  have k1 : W0.cell? ⟨w.heap.size, 0, none⟩ = some (.pointer (some ⟨p, 0, none⟩)) := by
    rw [hW0]
    exact cell_later ((Below.refl _ _).alloc (Nat.le_refl _) _) (by rw [World.cell?_alloc_at _ _ _ _ rfl]; rfl)
  have k2 : W0.cell? ⟨w.heap.size + 1, 0, none⟩ = some (.int .i64 t) := by
    rw [hW0, World.cell?_alloc_at _ _ _ _ (by simp)]; rfl
  have hsz : W0.heap.size = w.heap.size + 2 := by rw [hW0]; simp
  have g1 : ∀ n os, (grow (W0.drewN n) os).cell? ⟨w.heap.size, 0, none⟩ = some (.pointer (some ⟨p, 0, none⟩)) := fun n os => cell_grown (by show w.heap.size < _; omega) k1 n os
  have g2 : ∀ n os, (grow (W0.drewN n) os).cell? ⟨w.heap.size + 1, 0, none⟩ = some (.int .i64 t) := fun n os => cell_grown (by show w.heap.size + 1 < _; omega) k2 n os
  have g3 : ∀ n os, (grow (W0.drewN n) os).cell? ⟨p, 0, none⟩ = some v := fun n os => (hs0.grow n os).c0
  have hS : ∀ n os, Calls Tryz.prog 263 #[.int .i64 ps.length, .func (.func 265) #[] #[.pointer (some ⟨w.heap.size, 0, none⟩), .pointer (some ⟨w.heap.size + 1, 0, none⟩)]] (grow (W0.drewN n) os) fun e w' => e = .returned (.int .i64 b) ∧ ∃ q os', w' = grow ((grow (W0.drewN n) os).drewN q) os' := by
    intro n os
    have hs1 := hs0.grow n os
    refine (search_any 265 _ ps.length (fun i => decide (t < (ps.getD i (0, 0)).1)) (grow (W0.drewN n) os) eg hl ?_ b hr.lb (fun i hi => by have := hr.upto i hi; simpa using this) (fun i h1 h2 => by simpa using hr.behind i h1 h2)).mono fun _ _ ⟨he, q, hq⟩ => ⟨he, q, #[], by rw [hq, grow_empty]⟩
    intro m i hi
    rcases hs1.form with ⟨_, rfl⟩ | ⟨g, c, rfl⟩
    · simp at hi
    · exact touch_clo w.heap.size (w.heap.size + 1) p g ps.length c i t _ ((grow (W0.drewN n) os).drewN m) (g1 n os) (g2 n os) hs1.c0 (by omega) (hs1.own.cells i hi).1
  have hR : ∀ n os, Calls Tryz.prog 231 #[.pointer (some ⟨p, 0, none⟩), .int .i64 f] (grow (W0.drewN n) os) fun e w' => e = .returned (.int .i64 a) ∧ ∃ q os', w' = grow ((grow (W0.drewN n) os).drewN q) os' :=
    fun n os => reaching_any p v ps B a f _ (hs0.grow n os) ⟨Nat.le_trans hr.le hr.lb, hr.ahead, hr.from_⟩ hl
  have HS := Lib.hid hS
  have HR := Lib.hid hR
  have hfin : ∀ q os, grow (W0.drewN q) os = grow (w.drewN q) (#[.cells #[.pointer (some ⟨p, 0, none⟩)] 177, .cells #[.int .i64 t] 3] ++ os) := fun q os => by rw [hW0, two_grown, grow_grow]
  have HFIN := Lib.hid hfin
  obtain ⟨A, c, hv⟩ := h.own.form
  subst hv
  clear hS hR eg hfin h hr hs0 k1 k2 hsz
  obtain ⟨n, hn⟩ : ∃ n, ps.length = n := ⟨_, rfl⟩
  rw [hn] at HS g3
  clear hn hl
  go_enter Tryz.func232, Tryz.ntmps232
  have mixed : Tryz.prog.follows .mixedOrders = true := by kernel_rfl
  go_wp2
  rw [← hW0]
  clear hW0
  go_quiet_grown ((first | (go_at_call 231; exact Calls.grown_of (HR.out _ _)) | (go_at_call 263; exact Calls.grown_of (HS.out _ _))))
  go_wp2
  go_ret2
  exact ⟨rfl, _, _, HFIN.out _ _⟩
end Go.Proofs.YtpjlnpnadkbakaaGreat
namespace Go.Proofs.YtpjlnpnadkbakaaGreat
set_option maxRecDepth 10000
open Go.RowKit
section
variable {P : Program}
theorem wp_copy2 {w : World} {o : Oper} {a : Act} {K : Act → World → Prop} {Q : Exit → Act → World → Prop} (d s : Operand) (dT sT : TypeId)
    (ho : o.op = .call { callee := .builtin .copy, args := #[d, s], argTypes := #[dT, sT] }) (elem : TypeId) (hu : P.underlying dT = some (.slice elem)) (hs2 : (P.info? elem).map (·.size) = some 2)
    (dp sp : Option Addr) (dLen dCap sLen sCap : Nat) (hd : a.eval d = .slice dp dLen dCap) (hs : a.eval s = .slice sp sLen sCap) (k : Nat) (hk : Nat.min sLen dLen = k)
    (g off : Nat) (cur : List Value) (t : TypeId) (hg : w.heap[g]? = some (.cells cur.toArray t (0, 0))) (cs : List Value) (hn : cs.length = k * 2)
    (hpos : 0 < k → dp = some ⟨g, off, none⟩ ∧ ∃ ad, sp = some ad ∧ ∀ j v, cs[j]? = some v → w.cell? (ad.add j) = some v) (hfit : off + cs.length ≤ cur.length) (h1 : ∀ v ∈ cs, v.oneCell' = true)
    (h : ∀ w', Hid (w'.heap[g]? = some (.cells (splice cur off cs).toArray t (0, 0))) → Hid (w.grownBy w' (some g)) → Hid (w'.heap.size = w.heap.size) → K (a.put o.dst (goInt k)) w') : o.wp P a w K Q := by
  obtain ⟨w', hr, h2, h3, h4⟩ := run_copy2 (P := P) w dT sT elem hu hs2 dp sp dLen dCap sLen sCap k hk g off cur t hg cs hn hpos hfit h1
  unfold Oper.wp execOp
  simp only [ho, resolve, invoke, builtin, Sem.run_bind, Sem.run_pure, Result.andThen_ok, List.map_toArray, List.map_cons, List.map_nil, hd, hs, hr]
  exact h w' h2 h3 h4
theorem step_copy2 {ops : Array Oper} {o : Oper} {a : Act} {w : World} {K : Act → World → Prop} {Q : Exit → Act → World → Prop} {E : Prop} (hgd : o.guard = none) (d s : Operand) (dT sT : TypeId)
    (ho : o.op = .call { callee := .builtin .copy, args := #[d, s], argTypes := #[dT, sT] }) (elem : TypeId) (hu : P.underlying dT = some (.slice elem)) (hs2 : (P.info? elem).map (·.size) = some 2)
    (dp sp : Option Addr) (dLen dCap sLen sCap : Nat) (hd : a.eval d = .slice dp dLen dCap) (hs : a.eval s = .slice sp sLen sCap) (k : Nat) (hk : Nat.min sLen dLen = k)
    (g off : Nat) (cur : List Value) (t : TypeId) (hg : w.heap[g]? = some (.cells cur.toArray t (0, 0))) (cs : List Value) (hn : cs.length = k * 2)
    (hpos : 0 < k → dp = some ⟨g, off, none⟩ ∧ ∃ ad, sp = some ad ∧ ∀ j v, cs[j]? = some v → w.cell? (ad.add j) = some v) (hfit : off + cs.length ≤ cur.length) (h1 : ∀ v ∈ cs, v.oneCell' = true)
    (h : ∀ w', Hid (w'.heap[g]? = some (.cells (splice cur off cs).toArray t (0, 0))) → Hid (w.grownBy w' (some g)) → Hid (w'.heap.size = w.heap.size) → K (a.put o.dst (goInt k)) w') :
    if Region.wanted o (yielded ops a.tmps) = true then Oper.wp P o a w K Q else E := by
  have hw : Region.wanted o (yielded ops a.tmps) = true := by simp [Region.wanted, hgd]
  rw [if_pos hw]
  exact wp_copy2 d s dT sT ho elem hu hs2 dp sp dLen dCap sLen sCap hd hs k hk g off cur t hg cs hn hpos hfit h1 h
theorem wpList_append_r {w : World} {ops : Array Oper} {rest : List Oper} {o : Oper} {a : Act} {Q : Exit → Act → World → Prop} (hgd : o.guard = none) (d s : Operand) (t t' : TypeId)
    (ho : o.op = .call { callee := .builtin .append, args := #[d, s], argTypes := #[t, t'] }) (v u : Value) (hd : a.eval d = v) (hs : a.eval s = u) {v' : Value} {w' : World}
    (hr : (Builtin.append_ #[t, t'] o.type #[v, u]).run P w = .ok v' w') (h : wpList P ops Q rest (a.put o.dst v') w') : wpList P ops Q (o :: rest) a w := by
  refine wpList_plain hgd fun _ hK => ?_
  unfold Oper.wp execOp
  simp only [ho, resolve, invoke, builtin, Sem.run_bind, Sem.run_pure, Result.andThen_ok, List.map_toArray, List.map_cons, List.map_nil, hd, hs, hr]
  exact hK _ _ h
end
theorem splice_drop {α : Type} (L : List α) (o : Nat) (cs : List α) (ho : o ≤ L.length) : (splice L o cs).drop o = cs ++ L.drop (o + cs.length) := by
  unfold splice
  have := List.drop_length_add_append (l₁ := L.take o) (l₂ := cs ++ L.drop (o + cs.length)) (i := 0)
  rw [List.length_take, Nat.min_eq_left ho, Nat.add_zero] at this
  simpa using this
theorem easy_take (cur : List Value) (ps qs : List (Int × Int)) (i m j n : Nat) (hti : cur.take (i * 2) = prs (ps.take i)) (hm : qs.length = m) (hn : ps.length = n) (hl : (i + m + (n - j)) * 2 ≤ cur.length) :
    (splice (splice cur (i * 2) (prs qs)) ((i + m) * 2) (prs (ps.drop j))).take ((i + m + (n - j)) * 2) = prs (ps.take i ++ qs ++ ps.drop j) := by
  have l1 : (prs qs).length = m * 2 := by rw [prs_len, hm]
  have l2 : (prs (ps.drop j)).length = (n - j) * 2 := by rw [prs_len, List.length_drop, hn]
  have l3 : (splice cur (i * 2) (prs qs)).length = cur.length := length_splice _ _ _ (by rw [l1]; omega)
  rw [show (i + m + (n - j)) * 2 = (i + m) * 2 + (prs (ps.drop j)).length + 0 by rw [l2]; omega, splice_take _ _ _ _ (by rw [l3]; omega), show (i + m) * 2 = i * 2 + (prs qs).length + 0 by rw [l1]; omega, splice_take _ _ _ _ (by omega), hti]
  simp [prs_app]
theorem shift_take (cur : List Value) (ps qs : List (Int × Int)) (i m j n : Nat) (hti : cur.take (i * 2) = prs (ps.take i)) (hm : qs.length = m) (hn : ps.length = n) (hl : (i + m + (n - j)) * 2 ≤ cur.length) :
    (splice (splice cur ((i + m) * 2) (prs (ps.drop j))) (i * 2) (prs qs)).take ((i + m + (n - j)) * 2) = prs (ps.take i ++ qs ++ ps.drop j) := by
  have l1 : (prs qs).length = m * 2 := by rw [prs_len, hm]
  have l2 : (prs (ps.drop j)).length = (n - j) * 2 := by rw [prs_len, List.length_drop, hn]
  have l3 : (splice cur ((i + m) * 2) (prs (ps.drop j))).length = cur.length := length_splice _ _ _ (by rw [l2]; omega)
  rw [show (i + m + (n - j)) * 2 = i * 2 + (prs qs).length + (prs (ps.drop j)).length by rw [l1, l2]; omega, splice_take _ _ _ _ (by rw [l3]; omega), splice_ahead _ _ _ _ (by omega) (by omega), hti,
    show i * 2 + (prs qs).length = (i + m) * 2 by rw [l1]; omega, splice_drop _ _ _ (by omega), List.take_left, prs_app, prs_app]
theorem src_of {w : World} {g o : Nat} {cur : List Value} {t : TypeId} (hg : w.heap[g]? = some (.cells cur.toArray t (0, 0))) {cs : List Value} (h : (cur.drop o).take cs.length = cs) : ∀ j v, cs[j]? = some v → w.cell? ((⟨g, o, none⟩ : Addr).add j) = some v := by
  intro j v hj
  have hl : j < cs.length := (List.getElem?_eq_some_iff.1 hj).1
  rw [Addr.add_lit, cell_of_row w g (o + j) cur.toArray t (0, 0) hg]
  rw [← h, List.getElem?_take, if_pos hl, List.getElem?_drop] at hj
  simpa using hj
theorem row_drop {cur : List Value} {ps : List (Int × Int)} {n : Nat} (hn : ps.length = n) (h : cur.take (n * 2) = prs ps) (j : Nat) : (cur.drop (j * 2)).take (prs (ps.drop j)).length = prs (ps.drop j) := by
  rw [prs_len, List.length_drop, hn, ← prs_drop, ← h, List.drop_take]
  congr 1
  omega
theorem row_take {cur : List Value} {ps : List (Int × Int)} {n : Nat} (h : cur.take (n * 2) = prs ps) (i : Nat) (hi : i ≤ n) : cur.take (i * 2) = prs (ps.take i) := by
  rw [← prs_take, ← h, List.take_take]
  congr 1
  omega
theorem info_range : (Tryz.prog.info? 143).map (fun i => (i.zero, i.size, i.bytes)) = some (some (.agg #[.int .i64 0, .int .i64 0]), 2, 16) := by kernel_rfl
theorem size_range : (Tryz.prog.info? 143).map (·.size) = some 2 := by kernel_rfl
set_option maxHeartbeats 1000000 in
theorem insert_end (v : Value) (ps qs : List (Int × Int)) (B m mc : Nat) (A : Option Addr) (ob : Option Nat) (w : World) (h : OwnP 143 w B v ps) (hob : v.ownBlock = ob) (hq : OwnP 143 w B (.slice A m mc) qs) (hm : 0 < m)
    (hb : (ps.length + m) * 16 ≤ 140737488355328) (hB : B ≤ w.heap.size) :
    Calls Tryz.prog 266 #[v, .int .i64 ps.length, .slice A m mc] w fun e w' => ∃ v', e = .returned v' ∧ OwnP 143 w' B v' (ps ++ qs) ∧ w.grownBy w' ob ∧
      (∀ g, v'.ownBlock = some g → ob = some g ∨ w.heap.size ≤ g) := by
  obtain ⟨A0, c0, hv⟩ := h.form
  have hap := run_app2 (P := Tryz.prog) w 140 140 143 _ Tryz.underlying140 info_range rfl B v ps h A m mc qs hq.len (fun _ => by
    obtain ⟨g, rfl, _⟩ := hq.at hm
    exact ⟨_, rfl, by simpa using hq.src 0⟩) hb hB
  obtain ⟨A', c', w', hrun, h2, h3, h4⟩ := hap
  rw [hob] at h3 h4
  clear hob
  subst hv
  have hc := h.cap
  have hc2 := hc.2
  have hc1 := hc.1
  unfold maxLen at hc2
  obtain ⟨n, hn⟩ : ∃ n, ps.length = n := ⟨_, rfl⟩
  rw [hn] at hrun h2 h4 hc1
  have H2 := Lib.hid h2
  have H3 := Lib.hid h3
  have H4 := Lib.hid h4
  rw [hn]
  have hm0 : ¬ ((m : Int) = 0) := by omega
  clear hn h hq h2 h3 h4 hb hc
  go_enter Tryz.func266, Tryz.ntmps266
  go_wp2_with (at_builtin; refine wpList_append_r rfl _ _ 140 140 rfl _ _ rfl rfl hrun ?_)
  all_goals go_ret
  all_goals exact ⟨_, rfl, H2.out, H3.out, H4.out⟩
set_option maxRecDepth 100000 in
theorem overlaps_apart (w : World) (g gb o m mc lb cb : Nat) (cur cub : List Value) (hne : gb ≠ g) (hg : w.heap[g]? = some (.cells cur.toArray 143 (0, 0))) (hgb : w.heap[gb]? = some (.cells cub.toArray 143 (0, 0))) (hcur : 0 < cur.length) :
    (callFunc 267 #[.slice (some ⟨gb, 0, none⟩) m mc, .slice (some ⟨g, o, none⟩) lb cb]).run Tryz.prog w = .ok (.value (.bool false)) w := by
  have hz : ∀ w, (Go.sizeOf 143).run Tryz.prog w = .ok 2 w := by
    intro w
    obtain ⟨i, hi, _, h2, _⟩ := info_parts info_range
    simp [sizeOf, typeInfo, hi, h2]
  have he := run_callFunc_extern (P := Tryz.prog) Tryz.func267 (by kernel_rfl) (by kernel_rfl) (by kernel_rfl) (e := Extern.SlicesOverlaps.overlaps #[140, 140] #[4]) (by kernel_rfl) #[.slice (some ⟨gb, 0, none⟩) m mc, .slice (some ⟨g, o, none⟩) lb cb] w
  rw [he,
    Lib.run_overlaps_apart w 140 4 143 Tryz.underlying140 2 hz ⟨gb, 0, none⟩ ⟨g, o, none⟩ m mc lb cb hne 143 143 cub.length cur.length
      (by simp [World.shape?, hgb]) (by simp [World.shape?, hg]) (by omega) (by simp [World.frozen?, hgb]) (by simp [World.frozen?, hgb])]
  rfl
set_option maxRecDepth 100000 in
theorem overlaps_apart2 (w : World) (g gb o m mc lb cb : Nat) (cur cub : List Value) (hne : gb ≠ g) (hg : w.heap[g]? = some (.cells cur.toArray 143 (0, 0))) (hgb : w.heap[gb]? = some (.cells cub.toArray 143 (0, 0))) (hcub : 0 < cub.length) :
    (callFunc 267 #[.slice (some ⟨g, o, none⟩) lb cb, .slice (some ⟨gb, 0, none⟩) m mc]).run Tryz.prog w = .ok (.value (.bool false)) w := by
  have hz : ∀ w, (Go.sizeOf 143).run Tryz.prog w = .ok 2 w := by
    intro w
    obtain ⟨i, hi, _, h2, _⟩ := info_parts info_range
    simp [sizeOf, typeInfo, hi, h2]
  have he := run_callFunc_extern (P := Tryz.prog) Tryz.func267 (by kernel_rfl) (by kernel_rfl) (by kernel_rfl) (e := Extern.SlicesOverlaps.overlaps #[140, 140] #[4]) (by kernel_rfl) #[.slice (some ⟨g, o, none⟩) lb cb, .slice (some ⟨gb, 0, none⟩) m mc] w
  rw [he,
    Lib.run_overlaps_apart w 140 4 143 Tryz.underlying140 2 hz ⟨g, o, none⟩ ⟨gb, 0, none⟩ lb cb m mc (Ne.symm hne) 143 143 cur.length cub.length
      (by simp [World.shape?, hg]) (by simp [World.shape?, hgb]) (by omega) (by simp [World.frozen?, hg]) (by simp [World.frozen?, hg])]
  rfl
set_option maxHeartbeats 200000 in
theorem insert_shift (g c : Nat) (cur : List Value) (ps qs : List (Int × Int)) (B i n m mc gb : Nat) (w : World) (hg : w.heap[g]? = some (.cells cur.toArray 143 (0, 0))) (hn : ps.length = n) (hcl : cur.length = c * 2) (hct : cur.take (n * 2) = prs ps) (hBg : B ≤ g) (hcm : c ≤ maxLen)
    (hq : OwnP 143 w B (.slice (some ⟨gb, 0, none⟩) m mc) qs) (hne : gb ≠ g) (hm : 0 < m) (hi : i < n) (hroom : n + m ≤ c) :
    Calls Tryz.prog 266 #[.slice (some ⟨g, 0, none⟩) n c, .int .i64 i, .slice (some ⟨gb, 0, none⟩) m mc] w fun e w' => e = .returned (.slice (some ⟨g, 0, none⟩) (n + m) c) ∧
      OwnP 143 w' B (.slice (some ⟨g, 0, none⟩) (n + m) c) (ps.take i ++ qs ++ ps.drop i) ∧ w.grownBy w' (some g) := by
  have hov : ∀ lb cb, (callFunc 267 #[.slice (some ⟨gb, 0, none⟩) m mc, .slice (some ⟨g, (i + m) * 2, none⟩) lb cb]).run Tryz.prog w = .ok (.value (.bool false)) w := by
    intro lb cb
    obtain ⟨_, cub, hgb, _⟩ := hq.heap
    exact overlaps_apart w g gb _ m mc lb cb cur cub hne hg hgb (by omega)
  have hc2 := hcm
  unfold maxLen at hc2
  have hql := hq.len
  have hdl : (prs (ps.drop i)).length = (n - i) * 2 := by rw [prs_len, List.length_drop, hn]
  have hqll : (prs qs).length = m * 2 := by rw [prs_len, hql]
  have hsr := src_of hg (row_drop hn hct i)
  have hqs : ∀ j v, (prs qs)[j]? = some v → w.cell? ((⟨gb, 0, none⟩ : Addr).add j) = some v := by simpa using hq.src 0
  have hfin := shift_take cur ps qs i m i n (row_take hct i (by omega)) hql hn (by rw [hcl]; omega)
  have hlen : (ps.take i ++ qs ++ ps.drop i).length = n + m := by simp; omega
  have HG := Lib.hid hg
  have HCL := Lib.hid hcl
  have HDL := Lib.hid hdl
  have HQL := Lib.hid hqll
  have HSR := Lib.hid hsr
  have HQS := Lib.hid hqs
  have HFIN := Lib.hid hfin
  have HLEN := Lib.hid hlen
  have hm0 : ¬ ((m : Int) = 0) := by omega
  have hz2 : ¬ ((i : Int) = (n : Int)) := by omega
  have hw1 : IntKind.i64.wrap ((i : Int) + (m : Int)) = (i : Int) + (m : Int) := by rw [IntKind.wrap_i64]; omega
  have hb1 : (0 : Int) ≤ (i : Int) + (m : Int) := by omega
  have htn : ((i : Int) + (m : Int)).toNat = i + m := by omega
  have hb2 : ¬ (c = i + m) := by omega
  have hb3 : (i : Int) ≤ (n : Int) + (m : Int) := by omega
  have hb4 : ¬ (c = i) := by omega
  have hin : i ≤ n := by omega
  have mixed : Tryz.prog.follows .mixedOrders = true := by kernel_rfl
  clear hg hn hcl hct hq hdl hqll hsr hqs hfin hlen hql
  go_enter Tryz.func266, Tryz.ntmps266
  go_wp2_with (simp only [hov])
  go_region_law (refine step_copy2 rfl (.tmp 73) (.tmp 76) 140 140 rfl 143 Tryz.underlying140 size_range (some ⟨g, (i + m) * 2, none⟩) (some ⟨g, i * 2, none⟩) (n + m - (i + m)) (c - (i + m)) (n + m - i) (c - i) (by simp [Act.eval, Act.put]) (by simp [Act.eval, Act.put]) (n - i) (by simp only [Nat.min_def]; split <;> omega) g ((i + m) * 2) cur 143 HG.out (prs (ps.drop i)) HDL.out (fun _ => ⟨rfl, _, rfl, HSR.out⟩) (by rw [HDL.out, HCL.out]; omega) (prs_one _) ?_; intro w1 hg1 hb1' hs1)
  obtain ⟨w2, hr2, hg2, hb2', hs2⟩ := run_copy2 (P := Tryz.prog) w1 140 140 143 Tryz.underlying140 size_range (some ⟨g, i * 2, none⟩) (some ⟨gb, 0, none⟩) (n + m - i) (c - i) m mc m (by simp only [Nat.min_def]; split <;> omega) g (i * 2) _ 143 hg1.out (prs qs) HQL.out
    (fun _ => ⟨rfl, _, rfl, fun j v hj => by have := HQS.out j v hj; rw [Addr.add_lit] at this ⊢; exact hb1'.out.cell this (by simpa using hne)⟩) (by rw [HQL.out, length_splice _ _ _ (by rw [HDL.out, HCL.out]; omega), HCL.out]; omega) (prs_one _)
  have HG2 := Lib.hid hg2
  have HB2 := Lib.hid hb2'
  clear hg2 hb2' hs2 hs1
  go_wp2
  go_ret
  refine ⟨rfl, OwnP.of hBg HG2.out HLEN.out hroom hcm ?_ ?_, grown_drP (hb1'.out.trans HB2.out)⟩
  · rw [length_splice _ _ _ (by rw [HQL.out, length_splice _ _ _ (by rw [HDL.out, HCL.out]; omega), HCL.out]; omega), length_splice _ _ _ (by rw [HDL.out, HCL.out]; omega), HCL.out]
  · rw [show n + m = i + m + (n - i) by omega]
    exact HFIN.out
set_option maxHeartbeats 400000 in
theorem insert_grow (g c : Nat) (cur : List Value) (ps qs : List (Int × Int)) (B i n m mc : Nat) (A : Option Addr) (w : World) (hg : w.heap[g]? = some (.cells cur.toArray 143 (0, 0))) (hn : ps.length = n) (hcl : cur.length = c * 2) (hct : cur.take (n * 2) = prs ps) (hnc : n ≤ c)
    (hq : Src w A m qs w.heap.size) (hm : 0 < m) (hi : i < n) (hroom : c < n + m) (hb : (n + m) * 16 ≤ 140737488355328) (hB : B ≤ w.heap.size) :
    Calls Tryz.prog 266 #[.slice (some ⟨g, 0, none⟩) n c, .int .i64 i, .slice A m mc] w fun e w' => ∃ C, e = .returned (.slice (some ⟨w.heap.size, 0, none⟩) (n + m) C) ∧
      OwnP 143 w' B (.slice (some ⟨w.heap.size, 0, none⟩) (n + m) C) (ps.take i ++ qs ++ ps.drop i) ∧ ∀ r, w.grownBy w' r := by
  have hglt : g < w.heap.size := by
    rcases Nat.lt_or_ge g w.heap.size with h | h
    · exact h
    · rw [Array.getElem?_eq_none h] at hg; cases hg
  have hql := hq.len
  have htl : (prs (ps.take i)).length = i * 2 := by rw [prs_len, List.length_take]; omega
  have hdl : (prs (ps.drop i)).length = (n - i) * 2 := by rw [prs_len, List.length_drop, hn]
  have hqll : (prs qs).length = m * 2 := by rw [prs_len, hql]
  have hrt := row_take hct i (by omega)
  obtain ⟨C, cur1, w1, hr1, hg1, hcl1, hct1, hC1, hC2, hgb1, hsz1⟩ := run_grow2 (P := Tryz.prog) w 140 3 140 143 _ Tryz.underlying140 Tryz.underlying3 info_range rfl g i c (n + m - i) (prs (ps.take i)) htl
    (fun j v hj => by
      have := src_of hg (o := 0) (cs := prs (ps.take i)) (by rw [htl, List.drop_zero]; exact hrt) j v hj
      rw [Addr.add_lit, Nat.zero_add] at this; exact this) (by omega) (by omega) (by rw [show i + (n + m - i) = n + m by omega]; exact hb) (some ⟨g, 0, none⟩) (fun _ => rfl)
  rw [show i + (n + m - i) = n + m by omega] at hr1 hC1
  rw [show ((n + m - i : Nat) : Int) = (n : Int) + (m : Int) - (i : Int) by omega] at hr1
  have hq1 := hq.grown (grown_none (r := some w.heap.size) hgb1)
  obtain ⟨w2, hr2, hg2, hgb2, hsz2⟩ := run_copy2 (P := Tryz.prog) w1 140 140 143 Tryz.underlying140 size_range (some ⟨w.heap.size, i * 2, none⟩) A (n + m - i) (C - i) m mc m (by simp only [Nat.min_def]; split <;> omega) w.heap.size (i * 2) cur1 143 hg1 (prs qs) hqll (hq1.pos _) (by rw [hqll, hcl1]; omega) (prs_one _)
  have hl2 : (splice cur1 (i * 2) (prs qs)).length = C * 2 := by rw [length_splice _ _ _ (by rw [hqll, hcl1]; omega), hcl1]
  have hgo : w2.heap[g]? = some (.cells cur.toArray 143 (0, 0)) := by
    rw [hgb2.block g (by have := hgb1.size; omega) (by simp; omega), hgb1.block g hglt (by simp)]; exact hg
  have hfin := easy_take cur1 ps qs i m i n hct1 hql hn (by rw [hcl1]; omega)
  have hlen : (ps.take i ++ qs ++ ps.drop i).length = n + m := by simp; omega
  obtain ⟨L, hL⟩ : ∃ L, L = ps.take i ++ qs ++ ps.drop i := ⟨_, rfl⟩
  rw [← hL] at hfin hlen ⊢
  clear hL
  have hc2 := hC2
  unfold maxLen at hc2
  have HB := Lib.hid hB
  have HG2 := Lib.hid hg2
  have HGO := Lib.hid hgo
  have HSR := Lib.hid (src_of hgo (row_drop hn hct i))
  have HL2 := Lib.hid hl2
  have HDL := Lib.hid hdl
  have HFIN := Lib.hid hfin
  have HLEN := Lib.hid hlen
  have HGB := Lib.hid (fun r => grown_new (r := r) hgb1 hgb2)
  have HSZ := Lib.hid (show w.heap.size < w2.heap.size by omega)
  obtain ⟨N, hN⟩ : ∃ N, w.heap.size = N := ⟨_, rfl⟩
  rw [hN] at hr1 hr2 HG2 HSZ HB
  have HN := Lib.hid hN
  have hm0 : ¬ ((m : Int) = 0) := by omega
  have hz2 : ¬ ((i : Int) = (n : Int)) := by omega
  have hz3 : (c : Int) < (n : Int) + (m : Int) := by omega
  have hw1 : IntKind.i64.wrap ((i : Int) + (m : Int)) = (i : Int) + (m : Int) := by rw [IntKind.wrap_i64]; omega
  have hb1 : (0 : Int) ≤ (i : Int) + (m : Int) := by omega
  have htn : ((i : Int) + (m : Int)).toNat = i + m := by omega
  have hb2 : ¬ (C = i + m) := by omega
  have hb3 : (i : Int) ≤ (n : Int) + (m : Int) := by omega
  have hb4 : ¬ (C = i) := by omega
  have hb5 : ¬ (c = i) := by omega
  have hin : i ≤ n := by omega
  have mixed : Tryz.prog.follows .mixedOrders = true := by kernel_rfl
  rw [hN]
  clear hg hn hcl hct hq hdl hqll hfin hlen hql hcl1 hct1 hgb1 hgb2 hg1 hg2 hgo hl2 hrt htl hq1 hsz1 hsz2 hB hb hN hglt hC2
  go_enter Tryz.func266, Tryz.ntmps266
  go_wp2_with (at_builtin; refine wpList_append_r rfl (.tmp 34) (.tmp 39) 140 3 rfl _ _ rfl rfl hr1 ?_)
  go_region_law (refine step_copy2 rfl (.tmp 50) (.tmp 53) 140 140 rfl 143 Tryz.underlying140 size_range (some ⟨N, (i + m) * 2, none⟩) (some ⟨g, i * 2, none⟩) (n + m - (i + m)) (C - (i + m)) (n - i) (c - i) (by simp [Act.eval, Act.put]) (by simp [Act.eval, Act.put]) (n - i) (by simp only [Nat.min_def]; split <;> omega) N ((i + m) * 2) (splice cur1 (i * 2) (prs qs)) 143 HG2.out (prs (ps.drop i)) HDL.out (fun _ => ⟨rfl, _, rfl, HSR.out⟩) (by rw [HDL.out, HL2.out]; omega) (prs_one _) ?_; intro w3 hg3 hb3' hs3)
  go_wp2
  go_ret
  refine ⟨C, rfl, OwnP.of HB.out hg3.out HLEN.out hC1 (by unfold maxLen; omega) ?_ ?_, fun r => ?_⟩
  · rw [length_splice _ _ _ (by rw [HDL.out, HL2.out]; omega), HL2.out]
  · rw [show n + m = i + m + (n - i) by omega]
    exact HFIN.out
  · have h3 := hb3'.out
    have h2 := HGB.out (some N)
    rw [← HN.out] at h2 h3
    have h4 := h2.trans (grown_drP h3)
    exact ⟨h4.os, h4.tape, h4.output, h4.size, fun k hk _ => h4.block k hk (by simp; omega)⟩
end Go.Proofs.YtpjlnpnadkbakaaGreat

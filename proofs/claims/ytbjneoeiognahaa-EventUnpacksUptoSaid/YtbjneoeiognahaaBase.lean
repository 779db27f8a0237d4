/-
  Mem · Nats · Tail · VintMath · Own · Within · VintTakeMath · VintSize · SpanMath · RowsMath · SpanBackMath · Rdr · Copy · Conv · Clone · Keep · Bulk · Fresh · Concat · Concat3 · PktMath: several small texts in one.
-/
import Derived.WalkKit
import Derived.WalkSpells
import Derived.Deep.Draws
import Derived.Lib.Hide
import Derived.ProofKit
import Derived.SizedLaws
import Derived.IntWalk
import Derived.Handy
import Derived.StillTailTactics
import Derived.Laws.BitsLemmas
import Derived.Test.YtbjneoeiognahaaRows
import Derived.WalkLawsBesides
import Derived.Deep.OwnRows
import Derived.Deep.QuietTactic
import Derived.Laws.BytesArg
import Derived.Lib.SliceRun
import Derived.BigQuiet
import Derived.Lib.AppendZerosOnto
import Derived.Lib.Strings
/-
  Numbers that are read in memory ('Rd'), and what a statement's argument, a slice of numbers, is told to be ('ArgI'). No program.
-/
namespace Go.Proofs.Ytbjneoeiognahaa
open Go.RowKit

set_option maxRecDepth 10000 in
theorem ret_i {k : IntKind} {a b : Int} (h : a = b) : Ending.returned (.int k a) = .returned (.int k b) := by rw [h]
set_option maxRecDepth 10000 in
theorem ret_b {a b : Bool} (h : a = b) : Ending.returned (.bool a) = .returned (.bool b) := by rw [h]

/-- A list of numbers as cells. -/
def cel (k : IntKind) (xs : List Int) : List Value := xs.map (Value.int k)
/-- A list of bytes as a block's cells. -/
def bts (xs : List Int) : Array Value := (xs.map (Value.int .u8)).toArray

set_option maxRecDepth 10000 in
theorem cel_len (k : IntKind) (xs : List Int) : (cel k xs).length = xs.length := by simp [cel]
set_option maxRecDepth 10000 in
theorem cel_one (k : IntKind) (xs : List Int) : ∀ u ∈ cel k xs, u.oneCell' = true := ints_oneCell k xs

/-- From the address A on memory holds the numbers xs. -/
def Rd (k : IntKind) (w : World) (A : Option Addr) (xs : List Int) : Prop :=
  xs = [] ∨ ∃ b off, A = some ⟨b, off, none⟩ ∧ ∀ i, i < xs.length → w.cell? ⟨b, off + i, none⟩ = some (.int k (xs.getD i 0))

section
variable {k : IntKind} {w w' : World} {A : Option Addr} {xs ys : List Int}
set_option maxRecDepth 10000 in
theorem Rd.drewN (h : Rd k w A xs) (n : Nat) : Rd k (w.drewN n) A xs := h
set_option maxRecDepth 10000 in
theorem Rd.drew (h : Rd k w A xs) : Rd k w.drew A xs := h
set_option maxRecDepth 10000 in
theorem Rd.later (h : Rd k w A xs) (hb : Below w.heap.size w w') : Rd k w' A xs := by
  rcases h with h | ⟨b, off, rfl, h⟩
  · exact .inl h
  · exact .inr ⟨b, off, rfl, fun i hi => cell_later hb (h i hi)⟩
set_option maxRecDepth 10000 in
theorem Rd.alloc (h : Rd k w A xs) (o : Obj) : Rd k (w.alloc o) A xs := h.later ((Below.refl _ _).alloc (Nat.le_refl _) _)
set_option maxRecDepth 10000 in
theorem Rd.keep (h : Rd k w A xs) (hk : ∀ a : Addr, (∃ v, w.cell? a = some v) → w'.cell? a = w.cell? a) : Rd k w' A xs := by
  rcases h with h | ⟨b, off, rfl, h⟩
  · exact .inl h
  · exact .inr ⟨b, off, rfl, fun i hi => by rw [hk _ ⟨_, h i hi⟩]; exact h i hi⟩
set_option maxRecDepth 10000 in
theorem Rd.new (w : World) (xs : List Int) (t : TypeId) : Rd .u8 (w.alloc (.cells (bts xs) t)) (some ⟨w.heap.size, 0, none⟩) xs := by
  refine .inr ⟨_, _, rfl, fun i hi => ?_⟩
  rw [Nat.zero_add]
  simp [bts, hi]
set_option maxRecDepth 10000 in
theorem Rd.take (h : Rd k w A xs) (n : Nat) : Rd k w A (xs.take n) := by
  rcases h with h | ⟨b, off, rfl, h⟩
  · exact .inl (by simp [h])
  · refine .inr ⟨b, off, rfl, fun i hi => ?_⟩
    have hi' : i < n ∧ i < xs.length := by simp at hi; omega
    rw [h i hi'.2]
    simp [List.getD, hi'.1]
set_option maxRecDepth 10000 in
theorem Rd.drop (h : Rd k w A xs) (n : Nat) (c : Nat) (hn : n ≤ xs.length) (hc : xs.length ≤ c) : Rd k w (if c = n then A else A.map (·.add n)) (xs.drop n) := by
  rcases h with h | ⟨b, off, rfl, h⟩
  · exact .inl (by simp [h])
  · by_cases e : c = n
    · exact .inl (by simp; omega)
    · rw [if_neg e]
      refine .inr ⟨b, off + n, by simp [Addr.add_lit], fun i hi => ?_⟩
      have hi' : n + i < xs.length := by simp at hi; omega
      rw [Nat.add_assoc, h (n + i) hi']
      simp [List.getD]
set_option maxRecDepth 10000 in
/-- The cells, as the laws on append ask for them. -/
theorem Rd.cells (h : Rd k w A xs) : ∀ ad, A = some ad → ∀ j u, (cel k xs)[j]? = some u → w.cell? (ad.add j) = some u := by
  intro ad ha j u hu
  have hj : j < xs.length := by
    have := (List.getElem?_eq_some_iff.1 hu).1
    simpa [cel] using this
  rcases h with h | ⟨b, off, rfl, h⟩
  · subst h; simp at hj
  · obtain rfl := Option.some.inj ha
    rw [Addr.add_lit, h j hj]
    simp [cel, hj] at hu
    simp [List.getD, hj, hu]
set_option maxRecDepth 10000 in
theorem Rd.some_ (h : Rd k w A xs) (hne : 0 < xs.length) : ∃ b off, A = some ⟨b, off, none⟩ ∧ ∀ i, i < xs.length → w.cell? ⟨b, off + i, none⟩ = some (.int k (xs.getD i 0)) := by
  rcases h with h | h
  · subst h; simp at hne
  · exact h
set_option maxRecDepth 10000 in
/-- What the call owns reads as its numbers. -/
theorem Rd.own {base : Nat} {e : TypeId} {n c : Nat} (h : w.ownsRow base e 1 (.slice A n c) n (cel k xs)) : Rd k w A xs := by
  have hl : xs.length = n := by have := h.1; rw [cel_len] at this; omega
  rcases h.2 with ⟨hv, h0⟩ | ⟨g, cap, cur, hv, _⟩
  · exact .inl (List.eq_nil_of_length_eq_zero (by omega))
  · injection hv with hA _ hc
    subst hA; subst hc
    refine .inr ⟨g, 0, rfl, fun i hi => ?_⟩
    rw [Nat.zero_add, h.cellAt i (by omega)]
    simp [cel, List.getD, hi]
end

set_option maxRecDepth 10000 in
theorem list_eq_of_getD {xs ys : List Int} (hl : xs.length = ys.length) (h : ∀ j, j < xs.length → xs.getD j 0 = ys.getD j 0) : xs = ys := by
  apply List.ext_getElem hl
  intro i h1 h2
  have := h i h1
  simpa [List.getD, h1, h2] using this

/-- A slice of numbers that came in. -/
structure ArgI (k : IntKind) (bytes : Nat) (w : World) (A : Option Addr) (n c : Nat) (xs : List Int) : Prop where
  len : xs.length = n
  le : n ≤ c
  reach : c * bytes ≤ 140737488351232
  nil : A = none → c = 0
  rd : Rd k w A xs
  wf : ∀ x ∈ xs, (Lit.int k x).wf = true

set_option maxRecDepth 10000 in
theorem rd_of {k : IntKind} {w : World} {x : Addr} {zs : List Int} (n : Nat) (hcell : ∀ i, i < zs.length → w.cell? (x.add i) = some (.int k (zs.getD i 0))) : Rd k w (some x) (zs.take n) := by
  by_cases h0 : zs.length = 0
  · exact .inl (by rw [List.eq_nil_of_length_eq_zero h0]; simp)
  · obtain ⟨b, off, spot⟩ := x
    have hs : spot = none := by simpa [Addr.add] using World.cell?_spot (hcell 0 (by omega))
    subst hs
    refine Rd.take (.inr ⟨b, off, rfl, fun i hi => ?_⟩) n
    have := hcell i hi
    rwa [Addr.add_lit] at this

set_option maxRecDepth 10000 in
theorem argI_nil (k : IntKind) (bytes : Nat) (w : World) : ArgI k bytes w none 0 0 [] := ⟨rfl, Nat.le_refl _, by omega, fun _ => rfl, .inl rfl, by simp⟩
set_option maxRecDepth 10000 in
theorem argI_of {k : IntKind} {bytes : Nat} {w : World} {x : Addr} {len cap : Nat} {zs : List Int} (hl : len ≤ cap) (hz : zs.length = cap) (hcell : ∀ i, i < zs.length → w.cell? (x.add i) = some (.int k (zs.getD i 0)))
    (hwz : ∀ n ∈ zs, (Lit.int k n).wf = true) (hr : cap * bytes ≤ 140737488351232) : ArgI k bytes w (some x) len cap (zs.take len) :=
  ⟨by simp; omega, hl, hr, fun h => (by cases h), rd_of len hcell, fun n hn => hwz n (List.mem_of_mem_take hn)⟩

set_option maxRecDepth 10000 in
theorem wf_u8 {x : Int} (h : (Lit.int .u8 x).wf = true) : 0 ≤ x ∧ x < 256 := by
  have h1 : IntKind.u8.min = 0 := rfl
  have h2 : IntKind.u8.max = 255 := rfl
  simp only [Lit.wf, Bool.and_eq_true, decide_eq_true_eq] at h
  omega
set_option maxRecDepth 10000 in
theorem wf_i64 {x : Int} (h : (Lit.int .i64 x).wf = true) : -9223372036854775808 ≤ x ∧ x ≤ 9223372036854775807 := by
  have h1 : IntKind.i64.min = -9223372036854775808 := rfl
  have h2 : IntKind.i64.max = 9223372036854775807 := rfl
  simp only [Lit.wf, Bool.and_eq_true, decide_eq_true_eq] at h
  omega
set_option maxRecDepth 10000 in
theorem wf_u32 {x : Int} (h : (Lit.int .u32 x).wf = true) : 0 ≤ x ∧ x < 4294967296 := by
  have h1 : IntKind.u32.min = 0 := rfl
  have h2 : IntKind.u32.max = 4294967295 := rfl
  simp only [Lit.wf, Bool.and_eq_true, decide_eq_true_eq] at h
  omega

set_option maxRecDepth 10000 in
theorem below_drewN' {B : Nat} {a w : World} (h : Below B a w) (n : Nat) : Below B a (w.drewN n) := ⟨h.os, h.tape, h.output, h.size, h.block⟩

end Go.Proofs.Ytbjneoeiognahaa
/-
  Lists of natural numbers as lists of ints. No program.
-/
namespace Go.Proofs.Ytbjneoeiognahaa

/-- Natural numbers as ints. -/
def nats (l : List Nat) : List Int := l.map (fun n : Nat => (n : Int))
set_option maxRecDepth 10000 in
theorem nats_len (l : List Nat) : (nats l).length = l.length := by simp [nats]
set_option maxRecDepth 10000 in
theorem nats_getD (l : List Nat) (i : Nat) : (nats l).getD i 0 = ((l.getD i 0 : Nat) : Int) := by
  by_cases h : i < l.length
  · simp [nats, List.getD, h]
  · simp [nats, List.getD, Nat.le_of_not_lt h]
set_option maxRecDepth 10000 in
theorem nats_set (l : List Nat) (i x : Nat) : (nats l).set i (x : Int) = nats (l.set i x) := by simp [nats, List.map_set]
set_option maxRecDepth 10000 in
theorem nats_of {xs : List Int} (h : ∀ x ∈ xs, 0 ≤ x ∧ x < 256) : nats (xs.map Int.toNat) = xs := by
  unfold nats
  rw [List.map_map]
  conv => rhs; rw [← List.map_id xs]
  apply List.map_congr_left
  intro x hx
  have := h x hx
  simp
  omega
set_option maxRecDepth 10000 in
theorem nats_take (l : List Nat) (n : Nat) : (nats l).take n = nats (l.take n) := by simp [nats, List.map_take]
set_option maxRecDepth 10000 in
theorem bytes_nat {xs : List Int} (h : ∀ x ∈ xs, 0 ≤ x ∧ x < 256) : ∀ x ∈ xs.map Int.toNat, x < 256 := by
  intro x hx
  obtain ⟨y, hy, rfl⟩ := List.mem_map.1 hx
  have := h y hy
  omega
set_option maxRecDepth 10000 in
theorem getD_lt {l : List Nat} (h : ∀ x ∈ l, x < 256) (j : Nat) : l.getD j 0 < 256 := by
  by_cases hj : j < l.length
  · have : l.getD j 0 = l[j] := by simp [List.getD, hj]
    rw [this]; exact h _ (List.getElem_mem hj)
  · have : l.getD j 0 = 0 := by simp [List.getD, Nat.le_of_not_lt hj]
    omega
set_option maxRecDepth 10000 in
theorem nats_bytes {l : List Nat} (h : ∀ x ∈ l, x < 256) : ∀ x ∈ nats l, 0 ≤ x ∧ x < 256 := by
  intro x hx
  obtain ⟨y, hy, rfl⟩ := List.mem_map.1 hx
  have := h y hy
  omega
set_option maxRecDepth 10000 in
theorem byte_eq {a b : Int} (ha : 0 ≤ a ∧ a < 256) (hb : 0 ≤ b ∧ b < 256) : (UInt8.ofNat a.toNat == UInt8.ofNat b.toNat) = (a == b) := by
  rw [Bool.eq_iff_iff]
  simp only [beq_iff_eq, ← UInt8.toNat_inj, UInt8.toNat_ofNat']
  omega
set_option maxRecDepth 10000 in
theorem map_byte_inj : ∀ x y : List Int, (∀ a ∈ x, 0 ≤ a ∧ a < 256) → (∀ a ∈ y, 0 ≤ a ∧ a < 256) → (x.map fun n => UInt8.ofNat n.toNat) = (y.map fun n => UInt8.ofNat n.toNat) → x = y
  | [], [], _, _, _ => rfl
  | [], _ :: _, _, _, h => by simp at h
  | _ :: _, [], _, _, h => by simp at h
  | a :: x, b :: y, hx, hy, h => by
    simp only [List.map_cons, List.cons.injEq] at h
    have e := byte_eq (hx a List.mem_cons_self) (hy b List.mem_cons_self)
    rw [h.1, beq_self_eq_true] at e
    rw [show a = b from by simpa using e.symm, map_byte_inj x y (fun c hc => hx c (List.mem_cons_of_mem _ hc)) (fun c hc => hy c (List.mem_cons_of_mem _ hc)) h.2]
end Go.Proofs.Ytbjneoeiognahaa
/-
  A last region whose operations' order is drawn, the world a letter through it. No program.
-/
namespace Go.Proofs.Ytbjneoeiognahaa
open Go.RowKit

set_option maxRecDepth 10000 in
theorem still_tail {P : Program} {id : Nat} {Q : Exit → Act → World → Prop} {a : Act} {w : World} {l : List Oper} (n : Nat) (hm : P.follows .mixedOrders = true) (hB : Region.lexTailB .any l.toArray n = true)
    (h : ∀ W : World, W = w.drew → wpStill P l.toArray W (fun a' => wpList P l.toArray Q (l.drop n) a' W) (l.take n) a) : (Code.region id l.toArray true).wp P Q a w :=
  wp_region_still_tail n hm hB (h _ rfl)
end Go.Proofs.Ytbjneoeiognahaa
/-
  Plain facts on the numbers in one, two, four or eight bytes (chapter 1): sizes, bytes, Zig and Zag as functions on integers. No program.
-/
namespace Go.Proofs.Ytbjneoeiognahaa
open Go.RowKit

/-- How many bytes n has. -/
def szV (n : Int) : Int :=
  if n < 0 then 0 else if 4611686018427387903 < n then 0 else if n < 64 then 1 else if n < 16384 then 2 else if n < 1073741824 then 4 else 8

set_option maxRecDepth 10000 in
theorem szV_neg {n : Int} (h : n < 0) : szV n = 0 := by simp [szV, h]
set_option maxRecDepth 10000 in
theorem szV_big {n : Int} (h : 4611686018427387903 < n) : szV n = 0 := by unfold szV; split <;> simp_all
set_option maxRecDepth 10000 in
theorem szV_1 {n : Int} (h0 : 0 ≤ n) (h : n < 64) : szV n = 1 := by
  unfold szV; rw [if_neg (by omega), if_neg (by omega), if_pos h]
set_option maxRecDepth 10000 in
theorem szV_2 {n : Int} (h0 : 64 ≤ n) (h : n < 16384) : szV n = 2 := by
  unfold szV; rw [if_neg (by omega), if_neg (by omega), if_neg (by omega), if_pos h]
set_option maxRecDepth 10000 in
theorem szV_4 {n : Int} (h0 : 16384 ≤ n) (h : n < 1073741824) : szV n = 4 := by
  unfold szV; rw [if_neg (by omega), if_neg (by omega), if_neg (by omega), if_neg (by omega), if_pos h]
set_option maxRecDepth 10000 in
theorem szV_8 {n : Int} (h0 : 1073741824 ≤ n) (h : n ≤ 4611686018427387903) : szV n = 8 := by
  unfold szV; rw [if_neg (by omega), if_neg (by omega), if_neg (by omega), if_neg (by omega), if_neg (by omega)]

/-- The Zig of n. -/
def zigV (n : Int) : Int := if n < -2305843009213693952 then -1 else if 2305843009213693951 < n then -1 else if n < 0 then -2 * n - 1 else 2 * n
/-- The Zag of m. -/
def zagV (m : Int) : Int := if m < 0 then 0 else if 4611686018427387903 < m then 0 else if m % 2 = 1 then -(m / 2) - 1 else m / 2

set_option maxRecDepth 10000 in
theorem zagV_zigV {n : Int} (h1 : -2305843009213693952 ≤ n) (h2 : n ≤ 2305843009213693951) : zagV (zigV n) = n := by
  unfold zigV zagV; split <;> (repeat' (first | omega | split))
set_option maxRecDepth 10000 in
theorem zigV_bd {n : Int} (h1 : -2305843009213693952 ≤ n) (h2 : n ≤ 2305843009213693951) : 0 ≤ zigV n ∧ zigV n ≤ 4611686018427387903 := by
  unfold zigV; constructor <;> (repeat' (first | omega | split))
set_option maxRecDepth 10000 in
theorem zigV_odd {n : Int} (h1 : -2305843009213693952 ≤ n) (h2 : n ≤ 2305843009213693951) : zigV n % 2 = 1 ↔ n < 0 := by
  unfold zigV; constructor <;> (repeat' (first | omega | split))
set_option maxRecDepth 10000 in
theorem zigV_inj {n m : Int} (h1 : -2305843009213693952 ≤ n) (h2 : n ≤ 2305843009213693951) (k1 : -2305843009213693952 ≤ m) (k2 : m ≤ 2305843009213693951) : zigV n = zigV m ↔ n = m := by
  constructor
  · intro h
    have := zagV_zigV h1 h2
    have := zagV_zigV k1 k2
    rw [h] at *
    omega
  · rintro rfl; rfl

set_option maxRecDepth 10000 in
/-- Within: the remainder that Go's '%' and one addition leave. -/
theorem within_lt {v n : Int} (h1 : 1 ≤ n) (h2 : n ≤ 4611686018427387904) (h : v.tmod n < 0) : wrap64 (v.tmod n + n) = v % n := by
  have hl := Int.lt_tmod_of_pos v (show 0 < n by omega)
  rw [IntWalk.wrap64_in _ (by omega)]
  have he := Int.tmod_def v n
  have hlt : v.tmod n + n < n := by omega
  rw [← Int.emod_eq_of_lt (show 0 ≤ v.tmod n + n by omega) hlt, he]
  have : v - n * v.tdiv n + n = v + n * (1 - v.tdiv n) := by rw [Int.mul_sub]; omega
  rw [this, Int.add_mul_emod_self_left]
set_option maxRecDepth 10000 in
theorem within_ge {v n : Int} (h1 : 1 ≤ n) (h : 0 ≤ v.tmod n) : v.tmod n = v % n := by
  have hl := Int.tmod_lt_of_pos v (show 0 < n by omega)
  have he := Int.tmod_def v n
  rw [← Int.emod_eq_of_lt h hl, he, Int.sub_eq_add_neg, ← Int.mul_neg, Int.add_mul_emod_self_left]

/-- The bytes of n. -/
def putL (n : Int) : List Int :=
  if szV n = 1 then [n] else if szV n = 2 then [64 + n / 256, n % 256]
  else if szV n = 4 then [128 + n / 256 / 256 / 256, n / 256 / 256 % 256, n / 256 % 256, n % 256]
  else if szV n = 8 then [192 + n / 256 / 256 / 256 / 256 / 256 / 256 / 256, n / 256 / 256 / 256 / 256 / 256 / 256 % 256, n / 256 / 256 / 256 / 256 / 256 % 256, n / 256 / 256 / 256 / 256 % 256, n / 256 / 256 / 256 % 256, n / 256 / 256 % 256, n / 256 % 256, n % 256] else []
set_option maxRecDepth 10000 in
theorem putL_1 {n : Int} (h0 : 0 ≤ n) (h : n < 64) : putL n = [n] := by simp [putL, szV_1 h0 h]
set_option maxRecDepth 10000 in
theorem putL_2 {n : Int} (h0 : 64 ≤ n) (h : n < 16384) : putL n = [64 + n / 256, n % 256] := by simp [putL, szV_2 h0 h]
set_option maxRecDepth 10000 in
theorem putL_4 {n : Int} (h0 : 16384 ≤ n) (h : n < 1073741824) : putL n = [128 + n / 256 / 256 / 256, n / 256 / 256 % 256, n / 256 % 256, n % 256] := by simp [putL, szV_4 h0 h]
set_option maxRecDepth 10000 in
theorem putL_8 {n : Int} (h0 : 1073741824 ≤ n) (h : n ≤ 4611686018427387903) : putL n = [192 + n / 256 / 256 / 256 / 256 / 256 / 256 / 256, n / 256 / 256 / 256 / 256 / 256 / 256 % 256, n / 256 / 256 / 256 / 256 / 256 % 256, n / 256 / 256 / 256 / 256 % 256, n / 256 / 256 / 256 % 256, n / 256 / 256 % 256, n / 256 % 256, n % 256] := by simp [putL, szV_8 h0 h]
set_option maxRecDepth 10000 in
theorem putL_no {n : Int} (h : n < 0 ∨ 4611686018427387903 < n) : putL n = [] := by
  have : szV n = 0 := by rcases h with h | h; exact szV_neg h; exact szV_big h
  simp [putL, this]
set_option maxRecDepth 10000 in
theorem or_mark (x m : Int) (h0 : 0 ≤ x) (h1 : x < 64) (hm : m = 0 ∨ m = 64 ∨ m = 128 ∨ m = 192) : bits .or .u8 x m = m + x := by
  have hc : bits .or .u8 x m = bits .or .u8 m x := by simp only [bits, BitVec.or_comm]
  rw [hc, bits_join .u8 8 (by decide) wraps_u8 6 m x (by omega) (by omega) (by omega) h0 h1 (by omega)]

set_option maxRecDepth 10000 in
theorem putL_cases (n : Int) : (n < 0 ∨ 4611686018427387903 < n) ∨ (0 ≤ n ∧ n < 64) ∨ (64 ≤ n ∧ n < 16384) ∨ (16384 ≤ n ∧ n < 1073741824) ∨ (1073741824 ≤ n ∧ n ≤ 4611686018427387903) := by omega
set_option maxRecDepth 10000 in
theorem putL_len (n : Int) : (putL n).length ≤ 8 := by
  rcases putL_cases n with h | h | h | h | h
  · rw [putL_no h]; simp
  · rw [putL_1 h.1 h.2]; simp
  · rw [putL_2 h.1 h.2]; simp
  · rw [putL_4 h.1 h.2]; simp
  · rw [putL_8 h.1 h.2]; simp
set_option maxRecDepth 10000 in
theorem putL_bytes (n : Int) : ∀ x ∈ putL n, 0 ≤ x ∧ x < 256 := by
  rcases putL_cases n with h | h | h | h | h
  · rw [putL_no h]; simp
  · rw [putL_1 h.1 h.2]; simp; omega
  · rw [putL_2 h.1 h.2]; simp; omega
  · rw [putL_4 h.1 h.2]; simp; omega
  · rw [putL_8 h.1 h.2]; simp; omega

end Go.Proofs.Ytbjneoeiognahaa
/-
  A slice of numbers that the call itself has made ('Own'), and append onto it from whatever is read ('wpList_app'). No program.
-/
namespace Go.Proofs.Ytbjneoeiognahaa
open Go.RowKit

/-- v is a slice of the numbers xs in a block from B on that the call has made (or nil). -/
def Own (k : IntKind) (e : TypeId) (w : World) (B : Nat) (v : Value) (xs : List Int) : Prop := w.ownsRow B e 1 v xs.length (cel k xs)

section
variable {k : IntKind} {e : TypeId} {w w' : World} {B : Nat} {v : Value} {xs ys : List Int}
set_option maxRecDepth 10000 in
theorem Own.nil (k : IntKind) (e : TypeId) (w : World) (B : Nat) : Own k e w B (.slice none 0 0) [] := World.ownsRow_nil w B e 1
set_option maxRecDepth 10000 in
theorem Own.form (h : Own k e w B v xs) : ∃ A c, v = .slice A xs.length c := by
  rcases h.2 with ⟨rfl, h0⟩ | ⟨g, cap, cur, rfl, _⟩
  · exact ⟨none, 0, by rw [h0]⟩
  · exact ⟨_, _, rfl⟩
set_option maxRecDepth 10000 in
theorem Own.rd {A : Option Addr} {n c : Nat} (h : Own k e w B (.slice A n c) xs) : Rd k w A xs := by
  have hn : xs.length = n := by
    obtain ⟨A', c', hv⟩ := h.form
    injection hv with _ h2 _
    exact h2.symm
  have h' : w.ownsRow B e 1 (.slice A n c) n (cel k xs) := by rw [← hn]; unfold Own at h; rw [← hn] at h; exact h
  exact Rd.own h'
set_option maxRecDepth 10000 in
theorem Own.drewN (h : Own k e w B v xs) (n : Nat) : Own k e (w.drewN n) B v xs := h
set_option maxRecDepth 10000 in
theorem Own.alloc (h : Own k e w B v xs) (o : Obj) : Own k e (w.alloc o) B v xs := World.ownsRow.alloc h o
set_option maxRecDepth 10000 in
theorem Own.kept {row : Option Nat} (h : Own k e w B v xs) (hg : w.grownBy w' row) (hne : v.ownBlock = none ∨ v.ownBlock ≠ row) : Own k e w' B v xs := World.ownsRow.kept h hg hne
set_option maxRecDepth 10000 in
theorem Own.later (h : Own k e w B v xs) (hb : Below w.heap.size w w') : Own k e w' B v xs :=
  h.kept (row := none) ⟨hb.os, hb.tape, hb.output, hb.size, fun i hi _ => hb.block i hi⟩ (by cases v.ownBlock <;> simp)
set_option maxRecDepth 10000 in
theorem Own.lt (h : Own k e w B v xs) : ∀ g, v.ownBlock = some g → B ≤ g ∧ g < w.heap.size := World.ownsRow.lt h
set_option maxRecDepth 10000 in
theorem Own.less {B' : Nat} (h : Own k e w B v xs) (hB : B' ≤ B) : Own k e w B' v xs := by
  refine ⟨h.1, ?_⟩
  rcases h.2 with h2 | ⟨g, cap, cur, hv, hg, r⟩
  · exact .inl h2
  · exact .inr ⟨g, cap, cur, hv, Nat.le_trans hB hg, r⟩
set_option maxRecDepth 10000 in
/-- Two rows of unlike elements never share a block. -/
theorem Own.apart {k' : IntKind} {e' : TypeId} {B' : Nat} {v' : Value} (h : Own k e w B v xs) (h' : Own k' e' w B' v' ys) (hne : e ≠ e') : v.ownBlock = none ∨ v.ownBlock ≠ v'.ownBlock := by
  rcases h.2 with ⟨rfl, _⟩ | ⟨g, cap, cur, rfl, _, hh, _⟩
  · exact .inl rfl
  · right
    rcases h'.2 with ⟨rfl, _⟩ | ⟨g', cap', cur', rfl, _, hh', _⟩
    · simp [Value.ownBlock]
    · intro he
      simp only [Value.ownBlock, Option.some.injEq] at he
      subst he
      rw [hh] at hh'
      injection hh' with hh'
      injection hh' with _ ht
      exact hne ht
set_option maxRecDepth 10000 in
/-- The block of a row that is not empty. -/
theorem Own.block {A : Option Addr} {n c : Nat} (h : Own k e w B (.slice A n c) xs) (h0 : 0 < n) :
    ∃ g, A = some ⟨g, 0, none⟩ ∧ B ≤ g ∧ g < w.heap.size ∧ xs.length = n ∧ (∀ i, i < n → w.cell? ⟨g, i, none⟩ = some (.int k (xs.getD i 0))) ∧ ∀ i, w.frozen? ⟨g, i, none⟩ = false := by
  have hn : xs.length = n := by
    obtain ⟨A', c', hv⟩ := h.form
    injection hv with _ h2 _
    exact h2.symm
  have h' : w.ownsRow B e 1 (.slice A n c) n (cel k xs) := by unfold Own at h; rw [hn] at h; exact h
  rcases h'.2 with ⟨hv, h1⟩ | ⟨g, cap, cur, hv, hg, hh, _⟩
  · omega
  · injection hv with hA _ hc
    subst hA; subst hc
    refine ⟨g, rfl, hg, (h'.lt g (by simp [Value.ownBlock])).2, hn, fun i hi => ?_, fun i => h'.frozenAt i⟩
    rw [h'.cellAt i (by omega)]
    simp [cel, List.getD, hn, hi]
set_option maxRecDepth 10000 in
theorem Own.cap {A : Option Addr} {n c : Nat} (h : Own k e w B (.slice A n c) xs) : n ≤ c := by
  rcases h.2 with ⟨hv, _⟩ | ⟨g, cap, cur, hv, _, _, hn, _⟩
  · injection hv with _ h2 h3; omega
  · injection hv with _ h2 h3; omega
set_option maxRecDepth 10000 in
/-- A store into it. -/
theorem Own.stored {g n c : Nat} (h : Own k e w B (.slice (some ⟨g, 0, none⟩) n c) xs) (hn : xs.length = n) (j : Nat) (x : Int) :
    Own k e (w.setCell ⟨g, j, none⟩ (.int k x)) B (.slice (some ⟨g, 0, none⟩) n c) (xs.set j x) := by
  unfold Own at h ⊢
  rw [List.length_set]
  rw [hn] at h ⊢
  have := (World.ownsRow.stored h j (.int k x)).1
  simpa [cel, List.map_set] using this
set_option maxRecDepth 10000 in
/-- A whole block that the call has just laid. -/
theorem Own.new (w : World) (xs : List Int) (t : TypeId) (hl : xs.length ≤ maxLen) : Own .u8 t (w.alloc (.cells (bts xs) t)) w.heap.size (.slice (some ⟨w.heap.size, 0, none⟩) xs.length xs.length) xs := by
  have := World.ownsRow_lit (base := w.heap.size) (e := t) (size := 1) w (bts xs) xs.length (Nat.le_refl _) hl (by simp [bts])
  simpa [Own, bts, cel] using this
set_option maxRecDepth 10000 in
theorem grown_below {row : Option Nat} (hg : w.grownBy w' row) (hB : B ≤ w.heap.size) (hr : ∀ g, row = some g → B ≤ g) : Below B w w' := (Below.refl B w).grown hg hB hr
set_option maxRecDepth 10000 in
theorem Own.none_len {k : IntKind} {e : TypeId} {w : World} {B : Nat} {A : Option Addr} {n c : Nat} {xs : List Int} (h : Own k e w B (.slice A n c) xs) (hA : A = none) : c = 0 ∧ n = 0 := by
  rcases h.2 with ⟨hv, _⟩ | ⟨g, cap, cur, hv, _⟩
  · injection hv with _ h2 h3; exact ⟨h3, h2⟩
  · injection hv with h1 _ _
    rw [hA] at h1; cases h1
end

set_option maxRecDepth 10000 in
theorem setCell_one (w : World) (b i : Nat) (v : Value) : w.grownBy (w.setCell ⟨b, i, none⟩ v) (some b) := by
  refine ⟨rfl, rfl, rfl, by simp, fun k hk hne => ?_⟩
  exact heap_setCell_other _ _ _ _ (fun e => hne (by simp [e]))

section
variable {P : Program} (w : World)

set_option maxRecDepth 10000 in
theorem run_app (k : IntKind) (t ty e : TypeId) (z : Value) (bytes : Nat) (ht : P.underlying t = some (.slice e)) (hinfo : (P.info? e).map (fun i => (i.zero, i.size, i.bytes)) = some (some z, 1, bytes)) (hz1 : z.cells.size = 1)
    (B : Nat) (v : Value) (xs : List Int) (hown : Own k e w B v xs) (A : Option Addr) (m c : Nat) (ys : List Int) (hm : ys.length = m) (hr : Rd k w A ys)
    (hmax : xs.length + m ≤ maxLen) (hbytes : (xs.length + m) * bytes ≤ 140737488355328) (hB : B ≤ w.heap.size) :
    ∃ A' c' w', (Builtin.append_ #[t, t] ty #[v, .slice A m c]).run P w = .ok (.slice A' (xs.length + m) c') w' ∧ Own k e w' B (.slice A' (xs.length + m) c') (xs ++ ys) ∧ w.grownBy w' v.ownBlock := by
  obtain ⟨i, hi, hz0, hz2, hz3⟩ := info_parts hinfo
  cases A with
  | some ad =>
    obtain ⟨v', w', hrun, h2, h3, _⟩ := run_append_own (P := P) w B t ty e i z 1 bytes ht hi hz0 hz2 hz3 hz1 (by omega) v xs.length (cel k xs) hown ad m c (cel k ys) (by simp [cel, hm]) (hr.cells ad rfl) (cel_one k ys) hmax hbytes hB
    have hlen : (xs ++ ys).length = xs.length + m := by simp [hm]
    have ho : Own k e w' B v' (xs ++ ys) := by
      unfold Own; rw [hlen]; simpa [cel] using h2
    obtain ⟨A', c', rfl⟩ := ho.form
    rw [hlen] at hrun ho
    exact ⟨A', c', w', hrun, ho, h3⟩
  | none =>
    have hy : ys = [] := by
      rcases hr with h | ⟨b, off, h, _⟩
      · exact h
      · cases h
    subst hy
    have hm0 : m = 0 := by simpa using hm.symm
    subst hm0
    obtain ⟨A', c', rfl⟩ := hown.form
    have hrun : (Builtin.append_ #[t, t] ty #[.slice A' xs.length c', .slice none 0 c]).run P w = .ok (.slice A' xs.length c') w := by
      rcases hown.2 with ⟨hv, h0⟩ | ⟨g, cap, cur, hv, _, _, hnc, _⟩
      · injection hv with h1 _ h3
        subst h1; subst h3
        rw [h0]
        simp [Builtin.append_, run_underlying ht, sizeOf, typeInfo, hi, Builtin.lenOf, Builtin.firstCells]
      · injection hv with h1 _ h3
        subst h1; subst h3
        simp [Builtin.append_, run_underlying ht, sizeOf, typeInfo, hi, Builtin.lenOf, Builtin.firstCells, hnc, storeCells]
    refine ⟨A', c', w, by simpa using hrun, by simpa using hown, World.grownBy.refl _ _⟩

set_option maxRecDepth 10000 in
/-- 'append(s, x...)', s the call's own (or nil), x whatever is read. -/
theorem wpList_app (k : IntKind) {ops : Array Oper} {rest : List Oper} {o : Oper} {a : Act} {Q : Exit → Act → World → Prop} (hgd : o.guard = none) (s x : Operand) (t : TypeId)
    (ho : o.op = .call { callee := .builtin .append, args := #[s, x], argTypes := #[t, t] })
    (e : TypeId) (z : Value) (bytes : Nat) (ht : P.underlying t = some (.slice e)) (hinfo : (P.info? e).map (fun i => (i.zero, i.size, i.bytes)) = some (some z, 1, bytes)) (hz1 : z.cells.size = 1)
    (B : Nat) (v : Value) (xs : List Int) (hs : a.eval s = v) (hown : Own k e w B v xs) (A : Option Addr) (m c : Nat) (hx : a.eval x = .slice A m c) (ys : List Int) (hm : ys.length = m) (hr : Rd k w A ys)
    (hmax : xs.length + m ≤ maxLen) (hbytes : (xs.length + m) * bytes ≤ 140737488355328) (hB : B ≤ w.heap.size)
    (h : ∀ A' c' w', Own k e w' B (.slice A' (xs.length + m) c') (xs ++ ys) → w.grownBy w' v.ownBlock → wpList P ops Q rest (a.put o.dst (.slice A' (xs.length + m) c')) w') : wpList P ops Q (o :: rest) a w := by
  refine wpList_plain hgd fun _ hK => ?_
  obtain ⟨A', c', w', hrun, h2, h3⟩ := run_app (P := P) w k t o.type e z bytes ht hinfo hz1 B v xs hown A m c ys hm hr hmax hbytes hB
  unfold Oper.wp execOp
  simp only [ho, resolve, invoke, builtin, Sem.run_bind, Sem.run_pure, Result.andThen_ok, List.map_toArray, List.map_cons, List.map_nil, hs, hx, hrun]
  exact hK _ _ (h A' c' w' h2 h3)

set_option maxRecDepth 10000 in
/-- append at a step of a region that draws its order. -/
theorem step_app (k : IntKind) {ops : Array Oper} {o : Oper} {a : Act} {K : Act → World → Prop} {Q : Exit → Act → World → Prop} {E : Prop} (hw : Region.wanted o (yielded ops a.tmps) = true) (s x : Operand) (t : TypeId)
    (ho : o.op = .call { callee := .builtin .append, args := #[s, x], argTypes := #[t, t] })
    (e : TypeId) (z : Value) (bytes : Nat) (ht : P.underlying t = some (.slice e)) (hinfo : (P.info? e).map (fun i => (i.zero, i.size, i.bytes)) = some (some z, 1, bytes)) (hz1 : z.cells.size = 1)
    (B : Nat) (v : Value) (xs : List Int) (n : Nat) (hn : xs.length = n) (hs : a.eval s = v) (hown : Own k e w B v xs) (A : Option Addr) (m c : Nat) (hx : a.eval x = .slice A m c) (ys : List Int) (hm : ys.length = m) (hr : Rd k w A ys)
    (hmax : n + m ≤ maxLen) (hbytes : (n + m) * bytes ≤ 140737488355328) (hB : B ≤ w.heap.size)
    (h : ∀ A' c' w', Own k e w' B (.slice A' (n + m) c') (xs ++ ys) → w.grownBy w' v.ownBlock → Below B w w' → K (a.put o.dst (.slice A' (n + m) c')) w') :
    if Region.wanted o (yielded ops a.tmps) = true then Oper.wp P o a w K Q else E := by
  subst hn
  obtain ⟨A', c', w', hrun, h2, h3⟩ := run_app (P := P) w k t o.type e z bytes ht hinfo hz1 B v xs hown A m c ys hm hr hmax hbytes hB
  rw [if_pos hw]
  unfold Oper.wp execOp
  simp only [ho, resolve, invoke, builtin, Sem.run_bind, Sem.run_pure, Result.andThen_ok, List.map_toArray, List.map_cons, List.map_nil, hs, hx, hrun]
  exact h A' c' w' h2 h3 (grown_below h3 hB (fun g hg => (hown.lt g hg).1))
end
end Go.Proofs.Ytbjneoeiognahaa
/-
  What Within answers: contract over the program.
-/
namespace Go.Proofs.Ytbjneoeiognahaa
open Go.RowKit

set_option maxRecDepth 10000 in
set_option maxHeartbeats 400000 in
theorem within_any (v n : Int) (w : World) (h1 : 1 ≤ n) (h2 : n ≤ 4611686018427387904) :
    Calls Try.prog 11 #[.int .i64 v, .int .i64 n] w fun e w' => e = .returned (.int .i64 (v % n)) ∧ w = w' := by
  by_cases h : v.tmod n < 0
  · go_enter Try.func11, Try.ntmps11
    go_wp2
    go_ret
    exact ⟨ret_i (within_lt h1 h2 h), rfl⟩
  · go_enter Try.func11, Try.ntmps11
    go_wp2
    go_ret
    exact ⟨ret_i (within_ge h1 (by omega)), rfl⟩
end Go.Proofs.Ytbjneoeiognahaa
/-
  Plain facts on taking a number out of bytes: what is taken ('takeV'), of what Put makes, of what is cut off or too long. No program.
-/
namespace Go.Proofs.Ytbjneoeiognahaa
open Go.RowKit

/-- How many bytes the first one tells. -/
def leadV (x : Int) : Nat := if x < 64 then 1 else if x < 128 then 2 else if x < 192 then 4 else 8
/-- The number in so many bytes. -/
def numV (xs : List Int) : Nat → Int
  | 0 => 0
  | 1 => xs.getD 0 0 % 64
  | k + 2 => numV xs (k + 1) * 256 + xs.getD (k + 1) 0
/-- What is taken. -/
def takeV (xs : List Int) : Int × Int × Bool :=
  if xs.length = 0 then (0, 0, false)
  else if xs.length < leadV (xs.getD 0 0) then (0, 0, false)
  else if szV (numV xs (leadV (xs.getD 0 0))) = leadV (xs.getD 0 0) then (numV xs (leadV (xs.getD 0 0)), leadV (xs.getD 0 0), true)
  else (0, 0, false)

set_option maxRecDepth 10000 in
theorem takeV_nil {xs : List Int} (h : xs.length = 0) : takeV xs = (0, 0, false) := by simp [takeV, h]
set_option maxRecDepth 10000 in
theorem takeV_short {xs : List Int} (h : xs.length < leadV (xs.getD 0 0)) : takeV xs = (0, 0, false) := by
  unfold takeV
  by_cases h0 : xs.length = 0
  · rw [if_pos h0]
  · rw [if_neg h0, if_pos h]
set_option maxRecDepth 10000 in
theorem takeV_no {xs : List Int} {s : Nat} {m : Int} (hs : leadV (xs.getD 0 0) = s) (hl : ¬ xs.length < s) (hm : numV xs s = m) (hz : szV m ≠ s) : takeV xs = (0, 0, false) := by
  unfold takeV; split
  · rfl
  · rw [hs, if_neg hl, hm, if_neg hz]
set_option maxRecDepth 10000 in
theorem takeV_yes {xs : List Int} {s : Nat} {m : Int} (hs : leadV (xs.getD 0 0) = s) (h0 : 0 < xs.length) (hl : ¬ xs.length < s) (hm : numV xs s = m) (hz : szV m = s) : takeV xs = (m, (s : Int), true) := by
  unfold takeV
  rw [if_neg (by omega), hs, if_neg hl, hm, if_pos hz]

set_option maxRecDepth 10000 in
theorem or256 (n d : Int) (h0 : 0 ≤ n) (h1 : n < 36028797018963968) (d0 : 0 ≤ d) (d1 : d < 256) : bits .or .i64 (n * 256) d = n * 256 + d :=
  bits_join .i64 63 (by decide) (fun n h0 h1 => by rw [IntKind.wrap_i64]; omega) 8 (n * 256) d (by omega) (by omega) (by omega) d0 (by omega) (by omega)

set_option maxRecDepth 10000 in
theorem numV_bd {xs : List Int} (hb : ∀ i, i < xs.length → 0 ≤ xs.getD i 0 ∧ xs.getD i 0 < 256) (i : Nat) : i < xs.length → i < 8 → 0 ≤ numV xs (i + 1) ∧ numV xs (i + 1) < 64 * 256 ^ i := by
  induction i with
  | zero => intro h _; have := hb 0 h; simp only [numV]; omega
  | succ i ih =>
    intro h h8
    have h1 := ih (by omega) (by omega)
    have h2 := hb (i + 1) h
    show 0 ≤ numV xs (i + 1) * 256 + xs.getD (i + 1) 0 ∧ numV xs (i + 1) * 256 + xs.getD (i + 1) 0 < 64 * 256 ^ (i + 1)
    rw [Int.pow_succ]
    omega
set_option maxRecDepth 10000 in
theorem lt_or_ge' (a b : Int) : a < b ∨ b ≤ a := by omega
set_option maxRecDepth 10000 in
theorem take1 {xs : List Int} (h : 1 ≤ xs.length) : xs.take 1 = [xs.getD 0 0] := by
  match xs, h with
  | a :: _, _ => rfl
set_option maxRecDepth 10000 in
theorem take2 {xs : List Int} (h : 2 ≤ xs.length) : xs.take 2 = [xs.getD 0 0, xs.getD 1 0] := by
  match xs, h with
  | a :: b :: _, _ => rfl
set_option maxRecDepth 10000 in
theorem take4 {xs : List Int} (h : 4 ≤ xs.length) : xs.take 4 = [xs.getD 0 0, xs.getD 1 0, xs.getD 2 0, xs.getD 3 0] := by
  match xs, h with
  | a :: b :: c :: d :: _, _ => rfl
set_option maxRecDepth 10000 in
theorem take8 {xs : List Int} (h : 8 ≤ xs.length) : xs.take 8 = [xs.getD 0 0, xs.getD 1 0, xs.getD 2 0, xs.getD 3 0, xs.getD 4 0, xs.getD 5 0, xs.getD 6 0, xs.getD 7 0] := by
  match xs, h with
  | _ :: _ :: _ :: _ :: _ :: _ :: _ :: _ :: _, _ => rfl

set_option maxRecDepth 10000 in
/-- Bytes whose number has just their size are what Put makes of it. -/
theorem putL_numV {xs : List Int} (hb : ∀ i, i < xs.length → 0 ≤ xs.getD i 0 ∧ xs.getD i 0 < 256) {s : Nat} (hs : leadV (xs.getD 0 0) = s) (h0 : 0 < xs.length) (hl : s ≤ xs.length) (hz : szV (numV xs s) = s) : putL (numV xs s) = xs.take s := by
  have hb' := hb
  have b0 := hb 0 h0
  have hnb := numV_bd hb'
  unfold leadV at hs
  split at hs
  · subst hs
    have := hnb 0 (by omega) (by omega)
    have e : numV xs 1 = xs.getD 0 0 % 64 := rfl
    rw [take1 hl, e, putL_1 (by omega) (by omega)]
    simp only [List.cons.injEq, and_true]; omega
  · split at hs
    · subst hs
      have b1 := hb 1 (by omega)
      have e : numV xs 2 = xs.getD 0 0 % 64 * 256 + xs.getD 1 0 := rfl
      have hge : 64 ≤ numV xs 2 := by
        rcases lt_or_ge' (numV xs 2) 64 with h | h
        · rw [szV_1 (by omega) h] at hz; omega
        · exact h
      rw [take2 hl, putL_2 hge (by omega), e]
      simp only [List.cons.injEq, and_true]; omega
    · split at hs
      · subst hs
        have b1 := hb 1 (by omega)
        have b2 := hb 2 (by omega)
        have b3 := hb 3 (by omega)
        have e : numV xs 4 = ((xs.getD 0 0 % 64 * 256 + xs.getD 1 0) * 256 + xs.getD 2 0) * 256 + xs.getD 3 0 := rfl
        have hge : 16384 ≤ numV xs 4 := by
          rcases lt_or_ge' (numV xs 4) 16384 with h | h
          · rcases lt_or_ge' (numV xs 4) 64 with h' | h'
            · rw [szV_1 (by omega) h'] at hz; omega
            · rw [szV_2 h' h] at hz; omega
          · exact h
        rw [take4 hl, putL_4 hge (by omega), e]
        simp only [List.cons.injEq, and_true]; omega
      · subst hs
        have b1 := hb 1 (by omega)
        have b2 := hb 2 (by omega)
        have b3 := hb 3 (by omega)
        have b4 := hb 4 (by omega)
        have b5 := hb 5 (by omega)
        have b6 := hb 6 (by omega)
        have b7 := hb 7 (by omega)
        have e : numV xs 8 = ((((((xs.getD 0 0 % 64 * 256 + xs.getD 1 0) * 256 + xs.getD 2 0) * 256 + xs.getD 3 0) * 256 + xs.getD 4 0) * 256 + xs.getD 5 0) * 256 + xs.getD 6 0) * 256 + xs.getD 7 0 := rfl
        have hge : 1073741824 ≤ numV xs 8 := by
          rcases lt_or_ge' (numV xs 8) 1073741824 with h | h
          · rcases lt_or_ge' (numV xs 8) 16384 with h1 | h1
            · rcases lt_or_ge' (numV xs 8) 64 with h' | h'
              · rw [szV_1 (by omega) h'] at hz; omega
              · rw [szV_2 h' h1] at hz; omega
            · rw [szV_4 h1 h] at hz; omega
          · exact h
        rw [take8 hl, putL_8 hge (by omega), e]
        simp only [List.cons.injEq, and_true]; omega

end Go.Proofs.Ytbjneoeiognahaa
/-
  What Size answers: contracts over the program.
-/
namespace Go.Proofs.Ytbjneoeiognahaa
open Go.RowKit

set_option maxRecDepth 10000 in
set_option maxHeartbeats 400000 in
theorem size_any (n : Int) (w : World) :
    Calls Try.prog 126 #[.int .i64 n] w fun e w' => e = .returned (.int .i64 (szV n)) ∧ w = w' := by
  go_enter Try.func126, Try.ntmps126
  go_wp2
  all_goals go_ret
  all_goals (refine ⟨ret_i ?_, rfl⟩; simp only [szV]; (repeat' (first | omega | split)))
end Go.Proofs.Ytbjneoeiognahaa
/-
  What a Reader's Number, Bytes and Byte tell of its bytes (chapter 4): plain functions. No program.
-/
namespace Go.Proofs.Ytbjneoeiognahaa
open Go.RowKit

/-- What number tells of a Reader's bytes from its place on. -/
def numT (xs : List Int) (a : Nat) (bad : Bool) : Int × Int × Bool := if bad then (0, 0, false) else takeV (xs.drop a)

set_option maxRecDepth 10000 in
theorem takeV_cases (xs : List Int) : takeV xs = (0, 0, false) ∨ ∃ n s : Nat, takeV xs = ((n : Int), (s : Int), true) ∧ 1 ≤ s ∧ s ≤ 8 ∧ s ≤ xs.length ∧ n ≤ 4611686018427387903 := by
  unfold takeV
  by_cases h0 : xs.length = 0
  · left; rw [if_pos h0]
  · rw [if_neg h0]
    by_cases h1 : xs.length < leadV (xs.getD 0 0)
    · left; rw [if_pos h1]
    · rw [if_neg h1]
      by_cases h2 : szV (numV xs (leadV (xs.getD 0 0))) = leadV (xs.getD 0 0)
      · right
        rw [if_pos h2]
        have hs : leadV (xs.getD 0 0) = 1 ∨ leadV (xs.getD 0 0) = 2 ∨ leadV (xs.getD 0 0) = 4 ∨ leadV (xs.getD 0 0) = 8 := by unfold leadV; (repeat' split) <;> simp
        obtain ⟨m, hm⟩ : ∃ m, numV xs (leadV (xs.getD 0 0)) = m := ⟨_, rfl⟩
        rw [hm] at h2 ⊢
        have hm0 : 0 ≤ m := by
          rcases lt_or_ge' m 0 with h | h
          · rw [szV_neg h] at h2; omega
          · exact h
        have hm1 : m ≤ 4611686018427387903 := by
          rcases lt_or_ge' 4611686018427387903 m with h | h
          · rw [szV_big h] at h2; omega
          · exact h
        exact ⟨m.toNat, leadV (xs.getD 0 0), by rw [Int.toNat_of_nonneg hm0], by omega, by omega, by omega, by omega⟩
      · left; rw [if_neg h2]

set_option maxRecDepth 10000 in
theorem numT_cases {xs : List Int} {a : Nat} {bad : Bool} (hle : a ≤ xs.length) :
    numT xs a bad = (0, 0, false) ∨ ∃ n s : Nat, numT xs a bad = ((n : Int), (s : Int), true) ∧ bad = false ∧ 1 ≤ s ∧ s ≤ 8 ∧ a + s ≤ xs.length ∧ n ≤ 4611686018427387903 := by
  unfold numT
  cases bad with
  | true => exact .inl rfl
  | false =>
    rcases takeV_cases (xs.drop a) with h | ⟨n, s, h, h1, h2, h3, h4⟩
    · exact .inl h
    · refine .inr ⟨n, s, h, rfl, h1, h2, ?_, h4⟩
      rw [List.length_drop] at h3
      omega

/-- What Bytes tells, where it stands then, and whether it is bad. -/
def bytT (xs : List Int) (a : Nat) (bad : Bool) (most : Int) : List Int × Nat × Bool :=
  if (numT xs a bad).2.2 = false ∨ most < (numT xs a bad).1 ∨ ((xs.length - a : Nat) : Int) - (numT xs a bad).2.1 < (numT xs a bad).1 then ([], a, true)
  else ((xs.drop (a + (numT xs a bad).2.1.toNat)).take (numT xs a bad).1.toNat, a + (numT xs a bad).2.1.toNat + (numT xs a bad).1.toNat, false)

set_option maxRecDepth 10000 in
theorem bytT_cases {xs : List Int} {a : Nat} {bad : Bool} (most : Int) (hle : a ≤ xs.length) :
    (numT xs a bad = (0, 0, false) ∧ bytT xs a bad most = ([], a, true)) ∨ ∃ n s : Nat, numT xs a bad = ((n : Int), (s : Int), true) ∧ bad = false ∧ 1 ≤ s ∧ s ≤ 8 ∧ a + s ≤ xs.length ∧ n ≤ 4611686018427387903 ∧
      ((most < (n : Int) ∧ bytT xs a bad most = ([], a, true)) ∨ ((n : Int) ≤ most ∧ ((xs.length - a : Nat) : Int) - (s : Int) < (n : Int) ∧ bytT xs a bad most = ([], a, true)) ∨
        ((n : Int) ≤ most ∧ a + s + n ≤ xs.length ∧ bytT xs a bad most = ((xs.drop (a + s)).take n, a + s + n, false))) := by
  unfold bytT
  rcases numT_cases (bad := bad) hle with ht | ⟨n, s, ht, hb, h1, h2, h3, h4⟩
  · left
    rw [ht]
    exact ⟨rfl, by simp⟩
  · right
    refine ⟨n, s, ht, hb, h1, h2, h3, h4, ?_⟩
    rw [ht]
    by_cases c1 : most < (n : Int)
    · left
      exact ⟨c1, by simp [c1]⟩
    · right
      by_cases c2 : ((xs.length - a : Nat) : Int) - (s : Int) < (n : Int)
      · left
        exact ⟨by omega, c2, by simp [c2]⟩
      · right
        refine ⟨by omega, by omega, ?_⟩
        simp only [Int.toNat_natCast]
        rw [if_neg (by simp; omega)]

/-- What Byte tells, where it stands then, and whether it is bad. -/
def oneT (xs : List Int) (a : Nat) (bad : Bool) : Int × Nat × Bool := if bad = true ∨ xs.length - a = 0 then (0, a, true) else (xs.getD a 0, a + 1, false)
end Go.Proofs.Ytbjneoeiognahaa
/-
  What is taken of what Put made, whatever is behind it; of a part of it; of it in needless bytes. No program.
-/
namespace Go.Proofs.Ytbjneoeiognahaa
open Go.RowKit

set_option maxRecDepth 10000 in
theorem takeV_putL {x : Int} (h0 : 0 ≤ x) (h1 : x ≤ 4611686018427387903) (r : List Int) : takeV (putL x ++ r) = (x, ((putL x).length : Int), true) := by
  rcases putL_cases x with h | h | h | h | h
  · omega
  · rw [putL_1 h.1 h.2]
    have hl : leadV x = 1 := by unfold leadV; rw [if_pos h.2]
    rw [takeV_yes (xs := [x] ++ r) (s := 1) (m := x) hl (by simp) (by simp) (show x % 64 = x by omega) (szV_1 h.1 h.2)]
    rfl
  · rw [putL_2 h.1 h.2]
    have hl : leadV (64 + x / 256) = 2 := by unfold leadV; rw [if_neg (by omega), if_pos (by omega)]
    rw [takeV_yes (xs := [64 + x / 256, x % 256] ++ r) (s := 2) (m := x) hl (by simp) (by simp) (show (64 + x / 256) % 64 * 256 + x % 256 = x by omega) (szV_2 h.1 h.2)]
    rfl
  · rw [putL_4 h.1 h.2]
    have hl : leadV (128 + x / 256 / 256 / 256) = 4 := by unfold leadV; rw [if_neg (by omega), if_neg (by omega), if_pos (by omega)]
    rw [takeV_yes (xs := [128 + x / 256 / 256 / 256, x / 256 / 256 % 256, x / 256 % 256, x % 256] ++ r) (s := 4) (m := x) hl (by simp) (by simp)
      (show (((128 + x / 256 / 256 / 256) % 64 * 256 + x / 256 / 256 % 256) * 256 + x / 256 % 256) * 256 + x % 256 = x by omega) (szV_4 h.1 h.2)]
    rfl
  · rw [putL_8 h.1 h.2]
    have hl : leadV (192 + x / 256 / 256 / 256 / 256 / 256 / 256 / 256) = 8 := by unfold leadV; rw [if_neg (by omega), if_neg (by omega), if_neg (by omega)]
    rw [takeV_yes (xs := [192 + x / 256 / 256 / 256 / 256 / 256 / 256 / 256, x / 256 / 256 / 256 / 256 / 256 / 256 % 256, x / 256 / 256 / 256 / 256 / 256 % 256, x / 256 / 256 / 256 / 256 % 256, x / 256 / 256 / 256 % 256, x / 256 / 256 % 256, x / 256 % 256, x % 256] ++ r) (s := 8) (m := x) hl (by simp) (by simp)
      (show (((((((192 + x / 256 / 256 / 256 / 256 / 256 / 256 / 256) % 64 * 256 + x / 256 / 256 / 256 / 256 / 256 / 256 % 256) * 256 + x / 256 / 256 / 256 / 256 / 256 % 256) * 256 + x / 256 / 256 / 256 / 256 % 256) * 256 + x / 256 / 256 / 256 % 256) * 256 + x / 256 / 256 % 256) * 256 + x / 256 % 256) * 256 + x % 256 = x by omega) (szV_8 h.1 h.2)]
    rfl

set_option maxRecDepth 10000 in
/-- A part of it is none. -/
theorem takeV_cut {x : Int} (h0 : 0 ≤ x) (h1 : x ≤ 4611686018427387903) {j : Nat} (hj : j < (putL x).length) : takeV ((putL x).take j) = (0, 0, false) := by
  by_cases hz : j = 0
  · subst hz; exact takeV_nil (by simp)
  · have hlead : leadV ((putL x).getD 0 0) = (putL x).length := by
      rcases putL_cases x with h | h | h | h | h
      · omega
      · rw [putL_1 h.1 h.2]; show leadV x = 1; unfold leadV; rw [if_pos h.2]
      · rw [putL_2 h.1 h.2]; show leadV (64 + x / 256) = 2; unfold leadV; rw [if_neg (by omega), if_pos (by omega)]
      · rw [putL_4 h.1 h.2]; show leadV (128 + x / 256 / 256 / 256) = 4; unfold leadV; rw [if_neg (by omega), if_neg (by omega), if_pos (by omega)]
      · rw [putL_8 h.1 h.2]; show leadV (192 + x / 256 / 256 / 256 / 256 / 256 / 256 / 256) = 8; unfold leadV; rw [if_neg (by omega), if_neg (by omega), if_neg (by omega)]
    apply takeV_short
    have e : ((putL x).take j).getD 0 0 = (putL x).getD 0 0 := by
      simp [List.getD, show 0 < j by omega]
    rw [e, hlead, List.length_take]
    omega

set_option maxRecDepth 10000 in
theorem putL_szV {x : Int} (h0 : 0 ≤ x) (h1 : x ≤ 4611686018427387903) : ((putL x).length : Int) = szV x := by
  rcases putL_cases x with h | h | h | h | h
  · omega
  · rw [putL_1 h.1 h.2, szV_1 h.1 h.2]; rfl
  · rw [putL_2 h.1 h.2, szV_2 h.1 h.2]; rfl
  · rw [putL_4 h.1 h.2, szV_4 h.1 h.2]; rfl
  · rw [putL_8 h.1 h.2, szV_8 h.1 h.2]; rfl
set_option maxRecDepth 10000 in
theorem putL_pos {x : Int} (h0 : 0 ≤ x) (h1 : x ≤ 4611686018427387903) : 0 < (putL x).length := by
  have := putL_szV h0 h1
  rcases putL_cases x with h | h | h | h | h
  · omega
  · rw [szV_1 h.1 h.2] at this; omega
  · rw [szV_2 h.1 h.2] at this; omega
  · rw [szV_4 h.1 h.2] at this; omega
  · rw [szV_8 h.1 h.2] at this; omega

/-- Numbers' bytes, one behind the other. -/
def catL : List Int → List Int
  | [] => []
  | x :: l => putL x ++ catL l
set_option maxRecDepth 10000 in
theorem catL_append (l m : List Int) : catL (l ++ m) = catL l ++ catL m := by
  induction l with
  | nil => rfl
  | cons x l ih => simp [catL, ih]
set_option maxRecDepth 10000 in
theorem catL_len : ∀ l : List Int, (catL l).length ≤ 8 * l.length
  | [] => by simp [catL]
  | x :: l => by have := catL_len l; have := putL_len x; simp [catL]; omega
set_option maxRecDepth 10000 in
theorem catL_bytes : ∀ l : List Int, ∀ a ∈ catL l, 0 ≤ a ∧ a < 256
  | [], a, h => by simp [catL] at h
  | x :: l, a, h => by
    rw [catL, List.mem_append] at h
    rcases h with h | h
    · exact putL_bytes x a h
    · exact catL_bytes l a h
set_option maxRecDepth 10000 in
theorem catL_snoc (l : List Int) (x : Int) : catL (l ++ [x]) = catL l ++ putL x := by rw [catL_append]; simp [catL]
set_option maxRecDepth 10000 in
/-- The bytes from the number j on. -/
theorem catL_drop (l : List Int) (j : Nat) (hj : j < l.length) : (catL l).drop (catL (l.take j)).length = putL (l.getD j 0) ++ catL (l.drop (j + 1)) := by
  have e : l = l.take j ++ (l.getD j 0 :: l.drop (j + 1)) := by
    have := List.take_append_drop j l
    rw [List.drop_eq_getElem_cons hj] at this
    rw [show l.getD j 0 = l[j] from by simp [List.getD, hj]]
    exact this.symm
  have e2 : catL l = catL (l.take j) ++ (putL (l.getD j 0) ++ catL (l.drop (j + 1))) := by
    conv => lhs; rw [e]
    rw [catL_append]; rfl
  rw [e2]
  simp
set_option maxRecDepth 10000 in
theorem catL_take_succ (l : List Int) (j : Nat) (hj : j < l.length) : catL (l.take (j + 1)) = catL (l.take j) ++ putL (l.getD j 0) := by
  rw [List.take_succ_eq_append_getElem hj, catL_snoc]
  simp [List.getD, hj]
set_option maxRecDepth 10000 in
theorem catL_take_le (l : List Int) (j : Nat) (hj : j < l.length) : (catL (l.take j)).length + (putL (l.getD j 0)).length ≤ (catL l).length := by
  have h1 := congrArg List.length (catL_drop l j hj)
  have h2 : 0 ≤ (catL (l.drop (j + 1))).length := Nat.zero_le _
  have h3 := List.take_append_drop j l
  have h4 := congrArg (fun m => (catL m).length) h3
  simp only [catL_append, List.length_append] at h4
  simp only [List.length_drop, List.length_append] at h1
  omega
end Go.Proofs.Ytbjneoeiognahaa
/-
  Fields, one behind the other, as a Reader tells them again (chapter 4): plain facts. No program.
-/
namespace Go.Proofs.Ytbjneoeiognahaa
open Go.RowKit

/-- The first j of lists, one behind the other. -/
def catB (f : Nat → List Int) : Nat → List Int
  | 0 => []
  | j + 1 => catB f j ++ f j

set_option maxRecDepth 10000 in
theorem catB_len {f : Nat → List Int} {m : Nat} (hf : ∀ j, (f j).length ≤ m) (j : Nat) : (catB f j).length ≤ m * j := by
  induction j with
  | zero => simp [catB]
  | succ j ih =>
    have := hf j
    simp only [catB, List.length_append]
    rw [Nat.mul_succ]
    omega
set_option maxRecDepth 10000 in
theorem catB_split (f : Nat → List Int) {j n : Nat} (h : j ≤ n) : ∃ r, catB f n = catB f j ++ r := by
  induction n with
  | zero =>
    obtain rfl : j = 0 := by omega
    exact ⟨[], by simp⟩
  | succ n ih =>
    by_cases e : j = n + 1
    · subst e; exact ⟨[], by simp⟩
    · obtain ⟨r, hr⟩ := ih (by omega)
      exact ⟨r ++ f n, by simp only [catB, hr, List.append_assoc]⟩
set_option maxRecDepth 10000 in
theorem catB_drop (f : Nat → List Int) {j n : Nat} (h : j < n) : ∃ r, (catB f n).drop (catB f j).length = f j ++ r := by
  obtain ⟨r, hr⟩ := catB_split f (show j + 1 ≤ n from h)
  refine ⟨r, ?_⟩
  rw [hr]
  simp only [catB, List.append_assoc]
  rw [List.drop_left]
set_option maxRecDepth 10000 in
theorem catB_le (f : Nat → List Int) {j n : Nat} (h : j ≤ n) : (catB f j).length ≤ (catB f n).length := by
  obtain ⟨r, hr⟩ := catB_split f h
  rw [hr, List.length_append]; omega
set_option maxRecDepth 10000 in
theorem catB_bytes {f : Nat → List Int} {n : Nat} (hf : ∀ j, j < n → ∀ x ∈ f j, 0 ≤ x ∧ x < 256) (j : Nat) (h : j ≤ n) : ∀ x ∈ catB f j, 0 ≤ x ∧ x < 256 := by
  induction j with
  | zero => simp [catB]
  | succ j ih =>
    intro x hx
    simp only [catB] at hx
    rcases List.mem_append.1 hx with hx | hx
    · exact ih (by omega) x hx
    · exact hf j (by omega) x hx

section
variable {xs : List Int} {a : Nat}
set_option maxRecDepth 10000 in
theorem drop_more {u v : List Int} (h : xs.drop a = u ++ v) : xs.drop (a + u.length) = v := by
  rw [← List.drop_drop, h, List.drop_left]
set_option maxRecDepth 10000 in
theorem drop_le {u v : List Int} (h : xs.drop a = u ++ v) (ha : a ≤ xs.length) : a + u.length ≤ xs.length := by
  have := congrArg List.length h
  rw [List.length_drop, List.length_append] at this
  omega
set_option maxRecDepth 10000 in
theorem numT_at {z : Int} {r : List Int} (h0 : 0 ≤ z) (h1 : z ≤ 4611686018427387903) (h : xs.drop a = putL z ++ r) : numT xs a false = (z, ((putL z).length : Int), true) := by
  show takeV (xs.drop a) = _
  rw [h]
  exact takeV_putL h0 h1 r
set_option maxRecDepth 10000 in
theorem bytT_at {t r : List Int} {most : Int} (ht : t.length ≤ 4611686018427387903) (hm : (t.length : Int) ≤ most) (h : xs.drop a = putL (t.length : Int) ++ (t ++ r)) :
    bytT xs a false most = (t, a + (putL (t.length : Int)).length + t.length, false) := by
  have hn := numT_at (by omega) (by omega) h
  have h2 := drop_more h
  have hl := congrArg List.length h
  rw [List.length_drop, List.length_append, List.length_append] at hl
  unfold bytT
  rw [hn, if_neg (by simp; omega)]
  simp only [Int.toNat_natCast]
  rw [h2, List.take_left]
set_option maxRecDepth 10000 in
theorem oneT_at {c : Int} {r : List Int} (h : xs.drop a = c :: r) : oneT xs a false = (c, a + 1, false) := by
  have hl := congrArg List.length h
  rw [List.length_drop, List.length_cons] at hl
  unfold oneT
  rw [if_neg (by simp; omega)]
  have : xs.getD a 0 = c := by
    have h1 : (xs.drop a).getD 0 0 = c := by rw [h]; rfl
    rw [← h1]
    simp [List.getD]
  rw [this]
end

/-- One field of SpanBack: a number, bytes, one byte. -/
def fieldB (z : Int) (t : List Int) (c : Int) : List Int := putL z ++ ((putL (t.length : Int) ++ t) ++ [c])
set_option maxRecDepth 10000 in
theorem fieldB_len (z : Int) {t : List Int} (c : Int) (ht : t.length ≤ 80) : (fieldB z t c).length ≤ 97 := by
  have h1 := putL_len z
  have h2 := putL_len t.length
  simp only [fieldB, List.length_append, List.length_singleton]
  omega
set_option maxRecDepth 10000 in
theorem fieldB_bytes {z : Int} {t : List Int} {c : Int} (ht : ∀ x ∈ t, 0 ≤ x ∧ x < 256) (hc : 0 ≤ c ∧ c < 256) : ∀ x ∈ fieldB z t c, 0 ≤ x ∧ x < 256 := by
  intro x hx
  simp only [fieldB, List.mem_append, List.mem_singleton] at hx
  rcases hx with hx | (hx | hx) | hx
  · exact putL_bytes z x hx
  · exact putL_bytes _ x hx
  · exact ht x hx
  · rw [hx]; exact hc

set_option maxRecDepth 10000 in
/-- What a Reader tells of a field, and where it stands behind each part. -/
theorem field_read {xs : List Int} {a : Nat} {z : Int} {t : List Int} {c : Int} {r : List Int} (h0 : 0 ≤ z) (h1 : z ≤ 4611686018427387903) (ht : t.length ≤ 80) (ha : a ≤ xs.length) (h : xs.drop a = fieldB z t c ++ r) :
    ∃ a1 a2, numT xs a false = (z, ((a1 - a : Nat) : Int), true) ∧ a ≤ a1 ∧ bytT xs a1 false 80 = (t, a2, false) ∧ oneT xs a2 false = (c, a2 + 1, false) ∧ a2 + 1 = a + (fieldB z t c).length := by
  have e1 : xs.drop a = putL z ++ (((putL (t.length : Int) ++ t) ++ [c]) ++ r) := by rw [h]; simp only [fieldB, List.append_assoc]
  have e2 := drop_more e1
  have l2 := drop_le e1 ha
  have e3 : xs.drop (a + (putL z).length) = putL (t.length : Int) ++ (t ++ ([c] ++ r)) := by rw [e2]; simp only [List.append_assoc]
  have e4 := drop_more (u := putL (t.length : Int) ++ t) (v := [c] ++ r) (by rw [e3]; simp only [List.append_assoc])
  refine ⟨a + (putL z).length, a + (putL z).length + (putL (t.length : Int)).length + t.length, ?_, by omega, ?_, ?_, ?_⟩
  · rw [numT_at h0 h1 e1, Nat.add_sub_cancel_left]
  · exact bytT_at (by omega) (by omega) e3
  · refine oneT_at (r := r) ?_
    rw [List.length_append] at e4
    rw [show a + (putL z).length + (putL (t.length : Int)).length + t.length = a + (putL z).length + ((putL (t.length : Int)).length + t.length) by omega, e4]
    rfl
  · simp only [fieldB, List.length_append, List.length_singleton]
    omega
end Go.Proofs.Ytbjneoeiognahaa
/-
  A Reader (three cells: its bytes, its place, whether it is bad) in a block of the call's own ('RdrT'), of whatever type. No function of the program.
-/
namespace Go.Proofs.Ytbjneoeiognahaa
open Go.RowKit

set_option maxRecDepth 10000 in
/-- A contract that leaves the world, at a call of a quiet region. -/
theorem quiet_eq {P : Program} {f : Nat} {args : Array Value} {w : World} {n : Nat} {v : Value} (h : Calls P f args (w.drewN n) fun e w' => e = .returned v ∧ w.drewN n = w') :
    Calls P f args (w.drewN n) fun e w'' => e = .returned v ∧ ∃ m, w'' = w.drewN m := Calls.quiet_of_same (h.mono fun _ _ ⟨h1, h2⟩ => ⟨h1, h2.symm⟩)

set_option maxRecDepth 10000 in
theorem grown_drewN {w w' : World} {k : Nat} {r : Option Nat} (h : (w.drewN k).grownBy w' r) : w.grownBy w' r := ⟨h.os, h.tape, h.output, h.size, h.block⟩

set_option maxRecDepth 10000 in
theorem grown_then {w w1 w' : World} {r : Option Nat} (h : w.grownBy w1 r) (hb : Below w1.heap.size w1 w') : w.grownBy w' r :=
  ⟨hb.os.trans h.os, hb.tape.trans h.tape, hb.output.trans h.output, Nat.le_trans h.size hb.size, fun i hi hne => (hb.block i (Nat.lt_of_lt_of_le hi h.size)).trans (h.block i hi hne)⟩

/-- The cells of a Reader. -/
def rdrF (A : Option Addr) (n c a : Nat) (bad : Bool) (i : Nat) : Value := if i = 0 then .slice A n c else if i = 1 then .int .i64 (a : Nat) else .bool bad
/-- Block p is a Reader of the bytes xs, at the place a. -/
structure RdrT (ty : TypeId) (w : World) (p : Nat) (A : Option Addr) (c : Nat) (xs : List Int) (a : Nat) (bad : Bool) : Prop where
  ne : 5 ≠ ty
  row : w.rowIs p ty 3 (rdrF A xs.length c a bad)
  own : Own .u8 5 w 0 (.slice A xs.length c) xs
  le : a ≤ xs.length
  reach : xs.length ≤ 140737488355328
  bytes : ∀ x ∈ xs, 0 ≤ x ∧ x < 256

section
variable {ty ty' : TypeId} {w w' : World} {p : Nat} {A : Option Addr} {c : Nat} {xs : List Int} {a : Nat} {bad : Bool}
set_option maxRecDepth 10000 in
theorem RdrT.lt (h : RdrT ty w p A c xs a bad) : p < w.heap.size := World.rowIs.lt h.row
set_option maxRecDepth 10000 in
theorem RdrT.drewN (h : RdrT ty w p A c xs a bad) (n : Nat) : RdrT ty (w.drewN n) p A c xs a bad := ⟨h.ne, h.row, h.own, h.le, h.reach, h.bytes⟩
set_option maxRecDepth 10000 in
theorem RdrT.drew (h : RdrT ty w p A c xs a bad) : RdrT ty w.drew p A c xs a bad := ⟨h.ne, h.row, h.own, h.le, h.reach, h.bytes⟩
set_option maxRecDepth 10000 in
theorem RdrT.later (h : RdrT ty w p A c xs a bad) (hb : Below w.heap.size w w') : RdrT ty w' p A c xs a bad :=
  ⟨h.ne, World.rowIs.of_block h.row (hb.block p h.lt), h.own.later hb, h.le, h.reach, h.bytes⟩
set_option maxRecDepth 10000 in
theorem RdrT.alloc (h : RdrT ty w p A c xs a bad) (o : Obj) : RdrT ty (w.alloc o) p A c xs a bad := h.later ((Below.refl _ _).alloc (Nat.le_refl _) _)
set_option maxRecDepth 10000 in
/-- What reads at a Reader's block. -/
theorem RdrT.c0 (h : RdrT ty w p A c xs a bad) : w.cell? ⟨p, 0, none⟩ = some (.slice A xs.length c) := World.rowIs.cell (i := 0) h.row (by omega)
set_option maxRecDepth 10000 in
theorem RdrT.c1 (h : RdrT ty w p A c xs a bad) : w.cell? ⟨p, 0 + 1, none⟩ = some (.int .i64 (a : Nat)) := World.rowIs.cell (i := 1) h.row (by omega)
set_option maxRecDepth 10000 in
theorem RdrT.c2 (h : RdrT ty w p A c xs a bad) : w.cell? ⟨p, 0 + 2, none⟩ = some (.bool bad) := World.rowIs.cell (i := 2) h.row (by omega)
set_option maxRecDepth 10000 in
theorem RdrT.fr (h : RdrT ty w p A c xs a bad) (i : Nat) : w.frozen? ⟨p, i, none⟩ = false := World.rowIs.frozen h.row i
set_option maxRecDepth 10000 in
/-- Bytes of the call's own never lie in a Reader's block. -/
theorem own_not_row {v : Value} {B q n : Nat} {ys : List Int} {f : Nat → Value} (h : Own .u8 5 w B v ys) (hne : 5 ≠ ty) (hr : w.rowIs q ty n f) : v.ownBlock = none ∨ v.ownBlock ≠ some q := by
  rcases h.2 with ⟨hv, _⟩ | ⟨g, cap, cur, hv, _, hh, _⟩
  · left; rw [hv]; rfl
  · right
    rw [hv]
    intro he
    simp only [Value.ownBlock, Option.some.injEq] at he
    subst he
    obtain ⟨cur', hh', _⟩ := hr
    rw [hh] at hh'
    injection hh' with hh'
    injection hh' with _ ht
    exact hne ht
set_option maxRecDepth 10000 in
theorem Own.rdr {v : Value} {B : Nat} {ys : List Int} (h : Own .u8 5 w B v ys) (hr : RdrT ty w p A c xs a bad) (hg : w.grownBy w' (some p)) : Own .u8 5 w' B v ys := h.kept hg (own_not_row h hr.ne hr.row)
set_option maxRecDepth 10000 in
theorem bel_rdr {B : Nat} {w0 : World} (hb : Below B w0 w) (hB : B ≤ w.heap.size) (hp : B ≤ p) (hg : w.grownBy w' (some p)) : Below B w0 w' := hb.grown hg hB (by intro g hg; simp at hg; omega)
set_option maxRecDepth 10000 in
/-- Another Reader's call leaves it. -/
theorem RdrT.other {q : Nat} {A' : Option Addr} {c' : Nat} {ys : List Int} {a' : Nat} {bad' : Bool} (h : RdrT ty w p A c xs a bad) (hr : RdrT ty' w q A' c' ys a' bad') (hne : p ≠ q) (hg : w.grownBy w' (some q)) : RdrT ty w' p A c xs a bad :=
  ⟨h.ne, World.rowIs.of_block h.row (hg.block p h.lt (by simp; omega)), h.own.kept hg (own_not_row h.own hr.ne hr.row), h.le, h.reach, h.bytes⟩
set_option maxRecDepth 10000 in
theorem RdrT.set1 (h : RdrT ty w p A c xs a bad) (b : Nat) (hb : b ≤ xs.length) (x : Int) (hx : x = (b : Int)) : RdrT ty (w.setCell ⟨p, 0 + 1, none⟩ (.int .i64 x)) p A c xs b bad := by
  subst hx
  exact ⟨h.ne, (h.row.set 1 _).congr fun i _ => by
    unfold rdrF
    by_cases h0 : i = 1
    · subst h0; simp
    · simp [h0], h.own.kept (setCell_one _ _ _ _) (own_not_row h.own h.ne h.row), hb, h.reach, h.bytes⟩
set_option maxRecDepth 10000 in
theorem RdrT.set2 (h : RdrT ty w p A c xs a bad) (b : Bool) : RdrT ty (w.setCell ⟨p, 0 + 2, none⟩ (.bool b)) p A c xs a b :=
  ⟨h.ne, (h.row.set 2 _).congr fun i hi => by
    unfold rdrF
    have : i = 0 ∨ i = 1 ∨ i = 2 := by omega
    rcases this with rfl | rfl | rfl <;> simp, h.own.kept (setCell_one _ _ _ _) (own_not_row h.own h.ne h.row), h.le, h.reach, h.bytes⟩
end
end Go.Proofs.Ytbjneoeiognahaa
/-
  What Copy and Cut make of bytes: contracts over the program.
-/
namespace Go.Proofs.Ytbjneoeiognahaa
open Go.RowKit

set_option maxRecDepth 10000 in
theorem info_byte : (Try.prog.info? 5).map (fun i => (i.zero, i.size, i.bytes)) = some (some (.int .u8 0), 1, 1) := by kernel_rfl

set_option maxRecDepth 10000 in
set_option maxHeartbeats 400000 in
theorem copy_any (A : Option Addr) (n c : Nat) (xs : List Int) (w : World) (hn : xs.length = n) (hr : Rd .u8 w A xs) (hb : n ≤ 140737488355328) :
    Calls Try.prog 12 #[.slice A n c] w fun e w' => ∃ A' c', e = .returned (.slice A' n c') ∧ Own .u8 5 w' w.heap.size (.slice A' n c') xs ∧ Below w.heap.size w w' := by
  go_enter Try.func12, Try.ntmps12
  go_wp2_with (at_builtin; refine wpList_app _ .u8 rfl (.const (.slice none 0 0)) (.tmp 3) 23 rfl 5 (.int .u8 0) 1 Try.underlying23 info_byte rfl w.heap.size (.slice none 0 0) [] rfl (Own.nil _ _ _ _) A n c rfl xs hn hr (by simp [maxLen]; omega) (by simp; omega) (Nat.le_refl _) ?_; intro A' c' w' ho hg)
  go_ret
  simp only [List.length_nil, Nat.zero_add, List.nil_append] at ho ⊢
  exact ⟨A', c', rfl, ho, grown_below hg (Nat.le_refl _) (by simp [Value.ownBlock])⟩

set_option maxRecDepth 10000 in
set_option maxHeartbeats 400000 in
theorem cut_any (A : Option Addr) (n c : Nat) (m : Int) (xs : List Int) (w : World) (hn : xs.length = n) (hc : n ≤ c) (hr : Rd .u8 w A xs) (hb : n ≤ 9223372036854775807) (h0 : 0 ≤ m) (hm : m ≤ 140737488355328) :
    Calls Try.prog 10 #[.slice A n c, .int .i64 m] w fun e w' =>
      ∃ A' c', e = .returned (.slice A' (xs.take m.toNat).length c') ∧ Own .u8 5 w' w.heap.size (.slice A' (xs.take m.toNat).length c') (xs.take m.toNat) ∧ Below w.heap.size w w' := by
  obtain ⟨k, rfl⟩ := Int.eq_ofNat_of_zero_le h0
  rw [Int.toNat_natCast]
  have HN := Lib.hid hn
  clear hn
  have hl : (xs.take k).length = min k n := by rw [List.length_take, HN.out]
  rw [hl]
  have HL := Lib.hid hl
  clear hl
  by_cases h : (n : Int) ≤ (k : Int)
  · have hk : xs.take k = xs := List.take_of_length_le (by rw [HN.out]; omega)
    have hmn : min k n = n := by omega
    rw [hmn, hk]
    clear hk hmn
    go_enter Try.func10, Try.ntmps10
    go_wp2_with fail
    refine (copy_any A n c xs w HN.out hr (by omega)).mono ?_
    rintro e w' ⟨A', c', rfl, ho, hbl⟩
    go_wp2
    go_ret
    exact ⟨A', c', rfl, ho, hbl⟩
  · have hmn : min k n = k := by omega
    have HK := Lib.hid hmn
    rw [hmn]
    clear hmn
    go_enter Try.func10, Try.ntmps10
    go_wp2_with fail
    refine (copy_any A k c (xs.take k) w (by rw [HL.out, HK.out]) (hr.take k) (by omega)).mono ?_
    rintro e w' ⟨A', c', rfl, ho, hbl⟩
    go_wp2
    go_ret
    exact ⟨A', c', rfl, ho, hbl⟩

end Go.Proofs.Ytbjneoeiognahaa
/-
  'string(b)' of bytes that are read.
-/
namespace Go.Proofs.Ytbjneoeiognahaa
open Go.RowKit

set_option maxRecDepth 10000 in
theorem conv_rd {A : Option Addr} {n : Nat} (c : Nat) {xs : List Int} {w : World} (hn : xs.length = n) (hr : Rd .u8 w A xs) :
    (convert 23 9 (.slice A n c)).run Try.prog w = .ok (.string (strOfNums xs)) w := by
  rcases hr with rfl | ⟨b, off, rfl, h⟩
  · have h0 : n = 0 := by simpa using hn.symm
    subst h0
    cases A with
    | none => exact run_convert_bytes_nil w 23 5 Try.underlying23 Try.underlying5 0 c 9 Try.underlying9
    | some ad =>
      rw [run_convert_bytes_string w 23 9 5 _ 0 c Try.underlying23 Try.underlying5 Try.underlying9]
      have hl : (loadCells ad 0).run Try.prog w = .ok (([] : List Int).map (Value.int .u8)).toArray w := by
        have := run_loadCells_list (P := Try.prog) w ad [] (fun j v hj => by simp at hj)
        simpa using this
      rw [run_bytesToString w ad 0 c [] hl]
      rfl
  · exact run_convert_bytes_arg w 23 5 Try.underlying23 Try.underlying5 b off n c xs hn (fun i hi => h i (by omega)) 9 Try.underlying9
end Go.Proofs.Ytbjneoeiognahaa
/-
  What bytes.Clone makes of bytes: contract over the program.
-/
namespace Go.Proofs.Ytbjneoeiognahaa
open Go.RowKit

set_option maxRecDepth 10000 in
set_option maxHeartbeats 400000 in
theorem clone_any (A : Option Addr) (n c : Nat) (xs : List Int) (w : World) (hn : xs.length = n) (hr : Rd .u8 w A xs) (hb : n ≤ 140737488355328) (hnil : A = none → c = 0 ∧ n = 0) :
    Calls Try.prog 87 #[.slice A n c] w fun e w' => ∃ A' c', e = .returned (.slice A' n c') ∧ Own .u8 5 w' w.heap.size (.slice A' n c') xs ∧ Below w.heap.size w w' := by
  have ke := fun (w : World) (a : Option Addr) (n c : Nat) => Lib.run_eql_slice_nil (P := Try.prog) w 23 5 a n c 0 0 Try.underlying23
  cases A with
  | none =>
    obtain ⟨rfl, rfl⟩ := hnil rfl
    have : xs = [] := List.eq_nil_of_length_eq_zero hn
    subst this
    clear hn hr hnil
    go_enter Try.func87, Try.ntmps87
    go_wp2
    go_ret
    exact ⟨_, _, rfl, Own.nil _ _ _ _, Below.refl _ _⟩
  | some a =>
    clear hnil
    have h0 : Own .u8 5 (w.alloc (.cells (bts []) 5)) w.heap.size (.slice (some ⟨w.heap.size, 0, none⟩) 0 0) [] := Own.new w [] _ (by simp [maxLen])
    have H0 := Lib.hid h0
    have HN := Lib.hid hn
    have HR := Lib.hid hr
    clear h0 hn hr
    go_enter Try.func87, Try.ntmps87
    go_wp2_with (at_builtin; refine wpList_app _ .u8 rfl (.tmp 5) (.tmp 6) 23 rfl 5 (.int .u8 0) 1 Try.underlying23 info_byte rfl w.heap.size (.slice (some ⟨w.heap.size, 0, none⟩) 0 0) [] rfl H0.out (some a) n c rfl xs HN.out (HR.out.alloc _) (by simp [maxLen]; omega) (by simp; omega) (by simp) ?_; intro A' c' w' ho hg)
    go_ret
    simp only [List.length_nil, Nat.zero_add, List.nil_append] at ho ⊢
    exact ⟨A', c', rfl, ho, ((Below.refl _ _).alloc (Nat.le_refl _) _).trans (grown_below hg (by simp) (by simp [Value.ownBlock]))⟩
end Go.Proofs.Ytbjneoeiognahaa
/-
  What Same answers: contracts over the program.
-/
namespace Go.Proofs.Ytbjneoeiognahaa
open Go.RowKit

set_option maxRecDepth 10000 in
set_option maxHeartbeats 400000 in
theorem same_len (A B : Option Addr) (n m c d : Nat) (w : World) (h : n ≠ m) :
    Calls Try.prog 16 #[.slice A n c, .slice B m d] w fun e w' => e = .returned (.bool false) ∧ ∃ k, w' = w.drewN k := by
  have hne : ((n : Int) != (m : Int)) = true := by rw [bne_iff_ne]; omega
  clear h
  go_enter Try.func16, Try.ntmps16
  go_wp2
  go_ret
  exact ⟨rfl, 0, rfl⟩

set_option maxRecDepth 10000 in
set_option maxHeartbeats 400000 in
theorem same_any (xs ys : List Int) (A B : Option Addr) (c d : Nat) (w : World) (hx : Rd .u8 w A xs) (hy : Rd .u8 w B ys) (hm : xs.length ≤ maxLen) :
    Calls Try.prog 16 #[.slice A xs.length c, .slice B ys.length d] w fun e w' => e = .returned (.bool (decide (xs = ys))) ∧ ∃ k, w' = w.drewN k := by
  by_cases hl : xs.length = ys.length
  · obtain ⟨n, hn⟩ : ∃ n, xs.length = n := ⟨_, rfl⟩
    rw [← hl, hn]
    rw [hn] at hm hl
    unfold maxLen at hm
    rcases hx with rfl | ⟨b, off, rfl, hx⟩
    · have : n = 0 := by simpa using hn.symm
      subst this
      have : ys = [] := List.eq_nil_of_length_eq_zero hl.symm
      subst this
      clear hn hl hm hy
      go_enter Try.func16, Try.ntmps16
      go_wp2
      go_rounds 1
      go_ret
      exact ⟨rfl, 0, rfl⟩
    · rcases hy with rfl | ⟨b', off', rfl, hy⟩
      · have : n = 0 := by simpa using hl
        subst this
        have : xs = [] := List.eq_nil_of_length_eq_zero hn
        subst this
        clear hn hl hm hx
        go_enter Try.func16, Try.ntmps16
        go_wp2
        go_rounds 1
        go_ret
        exact ⟨rfl, 0, rfl⟩
      · have HX := Lib.hid hx
        have HY := Lib.hid hy
        have HN := Lib.hid hn
        have HL := Lib.hid hl
        clear hx hy hn hl
        go_enter Try.func16, Try.ntmps16
        go_wp2
        go_loopw [5] (fun i wr => ∃ k nd : Nat, k ≤ n ∧ i = .int .i64 k ∧ wr = w.drewN nd ∧ Hid (∀ j, j < k → xs.getD j 0 = ys.getD j 0)) (fun i _ => n - (intOf i).toNat)
        case atStart => exact ⟨0, 0, by omega, rfl, rfl, fun j hj => absurd hj (by omega)⟩
        case round =>
          obtain ⟨k, nd, hk, rfl, rfl, hp⟩ := hrel
          by_cases hlt : k < n
          · have c1 := HX.out k (by rw [HN.out]; exact hlt)
            have c2 := HY.out k (by rw [← HL.out]; exact hlt)
            have hi : (k : Int) < (n : Int) := by omega
            have h0 : (0 : Int) ≤ (k : Int) := by omega
            obtain ⟨x, hx⟩ : ∃ x, xs.getD k 0 = x := ⟨_, rfl⟩
            obtain ⟨y, hy⟩ : ∃ y, ys.getD k 0 = y := ⟨_, rfl⟩
            rw [hx] at c1
            rw [hy] at c2
            have HX2 := Lib.hid hx
            have HY2 := Lib.hid hy
            clear hx hy
            by_cases he : x = y
            · subst he
              go_wp2_with fail
              go_quiet (fail)
              go_wp2
              go_roundw
              case rel => exact ⟨k + 1, _, by omega, by go_num, rfl, fun j hj => by
                rcases Nat.lt_or_ge j k with h | h
                · exact hp.out j h
                · have : j = k := by omega
                  rw [this, HX2.out, HY2.out]⟩
              case measure => simp [intOf]; omega
            · have hne : (x != y) = true := by rw [bne_iff_ne]; exact he
              go_wp2_with fail
              go_quiet (fail)
              go_wp2
              go_ret
              exact ⟨ret_b (decide_eq_false (fun h => he (by rw [← HX2.out, ← HY2.out, h]))).symm, _, by rw [World.drewN_drewN]⟩
          · have : k = n := by omega
            subst this
            go_wp2
            go_ret
            exact ⟨ret_b (decide_eq_true (list_eq_of_getD (by rw [HN.out, HL.out]) (by rw [HN.out]; exact hp.out))).symm, _, rfl⟩
  · have := same_len A B xs.length ys.length c d w hl
    rw [decide_eq_false (fun h => hl (by rw [h]))]
    exact this

set_option maxRecDepth 10000 in
/-- Same, of two lists that are known where they lie. -/
theorem same_at (xs ys : List Int) {A B : Option Addr} {n m c d : Nat} {w : World} (hn : xs.length = n) (hm : ys.length = m) (hx : Rd .u8 w A xs) (hy : Rd .u8 w B ys) (hl : xs.length ≤ maxLen) :
    Calls Try.prog 16 #[.slice A n c, .slice B m d] w fun e w' => e = .returned (.bool (decide (xs = ys))) ∧ ∃ k, w' = w.drewN k := by
  subst hn; subst hm
  exact same_any xs ys A B c d w hx hy hl
set_option maxRecDepth 10000 in
/-- Same, of one list that lies twice. -/
theorem same_true (xs : List Int) {A B : Option Addr} {n m c d : Nat} {w : World} (hn : xs.length = n) (hm : xs.length = m) (hx : Rd .u8 w A xs) (hy : Rd .u8 w B xs) (hl : xs.length ≤ maxLen) :
    Calls Try.prog 16 #[.slice A n c, .slice B m d] w fun e w' => e = .returned (.bool true) ∧ ∃ k, w' = w.drewN k := by
  have := same_at (c := c) (d := d) xs xs hn hm hx hy hl
  simpa using this
end Go.Proofs.Ytbjneoeiognahaa
/-
  How long a slice is whose bulk is known. No function of the program.
-/
namespace Go.Proofs.Ytbjneoeiognahaa

set_option maxRecDepth 10000 in
theorem bulk_pos {H : Type} (d : DataW H) : 0 < Rows.uptoBulk d := by
  cases d with
  | lit l => cases l <;> simp [Rows.uptoBulk]
  | _ => simp [Rows.uptoBulk]
set_option maxRecDepth 10000 in
theorem bulk_count {H : Type} (l : List (DataW H)) : l.length ≤ Rows.uptoBulkAll l := by
  induction l with
  | nil => exact Nat.zero_le _
  | cons d r ih =>
    have := bulk_pos d
    simp only [Rows.uptoBulkAll, List.length_cons]
    omega
set_option maxRecDepth 10000 in
theorem bulk_slice {H : Type} (a b : List (DataW H)) : a.length + b.length ≤ Rows.uptoBulk (.slice a b) := by
  have h1 := bulk_count a
  have h2 := bulk_count b
  simp only [Rows.uptoBulk]
  omega
end Go.Proofs.Ytbjneoeiognahaa
/-
  Where append leaves a slice of numbers of the call's own: in its block, or in a new one ('app_block'); append at a step of a region that draws, which tells it ('step_app_f'). No program.
-/
namespace Go.Proofs.Ytbjneoeiognahaa
open Go.RowKit

section
variable {P : Program} (w : World)

set_option maxRecDepth 10000 in
theorem app_block (k : IntKind) (t ty e : TypeId) (z : Value) (bytes : Nat) (ht : P.underlying t = some (.slice e)) (hinfo : (P.info? e).map (fun i => (i.zero, i.size, i.bytes)) = some (some z, 1, bytes)) (hz1 : z.cells.size = 1)
    (B : Nat) (v : Value) (xs : List Int) (hown : Own k e w B v xs) (ad : Addr) (m c : Nat) (ys : List Int) (hm : ys.length = m) (hr : Rd k w (some ad) ys)
    (hmax : xs.length + m ≤ maxLen) (hbytes : (xs.length + m) * bytes ≤ 140737488355328) {v' : Value} {w' : World} (hrun : (Builtin.append_ #[t, t] ty #[v, .slice (some ad) m c]).run P w = .ok v' w') :
    ∀ g, v'.ownBlock = some g → v.ownBlock = some g ∨ w.heap.size ≤ g := by
  obtain ⟨i, hi, hz0, hz2, hz3⟩ := info_parts hinfo
  have hlc : (cel k ys).length = m * i.size := by simp [cel, hm, hz2]
  have hnews := hr.cells ad rfl
  rcases hown.2 with ⟨rfl, h0⟩ | ⟨b, cap, cur, rfl, _, hb, hnc, _, hcs, htake⟩
  · obtain ⟨v2, w2, hrun2, h2, _, _⟩ := run_append_own (P := P) w w.heap.size t ty e i z 1 bytes ht hi hz0 hz2 hz3 hz1 (by omega) (.slice none 0 0) xs.length (cel k xs) ⟨hown.1, .inl ⟨rfl, h0⟩⟩ ad m c (cel k ys) (by simp [cel, hm]) hnews (cel_one k ys) hmax hbytes (Nat.le_refl _)
    rw [hrun2] at hrun
    injection hrun with hv _
    subst hv
    intro g hg
    exact .inr (h2.lt g hg).1
  · by_cases hroom : xs.length + m ≤ cap
    · have hr1 := run_append_room (P := P) w t ty e i ht hi b xs.length cap cur hb ad m c (cel k ys) hlc hnews (cel_one k ys) hroom (by rw [hz2, hcs, cel_len]; omega)
      rw [hr1] at hrun
      injection hrun with hv _
      subst hv
      intro g hg
      exact .inl (by simpa [Value.ownBlock] using hg)
    · have holds := hown.cells (g := b) rfl
      have hr1 := run_append_grow (P := P) w t ty e i z ht hi hz0 ⟨b, 0, none⟩ xs.length cap (cel k xs) (by simp [cel, hz2]) holds ad m c (cel k ys) hlc hnews (by omega) (by unfold maxLen at hmax; omega) (growslice_fits (by omega) (by rw [hz3]; exact hbytes))
      rw [hr1] at hrun
      injection hrun with hv _
      subst hv
      intro g hg
      right
      simp [Value.ownBlock] at hg
      omega

set_option maxRecDepth 10000 in
/-- append at a step of a region that draws its order; it tells where the result lies. -/
theorem step_app_f (k : IntKind) {ops : Array Oper} {o : Oper} {a : Act} {K : Act → World → Prop} {Q : Exit → Act → World → Prop} {E : Prop} (hw : Region.wanted o (yielded ops a.tmps) = true) (s x : Operand) (t : TypeId)
    (ho : o.op = .call { callee := .builtin .append, args := #[s, x], argTypes := #[t, t] })
    (e : TypeId) (z : Value) (bytes : Nat) (ht : P.underlying t = some (.slice e)) (hinfo : (P.info? e).map (fun i => (i.zero, i.size, i.bytes)) = some (some z, 1, bytes)) (hz1 : z.cells.size = 1)
    (B : Nat) (v : Value) (xs : List Int) (n : Nat) (hn : xs.length = n) (hs : a.eval s = v) (hown : Own k e w B v xs) (A : Option Addr) (m c : Nat) (hx : a.eval x = .slice A m c) (ys : List Int) (hm : ys.length = m) (hpos : 0 < m) (hr : Rd k w A ys)
    (hmax : n + m ≤ maxLen) (hbytes : (n + m) * bytes ≤ 140737488355328) (hB : B ≤ w.heap.size)
    (h : ∀ A' c' w', Own k e w' B (.slice A' (n + m) c') (xs ++ ys) → w.grownBy w' v.ownBlock → Below B w w' → (∀ g, (Value.slice A' (n + m) c').ownBlock = some g → v.ownBlock = some g ∨ w.heap.size ≤ g) → K (a.put o.dst (.slice A' (n + m) c')) w') :
    if Region.wanted o (yielded ops a.tmps) = true then Oper.wp P o a w K Q else E := by
  subst hn
  obtain ⟨A', c', w', hrun, h2, h3⟩ := run_app (P := P) w k t o.type e z bytes ht hinfo hz1 B v xs hown A m c ys hm hr hmax hbytes hB
  have hblk : ∀ g, (Value.slice A' (xs.length + m) c').ownBlock = some g → v.ownBlock = some g ∨ w.heap.size ≤ g := by
    obtain ⟨b, off, rfl, _⟩ := hr.some_ (by omega)
    exact app_block (P := P) w k t o.type e z bytes ht hinfo hz1 B v xs hown _ m c ys hm hr hmax hbytes hrun
  rw [if_pos hw]
  unfold Oper.wp execOp
  simp only [ho, resolve, invoke, builtin, Sem.run_bind, Sem.run_pure, Result.andThen_ok, List.map_toArray, List.map_cons, List.map_nil, hs, hx, hrun]
  exact h A' c' w' h2 h3 (grown_below h3 hB (fun g hg => (hown.lt g hg).1)) hblk
end
end Go.Proofs.Ytbjneoeiognahaa
/-
  What slices.Grow makes of nil, and slices.Concat of two lists of bytes; what bytes.Equal answers. Contracts over the program.
-/
namespace Go.Proofs.Ytbjneoeiognahaa
open Go.RowKit

set_option maxRecDepth 10000 in
set_option maxHeartbeats 1000000 in
/-- Grow of nil: an empty list of the call's own (or nil). -/
theorem growNil_any (k : Nat) (w : World) (hk : k ≤ 140737488355328) :
    Calls Try.prog 137 #[.slice none 0 0, .int .i64 (k : Nat)] w fun e w' => ∃ A c, e = .returned (.slice A 0 c) ∧ Own .u8 5 w' w.heap.size (.slice A 0 c) [] ∧ Below w.heap.size w w' := by
  by_cases h0 : k = 0
  · subst h0
    go_enter Try.func137, Try.ntmps137
    go_wp2
    go_ret
    exact ⟨none, 0, rfl, Own.nil _ _ _ _, Below.refl _ _⟩
  · obtain ⟨i0, hi0, hz0, hz1, hz2⟩ := info_parts info_byte
    have hold : (Builtin.firstCells i0.size 0 (.slice none 0 0)).run Try.prog w.drew = .ok (([] : List Value)).toArray w.drew := run_firstCells_none w.drew i0.size 0 0 0
    have hrz : ∀ ty, (Builtin.append_ #[23, 3] ty #[.slice none 0 0, .int .i64 (k : Int)]).run Try.prog w =
        .ok (.slice (some ⟨w.heap.size, 0, none⟩) k (grownCap w k 0 5)) (w.drew.alloc (.cells ((([] : List Value)).toArray ++ Builtin.zeroCells (Value.int .u8 0).cells k ++ Builtin.zeroCells (Value.int .u8 0).cells (grownCap w k 0 5 - k)) 5)) := fun ty => by
      have h := Lib.run_append_grow_zeros w 23 3 ty 5 i0 (.int .u8 0) .i64 .i64 Try.underlying23 Try.underlying3 hi0 hz0 none 0 0 [] hold k (by omega) (by omega) (by omega) (by omega)
        (by rw [hz2]; omega) (by rw [hz2]; have := growslice_fits (need := 0 + k) (old := 0) (bytes := 1) (by omega) (by omega); omega)
      simpa only [Nat.zero_add] using h
    have hG1 : k ≤ grownCap w k 0 5 := grownCap_ge w _ _ _
    have hG2 := grownCap_le_maxLen w k 0 5 (by unfold maxLen; omega)
    obtain ⟨G, hG⟩ : ∃ G, G = grownCap w k 0 5 := ⟨_, rfl⟩
    rw [← hG] at hrz hG1 hG2
    have hG3 : G ≤ 9223372036854775807 := by unfold maxLen at hG2; omega
    have hown : Own .u8 5 (w.drew.alloc (.cells ((([] : List Value)).toArray ++ Builtin.zeroCells (Value.int .u8 0).cells k ++ Builtin.zeroCells (Value.int .u8 0).cells (G - k)) 5)) w.heap.size (.slice (some ⟨w.heap.size, 0, none⟩) 0 G) [] := by
      refine ⟨by simp [cel], .inr ⟨w.heap.size, G, _, rfl, Nat.le_refl _, heap_alloc_new w.drew _, Nat.zero_le _, hG2, ?_, by simp [cel]⟩⟩
      simp [size_zeroCells, Value.cells]
      omega
    have HO := Lib.hid hown
    obtain ⟨C, hC⟩ : ∃ C, ((([] : List Value)).toArray ++ Builtin.zeroCells (Value.int .u8 0).cells k ++ Builtin.zeroCells (Value.int .u8 0).cells (G - k)) = C := ⟨_, rfl⟩
    rw [hC] at hrz HO
    have hk0 : ¬ ((k : Int) < 0) := by omega
    have hk1 : (0 : Int) < (k : Int) := by omega
    clear hC hown hG hi0 hz0 hz1 hz2 hold hG2 h0
    go_enter Try.func137, Try.ntmps137
    go_wp2_with (at_builtin; refine Lib.wpList_append_run _ rfl _ _ _ _ rfl _ _ rfl rfl _ _ (hrz _) ?_)
    go_ret
    exact ⟨_, _, rfl, (show Own _ _ (World.drew _) _ _ _ from HO.out), ((Below.refl _ _).alloc (Nat.le_refl _) _).drew⟩

set_option maxRecDepth 10000 in
set_option maxHeartbeats 1000000 in
/-- Concat of two lists of bytes. -/
theorem concat2_any (r : Nat) (A : Option Addr) (n c : Nat) (xs : List Int) (B : Option Addr) (m d : Nat) (ys : List Int) (w : World) (h0 : w.cell? ⟨r, 0, none⟩ = some (.slice A n c)) (h1 : w.cell? ⟨r, 1, none⟩ = some (.slice B m d))
    (hn : xs.length = n) (hm : ys.length = m) (hx : Rd .u8 w A xs) (hy : Rd .u8 w B ys) (hb : n + m ≤ 140737488355328) :
    Calls Try.prog 128 #[.slice (some ⟨r, 0, none⟩) 2 2] w fun e w' => ∃ A' c', e = .returned (.slice A' (n + m) c') ∧ Own .u8 5 w' w.heap.size (.slice A' (n + m) c') (xs ++ ys) ∧ Below w.heap.size w w' := by
  have HN := Lib.hid hn
  have HM := Lib.hid hm
  have HX := Lib.hid hx
  have HY := Lib.hid hy
  have hr := World.block_lt_of_cell? w _ h0
  clear hn hm hx hy
  have hs := Lib.hid (show ((n : Int) + (m : Int)) = ((n + m : Nat) : Int) by omega)
  go_enter Try.func128, Try.ntmps128
  go_wp2_with fail
  refine wp_loop_rounds 3 ?_
  (rw [rounds_succ]; go_wp2_with fail)
  (rw [rounds_succ]; go_wp2_with fail)
  (rw [rounds_succ]; go_wp2_with fail)
  rw [hs.out]
  clear hs
  refine (growNil_any (n + m) w hb).mono ?_
  rintro e w1 ⟨G, cg, rfl, hg, hb1⟩
  have c0 : w1.cell? ⟨r, 0, none⟩ = some (.slice A n c) := cell_later hb1 h0
  have c1 : w1.cell? ⟨r, 1, none⟩ = some (.slice B m d) := cell_later hb1 h1
  have HG := Lib.hid hg
  have HB1 := Lib.hid hb1
  have C1 := Lib.hid c1
  clear hg hb1 h0 h1
  go_wp2_with fail
  refine wp_loop_rounds 3 ?_
  rw [rounds_succ]
  go_wp2_with (at_builtin; refine wpList_app _ .u8 rfl (.tmp 31) (.tmp 32) 23 rfl 5 (.int .u8 0) 1 Try.underlying23 info_byte rfl w.heap.size (.slice G 0 cg) [] rfl HG.out A n c rfl xs HN.out (HX.out.later HB1.out) (by simp [maxLen]; omega) (by simp; omega) HB1.out.size ?_; intro D cd w2 hd hg2)
  simp only [List.length_nil, Nat.zero_add, List.nil_append] at hd ⊢
  have hb2 : Below w.heap.size w w2 := HB1.out.trans (grown_below hg2 HB1.out.size (fun g hg => (HG.out.lt g hg).1))
  have c2 : w2.cell? ⟨r, 1, none⟩ = some (.slice B m d) := by
    rw [hb2.cell (p := ⟨r, 1, none⟩) hr, ← C1.out]
    exact (HB1.out.cell (p := ⟨r, 1, none⟩) hr).symm
  have HD := Lib.hid hd
  have HB2 := Lib.hid hb2
  clear hd hg2 hb2 c0
  rw [rounds_succ]
  go_wp2_with (at_builtin; refine wpList_app _ .u8 rfl (.tmp 31) (.tmp 32) 23 rfl 5 (.int .u8 0) 1 Try.underlying23 info_byte rfl w.heap.size (.slice D n cd) xs rfl HD.out B m d rfl ys HM.out (HY.out.later HB2.out) (by rw [HN.out]; unfold maxLen; omega) (by rw [HN.out]; omega) HB2.out.size ?_; intro E ce w3 he hg3)
  rw [HN.out] at he ⊢
  have hb3 : Below w.heap.size w w3 := HB2.out.trans (grown_below hg3 HB2.out.size (fun g hg => (HD.out.lt g hg).1))
  have HE := Lib.hid he
  have HB3 := Lib.hid hb3
  clear he hg3 hb3 c2 c1
  rw [rounds_succ]
  go_wp2
  go_ret
  exact ⟨_, _, rfl, HE.out, HB3.out⟩

set_option maxRecDepth 10000 in
/-- bytes.Equal. -/
theorem bytesEqual_any (xs ys : List Int) {A B : Option Addr} {n m c d : Nat} {w : World} (hn : xs.length = n) (hm : ys.length = m) (hx : Rd .u8 w A xs) (hy : Rd .u8 w B ys) (bx : ∀ x ∈ xs, 0 ≤ x ∧ x < 256) (by' : ∀ x ∈ ys, 0 ≤ x ∧ x < 256) :
    Calls Try.prog 124 #[.slice A n c, .slice B m d] w fun e w' => e = .returned (.bool (decide (xs = ys))) ∧ w = w' := by
  have k1 := conv_rd c hn hx
  have k2 := conv_rd d hm hy
  have k3 : ((strOfNums xs).toList == (strOfNums ys).toList) = decide (xs = ys) := by
    by_cases e : xs = ys
    · subst e; simp
    · have : ¬ (strOfNums xs).toList = (strOfNums ys).toList := fun h => e (by
        rw [Lib.toList_data, Lib.toList_data] at h
        exact map_byte_inj _ _ bx by' (by simpa [strOfNums] using h))
      rw [beq_eq_false_iff_ne.2 this, decide_eq_false e]
  clear hn hm hx hy bx by'
  go_enter Try.func124, Try.ntmps124
  go_wp2
  go_ret
  exact ⟨rfl, rfl⟩
end Go.Proofs.Ytbjneoeiognahaa
/-
  What slices.Concat makes of three lists of bytes: a contract over the program.
-/
namespace Go.Proofs.Ytbjneoeiognahaa
open Go.RowKit

set_option maxRecDepth 10000 in
set_option maxHeartbeats 1600000 in
/-- Concat of three lists of bytes. -/
theorem concat3_any (r : Nat) (A : Option Addr) (n c : Nat) (xs : List Int) (B : Option Addr) (m d : Nat) (ys : List Int) (C : Option Addr) (l f : Nat) (zs : List Int) (w : World)
    (h0 : w.cell? ⟨r, 0, none⟩ = some (.slice A n c)) (h1 : w.cell? ⟨r, 1, none⟩ = some (.slice B m d)) (h2 : w.cell? ⟨r, 2, none⟩ = some (.slice C l f))
    (hn : xs.length = n) (hm : ys.length = m) (hl : zs.length = l) (hx : Rd .u8 w A xs) (hy : Rd .u8 w B ys) (hz : Rd .u8 w C zs) (hb : n + m + l ≤ 140737488355328) :
    Calls Try.prog 128 #[.slice (some ⟨r, 0, none⟩) 3 3] w fun e w' => ∃ A' c', e = .returned (.slice A' (n + m + l) c') ∧ Own .u8 5 w' w.heap.size (.slice A' (n + m + l) c') (xs ++ ys ++ zs) ∧ Below w.heap.size w w' := by
  have HN := Lib.hid hn
  have HM := Lib.hid hm
  have HL := Lib.hid hl
  have HX := Lib.hid hx
  have HY := Lib.hid hy
  have HZ := Lib.hid hz
  have hr := World.block_lt_of_cell? w _ h0
  clear hn hm hl hx hy hz
  have hs := Lib.hid (show ((n : Int) + (m : Int) + (l : Int)) = ((n + m + l : Nat) : Int) by omega)
  go_enter Try.func128, Try.ntmps128
  go_wp2_with fail
  refine wp_loop_rounds 4 ?_
  (rw [rounds_succ]; go_wp2_with fail)
  (rw [rounds_succ]; go_wp2_with fail)
  (rw [rounds_succ]; go_wp2_with fail)
  (rw [rounds_succ]; go_wp2_with fail)
  rw [hs.out]
  clear hs
  refine (growNil_any (n + m + l) w hb).mono ?_
  rintro e w1 ⟨G, cg, rfl, hg, hb1⟩
  have c0 : w1.cell? ⟨r, 0, none⟩ = some (.slice A n c) := cell_later hb1 h0
  have C1 := Lib.hid (show w1.cell? ⟨r, 1, none⟩ = some (.slice B m d) from cell_later hb1 h1)
  have C2 := Lib.hid (show w1.cell? ⟨r, 2, none⟩ = some (.slice C l f) from cell_later hb1 h2)
  have HG := Lib.hid hg
  have HB1 := Lib.hid hb1
  clear hg hb1 h0 h1 h2
  go_wp2_with fail
  refine wp_loop_rounds 4 ?_
  rw [rounds_succ]
  go_wp2_with (at_builtin; refine wpList_app _ .u8 rfl (.tmp 31) (.tmp 32) 23 rfl 5 (.int .u8 0) 1 Try.underlying23 info_byte rfl w.heap.size (.slice G 0 cg) [] rfl HG.out A n c rfl xs HN.out (HX.out.later HB1.out) (by simp [maxLen]; omega) (by simp; omega) HB1.out.size ?_; intro D cd w2 hd hg2)
  simp only [List.length_nil, Nat.zero_add, List.nil_append] at hd ⊢
  have hb2 : Below w.heap.size w w2 := HB1.out.trans (grown_below hg2 HB1.out.size (fun g hg => (HG.out.lt g hg).1))
  have at2 : ∀ i v, w1.cell? ⟨r, i, none⟩ = some v → w2.cell? ⟨r, i, none⟩ = some v := fun i v h => by
    rw [hb2.cell (p := ⟨r, i, none⟩) hr, ← h]
    exact (HB1.out.cell (p := ⟨r, i, none⟩) hr).symm
  have c1 := at2 1 _ C1.out
  have C2' := Lib.hid (at2 2 _ C2.out)
  have HD := Lib.hid hd
  have HB2 := Lib.hid hb2
  clear hd hg2 hb2 c0 at2 C1 C2 HG HB1
  rw [rounds_succ]
  go_wp2_with (at_builtin; refine wpList_app _ .u8 rfl (.tmp 31) (.tmp 32) 23 rfl 5 (.int .u8 0) 1 Try.underlying23 info_byte rfl w.heap.size (.slice D n cd) xs rfl HD.out B m d rfl ys HM.out (HY.out.later HB2.out) (by rw [HN.out]; unfold maxLen; omega) (by rw [HN.out]; omega) HB2.out.size ?_; intro E ce w3 he hg3)
  rw [HN.out] at he ⊢
  have hb3 : Below w.heap.size w w3 := HB2.out.trans (grown_below hg3 HB2.out.size (fun g hg => (HD.out.lt g hg).1))
  have c2 : w3.cell? ⟨r, 2, none⟩ = some (.slice C l f) := by
    rw [hb3.cell (p := ⟨r, 2, none⟩) hr, ← C2'.out]
    exact (HB2.out.cell (p := ⟨r, 2, none⟩) hr).symm
  have HE := Lib.hid he
  have HB3 := Lib.hid hb3
  have HNM := Lib.hid (show (xs ++ ys).length = n + m by rw [List.length_append, HN.out, HM.out])
  clear he hg3 hb3 c1 C2' HB2
  rw [rounds_succ]
  go_wp2_with (at_builtin; refine wpList_app _ .u8 rfl (.tmp 31) (.tmp 32) 23 rfl 5 (.int .u8 0) 1 Try.underlying23 info_byte rfl w.heap.size (.slice E (n + m) ce) (xs ++ ys) rfl HE.out C l f rfl zs HL.out (HZ.out.later HB3.out) (by rw [HNM.out]; unfold maxLen; omega) (by rw [HNM.out]; omega) HB3.out.size ?_; intro F cf w4 hf hg4)
  rw [HNM.out] at hf
  rw [HN.out, HM.out]
  have hb4 : Below w.heap.size w w4 := HB3.out.trans (grown_below hg4 HB3.out.size (fun g hg => (HE.out.lt g hg).1))
  have HF := Lib.hid hf
  have HB4 := Lib.hid hb4
  clear hf hg4 hb4 c2
  rw [rounds_succ]
  go_wp2
  go_ret
  exact ⟨_, _, rfl, HF.out, HB4.out⟩
end Go.Proofs.Ytbjneoeiognahaa
/-
  Packets as mathematics: which may be, which are alike, what of a packet its kind has. No program.
-/
namespace Go.Proofs.Ytbjneoeiognahaa
open Go.RowKit

/-- A packet: its numbers, its bytes, its mark. -/
structure Pkt where
  k : Int
  pa : Int
  nu : Int
  ofn : Int
  fr : Int
  da : List Int
  fin : Bool
  se : Int
  li : Int

/-- From 0 to a greatest. -/
def inB (n g : Int) : Bool := decide (0 ≤ n) && decide (n ≤ g)
/-- What each kind has may be. -/
def Pkt.known (p : Pkt) : Bool := decide (1 ≤ p.k) && decide (p.k ≤ 4) && inB p.pa 2 && inB p.nu 65535
/-- A packet with nothing but what its kind has. -/
def Pkt.bare (p : Pkt) : Pkt :=
  if p.k = 2 then ⟨p.k, p.pa, p.nu, p.ofn, 0, [], false, 0, 0⟩
  else if p.k = 3 then ⟨p.k, p.pa, p.nu, 0, p.fr, p.da, p.fin, 0, 0⟩
  else if p.k = 4 then ⟨p.k, p.pa, p.nu, p.ofn, 0, [], false, p.se, p.li⟩
  else ⟨p.k, p.pa, p.nu, 0, 0, [], false, 0, 0⟩
/-- All fields are alike. -/
def Pkt.same (a b : Pkt) : Bool :=
  decide (a.k = b.k) && decide (a.pa = b.pa) && decide (a.nu = b.nu) && decide (a.ofn = b.ofn) && decide (a.fr = b.fr) && decide (a.da = b.da) && (a.fin == b.fin) && decide (a.se = b.se) && decide (a.li = b.li)
/-- What only some kinds have may be. -/
def Pkt.bounded (p : Pkt) : Bool :=
  inB p.ofn 65535 && inB p.fr 4096 && decide (p.da.length ≤ 64) && decide (p.fr + (p.da.length : Int) ≤ 4096) && inB p.se 4097 && inB p.li 4496
/-- A packet that may be. -/
def Pkt.ok (p : Pkt) : Bool := p.known && p.same p.bare && p.bounded

/-- A packet as cells. -/
def Pkt.cs (p : Pkt) (A : Option Addr) (c : Nat) : List Value :=
  [.int .i64 p.k, .int .i64 p.pa, .int .i64 p.nu, .int .i64 p.ofn, .int .i64 p.fr, .slice A p.da.length c, .bool p.fin, .int .i64 p.se, .int .i64 p.li]
/-- The same, whole. -/
def Pkt.val (p : Pkt) (A : Option Addr) (c : Nat) : Value :=
  .agg #[.int .i64 p.k, .int .i64 p.pa, .int .i64 p.nu, .int .i64 p.ofn, .int .i64 p.fr, .slice A p.da.length c, .bool p.fin, .int .i64 p.se, .int .i64 p.li]
/-- Its numbers are ints, its bytes bytes, and these are read where the value says. -/
structure PktAt (w : World) (p : Pkt) (A : Option Addr) (c : Nat) : Prop where
  rd : Rd .u8 w A p.da
  reach : p.da.length ≤ 9223372036854775807
  cap : p.da.length ≤ c
  nil : A = none → c = 0
  byt : ∀ x ∈ p.da, 0 ≤ x ∧ x < 256
  bk : -9223372036854775808 ≤ p.k ∧ p.k ≤ 9223372036854775807
  bp : -9223372036854775808 ≤ p.pa ∧ p.pa ≤ 9223372036854775807
  bn : -9223372036854775808 ≤ p.nu ∧ p.nu ≤ 9223372036854775807
  bo : -9223372036854775808 ≤ p.ofn ∧ p.ofn ≤ 9223372036854775807
  bf : -9223372036854775808 ≤ p.fr ∧ p.fr ≤ 9223372036854775807
  bs : -9223372036854775808 ≤ p.se ∧ p.se ≤ 9223372036854775807
  bl : -9223372036854775808 ≤ p.li ∧ p.li ≤ 9223372036854775807

section
variable {w w' : World} {p : Pkt} {A : Option Addr} {c : Nat}
set_option maxRecDepth 10000 in
theorem PktAt.later (h : PktAt w p A c) (hb : Below w.heap.size w w') : PktAt w' p A c := { h with rd := h.rd.later hb }
set_option maxRecDepth 10000 in
theorem PktAt.drewN (h : PktAt w p A c) (n : Nat) : PktAt (w.drewN n) p A c := { h with rd := h.rd }
set_option maxRecDepth 10000 in
theorem PktAt.drew (h : PktAt w p A c) : PktAt w.drew p A c := { h with rd := h.rd }
set_option maxRecDepth 10000 in
theorem PktAt.alloc (h : PktAt w p A c) (o : Obj) : PktAt (w.alloc o) p A c := { h with rd := h.rd.alloc o }
set_option maxRecDepth 10000 in
theorem Pkt.same_iff {a b : Pkt} : a.same b = true ↔ a = b := by
  cases a
  cases b
  simp only [Pkt.same, Bool.and_eq_true, decide_eq_true_eq, beq_iff_eq, Pkt.mk.injEq]
  constructor
  · rintro ⟨⟨⟨⟨⟨⟨⟨⟨h1, h2⟩, h3⟩, h4⟩, h5⟩, h6⟩, h7⟩, h8⟩, h9⟩
    exact ⟨h1, h2, h3, h4, h5, h6, h7, h8, h9⟩
  · rintro ⟨h1, h2, h3, h4, h5, h6, h7, h8, h9⟩
    exact ⟨⟨⟨⟨⟨⟨⟨⟨h1, h2⟩, h3⟩, h4⟩, h5⟩, h6⟩, h7⟩, h8⟩, h9⟩
end
end Go.Proofs.Ytbjneoeiognahaa

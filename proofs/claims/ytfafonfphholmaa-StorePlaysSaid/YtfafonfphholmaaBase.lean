/-
  Mem · Tail · VintMath · Own · Within · Copy · Keep · Fresh: several small texts in one.
-/
import Derived.WalkKit
import Derived.WalkSpells
import Derived.Deep.Draws
import Derived.Lib.Hide
import Derived.ProofKit
import Derived.SizedLaws
import Derived.Handy
import Derived.StillTailTactics
import Derived.IntWalk
import Derived.Laws.BitsLemmas
import Derived.Test.YtfafonfphholmaaRows
import Derived.WalkLawsBesides
import Derived.Deep.QuietTactic
import Derived.BigQuiet
import Derived.Deep.OwnRows
/-
  Numbers that are read in memory ('Rd'), and what a statement's argument, a slice of numbers, is told to be ('ArgI'). No program.
-/
namespace Go.Proofs.Ytfafonfphholmaa
open Go.RowKit

set_option maxRecDepth 10000 in
theorem ret_i {k : IntKind} {a b : Int} (h : a = b) : Ending.returned (.int k a) = .returned (.int k b) := by rw [h]
set_option maxRecDepth 10000 in
theorem ret_b {a b : Bool} (h : a = b) : Ending.returned (.bool a) = .returned (.bool b) := by rw [h]

/-- A list of numbers as cells. -/
def cel (k : IntKind) (xs : List Int) : List Value := xs.map (Value.int k)
/-- A list of bytes as a block's cells. -/
def bts (xs : List Int) : Array Value := (xs.map (Value.int .u8)).toArray

set_option maxRecDepth 10000 in
theorem cel_len (k : IntKind) (xs : List Int) : (cel k xs).length = xs.length := by simp [cel]
set_option maxRecDepth 10000 in
theorem cel_one (k : IntKind) (xs : List Int) : ∀ u ∈ cel k xs, u.oneCell' = true := ints_oneCell k xs

/-- From the address A on memory holds the numbers xs. -/
def Rd (k : IntKind) (w : World) (A : Option Addr) (xs : List Int) : Prop :=
  xs = [] ∨ ∃ b off, A = some ⟨b, off, none⟩ ∧ ∀ i, i < xs.length → w.cell? ⟨b, off + i, none⟩ = some (.int k (xs.getD i 0))

section
variable {k : IntKind} {w w' : World} {A : Option Addr} {xs ys : List Int}
set_option maxRecDepth 10000 in
theorem Rd.drewN (h : Rd k w A xs) (n : Nat) : Rd k (w.drewN n) A xs := h
set_option maxRecDepth 10000 in
theorem Rd.drew (h : Rd k w A xs) : Rd k w.drew A xs := h
set_option maxRecDepth 10000 in
theorem Rd.later (h : Rd k w A xs) (hb : Below w.heap.size w w') : Rd k w' A xs := by
  rcases h with h | ⟨b, off, rfl, h⟩
  · exact .inl h
  · exact .inr ⟨b, off, rfl, fun i hi => cell_later hb (h i hi)⟩
set_option maxRecDepth 10000 in
theorem Rd.alloc (h : Rd k w A xs) (o : Obj) : Rd k (w.alloc o) A xs := h.later ((Below.refl _ _).alloc (Nat.le_refl _) _)
set_option maxRecDepth 10000 in
theorem Rd.keep (h : Rd k w A xs) (hk : ∀ a : Addr, (∃ v, w.cell? a = some v) → w'.cell? a = w.cell? a) : Rd k w' A xs := by
  rcases h with h | ⟨b, off, rfl, h⟩
  · exact .inl h
  · exact .inr ⟨b, off, rfl, fun i hi => by rw [hk _ ⟨_, h i hi⟩]; exact h i hi⟩
set_option maxRecDepth 10000 in
theorem Rd.new (w : World) (xs : List Int) (t : TypeId) : Rd .u8 (w.alloc (.cells (bts xs) t)) (some ⟨w.heap.size, 0, none⟩) xs := by
  refine .inr ⟨_, _, rfl, fun i hi => ?_⟩
  rw [Nat.zero_add]
  simp [bts, hi]
set_option maxRecDepth 10000 in
theorem Rd.take (h : Rd k w A xs) (n : Nat) : Rd k w A (xs.take n) := by
  rcases h with h | ⟨b, off, rfl, h⟩
  · exact .inl (by simp [h])
  · refine .inr ⟨b, off, rfl, fun i hi => ?_⟩
    have hi' : i < n ∧ i < xs.length := by simp at hi; omega
    rw [h i hi'.2]
    simp [List.getD, hi'.1]
set_option maxRecDepth 10000 in
theorem Rd.drop (h : Rd k w A xs) (n : Nat) (c : Nat) (hn : n ≤ xs.length) (hc : xs.length ≤ c) : Rd k w (if c = n then A else A.map (·.add n)) (xs.drop n) := by
  rcases h with h | ⟨b, off, rfl, h⟩
  · exact .inl (by simp [h])
  · by_cases e : c = n
    · exact .inl (by simp; omega)
    · rw [if_neg e]
      refine .inr ⟨b, off + n, by simp [Addr.add_lit], fun i hi => ?_⟩
      have hi' : n + i < xs.length := by simp at hi; omega
      rw [Nat.add_assoc, h (n + i) hi']
      simp [List.getD]
set_option maxRecDepth 10000 in
/-- The cells, as the laws on append ask for them. -/
theorem Rd.cells (h : Rd k w A xs) : ∀ ad, A = some ad → ∀ j u, (cel k xs)[j]? = some u → w.cell? (ad.add j) = some u := by
  intro ad ha j u hu
  have hj : j < xs.length := by
    have := (List.getElem?_eq_some_iff.1 hu).1
    simpa [cel] using this
  rcases h with h | ⟨b, off, rfl, h⟩
  · subst h; simp at hj
  · obtain rfl := Option.some.inj ha
    rw [Addr.add_lit, h j hj]
    simp [cel, hj] at hu
    simp [List.getD, hj, hu]
set_option maxRecDepth 10000 in
theorem Rd.some_ (h : Rd k w A xs) (hne : 0 < xs.length) : ∃ b off, A = some ⟨b, off, none⟩ ∧ ∀ i, i < xs.length → w.cell? ⟨b, off + i, none⟩ = some (.int k (xs.getD i 0)) := by
  rcases h with h | h
  · subst h; simp at hne
  · exact h
set_option maxRecDepth 10000 in
/-- What the call owns reads as its numbers. -/
theorem Rd.own {base : Nat} {e : TypeId} {n c : Nat} (h : w.ownsRow base e 1 (.slice A n c) n (cel k xs)) : Rd k w A xs := by
  have hl : xs.length = n := by have := h.1; rw [cel_len] at this; omega
  rcases h.2 with ⟨hv, h0⟩ | ⟨g, cap, cur, hv, _⟩
  · exact .inl (List.eq_nil_of_length_eq_zero (by omega))
  · injection hv with hA _ hc
    subst hA; subst hc
    refine .inr ⟨g, 0, rfl, fun i hi => ?_⟩
    rw [Nat.zero_add, h.cellAt i (by omega)]
    simp [cel, List.getD, hi]
end

set_option maxRecDepth 10000 in
theorem list_eq_of_getD {xs ys : List Int} (hl : xs.length = ys.length) (h : ∀ j, j < xs.length → xs.getD j 0 = ys.getD j 0) : xs = ys := by
  apply List.ext_getElem hl
  intro i h1 h2
  have := h i h1
  simpa [List.getD, h1, h2] using this

/-- A slice of numbers that came in. -/
structure ArgI (k : IntKind) (bytes : Nat) (w : World) (A : Option Addr) (n c : Nat) (xs : List Int) : Prop where
  len : xs.length = n
  le : n ≤ c
  reach : c * bytes ≤ 140737488351232
  nil : A = none → c = 0
  rd : Rd k w A xs
  wf : ∀ x ∈ xs, (Lit.int k x).wf = true

set_option maxRecDepth 10000 in
theorem rd_of {k : IntKind} {w : World} {x : Addr} {zs : List Int} (n : Nat) (hcell : ∀ i, i < zs.length → w.cell? (x.add i) = some (.int k (zs.getD i 0))) : Rd k w (some x) (zs.take n) := by
  by_cases h0 : zs.length = 0
  · exact .inl (by rw [List.eq_nil_of_length_eq_zero h0]; simp)
  · obtain ⟨b, off, spot⟩ := x
    have hs : spot = none := by simpa [Addr.add] using World.cell?_spot (hcell 0 (by omega))
    subst hs
    refine Rd.take (.inr ⟨b, off, rfl, fun i hi => ?_⟩) n
    have := hcell i hi
    rwa [Addr.add_lit] at this

set_option maxRecDepth 10000 in
theorem argI_nil (k : IntKind) (bytes : Nat) (w : World) : ArgI k bytes w none 0 0 [] := ⟨rfl, Nat.le_refl _, by omega, fun _ => rfl, .inl rfl, by simp⟩
set_option maxRecDepth 10000 in
theorem argI_of {k : IntKind} {bytes : Nat} {w : World} {x : Addr} {len cap : Nat} {zs : List Int} (hl : len ≤ cap) (hz : zs.length = cap) (hcell : ∀ i, i < zs.length → w.cell? (x.add i) = some (.int k (zs.getD i 0)))
    (hwz : ∀ n ∈ zs, (Lit.int k n).wf = true) (hr : cap * bytes ≤ 140737488351232) : ArgI k bytes w (some x) len cap (zs.take len) :=
  ⟨by simp; omega, hl, hr, fun h => (by cases h), rd_of len hcell, fun n hn => hwz n (List.mem_of_mem_take hn)⟩

set_option maxRecDepth 10000 in
theorem wf_u8 {x : Int} (h : (Lit.int .u8 x).wf = true) : 0 ≤ x ∧ x < 256 := by
  have h1 : IntKind.u8.min = 0 := rfl
  have h2 : IntKind.u8.max = 255 := rfl
  simp only [Lit.wf, Bool.and_eq_true, decide_eq_true_eq] at h
  omega
set_option maxRecDepth 10000 in
theorem wf_i64 {x : Int} (h : (Lit.int .i64 x).wf = true) : -9223372036854775808 ≤ x ∧ x ≤ 9223372036854775807 := by
  have h1 : IntKind.i64.min = -9223372036854775808 := rfl
  have h2 : IntKind.i64.max = 9223372036854775807 := rfl
  simp only [Lit.wf, Bool.and_eq_true, decide_eq_true_eq] at h
  omega
set_option maxRecDepth 10000 in
theorem wf_u32 {x : Int} (h : (Lit.int .u32 x).wf = true) : 0 ≤ x ∧ x < 4294967296 := by
  have h1 : IntKind.u32.min = 0 := rfl
  have h2 : IntKind.u32.max = 4294967295 := rfl
  simp only [Lit.wf, Bool.and_eq_true, decide_eq_true_eq] at h
  omega

set_option maxRecDepth 10000 in
theorem below_drewN' {B : Nat} {a w : World} (h : Below B a w) (n : Nat) : Below B a (w.drewN n) := ⟨h.os, h.tape, h.output, h.size, h.block⟩

end Go.Proofs.Ytfafonfphholmaa
/-
  A last region whose operations' order is drawn, the world a letter through it. No program.
-/
namespace Go.Proofs.Ytfafonfphholmaa
open Go.RowKit

set_option maxRecDepth 10000 in
theorem still_tail {P : Program} {id : Nat} {Q : Exit → Act → World → Prop} {a : Act} {w : World} {l : List Oper} (n : Nat) (hm : P.follows .mixedOrders = true) (hB : Region.lexTailB .any l.toArray n = true)
    (h : ∀ W : World, W = w.drew → wpStill P l.toArray W (fun a' => wpList P l.toArray Q (l.drop n) a' W) (l.take n) a) : (Code.region id l.toArray true).wp P Q a w :=
  wp_region_still_tail n hm hB (h _ rfl)
end Go.Proofs.Ytfafonfphholmaa
/-
  Plain facts on the numbers in one, two, four or eight bytes (chapter 1): sizes, bytes, Zig and Zag as functions on integers. No program.
-/
namespace Go.Proofs.Ytfafonfphholmaa
open Go.RowKit

/-- How many bytes n has. -/
def szV (n : Int) : Int :=
  if n < 0 then 0 else if 4611686018427387903 < n then 0 else if n < 64 then 1 else if n < 16384 then 2 else if n < 1073741824 then 4 else 8

set_option maxRecDepth 10000 in
theorem szV_neg {n : Int} (h : n < 0) : szV n = 0 := by simp [szV, h]
set_option maxRecDepth 10000 in
theorem szV_big {n : Int} (h : 4611686018427387903 < n) : szV n = 0 := by unfold szV; split <;> simp_all
set_option maxRecDepth 10000 in
theorem szV_1 {n : Int} (h0 : 0 ≤ n) (h : n < 64) : szV n = 1 := by
  unfold szV; rw [if_neg (by omega), if_neg (by omega), if_pos h]
set_option maxRecDepth 10000 in
theorem szV_2 {n : Int} (h0 : 64 ≤ n) (h : n < 16384) : szV n = 2 := by
  unfold szV; rw [if_neg (by omega), if_neg (by omega), if_neg (by omega), if_pos h]
set_option maxRecDepth 10000 in
theorem szV_4 {n : Int} (h0 : 16384 ≤ n) (h : n < 1073741824) : szV n = 4 := by
  unfold szV; rw [if_neg (by omega), if_neg (by omega), if_neg (by omega), if_neg (by omega), if_pos h]
set_option maxRecDepth 10000 in
theorem szV_8 {n : Int} (h0 : 1073741824 ≤ n) (h : n ≤ 4611686018427387903) : szV n = 8 := by
  unfold szV; rw [if_neg (by omega), if_neg (by omega), if_neg (by omega), if_neg (by omega), if_neg (by omega)]

/-- The Zig of n. -/
def zigV (n : Int) : Int := if n < -2305843009213693952 then -1 else if 2305843009213693951 < n then -1 else if n < 0 then -2 * n - 1 else 2 * n
/-- The Zag of m. -/
def zagV (m : Int) : Int := if m < 0 then 0 else if 4611686018427387903 < m then 0 else if m % 2 = 1 then -(m / 2) - 1 else m / 2

set_option maxRecDepth 10000 in
theorem zagV_zigV {n : Int} (h1 : -2305843009213693952 ≤ n) (h2 : n ≤ 2305843009213693951) : zagV (zigV n) = n := by
  unfold zigV zagV; split <;> (repeat' (first | omega | split))
set_option maxRecDepth 10000 in
theorem zigV_bd {n : Int} (h1 : -2305843009213693952 ≤ n) (h2 : n ≤ 2305843009213693951) : 0 ≤ zigV n ∧ zigV n ≤ 4611686018427387903 := by
  unfold zigV; constructor <;> (repeat' (first | omega | split))
set_option maxRecDepth 10000 in
theorem zigV_odd {n : Int} (h1 : -2305843009213693952 ≤ n) (h2 : n ≤ 2305843009213693951) : zigV n % 2 = 1 ↔ n < 0 := by
  unfold zigV; constructor <;> (repeat' (first | omega | split))
set_option maxRecDepth 10000 in
theorem zigV_inj {n m : Int} (h1 : -2305843009213693952 ≤ n) (h2 : n ≤ 2305843009213693951) (k1 : -2305843009213693952 ≤ m) (k2 : m ≤ 2305843009213693951) : zigV n = zigV m ↔ n = m := by
  constructor
  · intro h
    have := zagV_zigV h1 h2
    have := zagV_zigV k1 k2
    rw [h] at *
    omega
  · rintro rfl; rfl

set_option maxRecDepth 10000 in
/-- Within: the remainder that Go's '%' and one addition leave. -/
theorem within_lt {v n : Int} (h1 : 1 ≤ n) (h2 : n ≤ 4611686018427387904) (h : v.tmod n < 0) : wrap64 (v.tmod n + n) = v % n := by
  have hl := Int.lt_tmod_of_pos v (show 0 < n by omega)
  rw [IntWalk.wrap64_in _ (by omega)]
  have he := Int.tmod_def v n
  have hlt : v.tmod n + n < n := by omega
  rw [← Int.emod_eq_of_lt (show 0 ≤ v.tmod n + n by omega) hlt, he]
  have : v - n * v.tdiv n + n = v + n * (1 - v.tdiv n) := by rw [Int.mul_sub]; omega
  rw [this, Int.add_mul_emod_self_left]
set_option maxRecDepth 10000 in
theorem within_ge {v n : Int} (h1 : 1 ≤ n) (h : 0 ≤ v.tmod n) : v.tmod n = v % n := by
  have hl := Int.tmod_lt_of_pos v (show 0 < n by omega)
  have he := Int.tmod_def v n
  rw [← Int.emod_eq_of_lt h hl, he, Int.sub_eq_add_neg, ← Int.mul_neg, Int.add_mul_emod_self_left]

/-- The bytes of n. -/
def putL (n : Int) : List Int :=
  if szV n = 1 then [n] else if szV n = 2 then [64 + n / 256, n % 256]
  else if szV n = 4 then [128 + n / 256 / 256 / 256, n / 256 / 256 % 256, n / 256 % 256, n % 256]
  else if szV n = 8 then [192 + n / 256 / 256 / 256 / 256 / 256 / 256 / 256, n / 256 / 256 / 256 / 256 / 256 / 256 % 256, n / 256 / 256 / 256 / 256 / 256 % 256, n / 256 / 256 / 256 / 256 % 256, n / 256 / 256 / 256 % 256, n / 256 / 256 % 256, n / 256 % 256, n % 256] else []
set_option maxRecDepth 10000 in
theorem putL_1 {n : Int} (h0 : 0 ≤ n) (h : n < 64) : putL n = [n] := by simp [putL, szV_1 h0 h]
set_option maxRecDepth 10000 in
theorem putL_2 {n : Int} (h0 : 64 ≤ n) (h : n < 16384) : putL n = [64 + n / 256, n % 256] := by simp [putL, szV_2 h0 h]
set_option maxRecDepth 10000 in
theorem putL_4 {n : Int} (h0 : 16384 ≤ n) (h : n < 1073741824) : putL n = [128 + n / 256 / 256 / 256, n / 256 / 256 % 256, n / 256 % 256, n % 256] := by simp [putL, szV_4 h0 h]
set_option maxRecDepth 10000 in
theorem putL_8 {n : Int} (h0 : 1073741824 ≤ n) (h : n ≤ 4611686018427387903) : putL n = [192 + n / 256 / 256 / 256 / 256 / 256 / 256 / 256, n / 256 / 256 / 256 / 256 / 256 / 256 % 256, n / 256 / 256 / 256 / 256 / 256 % 256, n / 256 / 256 / 256 / 256 % 256, n / 256 / 256 / 256 % 256, n / 256 / 256 % 256, n / 256 % 256, n % 256] := by simp [putL, szV_8 h0 h]
set_option maxRecDepth 10000 in
theorem putL_no {n : Int} (h : n < 0 ∨ 4611686018427387903 < n) : putL n = [] := by
  have : szV n = 0 := by rcases h with h | h; exact szV_neg h; exact szV_big h
  simp [putL, this]
set_option maxRecDepth 10000 in
theorem or_mark (x m : Int) (h0 : 0 ≤ x) (h1 : x < 64) (hm : m = 0 ∨ m = 64 ∨ m = 128 ∨ m = 192) : bits .or .u8 x m = m + x := by
  have hc : bits .or .u8 x m = bits .or .u8 m x := by simp only [bits, BitVec.or_comm]
  rw [hc, bits_join .u8 8 (by decide) wraps_u8 6 m x (by omega) (by omega) (by omega) h0 h1 (by omega)]

set_option maxRecDepth 10000 in
theorem putL_cases (n : Int) : (n < 0 ∨ 4611686018427387903 < n) ∨ (0 ≤ n ∧ n < 64) ∨ (64 ≤ n ∧ n < 16384) ∨ (16384 ≤ n ∧ n < 1073741824) ∨ (1073741824 ≤ n ∧ n ≤ 4611686018427387903) := by omega
set_option maxRecDepth 10000 in
theorem putL_len (n : Int) : (putL n).length ≤ 8 := by
  rcases putL_cases n with h | h | h | h | h
  · rw [putL_no h]; simp
  · rw [putL_1 h.1 h.2]; simp
  · rw [putL_2 h.1 h.2]; simp
  · rw [putL_4 h.1 h.2]; simp
  · rw [putL_8 h.1 h.2]; simp
set_option maxRecDepth 10000 in
theorem putL_bytes (n : Int) : ∀ x ∈ putL n, 0 ≤ x ∧ x < 256 := by
  rcases putL_cases n with h | h | h | h | h
  · rw [putL_no h]; simp
  · rw [putL_1 h.1 h.2]; simp; omega
  · rw [putL_2 h.1 h.2]; simp; omega
  · rw [putL_4 h.1 h.2]; simp; omega
  · rw [putL_8 h.1 h.2]; simp; omega

end Go.Proofs.Ytfafonfphholmaa
/-
  A slice of numbers that the call itself has made ('Own'), and append onto it from whatever is read ('wpList_app'). No program.
-/
namespace Go.Proofs.Ytfafonfphholmaa
open Go.RowKit

/-- v is a slice of the numbers xs in a block from B on that the call has made (or nil). -/
def Own (k : IntKind) (e : TypeId) (w : World) (B : Nat) (v : Value) (xs : List Int) : Prop := w.ownsRow B e 1 v xs.length (cel k xs)

section
variable {k : IntKind} {e : TypeId} {w w' : World} {B : Nat} {v : Value} {xs ys : List Int}
set_option maxRecDepth 10000 in
theorem Own.nil (k : IntKind) (e : TypeId) (w : World) (B : Nat) : Own k e w B (.slice none 0 0) [] := World.ownsRow_nil w B e 1
set_option maxRecDepth 10000 in
theorem Own.form (h : Own k e w B v xs) : ∃ A c, v = .slice A xs.length c := by
  rcases h.2 with ⟨rfl, h0⟩ | ⟨g, cap, cur, rfl, _⟩
  · exact ⟨none, 0, by rw [h0]⟩
  · exact ⟨_, _, rfl⟩
set_option maxRecDepth 10000 in
theorem Own.rd {A : Option Addr} {n c : Nat} (h : Own k e w B (.slice A n c) xs) : Rd k w A xs := by
  have hn : xs.length = n := by
    obtain ⟨A', c', hv⟩ := h.form
    injection hv with _ h2 _
    exact h2.symm
  have h' : w.ownsRow B e 1 (.slice A n c) n (cel k xs) := by rw [← hn]; unfold Own at h; rw [← hn] at h; exact h
  exact Rd.own h'
set_option maxRecDepth 10000 in
theorem Own.drewN (h : Own k e w B v xs) (n : Nat) : Own k e (w.drewN n) B v xs := h
set_option maxRecDepth 10000 in
theorem Own.alloc (h : Own k e w B v xs) (o : Obj) : Own k e (w.alloc o) B v xs := World.ownsRow.alloc h o
set_option maxRecDepth 10000 in
theorem Own.kept {row : Option Nat} (h : Own k e w B v xs) (hg : w.grownBy w' row) (hne : v.ownBlock = none ∨ v.ownBlock ≠ row) : Own k e w' B v xs := World.ownsRow.kept h hg hne
set_option maxRecDepth 10000 in
theorem Own.later (h : Own k e w B v xs) (hb : Below w.heap.size w w') : Own k e w' B v xs :=
  h.kept (row := none) ⟨hb.os, hb.tape, hb.output, hb.size, fun i hi _ => hb.block i hi⟩ (by cases v.ownBlock <;> simp)
set_option maxRecDepth 10000 in
theorem Own.lt (h : Own k e w B v xs) : ∀ g, v.ownBlock = some g → B ≤ g ∧ g < w.heap.size := World.ownsRow.lt h
set_option maxRecDepth 10000 in
theorem Own.less {B' : Nat} (h : Own k e w B v xs) (hB : B' ≤ B) : Own k e w B' v xs := by
  refine ⟨h.1, ?_⟩
  rcases h.2 with h2 | ⟨g, cap, cur, hv, hg, r⟩
  · exact .inl h2
  · exact .inr ⟨g, cap, cur, hv, Nat.le_trans hB hg, r⟩
set_option maxRecDepth 10000 in
/-- Two rows of unlike elements never share a block. -/
theorem Own.apart {k' : IntKind} {e' : TypeId} {B' : Nat} {v' : Value} (h : Own k e w B v xs) (h' : Own k' e' w B' v' ys) (hne : e ≠ e') : v.ownBlock = none ∨ v.ownBlock ≠ v'.ownBlock := by
  rcases h.2 with ⟨rfl, _⟩ | ⟨g, cap, cur, rfl, _, hh, _⟩
  · exact .inl rfl
  · right
    rcases h'.2 with ⟨rfl, _⟩ | ⟨g', cap', cur', rfl, _, hh', _⟩
    · simp [Value.ownBlock]
    · intro he
      simp only [Value.ownBlock, Option.some.injEq] at he
      subst he
      rw [hh] at hh'
      injection hh' with hh'
      injection hh' with _ ht
      exact hne ht
set_option maxRecDepth 10000 in
/-- The block of a row that is not empty. -/
theorem Own.block {A : Option Addr} {n c : Nat} (h : Own k e w B (.slice A n c) xs) (h0 : 0 < n) :
    ∃ g, A = some ⟨g, 0, none⟩ ∧ B ≤ g ∧ g < w.heap.size ∧ xs.length = n ∧ (∀ i, i < n → w.cell? ⟨g, i, none⟩ = some (.int k (xs.getD i 0))) ∧ ∀ i, w.frozen? ⟨g, i, none⟩ = false := by
  have hn : xs.length = n := by
    obtain ⟨A', c', hv⟩ := h.form
    injection hv with _ h2 _
    exact h2.symm
  have h' : w.ownsRow B e 1 (.slice A n c) n (cel k xs) := by unfold Own at h; rw [hn] at h; exact h
  rcases h'.2 with ⟨hv, h1⟩ | ⟨g, cap, cur, hv, hg, hh, _⟩
  · omega
  · injection hv with hA _ hc
    subst hA; subst hc
    refine ⟨g, rfl, hg, (h'.lt g (by simp [Value.ownBlock])).2, hn, fun i hi => ?_, fun i => h'.frozenAt i⟩
    rw [h'.cellAt i (by omega)]
    simp [cel, List.getD, hn, hi]
set_option maxRecDepth 10000 in
theorem Own.cap {A : Option Addr} {n c : Nat} (h : Own k e w B (.slice A n c) xs) : n ≤ c := by
  rcases h.2 with ⟨hv, _⟩ | ⟨g, cap, cur, hv, _, _, hn, _⟩
  · injection hv with _ h2 h3; omega
  · injection hv with _ h2 h3; omega
set_option maxRecDepth 10000 in
/-- A store into it. -/
theorem Own.stored {g n c : Nat} (h : Own k e w B (.slice (some ⟨g, 0, none⟩) n c) xs) (hn : xs.length = n) (j : Nat) (x : Int) :
    Own k e (w.setCell ⟨g, j, none⟩ (.int k x)) B (.slice (some ⟨g, 0, none⟩) n c) (xs.set j x) := by
  unfold Own at h ⊢
  rw [List.length_set]
  rw [hn] at h ⊢
  have := (World.ownsRow.stored h j (.int k x)).1
  simpa [cel, List.map_set] using this
set_option maxRecDepth 10000 in
/-- A whole block that the call has just laid. -/
theorem Own.new (w : World) (xs : List Int) (t : TypeId) (hl : xs.length ≤ maxLen) : Own .u8 t (w.alloc (.cells (bts xs) t)) w.heap.size (.slice (some ⟨w.heap.size, 0, none⟩) xs.length xs.length) xs := by
  have := World.ownsRow_lit (base := w.heap.size) (e := t) (size := 1) w (bts xs) xs.length (Nat.le_refl _) hl (by simp [bts])
  simpa [Own, bts, cel] using this
set_option maxRecDepth 10000 in
theorem grown_below {row : Option Nat} (hg : w.grownBy w' row) (hB : B ≤ w.heap.size) (hr : ∀ g, row = some g → B ≤ g) : Below B w w' := (Below.refl B w).grown hg hB hr
set_option maxRecDepth 10000 in
theorem Own.none_len {k : IntKind} {e : TypeId} {w : World} {B : Nat} {A : Option Addr} {n c : Nat} {xs : List Int} (h : Own k e w B (.slice A n c) xs) (hA : A = none) : c = 0 ∧ n = 0 := by
  rcases h.2 with ⟨hv, _⟩ | ⟨g, cap, cur, hv, _⟩
  · injection hv with _ h2 h3; exact ⟨h3, h2⟩
  · injection hv with h1 _ _
    rw [hA] at h1; cases h1
end

set_option maxRecDepth 10000 in
theorem setCell_one (w : World) (b i : Nat) (v : Value) : w.grownBy (w.setCell ⟨b, i, none⟩ v) (some b) := by
  refine ⟨rfl, rfl, rfl, by simp, fun k hk hne => ?_⟩
  exact heap_setCell_other _ _ _ _ (fun e => hne (by simp [e]))

section
variable {P : Program} (w : World)

set_option maxRecDepth 10000 in
theorem run_app (k : IntKind) (t ty e : TypeId) (z : Value) (bytes : Nat) (ht : P.underlying t = some (.slice e)) (hinfo : (P.info? e).map (fun i => (i.zero, i.size, i.bytes)) = some (some z, 1, bytes)) (hz1 : z.cells.size = 1)
    (B : Nat) (v : Value) (xs : List Int) (hown : Own k e w B v xs) (A : Option Addr) (m c : Nat) (ys : List Int) (hm : ys.length = m) (hr : Rd k w A ys)
    (hmax : xs.length + m ≤ maxLen) (hbytes : (xs.length + m) * bytes ≤ 140737488355328) (hB : B ≤ w.heap.size) :
    ∃ A' c' w', (Builtin.append_ #[t, t] ty #[v, .slice A m c]).run P w = .ok (.slice A' (xs.length + m) c') w' ∧ Own k e w' B (.slice A' (xs.length + m) c') (xs ++ ys) ∧ w.grownBy w' v.ownBlock := by
  obtain ⟨i, hi, hz0, hz2, hz3⟩ := info_parts hinfo
  cases A with
  | some ad =>
    obtain ⟨v', w', hrun, h2, h3, _⟩ := run_append_own (P := P) w B t ty e i z 1 bytes ht hi hz0 hz2 hz3 hz1 (by omega) v xs.length (cel k xs) hown ad m c (cel k ys) (by simp [cel, hm]) (hr.cells ad rfl) (cel_one k ys) hmax hbytes hB
    have hlen : (xs ++ ys).length = xs.length + m := by simp [hm]
    have ho : Own k e w' B v' (xs ++ ys) := by
      unfold Own; rw [hlen]; simpa [cel] using h2
    obtain ⟨A', c', rfl⟩ := ho.form
    rw [hlen] at hrun ho
    exact ⟨A', c', w', hrun, ho, h3⟩
  | none =>
    have hy : ys = [] := by
      rcases hr with h | ⟨b, off, h, _⟩
      · exact h
      · cases h
    subst hy
    have hm0 : m = 0 := by simpa using hm.symm
    subst hm0
    obtain ⟨A', c', rfl⟩ := hown.form
    have hrun : (Builtin.append_ #[t, t] ty #[.slice A' xs.length c', .slice none 0 c]).run P w = .ok (.slice A' xs.length c') w := by
      rcases hown.2 with ⟨hv, h0⟩ | ⟨g, cap, cur, hv, _, _, hnc, _⟩
      · injection hv with h1 _ h3
        subst h1; subst h3
        rw [h0]
        simp [Builtin.append_, run_underlying ht, sizeOf, typeInfo, hi, Builtin.lenOf, Builtin.firstCells]
      · injection hv with h1 _ h3
        subst h1; subst h3
        simp [Builtin.append_, run_underlying ht, sizeOf, typeInfo, hi, Builtin.lenOf, Builtin.firstCells, hnc, storeCells]
    refine ⟨A', c', w, by simpa using hrun, by simpa using hown, World.grownBy.refl _ _⟩

set_option maxRecDepth 10000 in
/-- 'append(s, x...)', s the call's own (or nil), x whatever is read. -/
theorem wpList_app (k : IntKind) {ops : Array Oper} {rest : List Oper} {o : Oper} {a : Act} {Q : Exit → Act → World → Prop} (hgd : o.guard = none) (s x : Operand) (t : TypeId)
    (ho : o.op = .call { callee := .builtin .append, args := #[s, x], argTypes := #[t, t] })
    (e : TypeId) (z : Value) (bytes : Nat) (ht : P.underlying t = some (.slice e)) (hinfo : (P.info? e).map (fun i => (i.zero, i.size, i.bytes)) = some (some z, 1, bytes)) (hz1 : z.cells.size = 1)
    (B : Nat) (v : Value) (xs : List Int) (hs : a.eval s = v) (hown : Own k e w B v xs) (A : Option Addr) (m c : Nat) (hx : a.eval x = .slice A m c) (ys : List Int) (hm : ys.length = m) (hr : Rd k w A ys)
    (hmax : xs.length + m ≤ maxLen) (hbytes : (xs.length + m) * bytes ≤ 140737488355328) (hB : B ≤ w.heap.size)
    (h : ∀ A' c' w', Own k e w' B (.slice A' (xs.length + m) c') (xs ++ ys) → w.grownBy w' v.ownBlock → wpList P ops Q rest (a.put o.dst (.slice A' (xs.length + m) c')) w') : wpList P ops Q (o :: rest) a w := by
  refine wpList_plain hgd fun _ hK => ?_
  obtain ⟨A', c', w', hrun, h2, h3⟩ := run_app (P := P) w k t o.type e z bytes ht hinfo hz1 B v xs hown A m c ys hm hr hmax hbytes hB
  unfold Oper.wp execOp
  simp only [ho, resolve, invoke, builtin, Sem.run_bind, Sem.run_pure, Result.andThen_ok, List.map_toArray, List.map_cons, List.map_nil, hs, hx, hrun]
  exact hK _ _ (h A' c' w' h2 h3)

set_option maxRecDepth 10000 in
/-- append at a step of a region that draws its order. -/
theorem step_app (k : IntKind) {ops : Array Oper} {o : Oper} {a : Act} {K : Act → World → Prop} {Q : Exit → Act → World → Prop} {E : Prop} (hw : Region.wanted o (yielded ops a.tmps) = true) (s x : Operand) (t : TypeId)
    (ho : o.op = .call { callee := .builtin .append, args := #[s, x], argTypes := #[t, t] })
    (e : TypeId) (z : Value) (bytes : Nat) (ht : P.underlying t = some (.slice e)) (hinfo : (P.info? e).map (fun i => (i.zero, i.size, i.bytes)) = some (some z, 1, bytes)) (hz1 : z.cells.size = 1)
    (B : Nat) (v : Value) (xs : List Int) (n : Nat) (hn : xs.length = n) (hs : a.eval s = v) (hown : Own k e w B v xs) (A : Option Addr) (m c : Nat) (hx : a.eval x = .slice A m c) (ys : List Int) (hm : ys.length = m) (hr : Rd k w A ys)
    (hmax : n + m ≤ maxLen) (hbytes : (n + m) * bytes ≤ 140737488355328) (hB : B ≤ w.heap.size)
    (h : ∀ A' c' w', Own k e w' B (.slice A' (n + m) c') (xs ++ ys) → w.grownBy w' v.ownBlock → Below B w w' → K (a.put o.dst (.slice A' (n + m) c')) w') :
    if Region.wanted o (yielded ops a.tmps) = true then Oper.wp P o a w K Q else E := by
  subst hn
  obtain ⟨A', c', w', hrun, h2, h3⟩ := run_app (P := P) w k t o.type e z bytes ht hinfo hz1 B v xs hown A m c ys hm hr hmax hbytes hB
  rw [if_pos hw]
  unfold Oper.wp execOp
  simp only [ho, resolve, invoke, builtin, Sem.run_bind, Sem.run_pure, Result.andThen_ok, List.map_toArray, List.map_cons, List.map_nil, hs, hx, hrun]
  exact h A' c' w' h2 h3 (grown_below h3 hB (fun g hg => (hown.lt g hg).1))
end
end Go.Proofs.Ytfafonfphholmaa
/-
  What Within answers: contract over the program.
-/
namespace Go.Proofs.Ytfafonfphholmaa
open Go.RowKit

set_option maxRecDepth 10000 in
set_option maxHeartbeats 400000 in
theorem within_any (v n : Int) (w : World) (h1 : 1 ≤ n) (h2 : n ≤ 4611686018427387904) :
    Calls Try.prog 5 #[.int .i64 v, .int .i64 n] w fun e w' => e = .returned (.int .i64 (v % n)) ∧ w = w' := by
  by_cases h : v.tmod n < 0
  · go_enter Try.func5, Try.ntmps5
    go_wp2
    go_ret
    exact ⟨ret_i (within_lt h1 h2 h), rfl⟩
  · go_enter Try.func5, Try.ntmps5
    go_wp2
    go_ret
    exact ⟨ret_i (within_ge h1 (by omega)), rfl⟩
end Go.Proofs.Ytfafonfphholmaa
/-
  What Copy and Cut make of bytes: contracts over the program.
-/
namespace Go.Proofs.Ytfafonfphholmaa
open Go.RowKit

set_option maxRecDepth 10000 in
theorem info_byte : (Try.prog.info? 5).map (fun i => (i.zero, i.size, i.bytes)) = some (some (.int .u8 0), 1, 1) := by kernel_rfl

set_option maxRecDepth 10000 in
set_option maxHeartbeats 400000 in
theorem copy_any (A : Option Addr) (n c : Nat) (xs : List Int) (w : World) (hn : xs.length = n) (hr : Rd .u8 w A xs) (hb : n ≤ 140737488355328) :
    Calls Try.prog 24 #[.slice A n c] w fun e w' => ∃ A' c', e = .returned (.slice A' n c') ∧ Own .u8 5 w' w.heap.size (.slice A' n c') xs ∧ Below w.heap.size w w' := by
  go_enter Try.func24, Try.ntmps24
  go_wp2_with (at_builtin; refine wpList_app _ .u8 rfl (.const (.slice none 0 0)) (.tmp 3) 29 rfl 5 (.int .u8 0) 1 Try.underlying29 info_byte rfl w.heap.size (.slice none 0 0) [] rfl (Own.nil _ _ _ _) A n c rfl xs hn hr (by simp [maxLen]; omega) (by simp; omega) (Nat.le_refl _) ?_; intro A' c' w' ho hg)
  go_ret
  simp only [List.length_nil, Nat.zero_add, List.nil_append] at ho ⊢
  exact ⟨A', c', rfl, ho, grown_below hg (Nat.le_refl _) (by simp [Value.ownBlock])⟩

set_option maxRecDepth 10000 in
set_option maxHeartbeats 400000 in
theorem cut_any (A : Option Addr) (n c : Nat) (m : Int) (xs : List Int) (w : World) (hn : xs.length = n) (hc : n ≤ c) (hr : Rd .u8 w A xs) (hb : n ≤ 9223372036854775807) (h0 : 0 ≤ m) (hm : m ≤ 140737488355328) :
    Calls Try.prog 6 #[.slice A n c, .int .i64 m] w fun e w' =>
      ∃ A' c', e = .returned (.slice A' (xs.take m.toNat).length c') ∧ Own .u8 5 w' w.heap.size (.slice A' (xs.take m.toNat).length c') (xs.take m.toNat) ∧ Below w.heap.size w w' := by
  obtain ⟨k, rfl⟩ := Int.eq_ofNat_of_zero_le h0
  rw [Int.toNat_natCast]
  have HN := Lib.hid hn
  clear hn
  have hl : (xs.take k).length = min k n := by rw [List.length_take, HN.out]
  rw [hl]
  have HL := Lib.hid hl
  clear hl
  by_cases h : (n : Int) ≤ (k : Int)
  · have hk : xs.take k = xs := List.take_of_length_le (by rw [HN.out]; omega)
    have hmn : min k n = n := by omega
    rw [hmn, hk]
    clear hk hmn
    go_enter Try.func6, Try.ntmps6
    go_wp2_with fail
    refine (copy_any A n c xs w HN.out hr (by omega)).mono ?_
    rintro e w' ⟨A', c', rfl, ho, hbl⟩
    go_wp2
    go_ret
    exact ⟨A', c', rfl, ho, hbl⟩
  · have hmn : min k n = k := by omega
    have HK := Lib.hid hmn
    rw [hmn]
    clear hmn
    go_enter Try.func6, Try.ntmps6
    go_wp2_with fail
    refine (copy_any A k c (xs.take k) w (by rw [HL.out, HK.out]) (hr.take k) (by omega)).mono ?_
    rintro e w' ⟨A', c', rfl, ho, hbl⟩
    go_wp2
    go_ret
    exact ⟨A', c', rfl, ho, hbl⟩

end Go.Proofs.Ytfafonfphholmaa
/-
  What Same answers: contracts over the program.
-/
namespace Go.Proofs.Ytfafonfphholmaa
open Go.RowKit

set_option maxRecDepth 10000 in
set_option maxHeartbeats 400000 in
theorem same_len (A B : Option Addr) (n m c d : Nat) (w : World) (h : n ≠ m) :
    Calls Try.prog 47 #[.slice A n c, .slice B m d] w fun e w' => e = .returned (.bool false) ∧ ∃ k, w' = w.drewN k := by
  have hne : ((n : Int) != (m : Int)) = true := by rw [bne_iff_ne]; omega
  clear h
  go_enter Try.func47, Try.ntmps47
  go_wp2
  go_ret
  exact ⟨rfl, 0, rfl⟩

set_option maxRecDepth 10000 in
set_option maxHeartbeats 400000 in
theorem same_any (xs ys : List Int) (A B : Option Addr) (c d : Nat) (w : World) (hx : Rd .u8 w A xs) (hy : Rd .u8 w B ys) (hm : xs.length ≤ maxLen) :
    Calls Try.prog 47 #[.slice A xs.length c, .slice B ys.length d] w fun e w' => e = .returned (.bool (decide (xs = ys))) ∧ ∃ k, w' = w.drewN k := by
  by_cases hl : xs.length = ys.length
  · obtain ⟨n, hn⟩ : ∃ n, xs.length = n := ⟨_, rfl⟩
    rw [← hl, hn]
    rw [hn] at hm hl
    unfold maxLen at hm
    rcases hx with rfl | ⟨b, off, rfl, hx⟩
    · have : n = 0 := by simpa using hn.symm
      subst this
      have : ys = [] := List.eq_nil_of_length_eq_zero hl.symm
      subst this
      clear hn hl hm hy
      go_enter Try.func47, Try.ntmps47
      go_wp2
      go_rounds 1
      go_ret
      exact ⟨rfl, 0, rfl⟩
    · rcases hy with rfl | ⟨b', off', rfl, hy⟩
      · have : n = 0 := by simpa using hl
        subst this
        have : xs = [] := List.eq_nil_of_length_eq_zero hn
        subst this
        clear hn hl hm hx
        go_enter Try.func47, Try.ntmps47
        go_wp2
        go_rounds 1
        go_ret
        exact ⟨rfl, 0, rfl⟩
      · have HX := Lib.hid hx
        have HY := Lib.hid hy
        have HN := Lib.hid hn
        have HL := Lib.hid hl
        clear hx hy hn hl
        go_enter Try.func47, Try.ntmps47
        go_wp2
        go_loopw [5] (fun i wr => ∃ k nd : Nat, k ≤ n ∧ i = .int .i64 k ∧ wr = w.drewN nd ∧ Hid (∀ j, j < k → xs.getD j 0 = ys.getD j 0)) (fun i _ => n - (intOf i).toNat)
        case atStart => exact ⟨0, 0, by omega, rfl, rfl, fun j hj => absurd hj (by omega)⟩
        case round =>
          obtain ⟨k, nd, hk, rfl, rfl, hp⟩ := hrel
          by_cases hlt : k < n
          · have c1 := HX.out k (by rw [HN.out]; exact hlt)
            have c2 := HY.out k (by rw [← HL.out]; exact hlt)
            have hi : (k : Int) < (n : Int) := by omega
            have h0 : (0 : Int) ≤ (k : Int) := by omega
            obtain ⟨x, hx⟩ : ∃ x, xs.getD k 0 = x := ⟨_, rfl⟩
            obtain ⟨y, hy⟩ : ∃ y, ys.getD k 0 = y := ⟨_, rfl⟩
            rw [hx] at c1
            rw [hy] at c2
            have HX2 := Lib.hid hx
            have HY2 := Lib.hid hy
            clear hx hy
            by_cases he : x = y
            · subst he
              go_wp2_with fail
              go_quiet (fail)
              go_wp2
              go_roundw
              case rel => exact ⟨k + 1, _, by omega, by go_num, rfl, fun j hj => by
                rcases Nat.lt_or_ge j k with h | h
                · exact hp.out j h
                · have : j = k := by omega
                  rw [this, HX2.out, HY2.out]⟩
              case measure => simp [intOf]; omega
            · have hne : (x != y) = true := by rw [bne_iff_ne]; exact he
              go_wp2_with fail
              go_quiet (fail)
              go_wp2
              go_ret
              exact ⟨ret_b (decide_eq_false (fun h => he (by rw [← HX2.out, ← HY2.out, h]))).symm, _, by rw [World.drewN_drewN]⟩
          · have : k = n := by omega
            subst this
            go_wp2
            go_ret
            exact ⟨ret_b (decide_eq_true (list_eq_of_getD (by rw [HN.out, HL.out]) (by rw [HN.out]; exact hp.out))).symm, _, rfl⟩
  · have := same_len A B xs.length ys.length c d w hl
    rw [decide_eq_false (fun h => hl (by rw [h]))]
    exact this

set_option maxRecDepth 10000 in
/-- Same, of two lists that are known where they lie. -/
theorem same_at (xs ys : List Int) {A B : Option Addr} {n m c d : Nat} {w : World} (hn : xs.length = n) (hm : ys.length = m) (hx : Rd .u8 w A xs) (hy : Rd .u8 w B ys) (hl : xs.length ≤ maxLen) :
    Calls Try.prog 47 #[.slice A n c, .slice B m d] w fun e w' => e = .returned (.bool (decide (xs = ys))) ∧ ∃ k, w' = w.drewN k := by
  subst hn; subst hm
  exact same_any xs ys A B c d w hx hy hl
set_option maxRecDepth 10000 in
/-- Same, of one list that lies twice. -/
theorem same_true (xs : List Int) {A B : Option Addr} {n m c d : Nat} {w : World} (hn : xs.length = n) (hm : xs.length = m) (hx : Rd .u8 w A xs) (hy : Rd .u8 w B xs) (hl : xs.length ≤ maxLen) :
    Calls Try.prog 47 #[.slice A n c, .slice B m d] w fun e w' => e = .returned (.bool true) ∧ ∃ k, w' = w.drewN k := by
  have := same_at (c := c) (d := d) xs xs hn hm hx hy hl
  simpa using this
end Go.Proofs.Ytfafonfphholmaa
/-
  Where append leaves a slice of numbers of the call's own: in its block, or in a new one ('app_block'); append at a step of a region that draws, which tells it ('step_app_f'). No program.
-/
namespace Go.Proofs.Ytfafonfphholmaa
open Go.RowKit

section
variable {P : Program} (w : World)

set_option maxRecDepth 10000 in
theorem app_block (k : IntKind) (t ty e : TypeId) (z : Value) (bytes : Nat) (ht : P.underlying t = some (.slice e)) (hinfo : (P.info? e).map (fun i => (i.zero, i.size, i.bytes)) = some (some z, 1, bytes)) (hz1 : z.cells.size = 1)
    (B : Nat) (v : Value) (xs : List Int) (hown : Own k e w B v xs) (ad : Addr) (m c : Nat) (ys : List Int) (hm : ys.length = m) (hr : Rd k w (some ad) ys)
    (hmax : xs.length + m ≤ maxLen) (hbytes : (xs.length + m) * bytes ≤ 140737488355328) {v' : Value} {w' : World} (hrun : (Builtin.append_ #[t, t] ty #[v, .slice (some ad) m c]).run P w = .ok v' w') :
    ∀ g, v'.ownBlock = some g → v.ownBlock = some g ∨ w.heap.size ≤ g := by
  obtain ⟨i, hi, hz0, hz2, hz3⟩ := info_parts hinfo
  have hlc : (cel k ys).length = m * i.size := by simp [cel, hm, hz2]
  have hnews := hr.cells ad rfl
  rcases hown.2 with ⟨rfl, h0⟩ | ⟨b, cap, cur, rfl, _, hb, hnc, _, hcs, htake⟩
  · obtain ⟨v2, w2, hrun2, h2, _, _⟩ := run_append_own (P := P) w w.heap.size t ty e i z 1 bytes ht hi hz0 hz2 hz3 hz1 (by omega) (.slice none 0 0) xs.length (cel k xs) ⟨hown.1, .inl ⟨rfl, h0⟩⟩ ad m c (cel k ys) (by simp [cel, hm]) hnews (cel_one k ys) hmax hbytes (Nat.le_refl _)
    rw [hrun2] at hrun
    injection hrun with hv _
    subst hv
    intro g hg
    exact .inr (h2.lt g hg).1
  · by_cases hroom : xs.length + m ≤ cap
    · have hr1 := run_append_room (P := P) w t ty e i ht hi b xs.length cap cur hb ad m c (cel k ys) hlc hnews (cel_one k ys) hroom (by rw [hz2, hcs, cel_len]; omega)
      rw [hr1] at hrun
      injection hrun with hv _
      subst hv
      intro g hg
      exact .inl (by simpa [Value.ownBlock] using hg)
    · have holds := hown.cells (g := b) rfl
      have hr1 := run_append_grow (P := P) w t ty e i z ht hi hz0 ⟨b, 0, none⟩ xs.length cap (cel k xs) (by simp [cel, hz2]) holds ad m c (cel k ys) hlc hnews (by omega) (by unfold maxLen at hmax; omega) (growslice_fits (by omega) (by rw [hz3]; exact hbytes))
      rw [hr1] at hrun
      injection hrun with hv _
      subst hv
      intro g hg
      right
      simp [Value.ownBlock] at hg
      omega

set_option maxRecDepth 10000 in
/-- append at a step of a region that draws its order; it tells where the result lies. -/
theorem step_app_f (k : IntKind) {ops : Array Oper} {o : Oper} {a : Act} {K : Act → World → Prop} {Q : Exit → Act → World → Prop} {E : Prop} (hw : Region.wanted o (yielded ops a.tmps) = true) (s x : Operand) (t : TypeId)
    (ho : o.op = .call { callee := .builtin .append, args := #[s, x], argTypes := #[t, t] })
    (e : TypeId) (z : Value) (bytes : Nat) (ht : P.underlying t = some (.slice e)) (hinfo : (P.info? e).map (fun i => (i.zero, i.size, i.bytes)) = some (some z, 1, bytes)) (hz1 : z.cells.size = 1)
    (B : Nat) (v : Value) (xs : List Int) (n : Nat) (hn : xs.length = n) (hs : a.eval s = v) (hown : Own k e w B v xs) (A : Option Addr) (m c : Nat) (hx : a.eval x = .slice A m c) (ys : List Int) (hm : ys.length = m) (hpos : 0 < m) (hr : Rd k w A ys)
    (hmax : n + m ≤ maxLen) (hbytes : (n + m) * bytes ≤ 140737488355328) (hB : B ≤ w.heap.size)
    (h : ∀ A' c' w', Own k e w' B (.slice A' (n + m) c') (xs ++ ys) → w.grownBy w' v.ownBlock → Below B w w' → (∀ g, (Value.slice A' (n + m) c').ownBlock = some g → v.ownBlock = some g ∨ w.heap.size ≤ g) → K (a.put o.dst (.slice A' (n + m) c')) w') :
    if Region.wanted o (yielded ops a.tmps) = true then Oper.wp P o a w K Q else E := by
  subst hn
  obtain ⟨A', c', w', hrun, h2, h3⟩ := run_app (P := P) w k t o.type e z bytes ht hinfo hz1 B v xs hown A m c ys hm hr hmax hbytes hB
  have hblk : ∀ g, (Value.slice A' (xs.length + m) c').ownBlock = some g → v.ownBlock = some g ∨ w.heap.size ≤ g := by
    obtain ⟨b, off, rfl, _⟩ := hr.some_ (by omega)
    exact app_block (P := P) w k t o.type e z bytes ht hinfo hz1 B v xs hown _ m c ys hm hr hmax hbytes hrun
  rw [if_pos hw]
  unfold Oper.wp execOp
  simp only [ho, resolve, invoke, builtin, Sem.run_bind, Sem.run_pure, Result.andThen_ok, List.map_toArray, List.map_cons, List.map_nil, hs, hx, hrun]
  exact h A' c' w' h2 h3 (grown_below h3 hB (fun g hg => (hown.lt g hg).1)) hblk
end
end Go.Proofs.Ytfafonfphholmaa

/-
  A store of one block, as mathematics; what lies elsewhere while a store is turned. No function of the program.
-/
import Derived.Test.YtfafonfphholmaaStWakes
namespace Go.Proofs.Ytfafonfphholmaa
open Go.RowKit Go.Maps

theorem append_new (n : Int) (ys : List Int) (h : 1 ≤ n) : (⟨[], false, 0, false⟩ : St).append n ys = (⟨[⟨n, ys, 0, false⟩], false, 0, false⟩, 0) := by
  have : ¬ n < 1 := by omega
  simp [St.append, St.act, mayE, this, appB, insB, Blk.more, burn]
theorem append_one (n : Int) (xs ys : List Int) (s : Nat) (f : Bool) (h : 1 ≤ n) : (⟨[⟨n, xs, s, f⟩], false, 0, false⟩ : St).append n ys = (⟨[⟨n, xs ++ ys, s, f⟩], false, 0, false⟩, 0) := by
  have : ¬ n < 1 := by omega
  simp [St.append, St.act, mayE, this, appB, Blk.more, burn]
theorem sync_one (n : Int) (xs : List Int) (s : Nat) (f : Bool) (h : 1 ≤ n) : (⟨[⟨n, xs, s, f⟩], false, 0, false⟩ : St).sync n = (⟨[⟨n, xs, xs.length, true⟩], false, 0, false⟩, 0) := by
  have : ¬ n < 1 := by omega
  simp [St.sync, St.act, mustE, mayE, this, updB, Blk.settle, burn]
theorem crash_one (n : Int) (xs : List Int) (s K : Nat) (f fu : Bool) (lf : Int) (de : Bool) (keep : Int) (hK : s + (min (max keep 0) ((xs.length : Int) - s)).toNat = K) (hl : K ≤ xs.length) (h0 : f = true ∨ 0 < K) :
    (⟨[⟨n, xs, s, f⟩], fu, lf, de⟩ : St).crash keep = ⟨[⟨n, xs.take K, K, true⟩], false, 0, false⟩ := by
  have hlost : (Blk.tear ⟨n, xs, s, f⟩ keep).lost = false := by
    unfold Blk.tear Blk.lost Blk.kept
    simp only [hK, List.length_take, Nat.min_eq_left hl]
    rcases h0 with h | h
    · simp [h]
    · simp; omega
  simp only [St.crash, crashB, List.map_cons, List.map_nil, List.filter_cons, List.filter_nil, hlost, Bool.not_false, if_true]
  simp only [Blk.tear, Blk.settle, Blk.kept, hK, List.length_take, Nat.min_eq_left hl]
theorem crash_gone (n : Int) (xs : List Int) (s : Nat) (fu : Bool) (lf : Int) (de : Bool) (keep : Int) (hK : s + (min (max keep 0) ((xs.length : Int) - s)).toNat = 0) :
    (⟨[⟨n, xs, s, false⟩], fu, lf, de⟩ : St).crash keep = ⟨[], false, 0, false⟩ := by
  have hlost : (Blk.tear ⟨n, xs, s, false⟩ keep).lost = true := by
    unfold Blk.tear Blk.lost Blk.kept
    simp [hK]
  simp only [St.crash, crashB, List.map_cons, List.map_nil, List.filter_cons, List.filter_nil, hlost, Bool.not_true, Bool.false_eq_true, if_false]
theorem crash_nil (fu : Bool) (lf : Int) (de : Bool) (keep : Int) : (⟨[], fu, lf, de⟩ : St).crash keep = ⟨[], false, 0, false⟩ := rfl

theorem mod_nat (v : Int) (m : Nat) : ∃ N : Nat, v % ((m : Int) + 1) = (N : Int) ∧ N ≤ m := by
  have h1 := Int.emod_nonneg v (show ((m : Int) + 1) ≠ 0 by omega)
  have h2 := Int.emod_lt_of_pos v (show (0 : Int) < (m : Int) + 1 by omega)
  exact ⟨(v % ((m : Int) + 1)).toNat, by omega, by omega⟩
theorem cut_bad (n j : Int) (xs : List Int) (s : Nat) (f : Bool) (h : 1 ≤ n) (hj : j < 0 ∨ (xs.length : Int) < j) : (⟨[⟨n, xs, s, f⟩], false, 0, false⟩ : St).cut n j = (⟨[⟨n, xs, s, f⟩], false, 0, false⟩, 1) := by
  have : ¬ n < 1 := by omega
  simp [St.cut, St.act, cutE, mustE, mayE, this, hj]
theorem cut_ok (n : Int) (j : Nat) (xs : List Int) (s : Nat) (f : Bool) (h : 1 ≤ n) (hj : j ≤ xs.length) : (⟨[⟨n, xs, s, f⟩], false, 0, false⟩ : St).cut n (j : Int) = (⟨[⟨n, xs.take j, j, true⟩], false, 0, false⟩, 0) := by
  have h1 : ¬ n < 1 := by omega
  have h2 : ¬ xs.length < j := by omega
  have h3 : ¬ (j : Int) < 0 := by omega
  simp [St.cut, St.act, cutE, mustE, mayE, h1, h2, h3, updB, Blk.cut, burn]
theorem drop_one (n : Int) (xs : List Int) (s : Nat) (f : Bool) (h : 1 ≤ n) : (⟨[⟨n, xs, s, f⟩], false, 0, false⟩ : St).drop n = (⟨[], false, 0, false⟩, 0) := by
  have h1 : ¬ n < 1 := by omega
  simp [St.drop, St.act, mustE, mayE, h1, burn]
theorem StoreIs.kept {w w' : World} {B p : Nat} {s : St} {F G : Nat → Prop} (h : StoreIs w B p s F) (ht : Trn w w' G) (hf : ∀ k, F k → ¬ G k) : StoreIs w' B p s F := by
  obtain ⟨m, L, h, hk, rfl, hlf⟩ := h
  exact ⟨m, L, h.kept ht hf, hk, rfl, hlf⟩
theorem StoreIs.drewN {w : World} {B p : Nat} {s : St} {F : Nat → Prop} (h : StoreIs w B p s F) (n : Nat) : StoreIs (w.drewN n) B p s F := h.later ⟨rfl, rfl, rfl, Nat.le_refl _, fun _ _ => rfl⟩
theorem StoreIs.size {w : World} {B p : Nat} {s : St} {F : Nat → Prop} (h : StoreIs w B p s F) : B ≤ w.heap.size := by
  obtain ⟨m, L, h, hk, rfl, hlf⟩ := h
  exact Nat.le_trans h.gep (Nat.le_of_lt h.row.lt)

section
variable {w w' : World} {F F' : Nat → Prop}
/-- A row that lies elsewhere. -/
def Apart (v : Value) (F : Nat → Prop) : Prop := ∀ g, v.ownBlock = some g → ¬ F g
theorem keep_own {k : IntKind} {e : TypeId} {B : Nat} {v : Value} {xs : List Int} (hsc : SC w w' F F') (ho : Own k e w B v xs) (hn : Apart v F) : Own k e w' B v xs ∧ Apart v F' :=
  ⟨hsc.trn.own ho hn, fun g hg => hsc.out (ho.lt g hg).2 (hn g hg)⟩
theorem apart_new {k : IntKind} {e : TypeId} {B p : Nat} {v : Value} {xs : List Int} {s : St} {w1 : World} (h : StoreIs w B p s F) (ho : Own k e w1 w.heap.size v xs) : Apart v F := fun g hg => h.new (ho.lt g hg).1
theorem apart_old {k : IntKind} {e : TypeId} {B B0 p : Nat} {v : Value} {xs : List Int} {s : St} (h : StoreIs w' B p s F) (ho : Own k e w B0 v xs) (hw : w.heap.size ≤ B) : Apart v F := fun g hg e => by
  have := (ho.lt g hg).2
  have := (h.foot_lt g e).1
  omega
theorem apart_len {A : Option Addr} {n c n' c' : Nat} (h : Apart (.slice A n c) F) : Apart (.slice A n' c') F := fun g hg => h g (by cases A with | none => simp [Value.ownBlock] at hg | some a => exact hg)
theorem apart_addr {A : Option Addr} {n c : Nat} (h : Apart (.slice A n c) F) : ∀ a, A = some a → ¬ F a.block := fun a ha => h a.block (by rw [ha]; rfl)
end
end Go.Proofs.Ytfafonfphholmaa

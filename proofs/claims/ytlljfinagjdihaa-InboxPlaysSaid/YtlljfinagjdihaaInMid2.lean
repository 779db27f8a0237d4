/-
  Puts of what was there, of a literal, of nothing; slices of bytes; 'wakes' of chapter 16.
-/
import Derived.Test.YtlljfinagjdihaaInMid
import Derived.Test.YtlljfinagjdihaaKeep
import Derived.Lib.SlBytesConst
namespace Go.Proofs.Ytlljfinagjdihaa
open Go.RowKit

theorem slice_hI (A : Option Addr) (n c b : Nat) (hb : b ≤ c) (W : World) : (Instr.sliceAt 22 (.slice A n c) none (some (.int .i64 (b : Nat))) none).run Try.prog W = .ok (.slice A b c) W := by
  rw [run_sliceAt_slice _ _ _ _ _ _ Try.underlying22, run_slice_h (P := Try.prog) W 22 A n c Try.underlying22 .i64 (b : Int) (by omega) (by omega)]
  go_simp
theorem slice_lI (A : Option Addr) (n c a : Nat) (h : a ≤ n) (W : World) : (Instr.sliceAt 22 (.slice A n c) (some (.int .i64 (a : Nat))) none none).run Try.prog W = .ok (.slice (if c = a then A else A.map (·.add a)) (n - a) (c - a)) W := by
  rw [run_sliceAt_slice _ _ _ _ _ _ Try.underlying22, run_slice_l (P := Try.prog) W 22 A n c Try.underlying22 .i64 (a : Int) (by omega) (by omega)]
  go_simp
theorem Rd.newM (w : World) (xs : List Int) (t : TypeId) (fr : Nat × Nat) : Rd .u8 (w.alloc (.cells (bts xs) t fr)) (some ⟨w.heap.size, 0, none⟩) xs := by
  refine .inr ⟨_, _, rfl, fun i hi => ?_⟩
  rw [Nat.zero_add, World.cell?_alloc_mark]
  simp [bts, List.getD, hi]
theorem below_drewN (w : World) (k : Nat) : Below w.heap.size w (w.drewN k) := ⟨rfl, rfl, rfl, Nat.le_refl _, fun _ _ => rfl⟩

section
variable {w0 w w' : World} {p : Nat} {F G : Nat → Prop} {W t e : Int} {P : Int → Prop} {xs : List Int}
theorem WV.putOld (h : WV w0 w p F W t e P xs) {f : Int} {A : Option Addr} {m c : Nat} {ys : List Int} (hm : ys.length = m) (hr : Rd .u8 w0 A ys) (b : Bool) (hf : -9223372036854775808 ≤ f ∧ f ≤ 9223372036854775807) (hmm : m ≤ 1048576) (hlim : t + W ≤ 8192)
    (e' : Int) (P' : Int → Prop) (a c2 N : Int)
    (hP : ∀ k, P' k ↔ P k ∨ (f ≤ k ∧ k < f + (m : Int) ∧ 0 ≤ k ∧ k < t + W ∧ (e < 0 ∨ k < e)))
    (hy : ∀ k, f ≤ k → k < f + (m : Int) → 0 ≤ k → k < t + W → (e < 0 ∨ k < e) → ¬ P k → ys.getD (k - f).toNat 0 = xs.getD k.toNat 0)
    (he : (b = true ∧ e < 0 ∧ 0 ≤ f + (m : Int) ∧ f + (m : Int) ≤ 4096 ∧ (∀ j, f + (m : Int) ≤ j → ¬ P j) ∧ e' = f + (m : Int)) ∨ ((b = false ∨ ¬ e < 0 ∨ f + (m : Int) < 0 ∨ 4096 < f + (m : Int) ∨ ∃ j, f + (m : Int) ≤ j ∧ P j) ∧ e' = e))
    (hac : a ≤ c2) (hc : ∀ k, (f ≤ k ∧ k < f + (m : Int) ∧ 0 ≤ k ∧ k < t + W ∧ (e < 0 ∨ k < e) ∧ ¬ P k) ↔ (a ≤ k ∧ k < c2)) (hN : c2 - a = N) :
    Calls Try.prog 13 #[.pointer (some ⟨p, 0, none⟩), .int .i64 f, .slice A m c, .bool b] w fun x w' => x = .returned (.int .i64 N) ∧ ∃ F', WV w0 w' p F' W t e' P' xs ∧ SC w w' F F' :=
  h.put hm (h.old hr).1 (fun a ha h0 => (h.old hr).2 a ha (by omega)) b hf hmm hlim e' P' a c2 N hP hy he hac hc hN
/-- A literal of bytes, laid ahead. -/
theorem WV.putLit (h : WV w0 w p F W t e P xs) {f : Int} {cs : Array Value} {m q : Nat} {fr : Nat × Nat} {ys : List Int} (hcs : cs = bts ys) (hq : w.heap.size = q) (hm : ys.length = m) (b : Bool) (hf : -9223372036854775808 ≤ f ∧ f ≤ 9223372036854775807) (hmm : m ≤ 1048576) (hlim : t + W ≤ 8192)
    (e' : Int) (P' : Int → Prop) (a c2 N : Int)
    (hP : ∀ k, P' k ↔ P k ∨ (f ≤ k ∧ k < f + (m : Int) ∧ 0 ≤ k ∧ k < t + W ∧ (e < 0 ∨ k < e)))
    (hy : ∀ k, f ≤ k → k < f + (m : Int) → 0 ≤ k → k < t + W → (e < 0 ∨ k < e) → ¬ P k → ys.getD (k - f).toNat 0 = xs.getD k.toNat 0)
    (he : (b = true ∧ e < 0 ∧ 0 ≤ f + (m : Int) ∧ f + (m : Int) ≤ 4096 ∧ (∀ j, f + (m : Int) ≤ j → ¬ P j) ∧ e' = f + (m : Int)) ∨ ((b = false ∨ ¬ e < 0 ∨ f + (m : Int) < 0 ∨ 4096 < f + (m : Int) ∨ ∃ j, f + (m : Int) ≤ j ∧ P j) ∧ e' = e))
    (hac : a ≤ c2) (hc : ∀ k, (f ≤ k ∧ k < f + (m : Int) ∧ 0 ≤ k ∧ k < t + W ∧ (e < 0 ∨ k < e) ∧ ¬ P k) ↔ (a ≤ k ∧ k < c2)) (hN : c2 - a = N) :
    Calls Try.prog 13 #[.pointer (some ⟨p, 0, none⟩), .int .i64 f, .slice (some ⟨q, 0, none⟩) m m, .bool b] (w.alloc (.cells cs 5 fr)) fun x w' => x = .returned (.int .i64 N) ∧ ∃ F', WV w0 w' p F' W t e' P' xs ∧ SC w w' F F' := by
  subst hcs; subst hq
  refine ((h.later ((Below.refl _ _).alloc (Nat.le_refl _) _)).put hm (Rd.newM w ys _ fr) (fun a ha _ hF => ?_) b hf hmm hlim e' P' a c2 N hP hy he hac hc hN).mono ?_
  · injection ha with ha
    have := (h.foot _ hF).2
    rw [← ha] at this
    simp at this
  · rintro x w' ⟨rfl, F', h1, h2⟩
    exact ⟨rfl, F', h1, (SC.of_below ((Below.refl _ _).alloc (Nat.le_refl _) _)).trans h2⟩
/-- A Put of nothing. -/
theorem WV.putNil (h : WV w0 w p F W t e P xs) {f : Int} (b : Bool) (hf : -9223372036854775808 ≤ f ∧ f ≤ 9223372036854775807) (hlim : t + W ≤ 8192) (e' : Int)
    (he : (b = true ∧ e < 0 ∧ 0 ≤ f ∧ f ≤ 4096 ∧ (∀ j, f ≤ j → ¬ P j) ∧ e' = f) ∨ ((b = false ∨ ¬ e < 0 ∨ f < 0 ∨ 4096 < f ∨ ∃ j, f ≤ j ∧ P j) ∧ e' = e)) :
    Calls Try.prog 13 #[.pointer (some ⟨p, 0, none⟩), .int .i64 f, .slice none 0 0, .bool b] w fun x w' => x = .returned (.int .i64 0) ∧ ∃ F', WV w0 w' p F' W t e' P xs ∧ SC w w' F F' :=
  h.put (m := 0) (ys := []) rfl (.inl rfl) (fun a ha => by cases ha) b hf (by omega) hlim e' P 0 0 0 (fun k => ⟨.inl, fun x => x.elim id (fun y => by omega)⟩) (fun k h1 h2 => by omega) (by simpa using he) (Int.le_refl _) (fun k => ⟨fun x => by omega, fun x => by omega⟩) rfl
end

theorem getD_lit (ys xs : List Int) (f : Int) (h : ∀ i : Nat, i < ys.length → xs.getD (f + (i : Int)).toNat 0 = ys.getD i 0) : ∀ k : Int, f ≤ k → k < f + (ys.length : Int) → ys.getD (k - f).toNat 0 = xs.getD k.toNat 0 := by
  intro k h1 h2
  have := h (k - f).toNat (by omega)
  rw [← this]
  congr 1
  omega

set_option maxHeartbeats 1000000 in
theorem wakesI_any (w : World) : Calls Try.prog 20 #[] w fun e w' => e = .returned (.bool true) ∧ Below w.heap.size w w' := by
  have HN := Lib.hid (wv_new (W := 10) 10 [97, 98, 99] w rfl)
  have kc := fun (w : World) (C : Array Value) (n c : Nat) => Lib.run_convert_bytes_const (P := Try.prog) w 22 5 C n c Try.underlying22 Try.underlying5
  go_enter Try.func20, Try.ntmps20
  go_wp2_with fail
  refine HN.out.mono ?_
  rintro e w1 ⟨p, F, rfl, hx⟩
  have HX := Lib.hid hx
  clear hx HN
  go_wp2_with fail
  refine (HX.out.seen 0 0 (by omega) (by intro k; omega) (by omega) (by omega) (by omega)).mono ?_
  rintro e w2 ⟨rfl, hb⟩
  have HY := Lib.hid (HX.out.later hb)
  clear HX hb
  go_wp2_with fail
  refine (HY.out.putLit (m := 3) (ys := [97, 98, 99]) rfl rfl rfl true (by omega) (by omega) (by omega) 3 (fun k => 0 ≤ k ∧ k < 3) 0 3 3 (by intro k; (try dsimp only); omega)
    (fun k h1 h2 _ _ _ _ => getD_lit _ _ 0 (by decide) k h1 h2) (.inl (by refine ⟨rfl, by omega, by omega, by omega, by intro j; omega, by omega⟩)) (by omega) (by intro k; (try dsimp only); omega) (by omega)).mono ?_
  rintro e w3 ⟨rfl, F3, hx, -⟩
  have HX := Lib.hid hx
  clear hx HY
  go_wp2_with fail
  refine (HX.out.seen 3 4 (by omega) (by intro k; (try dsimp only); omega) (by (try dsimp only); omega) (by omega) (by omega)).mono ?_
  rintro e w4 ⟨rfl, hb⟩
  have HY := Lib.hid (HX.out.later hb)
  clear HX hb
  go_wp2_with fail
  refine (HY.out.read 9 3 0 3 (by omega) (by intro k; (try dsimp only); omega) (by (try dsimp only); omega) rfl rfl (by omega) (by decide) 3 rfl).mono ?_
  rintro e w5 ⟨A', c', rfl, ho, hx, -⟩
  have HX := Lib.hid hx
  have HO := Lib.hid ho
  clear hx ho HY
  go_wp2_with fail
  refine (same_true [97, 98, 99] rfl rfl (HO.out.rd.alloc _) (Rd.newM w5 [97, 98, 99] _ _) (by unfold maxLen; decide)).mono ?_
  rintro e w6 ⟨rfl, k6, rfl⟩
  have HY := Lib.hid ((HX.out.later ((Below.refl _ _).alloc (Nat.le_refl _) (.cells (bts [97, 98, 99]) 5 (3, 4)))).later (below_drewN _ k6))
  clear HX HO
  go_wp2_with fail
  refine (HY.out.done true (by decide)).mono ?_
  rintro e w7 ⟨rfl, hb⟩
  have HX := Lib.hid (HY.out.later hb)
  clear HY hb
  go_wp2
  go_ret
  exact ⟨rfl, HX.out.bel⟩
end Go.Proofs.Ytlljfinagjdihaa

/-
  What Front, Has and Count of package ranges tell of a Set: contracts over the program.
-/
import Derived.Test.YtlljfinagjdihaaSetFirst
import Derived.Laws.StructEq
import Derived.Laws.ResultCell
namespace Go.Proofs.Ytlljfinagjdihaa
open Go.RowKit
open Go.Sort (grow grow_grow grow_empty alloc_eq_grow)

set_option maxHeartbeats 400000 in
theorem front_none (p : Nat) (v : Value) (B : Nat) (w : World) (hs : SetAt w B p v []) :
    Calls Try.prog 35 #[.pointer (some ⟨p, 0, none⟩)] w fun e w' => e = .returned (.int .i64 0) ∧ Below w.heap.size w w' := by
  have H := Lib.hid (first_none p v B w hs)
  clear hs
  go_enter Try.func35, Try.ntmps35
  go_wp2_with fail
  refine H.out.mono ?_
  rintro e w1 ⟨rfl, hb⟩
  have HB := Lib.hid hb
  clear hb
  go_wp2
  go_ret
  exact ⟨rfl, HB.out.alloc HB.out.size _⟩

set_option maxHeartbeats 400000 in
theorem has_any (p : Nat) (v : Value) (ps : List (Int × Int)) (B : Nat) (f t : Int) (r : Bool) (w : World) (hs : SetAt w B p v ps) (hl : ps.length ≤ 1099511627776) (hr : r = true ↔ ∀ k, f ≤ k → k < t → ins ps k) :
    Calls Try.prog 32 #[.pointer (some ⟨p, 0, none⟩), .int .i64 f, .int .i64 t] w fun e w' => e = .returned (.bool r) ∧ Below w.heap.size w w' := by
  by_cases h : t ≤ f
  · obtain rfl : r = true := hr.2 fun k h1 h2 => by omega
    clear hr hs
    go_enter Try.func32, Try.ntmps32
    go_wp2
    go_ret
    exact ⟨rfl, Below.refl _ _⟩
  · obtain ⟨a, ha, a1, a2⟩ := reach_exists hs.norm t
    have hiff := has_iff hs.norm (show f < t by omega) ha a1 a2
    rw [← hr] at hiff
    have HR := Lib.hid (reaching_any p v ps B a t w hs ⟨ha, a1, a2⟩ (by omega))
    have HBEL := Lib.hid (show ∀ q os, Below w.heap.size w (grow (w.drewN q) os) from fun q os => below_grow _ _ _ _ (Nat.le_refl _))
    have H0 : ¬ (t ≤ f) := h
    obtain ⟨A, c, hv⟩ := hs.own.form
    by_cases hal : a < ps.length
    · rcases hs.form with ⟨_, h1⟩ | ⟨g, c, rfl⟩
      · rw [h1] at hal; simp at hal
      · have HC := Lib.hid (show ∀ q os, (grow (w.drewN q) os).cell? ⟨p, 0, none⟩ = some (.slice (some ⟨g, 0, none⟩) ps.length c) ∧ (grow (w.drewN q) os).cell? ⟨g, a * 2, none⟩ = some (.int .i64 (ps.getD a (0, 0)).1) from fun q os => ⟨(hs.grow q os).c0, ((hs.grow q os).own.cells a hal).1⟩)
        obtain ⟨y, hy⟩ : ∃ y, (ps.getD a (0, 0)).1 = y := ⟨_, rfl⟩
        rw [hy] at HC hiff
        have er : decide (y ≤ f) = r := by
          cases r with
          | true => exact decide_eq_true (hiff.2 rfl).2
          | false => exact decide_eq_false fun h => by have := hiff.1 ⟨hal, h⟩; cases this
        obtain ⟨n, hn⟩ : ∃ n, ps.length = n := ⟨_, rfl⟩
        rw [hn] at HC hal
        have i1 : (a : Int) < (n : Int) := by omega
        have i2 : (0 : Int) ≤ (a : Int) := by omega
        have ER := Lib.hid er
        clear er hr hs hiff ha a1 a2 hl hy hn hv h
        go_enter Try.func32, Try.ntmps32
        go_wp2_with fail
        refine HR.out.mono ?_
        rintro e w1 ⟨rfl, q, os, rfl⟩
        obtain ⟨c0, c1⟩ := HC.out q os
        have HB := Lib.hid (HBEL.out q os)
        generalize grow (w.drewN q) os = W at *
        go_wp2
        go_ret
        exact ⟨ret_b ER.out, HB.out⟩
    · have er : r = false := by
        cases r with
        | true => exact absurd (hiff.2 rfl).1 hal
        | false => rfl
      subst er
      have hal' : a = ps.length := by omega
      subst hal'
      have HC := Lib.hid (show ∀ q os, (grow (w.drewN q) os).cell? ⟨p, 0, none⟩ = some v from fun q os => (hs.grow q os).c0)
      subst hv
      obtain ⟨n, hn⟩ : ∃ n, ps.length = n := ⟨_, rfl⟩
      rw [hn] at HC HR
      clear hr hs hiff ha a1 a2 hl hn h hal
      go_enter Try.func32, Try.ntmps32
      go_wp2_with fail
      refine HR.out.mono ?_
      rintro e w1 ⟨rfl, q, os, rfl⟩
      have c0 := HC.out q os
      have HB := Lib.hid (HBEL.out q os)
      generalize grow (w.drewN q) os = W at *
      go_wp2
      go_ret
      exact ⟨rfl, HB.out⟩

theorem cnt_le {ps : List (Int × Int)} (h : Norm ps) : ∀ lo : Int, lo ≤ 1099511627776 → (∀ p ∈ ps, lo ≤ p.1) → 0 ≤ cntL ps ∧ cntL ps ≤ 1099511627776 - lo := by
  induction ps with
  | nil => intro lo hlo _; simp [cntL]; omega
  | cons p ps ih =>
    intro lo hlo hp
    have h1 := h.head
    have h2 := hp p List.mem_cons_self
    have h3 := ih h.tail p.2 h1.2.2 (fun q hq => by have := h.rest q hq; omega)
    simp only [cntL]
    omega
theorem cnt_bd {ps : List (Int × Int)} (h : Norm ps) : 0 ≤ cntL ps ∧ cntL ps ≤ 1099511627776 := by
  have := cnt_le h 0 (by omega) (fun p hp => (h.each p hp).1)
  omega
theorem cnt_step (ps : List (Int × Int)) (k : Nat) (hk : k < ps.length) : cntL (ps.take (k + 1)) = cntL (ps.take k) + ((ps.getD k (0, 0)).2 - (ps.getD k (0, 0)).1) := by
  rw [List.take_add_one, cntL_app]
  simp [List.getD, hk, cntL]

set_option maxHeartbeats 400000 in
theorem count_any (p : Nat) (v : Value) (ps : List (Int × Int)) (B : Nat) (w : World) (hs : SetAt w B p v ps) (hl : ps.length ≤ 1099511627776) :
    Calls Try.prog 33 #[.pointer (some ⟨p, 0, none⟩)] w fun e w' => e = .returned (.int .i64 (cntL ps)) ∧ Below w.heap.size w w' := by
  obtain ⟨A, c, hv⟩ := hs.own.form
  have c0 := hs.c0
  have HCELL := Lib.hid (show ∀ (W : World) k, Below w.heap.size w W → k < ps.length → ∃ g, A = some ⟨g, 0, none⟩ ∧ W.cell? ⟨g, k * 2, none⟩ = some (.int .i64 (ps.getD k (0, 0)).1) ∧ W.cell? ⟨g, k * 2 + 1, none⟩ = some (.int .i64 (ps.getD k (0, 0)).2) from fun W k hb hk => by
    have h1 := (hs.later hb).own
    rw [hv] at h1
    obtain ⟨g, rfl, _⟩ := h1.at (by omega)
    exact ⟨g, rfl, h1.cells k hk⟩)
  have HBD := Lib.hid (show ∀ k, 0 ≤ cntL (ps.take k) ∧ cntL (ps.take k) ≤ 1099511627776 from fun k => cnt_bd (hs.norm.take k))
  have HAT := Lib.hid (show ∀ k, k < ps.length → 0 ≤ (ps.getD k (0, 0)).1 ∧ (ps.getD k (0, 0)).1 < (ps.getD k (0, 0)).2 ∧ (ps.getD k (0, 0)).2 ≤ 1099511627776 from fun k hk => hs.norm.at k hk)
  have HST := Lib.hid (cnt_step ps)
  subst hv
  obtain ⟨n, hn⟩ : ∃ n, ps.length = n := ⟨_, rfl⟩
  have HN := Lib.hid hn
  rw [hn] at c0 hl HCELL HAT HST
  clear hs hn
  go_enter Try.func33, Try.ntmps33
  go_wp2
  go_loopw [3, 11] (fun s i wr => ∃ k : Nat, k ≤ n ∧ i = .int .i64 k ∧ s = .int .i64 (cntL (ps.take k)) ∧ Hid (Below w.heap.size w wr)) (fun _ i _ => n - (intOf i).toNat)
  case atStart => exact ⟨0, by omega, rfl, rfl, Below.refl _ _⟩
  case round =>
    obtain ⟨k, hk, rfl, rfl, hb⟩ := hrel
    by_cases hlt : k < n
    · obtain ⟨g, rfl, c1, c2⟩ := HCELL.out wr k hb.out hlt
      have hst := HST.out k hlt
      have hat := HAT.out k hlt
      have hbd := HBD.out k
      obtain ⟨x, hx⟩ : ∃ x, (ps.getD k (0, 0)).1 = x := ⟨_, rfl⟩
      obtain ⟨y, hy⟩ : ∃ y, (ps.getD k (0, 0)).2 = y := ⟨_, rfl⟩
      obtain ⟨s, hs⟩ : ∃ s, cntL (ps.take k) = s := ⟨_, rfl⟩
      rw [hx, hy, hs] at hst
      rw [hx, hy] at hat
      rw [hx] at c1
      rw [hy] at c2
      rw [hs] at hbd ⊢
      have HST2 := Lib.hid hst
      have i1 : (k : Int) < (n : Int) := by omega
      have i2 : (0 : Int) ≤ (k : Int) := by omega
      clear hst hx hy hs
      go_wp2
      go_roundw
      case rel => exact ⟨k + 1, by omega, by go_num, by rw [HST2.out], hb.out.alloc hb.out.size _⟩
      case measure => simp [intOf]; omega
    · have : k = n := by omega
      subst this
      rw [show ps.take k = ps from by rw [← HN.out, List.take_length]]
      obtain ⟨s, hs⟩ : ∃ s, cntL ps = s := ⟨_, rfl⟩
      rw [hs]
      have HSS := Lib.hid hs
      clear hs
      go_wp2
      go_ret
      exact ⟨ret_i HSS.out.symm, hb.out⟩

end Go.Proofs.Ytlljfinagjdihaa

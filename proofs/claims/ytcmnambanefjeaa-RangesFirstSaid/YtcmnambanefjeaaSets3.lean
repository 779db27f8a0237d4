/-
  What First, Front, Has and Count of package ranges tell of a Set, and Same of two lists of Ranges: contracts over the program.
-/
import Derived.Test.YtcmnambanefjeaaSets
import Derived.Laws.StructEq
import Derived.Laws.ResultCell
namespace Go.Proofs.Ytcmnambanefjeaa
open Go.RowKit
open Go.Sort (grow grow_grow grow_empty alloc_eq_grow)

set_option maxHeartbeats 400000 in
theorem first_none (p : Nat) (v : Value) (B : Nat) (w : World) (hs : SetAt w B p v []) :
    Calls Try.prog 14 #[.pointer (some ⟨p, 0, none⟩)] w fun e w' => e = .returned (.tuple #[.agg #[.int .i64 0, .int .i64 0], .bool false]) ∧ Below w.heap.size w w' := by
  obtain ⟨A, c, rfl⟩ := hs.own.form
  have c0 := (hs.alloc (.cells #[.int .i64 0, .int .i64 0] 31)).c0
  clear hs
  go_enter Try.func14, Try.ntmps14
  go_wp2
  refine bodyPost_ret (v := .tuple #[.agg #[.int .i64 0, .int .i64 0], .bool false]) ?_ rfl ⟨rfl, (Below.refl _ _).alloc (Nat.le_refl _) _⟩
  rw [results_cell_tmp rfl]
  go_simp

set_option maxHeartbeats 400000 in
theorem first_some (p : Nat) (v : Value) (q : Int × Int) (ps : List (Int × Int)) (B : Nat) (w : World) (hs : SetAt w B p v (q :: ps)) :
    Calls Try.prog 14 #[.pointer (some ⟨p, 0, none⟩)] w fun e w' => e = .returned (.tuple #[.agg #[.int .i64 q.1, .int .i64 q.2], .bool true]) ∧ Below w.heap.size w w' := by
  rcases hs.form with ⟨_, h⟩ | ⟨g, c, rfl⟩
  · cases h
  · have hs1 := hs.alloc (.cells #[.int .i64 0, .int .i64 0] 31)
    have c0 := hs1.c0
    have c1 := (hs1.own.cells 0 (by simp)).1
    have c2 := (hs1.own.cells 0 (by simp)).2
    obtain ⟨n, hn⟩ : ∃ n, (q :: ps).length = n := ⟨_, rfl⟩
    have h0 : (0 : Int) < (n : Int) := by rw [← hn]; simp
    have h1 : ¬ ((n : Int) = 0) := by omega
    rw [hn] at c0
    simp at c1 c2
    obtain ⟨x, y⟩ := q
    simp only [] at c1 c2 ⊢
    clear hs hs1 hn
    go_enter Try.func14, Try.ntmps14
    go_wp2
    refine bodyPost_ret (v := .tuple #[.agg #[.int .i64 x, .int .i64 y], .bool true]) ?_ rfl ⟨rfl, (Below.refl _ _).alloc (Nat.le_refl _) _⟩
    rw [results_cell_tmp rfl]
    go_simp

set_option maxHeartbeats 400000 in
theorem front_none (p : Nat) (v : Value) (B : Nat) (w : World) (hs : SetAt w B p v []) :
    Calls Try.prog 15 #[.pointer (some ⟨p, 0, none⟩)] w fun e w' => e = .returned (.int .i64 0) ∧ Below w.heap.size w w' := by
  have H := Lib.hid (first_none p v B w hs)
  clear hs
  go_enter Try.func15, Try.ntmps15
  go_wp2_with fail
  refine H.out.mono ?_
  rintro e w1 ⟨rfl, hb⟩
  have HB := Lib.hid hb
  clear hb
  go_wp2
  go_ret
  exact ⟨rfl, HB.out.alloc HB.out.size _⟩

set_option maxHeartbeats 400000 in
theorem has_any (p : Nat) (v : Value) (ps : List (Int × Int)) (B : Nat) (f t : Int) (r : Bool) (w : World) (hs : SetAt w B p v ps) (hl : ps.length ≤ 1099511627776) (hr : r = true ↔ ∀ k, f ≤ k → k < t → ins ps k) :
    Calls Try.prog 11 #[.pointer (some ⟨p, 0, none⟩), .int .i64 f, .int .i64 t] w fun e w' => e = .returned (.bool r) ∧ Below w.heap.size w w' := by
  by_cases h : t ≤ f
  · obtain rfl : r = true := hr.2 fun k h1 h2 => by omega
    clear hr hs
    go_enter Try.func11, Try.ntmps11
    go_wp2
    go_ret
    exact ⟨rfl, Below.refl _ _⟩
  · obtain ⟨a, ha, a1, a2⟩ := reach_exists hs.norm t
    have hiff := has_iff hs.norm (show f < t by omega) ha a1 a2
    rw [← hr] at hiff
    have HR := Lib.hid (reaching_any p v ps B a t w hs ⟨ha, a1, a2⟩ (by omega))
    have HBEL := Lib.hid (show ∀ q os, Below w.heap.size w (grow (w.drewN q) os) from fun q os => below_grow _ _ _ _ (Nat.le_refl _))
    have H0 : ¬ (t ≤ f) := h
    obtain ⟨A, c, hv⟩ := hs.own.form
    by_cases hal : a < ps.length
    · rcases hs.form with ⟨_, h1⟩ | ⟨g, c, rfl⟩
      · rw [h1] at hal; simp at hal
      · have HC := Lib.hid (show ∀ q os, (grow (w.drewN q) os).cell? ⟨p, 0, none⟩ = some (.slice (some ⟨g, 0, none⟩) ps.length c) ∧ (grow (w.drewN q) os).cell? ⟨g, a * 2, none⟩ = some (.int .i64 (ps.getD a (0, 0)).1) from fun q os => ⟨(hs.grow q os).c0, ((hs.grow q os).own.cells a hal).1⟩)
        obtain ⟨y, hy⟩ : ∃ y, (ps.getD a (0, 0)).1 = y := ⟨_, rfl⟩
        rw [hy] at HC hiff
        have er : decide (y ≤ f) = r := by
          cases r with
          | true => exact decide_eq_true (hiff.2 rfl).2
          | false => exact decide_eq_false fun h => by have := hiff.1 ⟨hal, h⟩; cases this
        obtain ⟨n, hn⟩ : ∃ n, ps.length = n := ⟨_, rfl⟩
        rw [hn] at HC hal
        have i1 : (a : Int) < (n : Int) := by omega
        have i2 : (0 : Int) ≤ (a : Int) := by omega
        have ER := Lib.hid er
        clear er hr hs hiff ha a1 a2 hl hy hn hv h
        go_enter Try.func11, Try.ntmps11
        go_wp2_with fail
        refine HR.out.mono ?_
        rintro e w1 ⟨rfl, q, os, rfl⟩
        obtain ⟨c0, c1⟩ := HC.out q os
        have HB := Lib.hid (HBEL.out q os)
        generalize grow (w.drewN q) os = W at *
        go_wp2
        go_ret
        exact ⟨ret_b ER.out, HB.out⟩
    · have er : r = false := by
        cases r with
        | true => exact absurd (hiff.2 rfl).1 hal
        | false => rfl
      subst er
      have hal' : a = ps.length := by omega
      subst hal'
      have HC := Lib.hid (show ∀ q os, (grow (w.drewN q) os).cell? ⟨p, 0, none⟩ = some v from fun q os => (hs.grow q os).c0)
      subst hv
      obtain ⟨n, hn⟩ : ∃ n, ps.length = n := ⟨_, rfl⟩
      rw [hn] at HC HR
      clear hr hs hiff ha a1 a2 hl hn h hal
      go_enter Try.func11, Try.ntmps11
      go_wp2_with fail
      refine HR.out.mono ?_
      rintro e w1 ⟨rfl, q, os, rfl⟩
      have c0 := HC.out q os
      have HB := Lib.hid (HBEL.out q os)
      generalize grow (w.drewN q) os = W at *
      go_wp2
      go_ret
      exact ⟨rfl, HB.out⟩

theorem cnt_le {ps : List (Int × Int)} (h : Norm ps) : ∀ lo : Int, lo ≤ 1099511627776 → (∀ p ∈ ps, lo ≤ p.1) → 0 ≤ cntL ps ∧ cntL ps ≤ 1099511627776 - lo := by
  induction ps with
  | nil => intro lo hlo _; simp [cntL]; omega
  | cons p ps ih =>
    intro lo hlo hp
    have h1 := h.head
    have h2 := hp p List.mem_cons_self
    have h3 := ih h.tail p.2 h1.2.2 (fun q hq => by have := h.rest q hq; omega)
    simp only [cntL]
    omega
theorem cnt_bd {ps : List (Int × Int)} (h : Norm ps) : 0 ≤ cntL ps ∧ cntL ps ≤ 1099511627776 := by
  have := cnt_le h 0 (by omega) (fun p hp => (h.each p hp).1)
  omega
theorem cnt_step (ps : List (Int × Int)) (k : Nat) (hk : k < ps.length) : cntL (ps.take (k + 1)) = cntL (ps.take k) + ((ps.getD k (0, 0)).2 - (ps.getD k (0, 0)).1) := by
  rw [List.take_add_one, cntL_app]
  simp [List.getD, hk, cntL]

set_option maxHeartbeats 400000 in
theorem count_any (p : Nat) (v : Value) (ps : List (Int × Int)) (B : Nat) (w : World) (hs : SetAt w B p v ps) (hl : ps.length ≤ 1099511627776) :
    Calls Try.prog 10 #[.pointer (some ⟨p, 0, none⟩)] w fun e w' => e = .returned (.int .i64 (cntL ps)) ∧ Below w.heap.size w w' := by
  obtain ⟨A, c, hv⟩ := hs.own.form
  have c0 := hs.c0
  have HCELL := Lib.hid (show ∀ (W : World) k, Below w.heap.size w W → k < ps.length → ∃ g, A = some ⟨g, 0, none⟩ ∧ W.cell? ⟨g, k * 2, none⟩ = some (.int .i64 (ps.getD k (0, 0)).1) ∧ W.cell? ⟨g, k * 2 + 1, none⟩ = some (.int .i64 (ps.getD k (0, 0)).2) from fun W k hb hk => by
    have h1 := (hs.later hb).own
    rw [hv] at h1
    obtain ⟨g, rfl, _⟩ := h1.at (by omega)
    exact ⟨g, rfl, h1.cells k hk⟩)
  have HBD := Lib.hid (show ∀ k, 0 ≤ cntL (ps.take k) ∧ cntL (ps.take k) ≤ 1099511627776 from fun k => cnt_bd (hs.norm.take k))
  have HAT := Lib.hid (show ∀ k, k < ps.length → 0 ≤ (ps.getD k (0, 0)).1 ∧ (ps.getD k (0, 0)).1 < (ps.getD k (0, 0)).2 ∧ (ps.getD k (0, 0)).2 ≤ 1099511627776 from fun k hk => hs.norm.at k hk)
  have HST := Lib.hid (cnt_step ps)
  subst hv
  obtain ⟨n, hn⟩ : ∃ n, ps.length = n := ⟨_, rfl⟩
  have HN := Lib.hid hn
  rw [hn] at c0 hl HCELL HAT HST
  clear hs hn
  go_enter Try.func10, Try.ntmps10
  go_wp2
  go_loopw [3, 11] (fun s i wr => ∃ k : Nat, k ≤ n ∧ i = .int .i64 k ∧ s = .int .i64 (cntL (ps.take k)) ∧ Hid (Below w.heap.size w wr)) (fun _ i _ => n - (intOf i).toNat)
  case atStart => exact ⟨0, by omega, rfl, rfl, Below.refl _ _⟩
  case round =>
    obtain ⟨k, hk, rfl, rfl, hb⟩ := hrel
    by_cases hlt : k < n
    · obtain ⟨g, rfl, c1, c2⟩ := HCELL.out wr k hb.out hlt
      have hst := HST.out k hlt
      have hat := HAT.out k hlt
      have hbd := HBD.out k
      obtain ⟨x, hx⟩ : ∃ x, (ps.getD k (0, 0)).1 = x := ⟨_, rfl⟩
      obtain ⟨y, hy⟩ : ∃ y, (ps.getD k (0, 0)).2 = y := ⟨_, rfl⟩
      obtain ⟨s, hs⟩ : ∃ s, cntL (ps.take k) = s := ⟨_, rfl⟩
      rw [hx, hy, hs] at hst
      rw [hx, hy] at hat
      rw [hx] at c1
      rw [hy] at c2
      rw [hs] at hbd ⊢
      have HST2 := Lib.hid hst
      have i1 : (k : Int) < (n : Int) := by omega
      have i2 : (0 : Int) ≤ (k : Int) := by omega
      clear hst hx hy hs
      go_wp2
      go_roundw
      case rel => exact ⟨k + 1, by omega, by go_num, by rw [HST2.out], hb.out.alloc hb.out.size _⟩
      case measure => simp [intOf]; omega
    · have : k = n := by omega
      subst this
      rw [show ps.take k = ps from by rw [← HN.out, List.take_length]]
      obtain ⟨s, hs⟩ : ∃ s, cntL ps = s := ⟨_, rfl⟩
      rw [hs]
      have HSS := Lib.hid hs
      clear hs
      go_wp2
      go_ret
      exact ⟨ret_i HSS.out.symm, hb.out⟩

set_option maxHeartbeats 400000 in
theorem sameP_len (A B : Option Addr) (n m c d : Nat) (w : World) (h : n ≠ m) :
    Calls Try.prog 8 #[.slice A n c, .slice B m d] w fun e w' => e = .returned (.bool false) ∧ ∃ k, w' = w.drewN k := by
  have hne : ((n : Int) != (m : Int)) = true := by rw [bne_iff_ne]; omega
  clear h
  go_enter Try.func8, Try.ntmps8
  go_wp2
  go_ret
  exact ⟨rfl, 0, rfl⟩

theorem list_eq_of_getP {xs ys : List (Int × Int)} (hl : xs.length = ys.length) (h : ∀ j, j < xs.length → xs.getD j (0, 0) = ys.getD j (0, 0)) : xs = ys := by
  apply List.ext_getElem hl
  intro i h1 h2
  have := h i h1
  simpa [List.getD, h1, h2] using this

set_option maxHeartbeats 1000000 in
theorem sameP_any (xs ys : List (Int × Int)) (A B : Option Addr) (n m c d B1 B2 : Nat) (w : World) (hx : OwnP 31 w B1 (.slice A n c) xs) (hy : OwnP 31 w B2 (.slice B m d) ys) :
    Calls Try.prog 8 #[.slice A n c, .slice B m d] w fun e w' => e = .returned (.bool (decide (xs = ys))) ∧ ∃ k, w' = w.drewN k := by
  have hn := hx.len
  have hm := hy.len
  by_cases hl : n = m
  · subst hl
    have hcap := hx.cap
    have hc2 := hcap.2
    unfold maxLen at hc2
    have HX := Lib.hid (show ∀ k, k < n → ∃ g g', A = some ⟨g, 0, none⟩ ∧ B = some ⟨g', 0, none⟩ ∧ w.cell? ⟨g, k * 2, none⟩ = some (.int .i64 (xs.getD k (0, 0)).1) ∧ w.cell? ⟨g, k * 2 + 1, none⟩ = some (.int .i64 (xs.getD k (0, 0)).2) ∧ w.cell? ⟨g', k * 2, none⟩ = some (.int .i64 (ys.getD k (0, 0)).1) ∧ w.cell? ⟨g', k * 2 + 1, none⟩ = some (.int .i64 (ys.getD k (0, 0)).2) from fun k hk => by
      obtain ⟨g, rfl, _⟩ := hx.at (by omega)
      obtain ⟨g', rfl, _⟩ := hy.at (by omega)
      exact ⟨g, g', rfl, rfl, (hx.cells k hk).1, (hx.cells k hk).2, (hy.cells k hk).1, (hy.cells k hk).2⟩)
    have HN := Lib.hid hn
    have HM := Lib.hid hm
    have hc1 := hcap.1
    clear hx hy hn hm hcap
    go_enter Try.func8, Try.ntmps8
    go_wp2
    go_loopw [5] (fun i wr => ∃ k nd : Nat, k ≤ n ∧ i = .int .i64 k ∧ wr = w.drewN nd ∧ Hid (∀ j, j < k → xs.getD j (0, 0) = ys.getD j (0, 0))) (fun i _ => n - (intOf i).toNat)
    case atStart => exact ⟨0, 0, by omega, rfl, rfl, fun j hj => absurd hj (by omega)⟩
    case round =>
      obtain ⟨k, nd, hk, rfl, rfl, hp⟩ := hrel
      by_cases hlt : k < n
      · obtain ⟨g, g', rfl, rfl, c1, c2, c3, c4⟩ := HX.out k hlt
        have hi : (k : Int) < (n : Int) := by omega
        have h0 : (0 : Int) ≤ (k : Int) := by omega
        obtain ⟨⟨x1, x2⟩, hx⟩ : ∃ x, xs.getD k (0, 0) = x := ⟨_, rfl⟩
        obtain ⟨⟨y1, y2⟩, hy⟩ : ∃ y, ys.getD k (0, 0) = y := ⟨_, rfl⟩
        rw [hx] at c1 c2
        rw [hy] at c3 c4
        simp only [] at c1 c2 c3 c4
        have HX2 := Lib.hid hx
        have HY2 := Lib.hid hy
        clear hx hy
        by_cases he : x1 = y1 ∧ x2 = y2
        · obtain ⟨rfl, rfl⟩ := he
          go_wp2_with fail
          go_quiet (fail)
          go_wp2
          go_roundw
          case rel => exact ⟨k + 1, _, by omega, by go_num, rfl, fun j hj => by
            rcases Nat.lt_or_ge j k with h | h
            · exact hp.out j h
            · have : j = k := by omega
              rw [this, HX2.out, HY2.out]⟩
          case measure => simp [intOf]; omega
        · have HNE := Lib.hid (show xs ≠ ys from fun h => he (by have e := HX2.out; rw [h, HY2.out] at e; injection e with e1 e2; exact ⟨e1.symm, e2.symm⟩))
          by_cases h1 : x1 = y1
          · subst h1
            have h2 : (x2 == y2) = false := by
              rw [beq_eq_false_iff_ne]
              exact fun h => he ⟨rfl, h⟩
            clear he
            go_wp2_with fail
            go_quiet (fail)
            go_wp2
            go_ret
            exact ⟨ret_b (decide_eq_false HNE.out).symm, _, by rw [World.drewN_drewN]⟩
          · have h2 : (x1 == y1) = false := by
              rw [beq_eq_false_iff_ne]
              exact h1
            clear he h1
            go_wp2_with fail
            go_quiet (fail)
            go_wp2
            go_ret
            exact ⟨ret_b (decide_eq_false HNE.out).symm, _, by rw [World.drewN_drewN]⟩
      · have : k = n := by omega
        subst this
        go_wp2
        go_ret
        exact ⟨ret_b (decide_eq_true (list_eq_of_getP (by rw [HN.out, HM.out]) (by rw [HN.out]; exact hp.out))).symm, _, rfl⟩
  · have := sameP_len A B n m c d w hl
    rw [decide_eq_false (fun h => hl (by rw [← hn, ← hm, h]))]
    exact this
end Go.Proofs.Ytcmnambanefjeaa

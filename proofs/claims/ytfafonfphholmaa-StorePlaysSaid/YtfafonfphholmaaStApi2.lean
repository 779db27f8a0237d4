/-
  What Cut, Read, Dead, Fuse of a store do: contracts over the program.
-/
import Derived.Test.YtfafonfphholmaaStApi
namespace Go.Proofs.Ytfafonfphholmaa
open Go.RowKit Go.Maps

section
variable {w : World} {B p : Nat} {s : St} {F : Nat → Prop}

theorem StoreIs.later {w' : World} (h : StoreIs w B p s F) (hb : Below w.heap.size w w') : StoreIs w' B p s F := by
  obtain ⟨m, L, h, hk, rfl, hlf⟩ := h
  exact ⟨m, L, h.later hb, hk, rfl, hlf⟩
theorem StoreIs.foot_lt (h : StoreIs w B p s F) : ∀ k, F k → B ≤ k ∧ k < w.heap.size := by
  obtain ⟨m, L, h, hk, rfl, hlf⟩ := h
  exact h.foot_lt

theorem newst_is {w' : World} {e : Ending} (h : NewSt B w e w') : ∃ p F, e = .returned (.pointer (some ⟨p, 0, none⟩)) ∧ StoreIs w' B p ⟨[], false, 0, false⟩ F ∧ Below w.heap.size w w' ∧ ∀ k, F k → w.heap.size ≤ k := by
  obtain ⟨p, m, rfl, h1, h2, h3, h4⟩ := h
  exact ⟨p, _, rfl, ⟨m, [], h1, rfl, rfl, by show (0 : Int) ≤ _; omega⟩, h2, fun k hk => by
    rcases hk with rfl | rfl | ⟨e, he, _⟩
    · exact h3
    · exact h4
    · cases he⟩

theorem dead_is (h : StoreIs w B p s F) : Calls Try.prog 42 #[.pointer (some ⟨p, 0, none⟩)] w fun e w' => e = .returned (.bool s.de) ∧ w = w' := by
  obtain ⟨m, L, h, hk, rfl, hlf⟩ := h
  exact dead_any h

theorem fuse_is (h : StoreIs w B p s F) (n : Int) (hn : n ≤ 9223372036854775807) : Calls Try.prog 16 #[.pointer (some ⟨p, 0, none⟩), .int .i64 n] w fun x w' => x = .returned (.tuple #[]) ∧ StoreIs w' B p ⟨s.bs, true, max n 0, s.de⟩ F ∧ SC w w' F F := by
  obtain ⟨m, L, h, hk, rfl, hlf⟩ := h
  refine (fuse_any n h).mono ?_
  rintro x w' ⟨rfl, h1, h2⟩
  exact ⟨rfl, ⟨m, L, h1, hk, rfl, by show max n 0 ≤ _; omega⟩, h.sc_p h2⟩

set_option maxRecDepth 10000 in
theorem read_none (h : StoreIs w B p s F) (n : Int) (hn : ∀ k ∈ s.bs, k.n ≠ n) (h1 : -9223372036854775808 ≤ n) (h2 : n ≤ 9223372036854775807) :
    Calls Try.prog 46 #[.pointer (some ⟨p, 0, none⟩), .int .i64 n] w fun e w' => e = .returned (.tuple #[.slice none 0 0, .bool false]) ∧ w = w' := by
  obtain ⟨m, L, h, hk, rfl, hlf⟩ := h
  have hl := looks_none h (n := n) (fun e he => hn e.k (by rw [← hk]; exact List.mem_map.2 ⟨e, he, rfl⟩)) h1 h2
  have s0 := h.s0
  clear h hk hlf hn h1 h2
  go_enter Try.func46, Try.ntmps46
  go_wp2
  go_ret2
  exact ⟨rfl, rfl⟩

/-- What Read hands out of a block. -/
def RdEnd (w : World) (xs : List Int) (e : Ending) (w' : World) : Prop := ∃ A c, e = .returned (.tuple #[.slice A xs.length c, .bool true]) ∧ Own .u8 5 w' w.heap.size (.slice A xs.length c) xs ∧ Below w.heap.size w w'

set_option maxRecDepth 10000 in
theorem read_some (h : StoreIs w B p s F) (k : Blk) (hn : k ∈ s.bs) :
    Calls Try.prog 46 #[.pointer (some ⟨p, 0, none⟩), .int .i64 k.n] w (RdEnd w k.xs) := by
  obtain ⟨m, L, h, hk, rfl, hlf⟩ := h
  rw [← hk] at hn
  obtain ⟨e, he, rfl⟩ := List.mem_map.1 hn
  have hl := looks_some h he
  have hc := h.each e he
  have s0 := h.s0
  obtain ⟨A, c, hv⟩ := hc.own.form
  have c0 := hc.c0
  have ho := hc.own
  have hlen := hc.len
  rw [hv] at c0 ho
  obtain ⟨N, hN⟩ : ∃ N, e.k.xs.length = N := ⟨_, rfl⟩
  obtain ⟨b, hb⟩ : ∃ b, e.b = b := ⟨_, rfl⟩
  obtain ⟨n, hn'⟩ : ∃ n, e.k.n = n := ⟨_, rfl⟩
  have HC := Lib.hid (sclone_any A N c e.k.xs w hN ho.rd (fun hA => hN ▸ own_nil_len ho hA) (by omega))
  unfold RdEnd
  rw [hN] at c0 ⊢
  rw [hb] at c0 hl
  rw [hn'] at hl ⊢
  clear h hk hlf hn hc hv ho he hN hb hn' hlen
  go_enter Try.func46, Try.ntmps46
  go_wp2_with fail
  refine HC.out.mono ?_
  rintro x w' ⟨A', c', rfl, h1, h2⟩
  have H1 := Lib.hid h1
  have H2 := Lib.hid h2
  clear h1 h2
  go_wp2_with fail
  go_ret2
  exact ⟨A', c', rfl, H1.out, H2.out⟩

set_option maxRecDepth 10000 in
set_option maxHeartbeats 1000000 in
theorem stcut_any (h : StoreIs w B p s F) (n : Int) (hn : n ≤ 9223372036854775807) (j : Int) :
    Calls Try.prog 12 #[.pointer (some ⟨p, 0, none⟩), .int .i64 n, .int .i64 j] w (StEnd w B p F (s.cut n j)) := by
  obtain ⟨m, L, h, hk, rfl, hlf⟩ := h
  obtain ⟨w3, hw3⟩ : ∃ w3, w3 = ((w.alloc (.cells #[.pointer (some ⟨p, 0, none⟩)] 23)).alloc (.cells #[.int .i64 n] 3)).alloc (.cells #[.int .i64 j] 3) := ⟨_, rfl⟩
  have hb3 : Below w.heap.size w w3 := by rw [hw3]; exact (((Below.refl _ _).alloc (Nat.le_refl _) _).alloc (by simp) _).alloc (by simp; omega) _
  have hb4 : ∀ k, Below w.heap.size w (w3.drewN k) := fun k => ⟨hb3.os, hb3.tape, hb3.output, hb3.size, hb3.block⟩
  obtain ⟨r, hr0⟩ : ∃ r, mustE s n = r := ⟨_, rfl⟩
  have hs3 := fun k => h.later (hb4 k)
  have hm := must_any (h.later hb3) hk n hn
  rw [hr0] at hm
  have b0 : w3.cell? ⟨w.heap.size, 0, none⟩ = some (.pointer (some ⟨p, 0, none⟩)) := by rw [hw3]; go_simp
  have b1 : w3.cell? ⟨w.heap.size + 1, 0, none⟩ = some (.int .i64 n) := by rw [hw3]; go_simp
  have b2 : w3.cell? ⟨w.heap.size + 2, 0, none⟩ = some (.int .i64 j) := by rw [hw3]; go_simp
  have hp := (h.foot_lt p (.inl rfl)).2
  -- act, whatever speaks against it
  have hact : ∀ k, Calls Try.prog 25 #[.pointer (some ⟨p, 0, none⟩), .int .i64 (cutE s n j), .func (.func 34) #[] #[.pointer (some ⟨w.heap.size, 0, none⟩), .pointer (some ⟨w.heap.size + 1, 0, none⟩), .pointer (some ⟨w.heap.size + 2, 0, none⟩)]] (w3.drewN k) (StEnd w B p (Foot p m L) (s.cut n j)) := fun kk => by
    refine (act_all _ _ (hs3 kk) hk hlf (cutE s n j) (updB n (fun k => k.cut j.toNat) s.bs) (enters_of Try.func34 (by kernel_rfl) rfl) ?_).mono (fun _ _ h => h.later (hb4 kk))
    intro hr1 W hW ht
    have hr2 : mustE s n = 0 ∧ 0 ≤ j ∧ ∀ k ∈ s.bs, k.n = n → j ≤ k.xs.length := by
      unfold cutE at hr1
      by_cases h0 : mustE s n = 0
      · rw [if_neg (by simpa using h0)] at hr1
        split at hr1
        · omega
        · rename_i h1
          rw [not_or] at h1
          refine ⟨h0, by omega, fun k hk hkn => ?_⟩
          have h2 := h1.2
          simp only [List.any_eq_true, not_exists, not_and, Bool.and_eq_true, decide_eq_true_eq] at h2
          have := h2 k hk hkn
          omega
      · rw [if_pos h0] at hr1; exact absurd hr1 h0
    obtain ⟨hr3, hj0, hj1⟩ := hr2
    obtain ⟨hn1, e, he, rfl⟩ := mustE_some (s := s) (n := n) hk hr3
    have hbx := box2 (w1 := w3.drewN kk) ⟨b0, b1⟩ ht (by omega) (by omega)
    have hb2 : W.cell? ⟨w.heap.size + 2, 0, none⟩ = some (.int .i64 (j.toNat : Nat)) := by
      have l2 := World.block_lt_of_cell? (w3.drewN kk) _ b2
      rw [World.cell?_of_block (ht.block _ l2 (fun e => by simp only at e; omega)), Int.toNat_of_nonneg hj0]
      exact b2
    have hjl := hj1 e.k (by rw [← hk]; exact List.mem_map.2 ⟨e, he, rfl⟩) rfl
    refine (cutdo_any hW e he j.toNat (by omega) _ _ _ hbx.1 hbx.2 hb2).mono ?_
    rintro x w' ⟨rfl, h1, h2⟩
    exact ⟨rfl, _, h1, by rw [updE_map hW he (fun k => k.cut j.toNat) rfl, hk], h2⟩
  have HM := Lib.hid hm
  have HW3 := Lib.hid hw3
  clear hm hb3
  have fin : ∀ (k : Nat) (r' : Int), cutE s n j = r' → Hid (Calls Try.prog 25 #[.pointer (some ⟨p, 0, none⟩), .int .i64 r', .func (.func 34) #[] #[.pointer (some ⟨w.heap.size, 0, none⟩), .pointer (some ⟨w.heap.size + 1, 0, none⟩), .pointer (some ⟨w.heap.size + 2, 0, none⟩)]] (w3.drewN k) (StEnd w B p (Foot p m L) (s.cut n j))) := fun k r' h => Lib.hid (h ▸ hact k)
  have FIN := Lib.hid fin
  clear hact fin
  by_cases h0 : r = 0
  · subst h0
    obtain ⟨hn1, e, he, hen⟩ := mustE_some (s := s) (n := n) hk hr0
    have hlk := fun k => look_some (hs3 k) he
    have hc := (hs3 0).each e he
    obtain ⟨A, c, hv⟩ := hc.own.form
    have c0 := hc.c0
    have s0 := (hs3 0).s0
    rw [hv] at c0
    obtain ⟨N, hN⟩ : ∃ N, e.k.xs.length = N := ⟨_, rfl⟩
    obtain ⟨b, hb⟩ : ∃ b, e.b = b := ⟨_, rfl⟩
    rw [hen, hb] at hlk
    rw [hN, hb] at c0
    have hcut : ∀ r', (if j < 0 ∨ (N : Int) < j then (1 : Int) else 0) = r' → cutE s n j = r' := fun r' hr' => by
      rw [← hr']
      unfold cutE
      rw [hr0, if_neg (by simp)]
      have : (s.bs.any fun k => decide (k.n = n) && decide ((k.xs.length : Int) < j)) = true ↔ (N : Int) < j := by
        rw [← hk, List.any_map, List.any_eq_true]
        constructor
        · rintro ⟨x, hx, h1⟩
          simp only [Function.comp, Bool.and_eq_true, decide_eq_true_eq] at h1
          have := h.inj hx he (h1.1.trans hen.symm)
          subst this
          rw [hN] at h1
          exact h1.2
        · intro h1
          exact ⟨e, he, by simp [Function.comp, hen, hN, h1]⟩
      simp only [this]
    have c0' : w3.cell? ⟨b, 0, none⟩ = some (.slice A N c) := c0
    have s0' : w3.cell? ⟨p, 0, none⟩ = some (.map (some m)) := s0
    have HCUT := Lib.hid hcut
    clear hcut hc hv c0 s0 hN hb hen he h hk hlf hs3 hb4 hr0 hn1
    clear hw3
    by_cases hj : j < 0
    · clear hlk c0' s0'
      go_enter Try.func12, Try.ntmps12
      go_wp2_with fail
      rw [← HW3.out]
      refine HM.out.mono ?_
      rintro x w' ⟨rfl, rfl⟩
      go_wp2_with fail
      go_quiet (fail)
      go_wp2_with fail
      refine (FIN.out _ 1 (HCUT.out 1 (if_pos (.inl hj)))).out.mono ?_
      rintro x w' ⟨F', rfl, hs, hsc⟩
      have HS := Lib.hid hs
      have HSC := Lib.hid hsc
      clear hs hsc
      go_wp2_with fail
      go_ret
      exact ⟨F', rfl, HS.out, HSC.out⟩
    · by_cases hj2 : (N : Int) < j
      · have hj3 : decide (j > (N : Int)) = true := by simpa using hj2
        go_enter Try.func12, Try.ntmps12
        go_wp2_with fail
        rw [← HW3.out]
        refine HM.out.mono ?_
        rintro x w' ⟨rfl, rfl⟩
        go_wp2_with fail
        go_quiet (fail)
        go_wp2_with fail
        refine (FIN.out _ 1 (HCUT.out 1 (if_pos (.inr hj2)))).out.mono ?_
        rintro x w' ⟨F', rfl, hs, hsc⟩
        have HS := Lib.hid hs
        have HSC := Lib.hid hsc
        clear hs hsc
        go_wp2_with fail
        go_ret
        exact ⟨F', rfl, HS.out, HSC.out⟩
      · have hj3 : decide (j > (N : Int)) = false := by simpa using hj2
        go_enter Try.func12, Try.ntmps12
        go_wp2_with fail
        rw [← HW3.out]
        refine HM.out.mono ?_
        rintro x w' ⟨rfl, rfl⟩
        go_wp2_with fail
        go_quiet (fail)
        go_wp2_with fail
        refine (FIN.out _ 0 (HCUT.out 0 (if_neg (by rw [not_or]; omega)))).out.mono ?_
        rintro x w' ⟨F', rfl, hs, hsc⟩
        have HS := Lib.hid hs
        have HSC := Lib.hid hsc
        clear hs hsc
        go_wp2_with fail
        go_ret
        exact ⟨F', rfl, HS.out, HSC.out⟩
  · have hb : (r == 0) = false := by simpa using h0
    have hb2 : ¬ r = 0 := h0
    have hcut : cutE s n j = r := by unfold cutE; rw [hr0, if_pos h0]
    have HCUT := Lib.hid hcut
    clear hcut hr0 hs3 hb4 h hk hlf hw3 h0
    go_enter Try.func12, Try.ntmps12
    go_wp2_with fail
    rw [← HW3.out]
    refine HM.out.mono ?_
    rintro x w' ⟨rfl, rfl⟩
    go_wp2_with fail
    go_quiet (fail)
    go_wp2_with fail
    refine (FIN.out _ r HCUT.out).out.mono ?_
    rintro x w' ⟨F', rfl, hs, hsc⟩
    have HS := Lib.hid hs
    have HSC := Lib.hid hsc
    clear hs hsc
    go_wp2_with fail
    go_ret
    exact ⟨F', rfl, HS.out, HSC.out⟩
end
end Go.Proofs.Ytfafonfphholmaa

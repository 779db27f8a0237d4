/-
  What Same answers of ints: contracts over the program.
-/
import Derived.Test.YtpjlnpnadkbakaaGreatQBXOw
import Derived.Test.YtpjlnpnadkbakaaGreatRows
import Derived.Test.YtpjlnpnadkbakaaGreatQBMem
import Derived.Handy
import Derived.Deep.QuietTactic
import Derived.BigQuiet
import Derived.WalkLawsBesides
namespace Go.Proofs.YtpjlnpnadkbakaaGreat
set_option maxRecDepth 10000
open Go.RowKit
set_option maxHeartbeats 400000 in
theorem sameI_len (A B : Option Addr) (n m c d : Nat) (w : World) (h : n ≠ m) :
    Calls Tryz.prog 35 #[.slice A n c, .slice B m d] w fun e w' => e = .returned (.bool false) ∧ ∃ k, w' = w.drewN k := by
  have hne : ((n : Int) != (m : Int)) = true := by rw [bne_iff_ne]; omega
  clear h
  go_enter Tryz.func35, Tryz.ntmps35
  go_wp2
  go_ret
  exact ⟨rfl, 0, rfl⟩
set_option maxHeartbeats 400000 in
theorem sameI_any (xs ys : List Int) (A B : Option Addr) (c d : Nat) (w : World) (hx : Rd .i64 w A xs) (hy : Rd .i64 w B ys) (hm : xs.length ≤ maxLen) :
    Calls Tryz.prog 35 #[.slice A xs.length c, .slice B ys.length d] w fun e w' => e = .returned (.bool (decide (xs = ys))) ∧ ∃ k, w' = w.drewN k := by
  by_cases hl : xs.length = ys.length
  · obtain ⟨n, hn⟩ : ∃ n, xs.length = n := ⟨_, rfl⟩
    rw [← hl, hn]
    rw [hn] at hm hl
    unfold maxLen at hm
    rcases hx with rfl | ⟨b, off, rfl, hx⟩
    · have : n = 0 := by simpa using hn.symm
      subst this
      have : ys = [] := List.eq_nil_of_length_eq_zero hl.symm
      subst this
      clear hn hl hm hy
      go_enter Tryz.func35, Tryz.ntmps35
      go_wp2
      go_rounds 1
      go_ret
      exact ⟨rfl, 0, rfl⟩
    · rcases hy with rfl | ⟨b', off', rfl, hy⟩
      · have : n = 0 := by simpa using hl
        subst this
        have : xs = [] := List.eq_nil_of_length_eq_zero hn
        subst this
        clear hn hl hm hx
        go_enter Tryz.func35, Tryz.ntmps35
        go_wp2
        go_rounds 1
        go_ret
        exact ⟨rfl, 0, rfl⟩
      · have HX := Lib.hid hx
        have HY := Lib.hid hy
        have HN := Lib.hid hn
        have HL := Lib.hid hl
        clear hx hy hn hl
        go_enter Tryz.func35, Tryz.ntmps35
        go_wp2
        go_loopw [5] (fun i wr => ∃ k nd : Nat, k ≤ n ∧ i = .int .i64 k ∧ wr = w.drewN nd ∧ Hid (∀ j, j < k → xs.getD j 0 = ys.getD j 0)) (fun i _ => n - (intOf i).toNat)
        case atStart => exact ⟨0, 0, by omega, rfl, rfl, fun j hj => absurd hj (by omega)⟩
        case round =>
          obtain ⟨k, nd, hk, rfl, rfl, hp⟩ := hrel
          by_cases hlt : k < n
          · have c1 := HX.out k (by rw [HN.out]; exact hlt)
            have c2 := HY.out k (by rw [← HL.out]; exact hlt)
            have hi : (k : Int) < (n : Int) := by omega
            have h0 : (0 : Int) ≤ (k : Int) := by omega
            obtain ⟨x, hx⟩ : ∃ x, xs.getD k 0 = x := ⟨_, rfl⟩
            obtain ⟨y, hy⟩ : ∃ y, ys.getD k 0 = y := ⟨_, rfl⟩
            rw [hx] at c1
            rw [hy] at c2
            have HX2 := Lib.hid hx
            have HY2 := Lib.hid hy
            clear hx hy
            by_cases he : x = y
            · subst he
              go_wp2_with fail
              go_quiet (fail)
              go_wp2
              go_roundw
              case rel => exact ⟨k + 1, _, by omega, by go_num, rfl, fun j hj => by
                rcases Nat.lt_or_ge j k with h | h
                · exact hp.out j h
                · have : j = k := by omega
                  rw [this, HX2.out, HY2.out]⟩
              case measure => simp [intOf]; omega
            · have hne : (x != y) = true := by rw [bne_iff_ne]; exact he
              go_wp2_with fail
              go_quiet (fail)
              go_wp2
              go_ret
              exact ⟨ret_b (decide_eq_false (fun h => he (by rw [← HX2.out, ← HY2.out, h]))).symm, _, by rw [World.drewN_drewN]⟩
          · have : k = n := by omega
            subst this
            go_wp2
            go_ret
            exact ⟨ret_b (decide_eq_true (list_eq_of_getD (by rw [HN.out, HL.out]) (by rw [HN.out]; exact hp.out))).symm, _, rfl⟩
  · have := sameI_len A B xs.length ys.length c d w hl
    rw [decide_eq_false (fun h => hl (by rw [h]))]
    exact this
theorem sameI_at (xs ys : List Int) {A B : Option Addr} {n m c d : Nat} {w : World} (hn : xs.length = n) (hm : ys.length = m) (hx : Rd .i64 w A xs) (hy : Rd .i64 w B ys) (hl : xs.length ≤ maxLen) :
    Calls Tryz.prog 35 #[.slice A n c, .slice B m d] w fun e w' => e = .returned (.bool (decide (xs = ys))) ∧ ∃ k, w' = w.drewN k := by
  subst hn; subst hm
  exact sameI_any xs ys A B c d w hx hy hl
theorem sameI_true (xs : List Int) {A B : Option Addr} {n m c d : Nat} {w : World} (hn : xs.length = n) (hm : xs.length = m) (hx : Rd .i64 w A xs) (hy : Rd .i64 w B xs) (hl : xs.length ≤ maxLen) :
    Calls Tryz.prog 35 #[.slice A n c, .slice B m d] w fun e w' => e = .returned (.bool true) ∧ ∃ k, w' = w.drewN k := by
  have := sameI_at (c := c) (d := d) xs xs hn hm hx hy hl
  simpa using this
end Go.Proofs.YtpjlnpnadkbakaaGreat

/-
  What the document's Right answers of a packet: a contract over the program.
-/
import Derived.Test.YtbjneoeiognahaaRefPkt
namespace Go.Proofs.Ytbjneoeiognahaa
open Go.RowKit

set_option maxRecDepth 10000 in
set_option maxHeartbeats 2000000 in
theorem right1 (pa nu o fr : Int) (da : List Int) (fin : Bool) (se li : Int) (A : Option Addr) (c : Nat) (w : World) (hl : da.length ≤ 9223372036854775807) :
    Calls Try.prog 66 #[(⟨1, pa, nu, o, fr, da, fin, se, li⟩ : Pkt).val A c] w fun e w' => e = .returned (.bool (Pkt.ok ⟨1, pa, nu, o, fr, da, fin, se, li⟩)) ∧ Below w.heap.size w w' := by
  have hb : ∀ o, Below w.heap.size w (w.alloc o) := fun o => (Below.refl _ _).alloc (Nat.le_refl _) _
  have hb2 : ∀ o, Below w.heap.size w (w.alloc o).drew := fun o => (hb o).drew
  rw [ok1]
  unfold Pkt.val
  simp only
  obtain ⟨n, hn⟩ : ∃ n, da.length = n := ⟨_, rfl⟩
  rw [hn] at hl ⊢
  clear hn
  go_enter Try.func66, Try.ntmps66
  go_wp2_with fail
  refine (between_any _ _ _ _).mono ?_
  rintro e w' ⟨rfl, rfl⟩
  rw [show (decide ((1 : Int) ≤ 1) && decide ((1 : Int) ≤ 4)) = true from rfl]
  go_wp2_with fail
  refine (between_in _ _ _).mono ?_
  rintro e w' ⟨rfl, rfl⟩
  cases h1 : inB pa 2
  · go_wp2_with fail
    go_ret
    exact ⟨ret_b (by simp [*]), hb _⟩
  · go_wp2_with fail
    refine (between_in _ _ _).mono ?_
    rintro e w' ⟨rfl, rfl⟩
    cases h2 : inB nu 65535
    · go_wp2_with fail
      go_ret
      exact ⟨ret_b (by simp [*]), hb _⟩
    · go_wp2_with fail
      go_region
      go_wp2_with fail
      all_goals (go_ret; exact ⟨ret_b (by rw [Bool.eq_iff_iff]; simp_all), hb2 _⟩)

set_option maxRecDepth 10000 in
set_option maxHeartbeats 2000000 in
theorem right2 (pa nu o fr : Int) (da : List Int) (fin : Bool) (se li : Int) (A : Option Addr) (c : Nat) (w : World) (hl : da.length ≤ 9223372036854775807) :
    Calls Try.prog 66 #[(⟨2, pa, nu, o, fr, da, fin, se, li⟩ : Pkt).val A c] w fun e w' => e = .returned (.bool (Pkt.ok ⟨2, pa, nu, o, fr, da, fin, se, li⟩)) ∧ Below w.heap.size w w' := by
  have hb : ∀ o, Below w.heap.size w (w.alloc o) := fun o => (Below.refl _ _).alloc (Nat.le_refl _) _
  have hb2 : ∀ o, Below w.heap.size w (w.alloc o).drew := fun o => (hb o).drew
  rw [ok2]
  unfold Pkt.val
  simp only
  obtain ⟨n, hn⟩ : ∃ n, da.length = n := ⟨_, rfl⟩
  rw [hn] at hl ⊢
  clear hn
  go_enter Try.func66, Try.ntmps66
  go_wp2_with fail
  refine (between_any _ _ _ _).mono ?_
  rintro e w' ⟨rfl, rfl⟩
  rw [show (decide ((1 : Int) ≤ 2) && decide ((2 : Int) ≤ 4)) = true from rfl]
  go_wp2_with fail
  refine (between_in _ _ _).mono ?_
  rintro e w' ⟨rfl, rfl⟩
  cases h1 : inB pa 2
  · go_wp2_with fail
    go_ret
    exact ⟨ret_b (by simp [*]), hb _⟩
  · go_wp2_with fail
    refine (between_in _ _ _).mono ?_
    rintro e w' ⟨rfl, rfl⟩
    cases h2 : inB nu 65535
    · go_wp2_with fail
      go_ret
      exact ⟨ret_b (by simp [*]), hb _⟩
    · go_wp2_with fail
      go_region
      go_wp2_with fail
      refine (between_in _ _ _).mono ?_
      rintro e w' ⟨rfl, rfl⟩
      cases h3 : inB o 65535
      · go_wp2_with fail
        go_ret
        exact ⟨ret_b (by simp_all), hb2 _⟩
      · go_wp2_with fail
        all_goals (go_ret; exact ⟨ret_b (by rw [Bool.eq_iff_iff]; simp_all), hb2 _⟩)

set_option maxRecDepth 10000 in
set_option maxHeartbeats 2000000 in
theorem right3 (pa nu o fr : Int) (da : List Int) (fin : Bool) (se li : Int) (A : Option Addr) (c : Nat) (w : World) (hl : da.length ≤ 9223372036854775807) :
    Calls Try.prog 66 #[(⟨3, pa, nu, o, fr, da, fin, se, li⟩ : Pkt).val A c] w fun e w' => e = .returned (.bool (Pkt.ok ⟨3, pa, nu, o, fr, da, fin, se, li⟩)) ∧ Below w.heap.size w w' := by
  have hb : ∀ o, Below w.heap.size w (w.alloc o) := fun o => (Below.refl _ _).alloc (Nat.le_refl _) _
  have hb2 : ∀ o, Below w.heap.size w (w.alloc o).drew := fun o => (hb o).drew
  rw [ok3]
  unfold Pkt.val
  simp only
  obtain ⟨n, hn⟩ : ∃ n, da.length = n := ⟨_, rfl⟩
  rw [hn] at hl ⊢
  clear hn
  go_enter Try.func66, Try.ntmps66
  go_wp2_with fail
  refine (between_any _ _ _ _).mono ?_
  rintro e w' ⟨rfl, rfl⟩
  rw [show (decide ((1 : Int) ≤ 3) && decide ((3 : Int) ≤ 4)) = true from rfl]
  go_wp2_with fail
  refine (between_in _ _ _).mono ?_
  rintro e w' ⟨rfl, rfl⟩
  cases h1 : inB pa 2
  · go_wp2_with fail
    go_ret
    exact ⟨ret_b (by simp [*]), hb _⟩
  · go_wp2_with fail
    refine (between_in _ _ _).mono ?_
    rintro e w' ⟨rfl, rfl⟩
    cases h2 : inB nu 65535
    · go_wp2_with fail
      go_ret
      exact ⟨ret_b (by simp [*]), hb _⟩
    · go_wp2_with fail
      go_region
      go_wp2_with fail
      · go_ret
        exact ⟨ret_b (by simp_all), hb2 _⟩
      · refine (between_in _ _ _).mono ?_
        rintro e w' ⟨rfl, rfl⟩
        cases h4 : inB fr 4096
        · go_wp2_with fail
          go_ret
          exact ⟨ret_b (by simp_all), hb2 _⟩
        · have hf : 0 ≤ fr ∧ fr ≤ 4096 := by unfold inB at h4; simpa using h4
          by_cases e1 : n ≤ 64
          · have e1' : decide ((n : Int) > 64) = false := by simp; omega
            have e1q : decide ((64 : Int) < (n : Int)) = false := by simp; omega
            go_wp2_with fail
            all_goals (go_ret; exact ⟨ret_b (by rw [Bool.eq_iff_iff]; simp_all <;> (intros; omega)), hb2 _⟩)
          · have e1' : decide ((n : Int) > 64) = true := by simp; omega
            have e1q : decide ((64 : Int) < (n : Int)) = true := by simp; omega
            go_wp2_with fail
            go_ret
            exact ⟨ret_b (by rw [Bool.eq_iff_iff]; simp [*]), hb2 _⟩

set_option maxRecDepth 10000 in
set_option maxHeartbeats 2000000 in
theorem right4 (pa nu o fr : Int) (da : List Int) (fin : Bool) (se li : Int) (A : Option Addr) (c : Nat) (w : World) (hl : da.length ≤ 9223372036854775807) :
    Calls Try.prog 66 #[(⟨4, pa, nu, o, fr, da, fin, se, li⟩ : Pkt).val A c] w fun e w' => e = .returned (.bool (Pkt.ok ⟨4, pa, nu, o, fr, da, fin, se, li⟩)) ∧ Below w.heap.size w w' := by
  have hb : ∀ o, Below w.heap.size w (w.alloc o) := fun o => (Below.refl _ _).alloc (Nat.le_refl _) _
  have hb2 : ∀ o, Below w.heap.size w (w.alloc o).drew := fun o => (hb o).drew
  rw [ok4]
  unfold Pkt.val
  simp only
  obtain ⟨n, hn⟩ : ∃ n, da.length = n := ⟨_, rfl⟩
  rw [hn] at hl ⊢
  clear hn
  go_enter Try.func66, Try.ntmps66
  go_wp2_with fail
  refine (between_any _ _ _ _).mono ?_
  rintro e w' ⟨rfl, rfl⟩
  rw [show (decide ((1 : Int) ≤ 4) && decide ((4 : Int) ≤ 4)) = true from rfl]
  go_wp2_with fail
  refine (between_in _ _ _).mono ?_
  rintro e w' ⟨rfl, rfl⟩
  cases h1 : inB pa 2
  · go_wp2_with fail
    go_ret
    exact ⟨ret_b (by simp [*]), hb _⟩
  · go_wp2_with fail
    refine (between_in _ _ _).mono ?_
    rintro e w' ⟨rfl, rfl⟩
    cases h2 : inB nu 65535
    · go_wp2_with fail
      go_ret
      exact ⟨ret_b (by simp [*]), hb _⟩
    · go_wp2_with fail
      go_region
      go_wp2_with fail
      refine (between_in _ _ _).mono ?_
      rintro e w' ⟨rfl, rfl⟩
      cases h3 : inB o 65535
      · go_wp2_with fail
        go_ret
        exact ⟨ret_b (by simp_all), hb2 _⟩
      · go_wp2_with fail
        · go_ret
          exact ⟨ret_b (by simp_all), hb2 _⟩
        · refine (between_in _ _ _).mono ?_
          rintro e w' ⟨rfl, rfl⟩
          cases h5 : inB se 4097
          · go_wp2_with fail
            go_ret
            exact ⟨ret_b (by simp_all), hb2 _⟩
          · go_wp2_with fail
            refine (between_in _ _ _).mono ?_
            rintro e w' ⟨rfl, rfl⟩
            cases h6 : inB li 4496
            · go_wp2_with fail
              go_ret
              exact ⟨ret_b (by simp_all), hb2 _⟩
            · go_wp2_with fail
              go_ret
              exact ⟨ret_b (by simp_all), hb2 _⟩
        all_goals (go_ret; exact ⟨ret_b (by rw [Bool.eq_iff_iff]; simp_all), hb2 _⟩)

set_option maxRecDepth 10000 in
set_option maxHeartbeats 2000000 in
theorem rightx (k pa nu o fr : Int) (da : List Int) (fin : Bool) (se li : Int) (A : Option Addr) (c : Nat) (w : World) (h1 : k ≠ 1) (h2 : k ≠ 2) (h3 : k ≠ 3) (h4 : k ≠ 4) :
    Calls Try.prog 66 #[(⟨k, pa, nu, o, fr, da, fin, se, li⟩ : Pkt).val A c] w fun e w' => e = .returned (.bool (Pkt.ok ⟨k, pa, nu, o, fr, da, fin, se, li⟩)) ∧ Below w.heap.size w w' := by
  have hb : ∀ o, Below w.heap.size w (w.alloc o) := fun o => (Below.refl _ _).alloc (Nat.le_refl _) _
  rw [okx h1 h2 h3 h4]
  unfold Pkt.val
  simp only
  go_enter Try.func66, Try.ntmps66
  go_wp2_with fail
  refine (between_any _ _ _ _).mono ?_
  rintro e w' ⟨rfl, rfl⟩
  rw [show (decide ((1 : Int) ≤ k) && decide (k ≤ 4)) = false by rw [Bool.eq_false_iff]; simp; omega]
  go_wp2_with fail
  go_ret
  exact ⟨rfl, hb _⟩

set_option maxRecDepth 10000 in
theorem right_any (p : Pkt) (A : Option Addr) (c : Nat) (w : World) (hl : p.da.length ≤ 9223372036854775807) :
    Calls Try.prog 66 #[p.val A c] w fun e w' => e = .returned (.bool p.ok) ∧ Below w.heap.size w w' := by
  obtain ⟨k, pa, nu, o, fr, da, fin, se, li⟩ := p
  by_cases h1 : k = 1
  · subst h1; exact right1 pa nu o fr da fin se li A c w hl
  · by_cases h2 : k = 2
    · subst h2; exact right2 pa nu o fr da fin se li A c w hl
    · by_cases h3 : k = 3
      · subst h3; exact right3 pa nu o fr da fin se li A c w hl
      · by_cases h4 : k = 4
        · subst h4; exact right4 pa nu o fr da fin se li A c w hl
        · exact rightx k pa nu o fr da fin se li A c w h1 h2 h3 h4
end Go.Proofs.Ytbjneoeiognahaa

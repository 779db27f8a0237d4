/-
  What the document's TakePacket holds against the bytes that it read: plain mathematics. No function of the program.
-/
import Derived.Test.YtbjneoeiognahaaPktBackMath
namespace Go.Proofs.Ytbjneoeiognahaa
open Go.RowKit

section
variable {xs : List Int} {a : Nat}
set_option maxRecDepth 10000 in
theorem cmp_of {pk : Pkt} {fl : Bool} {a' : Nat} {mid : List Int} (hle : a ≤ xs.length) (hle' : a' ≤ xs.length) (hd : xs.drop a = mid ++ xs.drop a') (hm : decide (pk.plainL = mid) = fl) :
    a ≤ a' ∧ a' ≤ xs.length ∧ decide (pk.plainL = (xs.drop a).take (a' - a)) = fl := by
  have hl := congrArg List.length hd
  rw [List.length_append, List.length_drop, List.length_drop] at hl
  have e : a' - a = mid.length := by omega
  refine ⟨by omega, hle', ?_⟩
  rw [e, hd, List.take_left]
  exact hm
set_option maxRecDepth 10000 in
/-- What was read packs to the bytes that were read, but where the mark is none. -/
theorem readP_cmp {bad : Bool} {pk : Pkt} {fl : Bool} {a' : Nat} (hb : ∀ x ∈ xs, 0 ≤ x ∧ x < 256) (hle : a ≤ xs.length) (hr : readP xs (a, bad) = (pk, fl, a', false)) :
    a ≤ a' ∧ a' ≤ xs.length ∧ decide (pk.plainL = (xs.drop a).take (a' - a)) = fl := by
  obtain ⟨k, a1, b1, e1⟩ : ∃ k a1 b1, rdO xs (a, bad) = (k, a1, b1) := ⟨_, _, _, rfl⟩
  obtain ⟨pa, a2, b2, e2⟩ : ∃ k a1' b1', rdN xs (a1, b1) = (k, a1', b1') := ⟨_, _, _, rfl⟩
  obtain ⟨nu, a3, b3, e3⟩ : ∃ k a1' b1', rdN xs (a2, b2) = (k, a1', b1') := ⟨_, _, _, rfl⟩
  have l1 := rdO_bd (s := (a, bad)) hle hb
  rw [e1] at l1
  have l2 := rdN_bd (xs := xs) (s := (a1, b1)) l1.2.2
  rw [e2] at l2
  have l3 := rdN_bd (xs := xs) (s := (a2, b2)) l2.2.2
  rw [e3] at l3
  simp only at l1 l2 l3
  by_cases h2 : k = 2
  · subst h2
    obtain ⟨o, a4, b4, e4⟩ : ∃ k a1' b1', rdN xs (a3, b3) = (k, a1', b1') := ⟨_, _, _, rfl⟩
    have l4 := rdN_bd (xs := xs) (s := (a3, b3)) l3.2.2
    rw [e4] at l4
    simp [readP, e1, e2, e3, e4] at hr
    obtain ⟨rfl, rfl, rfl, rfl⟩ := hr
    obtain ⟨rfl, _, _, g4⟩ := rdN_inv hb e4
    obtain ⟨rfl, _, _, g3⟩ := rdN_inv hb e3
    obtain ⟨rfl, _, _, g2⟩ := rdN_inv hb e2
    obtain ⟨rfl, g1, _⟩ := rdO_inv e1
    refine cmp_of (mid := Pkt.plainL ⟨2, pa, nu, o, 0, [], false, 0, 0⟩) hle l4.2.2 ?_ (by simp)
    simp [Pkt.plainL, Pkt.fieldsL, g1, g2, g3, g4]
  · by_cases h3 : k = 3
    · subst h3
      obtain ⟨fr, a4, b4, e4⟩ : ∃ k a1' b1', rdN xs (a3, b3) = (k, a1', b1') := ⟨_, _, _, rfl⟩
      have l4 := rdN_bd (xs := xs) (s := (a3, b3)) l3.2.2
      rw [e4] at l4
      obtain ⟨da, a5, b5, e5⟩ : ∃ k a1' b1', rdB 64 xs (a4, b4) = (k, a1', b1') := ⟨_, _, _, rfl⟩
      have l5 := rdB_bd (m := 64) (s := (a4, b4)) l4.2.2 hb
      rw [e5] at l5
      obtain ⟨f, a6, b6, e6⟩ : ∃ k a1' b1', rdO xs (a5, b5) = (k, a1', b1') := ⟨_, _, _, rfl⟩
      have l6 := rdO_bd (s := (a5, b5)) l5.2.1 hb
      rw [e6] at l6
      simp only at l4 l5 l6
      simp [readP, e1, e2, e3, e4, e5, e6] at hr
      obtain ⟨rfl, hf, rfl, rfl⟩ := hr
      obtain ⟨rfl, g6, _⟩ := rdO_inv e6
      obtain ⟨rfl, _, g5⟩ := rdB_inv hb l4.2.2 e5
      obtain ⟨rfl, _, _, g4⟩ := rdN_inv hb e4
      obtain ⟨rfl, _, _, g3⟩ := rdN_inv hb e3
      obtain ⟨rfl, _, _, g2⟩ := rdN_inv hb e2
      obtain ⟨rfl, g1, _⟩ := rdO_inv e1
      refine cmp_of (mid := ([3] ++ putL pa ++ putL nu) ++ (putL fr ++ (putL (da.length : Int) ++ da) ++ [f])) hle l6.2.2 (by simp [g1, g2, g3, g4, g5, g6]) ?_
      rw [← hf]
      have hp : Pkt.plainL ⟨3, pa, nu, 0, fr, da, decide (f = 1), 0, 0⟩ = ([3] ++ putL pa ++ putL nu) ++ (putL fr ++ (putL (da.length : Int) ++ da) ++ [markV (decide (f = 1))]) := by
        simp [Pkt.plainL, Pkt.fieldsL]
      rw [hp]
      by_cases hc : f ≤ 1
      · have hm : markV (decide (f = 1)) = f := by
          have : f = 0 ∨ f = 1 := by omega
          rcases this with rfl | rfl <;> rfl
        rw [hm]
        simp [hc]
      · have hm : markV (decide (f = 1)) ≠ f := by
          have h0 : ¬ f = 1 := by omega
          simp [markV, h0]
          omega
        simp [hc, hm]
    · by_cases h4 : k = 4
      · subst h4
        obtain ⟨o, a4, b4, e4⟩ : ∃ k a1' b1', rdN xs (a3, b3) = (k, a1', b1') := ⟨_, _, _, rfl⟩
        have l4 := rdN_bd (xs := xs) (s := (a3, b3)) l3.2.2
        rw [e4] at l4
        obtain ⟨se, a5, b5, e5⟩ : ∃ k a1' b1', rdN xs (a4, b4) = (k, a1', b1') := ⟨_, _, _, rfl⟩
        have l5 := rdN_bd (xs := xs) (s := (a4, b4)) l4.2.2
        rw [e5] at l5
        obtain ⟨li, a6, b6, e6⟩ : ∃ k a1' b1', rdN xs (a5, b5) = (k, a1', b1') := ⟨_, _, _, rfl⟩
        have l6 := rdN_bd (xs := xs) (s := (a5, b5)) l5.2.2
        rw [e6] at l6
        simp [readP, e1, e2, e3, e4, e5, e6] at hr
        obtain ⟨rfl, rfl, rfl, rfl⟩ := hr
        obtain ⟨rfl, _, _, g6⟩ := rdN_inv hb e6
        obtain ⟨rfl, _, _, g5⟩ := rdN_inv hb e5
        obtain ⟨rfl, _, _, g4⟩ := rdN_inv hb e4
        obtain ⟨rfl, _, _, g3⟩ := rdN_inv hb e3
        obtain ⟨rfl, _, _, g2⟩ := rdN_inv hb e2
        obtain ⟨rfl, g1, _⟩ := rdO_inv e1
        refine cmp_of (mid := Pkt.plainL ⟨4, pa, nu, o, 0, [], false, se, li⟩) hle l6.2.2 ?_ (by simp)
        simp [Pkt.plainL, Pkt.fieldsL, g1, g2, g3, g4, g5, g6]
      · simp [readP, e1, e2, e3, h2, h3, h4] at hr
        obtain ⟨rfl, rfl, rfl, rfl⟩ := hr
        obtain ⟨rfl, _, _, g3⟩ := rdN_inv hb e3
        obtain ⟨rfl, _, _, g2⟩ := rdN_inv hb e2
        obtain ⟨rfl, g1, _⟩ := rdO_inv e1
        refine cmp_of (mid := Pkt.plainL ⟨k, pa, nu, 0, 0, [], false, 0, 0⟩) hle l3.2.2 ?_ (by simp)
        simp [Pkt.plainL, Pkt.fieldsL, g1, g2, g3, h2, h3, h4]
end
end Go.Proofs.Ytbjneoeiognahaa

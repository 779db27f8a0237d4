/-
  What a plan answers in the small cases of the laws. No program.
-/
import Derived.Test.YtlljfinagjdihaaPlanMath
import Derived.WalkKit
import Derived.IntWalk
namespace Go.Proofs.Ytlljfinagjdihaa
open Go.RowKit

theorem wrap_at {n m : Int} (h : n = m) (h1 : -9223372036854775808 ≤ m) (h2 : m ≤ 9223372036854775807) : wrap64 n = m := by subst h; unfold wrap64; omega

/-- Nothing is lost, nothing acknowledged, not closed; so many bytes may be sent as there are. -/
theorem next_open (O : Ou) (s N c : Int) (hc : 1 ≤ c ∧ c ≤ 64) (hl : (O.xs.length : Int) = N) (hcl : O.cl = false) :
    (s < N → (Pl.mk [] s).next O N c = ⟨s, min (s + c) N, true, ⟨[], min (s + c) N⟩⟩) ∧ (N ≤ s → (Pl.mk [] s).next O N c = ⟨0, 0, false, ⟨[], s⟩⟩) := by
  have hk : chk c = c := by unfold chk; omega
  have hT : O.till N = N := by unfold Ou.till; rw [if_pos (by omega), Ou.places_open hcl, hl]
  have h := Pl.next_new O s N c
  rw [hT, hk] at h
  have hr : reachI O s N c = min (s + c) N := by unfold reachI; rw [hcl]; simp
  rw [hr] at h
  exact ⟨fun hs => by rw [h, if_pos hs], fun hs => by rw [h, if_neg (by omega)]⟩
/-- One piece is lost of a plan of which nothing is lost. -/
theorem lost_one (S a b : Int) (h0 : 0 ≤ a) (h1 : a < b) (h2 : b ≤ S) (h3 : S ≤ 4097) : (Pl.mk [] S).lost a b = ⟨[(a, b)], S⟩ := by
  have e : addN [] a (min b S) = [(a, b)] := by
    unfold addN
    rw [if_pos (by omega), show max a 0 = a by omega, show min (min b S) 1099511627776 = b by omega]
    rfl
  unfold Pl.lost
  rw [e]
/-- Another one, just ahead of it. -/
theorem lost_two (S a b c : Int) (h0 : 0 ≤ a) (h1 : a < b) (h2 : b < c) (h4 : c ≤ S) (h3 : S ≤ 4097) : (Pl.mk [(b, c)] S).lost a b = ⟨[(a, c)], S⟩ := by
  have e : addN [(b, c)] a (min b S) = [(a, c)] := by
    unfold addN
    rw [if_pos (by omega), show max a 0 = a by omega, show min (min b S) 1099511627776 = b by omega]
    unfold addS
    rw [if_neg (by simp only []; omega), if_neg (by simp only []; omega)]
    unfold addS
    rw [show min a (b, c).1 = a by simp only []; omega, show max b (b, c).2 = c by simp only []; omega]
  unfold Pl.lost
  rw [e]
/-- What is lost is told, and is lost no more. -/
theorem next_lost (O : Ou) (S a b l c : Int) (hak : O.ak = 0) (hab : a < b) (hr : reachI O a b (chk c) = b) : (Pl.mk [(a, b)] S).next O l c = ⟨a, b, true, ⟨[], S⟩⟩ := by
  have e1 : cutN [(a, b)] 0 O.ak = [(a, b)] := by unfold cutN; rw [hak, if_neg (by omega)]
  have e2 : cutN [(a, b)] a b = [] := by
    unfold cutN
    rw [if_pos hab]
    simp [cutS, cutO]
  unfold Pl.next Pl.step
  rw [e1]
  simp only []
  rw [hr, e2]
theorem reach_open (O : Ou) (a b c : Int) (hcl : O.cl = false) (h : b ≤ a + c) : reachI O a b c = b := by
  unfold reachI
  rw [hcl]
  simp
  omega
end Go.Proofs.Ytlljfinagjdihaa

/-
  Two Sets beside one another ('Two'); what wakes of chapter 5 answers: contracts over the program.
-/
import Derived.Test.YtcmnambanefjeaaSets2
import Derived.Test.YtcmnambanefjeaaSets3
namespace Go.Proofs.Ytcmnambanefjeaa
open Go.RowKit
open Go.Sort (grow grow_grow grow_empty alloc_eq_grow)

/-- Add. -/
theorem add_any (p : Nat) (v : Value) (ps : List (Int × Int)) (B : Nat) (f t : Int) (w : World) (hs : SetAt w B p v ps) (hl : ps.length ≤ 1099511627776) (hB : B ≤ w.heap.size) :
    Calls Try.prog 7 #[.pointer (some ⟨p, 0, none⟩), .int .i64 f, .int .i64 t] w fun e w' => e = .returned (.tuple #[]) ∧ ∃ v' qs, SetAt w' B p v' qs ∧ Chg w w' p v v' ∧ (∀ k, ins qs k ↔ ins ps k ∨ (max f 0 ≤ k ∧ k < min t 1099511627776)) ∧ qs.length ≤ ps.length + 1 := by
  by_cases h : min t 1099511627776 ≤ max f 0
  · refine (add_none _ f t w h).mono ?_
    rintro e w' ⟨rfl, rfl⟩
    exact ⟨rfl, v, ps, hs, Chg.refl _ _ _, fun k => ⟨fun hk => .inl hk, fun hk => hk.elim id (fun h2 => by omega)⟩, by omega⟩
  · exact add_some p v ps B f t _ _ w hs rfl rfl (by omega) hl hB

theorem Norm.one {x y : Int} (h0 : 0 ≤ x) (h1 : x < y) (h2 : y ≤ 1099511627776) : Norm [(x, y)] := Norm.cons h0 h1 h2 Norm.nil (by simp)
theorem ins_one (x y k : Int) : ins [(x, y)] k ↔ x ≤ k ∧ k < y := by simp [ins]

set_option maxHeartbeats 1000000 in
theorem wakesR_any (w : World) : Calls Try.prog 13 #[] w fun e w' => e = .returned (.bool true) ∧ Below w.heap.size w w' := by
  have HW := Lib.hid (newset_any w w.heap.size (Nat.le_refl _))
  obtain ⟨B, hB⟩ : ∃ B, w.heap.size = B := ⟨_, rfl⟩
  rw [hB] at HW ⊢
  have HB := Lib.hid hB
  clear hB
  go_enter Try.func13, Try.ntmps13
  go_wp2_with fail
  refine HW.out.mono ?_
  rintro e w1 ⟨rfl, s1, b1, z1⟩
  have HA1 := Lib.hid (add_any B _ [] B 2 5 w1 s1 (by simp) (by omega))
  have hv1 : ∀ g, (Value.slice none 0 0).ownBlock = some g → B ≤ g := fun g hg => by simp [Value.ownBlock] at hg
  have HB1 := Lib.hid b1
  have HZ1 := Lib.hid (show B ≤ w1.heap.size by omega)
  have HV1 := Lib.hid hv1
  clear s1 b1 z1 hv1
  go_wp2_with fail
  refine HA1.out.mono ?_
  rintro e w2 ⟨rfl, v2, q2, s2, g2, i2, l2⟩
  have b2 := g2.below HB1.out HZ1.out (Nat.le_refl _) HV1.out
  have z2 : B ≤ w2.heap.size := by have := g2.size; have := HZ1.out; omega
  have HA2 := Lib.hid (add_any B v2 q2 B 5 7 w2 s2 (by simp at l2; omega) z2)
  have HV2 := Lib.hid (show ∀ g, v2.ownBlock = some g → B ≤ g from fun g hg => (s2.own.lt g hg).1)
  have HB2 := Lib.hid b2
  have HZ2 := Lib.hid z2
  have HI2 := Lib.hid i2
  have HL2 := Lib.hid l2
  clear s2 g2 i2 l2 b2 z2
  go_wp2_with fail
  refine HA2.out.mono ?_
  rintro e w3 ⟨rfl, v3, q3, s3, g3, i3, l3⟩
  have eq3 : q3 = [(2, 7)] := s3.norm.ext (Norm.one (by omega) (by omega) (by omega)) fun k => by
    rw [i3, HI2.out, ins_one]
    constructor
    · rintro ((h | h) | h)
      · exact absurd h (ins_nil _)
      · omega
      · omega
    · intro h
      by_cases hk : k < 5
      · exact .inl (.inr (by omega))
      · exact .inr (by omega)
  subst eq3
  have b3 := g3.below HB2.out HZ2.out (Nat.le_refl _) HV2.out
  have z3 : B ≤ w3.heap.size := by have := g3.size; have := HZ2.out; omega
  have HALL := Lib.hid (allset_any B v3 [(2, 7)] B w3 s3 (by simp))
  have HB3 := Lib.hid b3
  have HZ3 := Lib.hid z3
  clear s3 g3 i3 l3 b3 z3
  go_wp2_with fail
  refine HALL.out.mono ?_
  rintro e w4 ⟨A4, c4, rfl, o4, b4⟩
  simp only [List.length_cons, List.length_nil, Nat.zero_add] at o4
  have o5 : OwnP 31 (w4.alloc (.cells #[.int .i64 2, .int .i64 7] 31)) w4.heap.size (.slice (some ⟨w4.heap.size, 0, none⟩) 1 1) [(2, 7)] := OwnP.new w4 _ _ [(2, 7)] rfl (by simp [maxLen])
  have HS := Lib.hid (sameP_any [(2, 7)] [(2, 7)] A4 (some ⟨w4.heap.size, 0, none⟩) 1 1 c4 1 _ _ _ (o4.alloc _) o5)
  have HB4 := Lib.hid (show Below B w w4 from HB3.out.trans (b4.mono HZ3.out))
  have HZ4 := Lib.hid (show B ≤ w4.heap.size by have := b4.size; have := HZ3.out; omega)
  clear o4 o5 b4
  go_wp2_with fail
  refine HS.out.mono ?_
  rintro e w5 ⟨rfl, k, rfl⟩
  go_wp2
  go_ret
  exact ⟨ret_b (by decide), below_drewN' (HB4.out.alloc HZ4.out _) k⟩
end Go.Proofs.Ytcmnambanefjeaa

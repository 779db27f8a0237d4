/-
  What entry answers: eight digits further. Contract over the program.
-/
import Derived.Test.YtbadehbhnenbjaaRows
import Derived.Test.YtbadehbhnenbjaaMem
import Derived.Test.YtbadehbhnenbjaaSumBits
import Derived.Handy
import Derived.WalkLawsBesides
namespace Go.Proofs.Ytbadehbhnenbjaa
open Go.RowKit

set_option maxHeartbeats 400000 in
theorem entry_any (n : Nat) (w : World) (hn : n < 2 ^ 32) :
    Calls Try.prog 14 #[.int .u32 n] w fun e w' => e = .returned (.int .u32 (tabN n : Nat)) ∧ w = w' := by
  have HN := Lib.hid hn
  clear hn
  go_enter Try.func14, Try.ntmps14
  go_wp2
  go_loopw [0, 4] (fun d i wr => ∃ k : Nat, k ≤ 8 ∧ i = .int .i64 k ∧ d = .int .u32 (Lk k n : Nat) ∧ wr = w) (fun _ i _ => 8 - (intOf i).toNat)
  case atStart => exact ⟨0, by omega, rfl, rfl, rfl⟩
  case round =>
    obtain ⟨k, hk, rfl, rfl, rfl⟩ := hrel
    have hs := Lk_lt k HN.out
    have h1 := Lk_succ' k n
    obtain ⟨s, hs'⟩ : ∃ s, Lk k n = s := ⟨_, rfl⟩
    rw [hs'] at hs h1
    rw [hs']
    have H1 := Lib.hid h1
    have H2 := Lib.hid hs'
    clear h1 hs'
    by_cases hlt : k < 8
    · have hi : (k : Int) < 8 := by omega
      have ha := and1_32 s hs
      have hx := xor32 (s / 2) 3988292384 (by omega) (by omega)
      rw [show ((s / 2 : Nat) : Int) = (s : Int) / 2 from by omega, show ((3988292384 : Nat) : Int) = 3988292384 from rfl] at hx
      by_cases ho : s % 2 = 1
      · rw [ho] at ha
        rw [← Lb_odd ho, ← H1.out] at hx
        clear ho
        go_wp2
        go_roundw
        case rel => exact ⟨k + 1, by omega, by go_num, rfl, trivial⟩
        case measure => simp [intOf]; omega
      · have ho' : s % 2 = 0 := by omega
        rw [ho'] at ha
        have hl := H1.out
        rw [Lb_ev ho'] at hl
        have HL := Lib.hid hl
        clear ho hx hl
        go_wp2
        go_roundw
        case rel => exact ⟨k + 1, by omega, by go_num, by rw [HL.out]; go_num, trivial⟩
        case measure => simp [intOf]; omega
    · have : k = 8 := by omega
      subst this
      go_wp2
      go_ret
      exact ⟨ret_i (by rw [← H2.out]; rfl), rfl⟩
end Go.Proofs.Ytbadehbhnenbjaa

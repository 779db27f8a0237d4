/-
  Copy.
-/
import Derived.Test.YtpjlnpnadkbakaaGreatRows
import Derived.Test.YtpjlnpnadkbakaaGreatQEcClamp
import Derived.WalkLawsBesides
import Derived.Handy
namespace Go.Proofs.YtpjlnpnadkbakaaGreat
set_option maxRecDepth 10000
open Go.RowKit

theorem info_byte : (Tryz.prog.info? 5).map (fun i => (i.zero, i.size, i.bytes)) = some (some (.int .u8 0), 1, 1) := by kernel_rfl

set_option maxHeartbeats 400000 in
theorem copy_any (A : Option Addr) (n c : Nat) (xs : List Int) (w : World) (hn : xs.length = n) (hr : Rd .u8 w A xs) (hb : n ≤ 140737488355328) :
    Calls Tryz.prog 61 #[.slice A n c] w fun e w' => ∃ A' c', e = .returned (.slice A' n c') ∧ Own .u8 5 w' w.heap.size (.slice A' n c') xs ∧ Below w.heap.size w w' := by
  go_enter Tryz.func61, Tryz.ntmps61
  go_wp2_with (at_builtin; refine wpList_app _ .u8 rfl (.const (.slice none 0 0)) (.tmp 3) 29 rfl 5 (.int .u8 0) 1 Tryz.underlying29 info_byte rfl w.heap.size (.slice none 0 0) [] rfl (Own.nil _ _ _ _) A n c rfl xs hn hr (by simp [maxLen]; omega) (by simp; omega) (Nat.le_refl _) ?_; intro A' c' w' ho hg)
  go_ret
  simp only [List.length_nil, Nat.zero_add, List.nil_append] at ho ⊢
  exact ⟨A', c', rfl, ho, grown_below hg (Nat.le_refl _) (by simp [Value.ownBlock])⟩

set_option maxHeartbeats 400000 in
theorem cut_any (A : Option Addr) (n c : Nat) (m : Int) (xs : List Int) (w : World) (hn : xs.length = n) (hc : n ≤ c) (hr : Rd .u8 w A xs) (hb : n ≤ 9223372036854775807) (h0 : 0 ≤ m) (hm : m ≤ 140737488355328) :
    Calls Tryz.prog 42 #[.slice A n c, .int .i64 m] w fun e w' =>
      ∃ A' c', e = .returned (.slice A' (xs.take m.toNat).length c') ∧ Own .u8 5 w' w.heap.size (.slice A' (xs.take m.toNat).length c') (xs.take m.toNat) ∧ Below w.heap.size w w' := by
  obtain ⟨k, rfl⟩ := Int.eq_ofNat_of_zero_le h0
  rw [Int.toNat_natCast]
  have HN := Lib.hid hn
  clear hn
  have hl : (xs.take k).length = min k n := by rw [List.length_take, HN.out]
  rw [hl]
  have HL := Lib.hid hl
  clear hl
  by_cases h : (n : Int) ≤ (k : Int)
  · have hk : xs.take k = xs := List.take_of_length_le (by rw [HN.out]; omega)
    have hmn : min k n = n := by omega
    rw [hmn, hk]
    clear hk hmn
    go_enter Tryz.func42, Tryz.ntmps42
    go_wp2_with fail
    refine (copy_any A n c xs w HN.out hr (by omega)).mono ?_
    rintro e w' ⟨A', c', rfl, ho, hbl⟩
    go_wp2
    go_ret
    exact ⟨A', c', rfl, ho, hbl⟩
  · have hmn : min k n = k := by omega
    have HK := Lib.hid hmn
    rw [hmn]
    clear hmn
    go_enter Tryz.func42, Tryz.ntmps42
    go_wp2_with fail
    refine (copy_any A k c (xs.take k) w (by rw [HL.out, HK.out]) (hr.take k) (by omega)).mono ?_
    rintro e w' ⟨A', c', rfl, ho, hbl⟩
    go_wp2
    go_ret
    exact ⟨A', c', rfl, ho, hbl⟩

end Go.Proofs.YtpjlnpnadkbakaaGreat

/-
  What package span's Pack makes of bytes; the document's example, as every statement of chapter 4 asks it. Contracts over the program.
-/
import Derived.Test.YtheecfgehfhimaaVintPut
import Derived.Test.YtheecfgehfhimaaCopy
import Derived.Test.YtheecfgehfhimaaKeep
namespace Go.Proofs.Ytheecfgehfhimaa
open Go.RowKit

set_option maxHeartbeats 400000 in
theorem pack_any (A : Option Addr) (n c : Nat) (xs : List Int) (w : World) (hn : xs.length = n) (hr : Rd .u8 w A xs) (hb : n ≤ 140737488351232) :
    Calls Try.prog 8 #[.slice A n c] w fun e w' => ∃ A' c', e = .returned (.slice A' ((putL n).length + n) c') ∧ Own .u8 5 w' w.heap.size (.slice A' ((putL n).length + n) c') (putL n ++ xs) ∧ Below w.heap.size w w' := by
  have hl := putL_len n
  have hput := put_own (n : Int) w
  obtain ⟨q, hq⟩ : ∃ q, putL (n : Int) = q := ⟨_, rfl⟩
  rw [hq] at hl hput ⊢
  have HP := Lib.hid hput
  clear hq hput
  go_enter Try.func8, Try.ntmps8
  go_wp2_with fail
  refine HP.out.mono ?_
  rintro e w1 ⟨P, cp, rfl, hp, hb1⟩
  go_wp2_with (at_builtin; refine wpList_app _ .u8 rfl (.tmp 5) (.tmp 6) 22 rfl 5 (.int .u8 0) 1 Try.underlying22 info_byte rfl w.heap.size (.slice P q.length cp) q rfl hp A n c rfl xs hn (hr.later hb1) (by unfold maxLen; omega) (by omega) hb1.size ?_; intro A' c' w' ho hg)
  go_ret
  exact ⟨A', c', rfl, ho, hb1.trans (grown_below hg hb1.size (fun g hg => (hp.lt g hg).1))⟩

set_option maxHeartbeats 400000 in
theorem wakes_any (w : World) : Calls Try.prog 17 #[] w fun e w' => e = .returned (.bool true) ∧ Below w.heap.size w w' := by
  go_enter Try.func17, Try.ntmps17
  go_wp2_with fail
  refine (pack_any none 0 0 [] w rfl (.inl rfl) (by omega)).mono ?_
  rw [show putL ((0 : Nat) : Int) = [0] from by decide]
  rintro e w1 ⟨A, c, rfl, ho, hb⟩
  have h3 : Rd .u8 (w1.alloc (.cells #[.int .u8 0] 5)) (some ⟨w1.heap.size, 0, none⟩) [0] := by
    have := Rd.new w1 [0] 5
    simpa [bts] using this
  have H3 := Lib.hid h3
  have HO := Lib.hid ho
  have HB := Lib.hid hb
  clear h3 ho hb
  go_wp2_with fail
  refine (same_true [0] rfl rfl (HO.out.rd.alloc _) H3.out (by simp [maxLen])).mono ?_
  rintro e w' ⟨rfl, k, rfl⟩
  go_wp2_with fail
  go_ret
  exact ⟨rfl, below_drewN' (HB.out.alloc HB.out.size _) _⟩
end Go.Proofs.Ytheecfgehfhimaa

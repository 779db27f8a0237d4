/-
  What package span's Pack makes of bytes; a contract over the program.
-/
import Derived.Test.YtbjneoeiognahaaVintPut
import Derived.Test.YtbjneoeiognahaaBase
namespace Go.Proofs.Ytbjneoeiognahaa
open Go.RowKit

set_option maxRecDepth 10000 in
set_option maxHeartbeats 400000 in
theorem pack_any (A : Option Addr) (n c : Nat) (xs : List Int) (w : World) (hn : xs.length = n) (hr : Rd .u8 w A xs) (hb : n ≤ 140737488351232) :
    Calls Try.prog 105 #[.slice A n c] w fun e w' => ∃ A' c', e = .returned (.slice A' ((putL n).length + n) c') ∧ Own .u8 5 w' w.heap.size (.slice A' ((putL n).length + n) c') (putL n ++ xs) ∧ Below w.heap.size w w' := by
  have hl := putL_len n
  have hput := put_own (n : Int) w
  obtain ⟨q, hq⟩ : ∃ q, putL (n : Int) = q := ⟨_, rfl⟩
  rw [hq] at hl hput ⊢
  have HP := Lib.hid hput
  clear hq hput
  go_enter Try.func105, Try.ntmps105
  go_wp2_with fail
  refine HP.out.mono ?_
  rintro e w1 ⟨P, cp, rfl, hp, hb1⟩
  go_wp2_with (at_builtin; refine wpList_app _ .u8 rfl (.tmp 5) (.tmp 6) 23 rfl 5 (.int .u8 0) 1 Try.underlying23 info_byte rfl w.heap.size (.slice P q.length cp) q rfl hp A n c rfl xs hn (hr.later hb1) (by unfold maxLen; omega) (by omega) hb1.size ?_; intro A' c' w' ho hg)
  go_ret
  exact ⟨A', c', rfl, ho, hb1.trans (grown_below hg hb1.size (fun g hg => (hp.lt g hg).1))⟩
end Go.Proofs.Ytbjneoeiognahaa

/-
  The walk of VintTells.
-/
import Derived.Test.YtlmndmcjkkikpaaWakes
import Derived.Test.YtlmndmcjkkikpaaVintN
import Derived.Test.YtlmndmcjkkikpaaVintTake
import Derived.Test.YtlmndmcjkkikpaaRefTake
import Derived.Test.YtlmndmcjkkikpaaLend
namespace Go.Proofs.Ytlmndmcjkkikpaa
open Go.RowKit

theorem small_len (n : Int) : (putL n).length ≤ maxLen := by have := putL_len n; unfold maxLen; omega

set_option maxHeartbeats 2000000 in
theorem vintTells_raw (a0 a1 : Int) (A : Option Addr) (n c : Nat) (xs : List Int) (a3 : Int) (w : World) (h1 : -9223372036854775808 ≤ a0) (h2 : a0 ≤ 9223372036854775807) (ha : ArgI .u8 1 w A n c xs) :
    Calls Try.prog 5 #[.int .i64 a0, .int .i64 a1, .slice A n c, .int .u8 a3, .bool true] w fun e w' => e = .returned (.bool true) ∧ Below w.heap.size w w' := by
  have HA := Lib.hid ha
  have hlen := ha.reach
  have hle := ha.le
  clear ha
  go_enter Try.func5, Try.ntmps5
  go_wp2_with fail
  refine (n_any a0 a1 w h1 h2).mono ?_
  rintro e w1 ⟨x, _, rfl, hb1⟩
  clear h1 h2
  go_wp2_with fail
  refine (put_own x w1).mono ?_
  rintro e w2 ⟨P, cp, rfl, hp, hb2⟩
  go_wp2_with fail
  refine (refPut_own x w2).mono ?_
  rintro e w3 ⟨R, cr, rfl, hr, hb3⟩
  go_wp2_with fail
  refine (same_true (putL x) rfl rfl (hp.rd.later hb3) hr.rd (small_len x)).mono ?_
  rintro e w4 ⟨rfl, k4, rfl⟩
  have hb4 : Below w.heap.size w (w3.drewN k4) := below_drewN' ((hb1.trans (hb2.mono hb1.size)).trans (hb3.mono (Nat.le_trans hb1.size hb2.size))) k4
  have HB4 := Lib.hid hb4
  have HP := Lib.hid hp
  have HR := Lib.hid hr
  clear hb1 hb2 hb3 hb4 hp hr
  go_wp2_with (first
    | (go_at_call 12; refine (size_any _ _).mono ?_; rintro e w' ⟨rfl, rfl⟩)
    | (go_at_call 17; refine (refSize_any _ _).mono ?_; rintro e w' ⟨rfl, rfl⟩)
    | (go_at_call 18; refine (zig_any _ _).mono ?_; rintro e w' ⟨rfl, rfl⟩)
    | (go_at_call 19; refine (refZig_any _ _).mono ?_; rintro e w' ⟨rfl, rfl⟩)
    | (go_at_call 20; refine (zag_any _ _).mono ?_; rintro e w' ⟨rfl, rfl⟩)
    | (go_at_call 21; refine (refZag_any _ _).mono ?_; rintro e w' ⟨rfl, rfl⟩))
  have hrd : Rd .u8 (w3.drewN k4) A xs := HA.out.rd.later HB4.out
  refine (lend_any A n c xs _ HA.out.len hrd (by omega)).mono ?_
  rintro e w5 ⟨L, rfl, hl5, hb5⟩
  go_wp2_with fail
  have hL : Rd .u8 w5 L xs := by
    have := hl5.take xs.length
    simpa using this
  refine (take_any L n (n + 3) xs w5 HA.out.len (by omega) hL (fun y hy => wf_u8 (HA.out.wf y hy))).mono ?_
  rintro e w6 ⟨rfl, rfl⟩
  go_wp2_with fail
  have hrd5 : Rd .u8 w5 A xs := hrd.later hb5
  refine (refTake_any A n c xs w5 HA.out.len hrd5 (fun y hy => wf_u8 (HA.out.wf y hy))).mono ?_
  rintro e w6 ⟨rfl, rfl⟩
  go_wp2_with fail
  refine (intact_any L A n c xs w5 HA.out.len hl5 hrd5 (by omega)).mono ?_
  rintro e w6 ⟨rfl, k6, rfl⟩
  go_wp2_with fail
  refine (wakes_any _).mono ?_
  rintro e w7 ⟨rfl, hb7⟩
  go_wp2_with fail
  go_ret
  have hb6 : Below w.heap.size w (w5.drewN k6) := below_drewN' (HB4.out.trans (hb5.mono HB4.out.size)) k6
  exact ⟨rfl, hb6.trans (hb7.mono hb6.size)⟩
set_option maxHeartbeats 2000000 in
theorem vintTells_put (a0 a1 : Int) (A : Option Addr) (n c : Nat) (xs : List Int) (a3 : Int) (w : World) (h1 : -9223372036854775808 ≤ a0) (h2 : a0 ≤ 9223372036854775807) (ha : ArgI .u8 1 w A n c xs) (h3 : 0 ≤ a3 ∧ a3 < 256) :
    Calls Try.prog 5 #[.int .i64 a0, .int .i64 a1, .slice A n c, .int .u8 a3, .bool false] w fun e w' => e = .returned (.bool true) ∧ Below w.heap.size w w' := by
  have HA := Lib.hid ha
  have hlen := ha.reach
  have hle := ha.le
  clear ha
  go_enter Try.func5, Try.ntmps5
  go_wp2_with fail
  refine (n_any a0 a1 w h1 h2).mono ?_
  rintro e w1 ⟨x, _, rfl, hb1⟩
  clear h1 h2
  go_wp2_with fail
  refine (put_own x w1).mono ?_
  rintro e w2 ⟨P, cp, rfl, hp, hb2⟩
  go_wp2_with fail
  refine (refPut_own x w2).mono ?_
  rintro e w3 ⟨R, cr, rfl, hr, hb3⟩
  go_wp2_with fail
  refine (same_true (putL x) rfl rfl (hp.rd.later hb3) hr.rd (small_len x)).mono ?_
  rintro e w4 ⟨rfl, k4, rfl⟩
  have hb4 : Below w.heap.size w (w3.drewN k4) := below_drewN' ((hb1.trans (hb2.mono hb1.size)).trans (hb3.mono (Nat.le_trans hb1.size hb2.size))) k4
  have HB4 := Lib.hid hb4
  have HP := Lib.hid hp
  have HR := Lib.hid hr
  have HB3 := Lib.hid hb3
  clear hb1 hb2 hb3 hb4 hp hr
  go_wp2_with (first
    | (go_at_call 12; refine (size_any _ _).mono ?_; rintro e w' ⟨rfl, rfl⟩)
    | (go_at_call 17; refine (refSize_any _ _).mono ?_; rintro e w' ⟨rfl, rfl⟩)
    | (go_at_call 18; refine (zig_any _ _).mono ?_; rintro e w' ⟨rfl, rfl⟩)
    | (go_at_call 19; refine (refZig_any _ _).mono ?_; rintro e w' ⟨rfl, rfl⟩)
    | (go_at_call 20; refine (zag_any _ _).mono ?_; rintro e w' ⟨rfl, rfl⟩)
    | (go_at_call 21; refine (refZag_any _ _).mono ?_; rintro e w' ⟨rfl, rfl⟩))
  have hB4 := HB4.out.size
  refine (copy_any P (putL x).length cp (putL x) _ rfl ((HP.out.rd.later HB3.out).drewN _) (by have := putL_len x; omega)).mono ?_
  rintro e w5 ⟨C, cc, rfl, hc, hb5⟩
  go_wp2_with (at_builtin; refine wpList_app _ .u8 rfl (.tmp 53) (.tmp 55) 24 rfl 5 (.int .u8 0) 1 Try.underlying24 info_byte rfl (w3.drewN k4).heap.size (.slice C (putL x).length cc) (putL x) rfl (hc.alloc _) _ _ _ rfl [a3] rfl (rd_one _ _ _ _) (by have := putL_len x; unfold maxLen; omega) (by have := putL_len x; omega) (by have := hb5.size; simp only [World.size_alloc]; omega) ?_; intro D dd w6 hd hg6)
  have hb6 : Below (w3.drewN k4).heap.size (w3.drewN k4) w6 := (hb5.alloc hb5.size _).grown hg6 (by have := hb5.size; simp only [World.size_alloc]; omega) (fun g hg => (hc.lt g hg).1)
  clear hg6
  have hrd6 : Rd .u8 w6 A xs := (HA.out.rd.later HB4.out).later hb6
  refine (cut_any A n c 3 xs w6 HA.out.len hle hrd6 (by omega) (by omega) (by omega)).mono ?_
  rintro e w7 ⟨E, ce, rfl, he, hb7⟩
  obtain ⟨zs, hzs⟩ : ∃ zs, xs.take (Int.toNat 3) = zs := ⟨_, rfl⟩
  rw [hzs] at he ⊢
  have hz3 : zs.length ≤ 3 := by rw [← hzs]; simp; omega
  have hzb : ∀ y ∈ zs, 0 ≤ y ∧ y < 256 := fun y hy => wf_u8 (HA.out.wf y (by rw [← hzs] at hy; exact List.mem_of_mem_take hy))
  have HZB := Lib.hid hzb
  clear hzs hzb
  have hd7 := hd.later hb7
  clear hd
  go_wp2_with (at_builtin; refine wpList_app _ .u8 rfl (.tmp 56) (.tmp 58) 24 rfl 5 (.int .u8 0) 1 Try.underlying24 info_byte rfl (w3.drewN k4).heap.size (.slice D ((putL x).length + 1) dd) (putL x ++ [a3]) rfl hd7 _ _ _ rfl zs rfl he.rd (by have := putL_len x; simp only [List.length_append, List.length_singleton]; unfold maxLen; omega) (by have := putL_len x; simp only [List.length_append, List.length_singleton]; omega) (by have := hb6.size; have := hb7.size; omega) ?_; intro F fc w8 hf hg8)
  have hb8 : Below (w3.drewN k4).heap.size (w3.drewN k4) w8 := (hb6.trans (hb7.mono hb6.size)).grown hg8 (Nat.le_trans hb6.size hb7.size) (fun g hg => (hd7.lt g hg).1)
  clear hg8
  obtain ⟨N, hN⟩ : ∃ N, (putL x).length + 1 + zs.length = N := ⟨_, rfl⟩
  obtain ⟨ys, hys⟩ : ∃ ys, putL x ++ [a3] ++ zs = ys := ⟨_, rfl⟩
  rw [hN]
  have hyl : ys.length = N := by rw [← hys, ← hN]; simp; omega
  have hN12 : N ≤ 12 := by have := putL_len x; omega
  have hyb : ∀ y ∈ ys, 0 ≤ y ∧ y < 256 := fun y hy => by
    rw [← hys] at hy
    simp only [List.mem_append, List.mem_singleton] at hy
    rcases hy with (hy | hy) | hy
    · exact putL_bytes x y hy
    · rw [hy]; exact h3
    · exact HZB.out y hy
  have hrd8 : Rd .u8 w8 F ys := by rw [← hys]; exact hf.rd
  have HYL := Lib.hid hyl
  have HYB := Lib.hid hyb
  clear hN hys hyl hyb hf hd7 he hc
  refine (lend_any F N fc ys w8 HYL.out hrd8 (by omega)).mono ?_
  rintro e w9 ⟨L, rfl, hl9, hb9⟩
  go_wp2_with fail
  have hL : Rd .u8 w9 L ys := by
    have := hl9.take ys.length
    simpa using this
  refine (take_any L N (N + 3) ys w9 HYL.out (by omega) hL HYB.out).mono ?_
  rintro e w6 ⟨rfl, rfl⟩
  go_wp2_with fail
  have hrd9 : Rd .u8 w9 F ys := hrd8.later hb9
  refine (refTake_any F N fc ys w9 HYL.out hrd9 HYB.out).mono ?_
  rintro e w6 ⟨rfl, rfl⟩
  go_wp2_with fail
  refine (intact_any L F N fc ys w9 HYL.out hl9 hrd9 (by omega)).mono ?_
  rintro e w6 ⟨rfl, k6, rfl⟩
  go_wp2_with fail
  refine (wakes_any _).mono ?_
  rintro e w10 ⟨rfl, hb10⟩
  go_wp2_with fail
  go_ret
  have hb8' := HB4.out.trans (hb8.mono hB4)
  have hb9' := below_drewN' (hb8'.trans (hb9.mono hb8'.size)) k6
  exact ⟨rfl, hb9'.trans (hb10.mono hb9'.size)⟩

theorem vintTells_walk (a0 a1 : Int) (A : Option Addr) (n c : Nat) (xs : List Int) (a3 : Int) (a4 : Bool) (w : World) (h0 : (Lit.int .i64 a0).wf = true) (_ : (Lit.int .i64 a1).wf = true) (ha : ArgI .u8 1 w A n c xs) (h3 : (Lit.int .u8 a3).wf = true) :
    Calls Try.prog 5 #[.int .i64 a0, .int .i64 a1, .slice A n c, .int .u8 a3, .bool a4] w fun e w' => e = .returned (.bool true) ∧ Below w.heap.size w w' := by
  have h := wf_i64 h0
  cases a4
  · exact vintTells_put a0 a1 A n c xs a3 w h.1 h.2 ha (wf_u8 h3)
  · exact vintTells_raw a0 a1 A n c xs a3 w h.1 h.2 ha
end Go.Proofs.Ytlmndmcjkkikpaa

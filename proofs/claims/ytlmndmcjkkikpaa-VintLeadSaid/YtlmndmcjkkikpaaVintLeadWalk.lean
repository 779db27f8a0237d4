/-
  The walk of VintLead.
-/
import Derived.Test.YtlmndmcjkkikpaaWakes
import Derived.Test.YtlmndmcjkkikpaaVintTake
import Derived.Test.YtlmndmcjkkikpaaCopy
import Derived.Deep.RegionHeld3
import Derived.Deep.DrawnRows
namespace Go.Proofs.Ytlmndmcjkkikpaa
open Go.RowKit
attribute [local go_sem ↓] Go.wp_at_zero Go.wp_at_succ

set_option maxHeartbeats 400000 in
theorem vintLead_1_yes (A : Option Addr) (n c : Nat) (xs : List Int) (x0 : Int) (w : World) (ha : ArgI .u8 1 w A n c xs) (hx : 0 ≤ x0 ∧ x0 < 256) (zs : List Int) (hzs : xs.take (Int.toNat 12) = zs) (hq : x0 / 64 = 0) (N : Nat) (hyl : (x0 :: zs).length = N) (hs : (1 : Int) ≤ N) ( m0 : Int)
    (hnum : numV (x0 :: zs) 1 = m0) (hm : x0 % 64 = m0) (_b0 : 0 ≤ m0 ∧ m0 < 64) (hz : szV m0 = 1) (_hle2 : 0 ≤ m0) :
    Calls Try.prog 8 #[.int .u8 x0, .slice A n c] w fun e w' => e = .returned (.bool true) ∧ Below w.heap.size w w' := by
  have HA := Lib.hid ha
  have hlen := ha.reach
  have hle := ha.le
  have hz12 : zs.length ≤ 12 := by rw [← hzs]; simp; omega
  have hyb : ∀ y ∈ x0 :: zs, 0 ≤ y ∧ y < 256 := fun y hy => by
    rcases List.mem_cons.1 hy with rfl | hy
    · exact hx
    · exact wf_u8 (ha.wf y (by rw [← hzs] at hy; exact List.mem_of_mem_take hy))
  have HZ := Lib.hid hzs
  have HYB := Lib.hid hyb
  have HYL := Lib.hid hyl
  obtain ⟨hx0, hx1⟩ := hx
  have hN1 : 1 ≤ N := by rw [← hyl]; simp
  clear hzs hyb hyl ha
  have hlead : leadV x0 = 1 := by unfold leadV; (repeat' split) <;> omega
  have hd1 : decide (m0 ≤ 4611686018427387903) = true := by simp; omega
  have hd2 : (m0 == m0) = true := by simp
  have HNUM := Lib.hid hnum
  have HLEAD := Lib.hid hlead
  have HZZ := Lib.hid hz
  clear hnum hlead hz
  go_enter Try.func8, Try.ntmps8
  go_wp2_with fail
  refine (cut_any A n c 12 xs _ HA.out.len hle (HA.out.rd.alloc _) (by omega) (by omega) (by omega)).mono ?_
  rintro e w1 ⟨E, ce, rfl, he, hb1⟩
  rw [HZ.out] at he ⊢
  have hlit : Own .u8 5 w1 w.heap.size (.slice (some ⟨w.heap.size, 0, none⟩) 1 1) [x0] := (Own.new w [x0] 5 (by simp [maxLen])).later hb1
  go_wp2_with (at_builtin; refine wpList_app _ .u8 rfl (.tmp 15) (.tmp 17) 24 rfl 5 (.int .u8 0) 1 Try.underlying24 info_byte rfl w.heap.size (.slice (some ⟨w.heap.size, 0, none⟩) 1 1) [x0] rfl hlit _ _ _ rfl zs rfl he.rd (by simp only [List.length_singleton]; unfold maxLen; omega) (by simp only [List.length_singleton]; omega) (by have := hb1.size; simp only [World.size_alloc] at this; omega) ?_; intro F fc w2 hf hg2)
  have hb2 : Below w.heap.size w w2 := (((Below.refl w.heap.size w).alloc (Nat.le_refl _) _).trans (hb1.mono (by simp))).grown hg2 (by have := hb1.size; simp only [World.size_alloc] at this; omega) (fun g hg => (hlit.lt g hg).1)
  clear hg2 hlit he hb1
  change Own .u8 5 w2 w.heap.size (.slice F (1 + zs.length) fc) (x0 :: zs) at hf
  rw [show 1 + zs.length = N from by have := HYL.out; simp at this; omega] at hf ⊢
  refine (take_any F N fc (x0 :: zs) w2 HYL.out hf.cap hf.rd HYB.out).mono ?_
  rw [takeV_yes (xs := x0 :: zs) (s := 1) (m := m0) (show leadV x0 = 1 from HLEAD.out) (by rw [HYL.out]; omega) (by rw [HYL.out]; omega) HNUM.out HZZ.out]
  rintro e w' ⟨rfl, rfl⟩
  obtain ⟨g, rfl, hBg, hgl, hl, hcell, hfr⟩ := hf.block (by omega)
  have c0 := hcell 0 (by omega)
  rw [show (x0 :: zs).getD 0 0 = x0 from rfl] at c0
  have hcap := hf.cap
  have hcap2 : (1 : Int) ≤ (fc : Int) := by omega
  have hput : putL m0 = (x0 :: zs).take 1 := by
    have := putL_numV (xs := x0 :: zs) (fun i hi => HYB.out _ (by rw [List.getD_eq_getElem?_getD, List.getElem?_eq_getElem hi]; exact List.getElem_mem hi)) (show leadV x0 = 1 from HLEAD.out) (by simp) (by rw [HYL.out]; omega) (by rw [HNUM.out]; exact HZZ.out)
    rw [HNUM.out] at this
    exact this
  have hlk : (putL m0).length = 1 := by rw [hput, List.length_take, HYL.out]; omega
  have hrt : ∀ o, Rd .u8 (w2.alloc o).drew (some ⟨g, 0, none⟩) (putL m0) := fun o => by rw [hput]; exact ((hf.rd.take 1).alloc o).drew
  have HLK := Lib.hid hlk
  have HRT := Lib.hid hrt
  clear hput hlk hrt
  have HF := Lib.hid hf
  clear hcell hfr hf
  go_wp2_with fail
  all_goals refine wp_loop_rounds 1 ?_
  all_goals (rw [rounds_succ]; go_wp2_with fail)
  all_goals
    go_region_held3 (fun _ => True) (trivial) (first
      | (go_at_call 11; refine (put_own _ _).mono ?_; rintro e w' ⟨P, cp, rfl, hp, hb⟩)
      | (go_at_call 15; refine (same_true (putL _) rfl HLK.out hp.rd ((HRT.out _).later hb) (by have := putL_len m0; unfold maxLen; omega)).mono ?_; rintro e w5 ⟨rfl, k5, rfl⟩)
      | (go_at_call 10; refine (wakes_any _).mono ?_; rintro e w3 ⟨rfl, hb3⟩))
    all_goals go_wp2
    all_goals go_ret
    all_goals
      refine ⟨rfl, ?_⟩
      have hb4 := ((hb2.alloc hb2.size (Obj.cells #[.int .i64 0, .int .i64 0, .int .i64 64, .int .i64 0, .int .i64 16384, .int .i64 0, .int .i64 0, .int .i64 0, .int .i64 1073741824] 3)).drew).trans (hb.mono (hb2.alloc hb2.size _).drew.size)
      exact (below_drewN' hb4 k5).trans (hb3.mono (below_drewN' hb4 k5).size)


set_option maxHeartbeats 1000000 in
theorem vintLead_2_short (A : Option Addr) (n c : Nat) (xs : List Int) (x0 : Int) (w : World) (ha : ArgI .u8 1 w A n c xs) (hx : 0 ≤ x0 ∧ x0 < 256) (zs : List Int) (hzs : xs.take (Int.toNat 12) = zs) (hq : x0 / 64 = 1) (N : Nat) (hyl : (x0 :: zs).length = N) (hs : (N : Int) < 2) :
    Calls Try.prog 8 #[.int .u8 x0, .slice A n c] w fun e w' => e = .returned (.bool true) ∧ Below w.heap.size w w' := by
  have HA := Lib.hid ha
  have hlen := ha.reach
  have hle := ha.le
  have hz12 : zs.length ≤ 12 := by rw [← hzs]; simp; omega
  have hyb : ∀ y ∈ x0 :: zs, 0 ≤ y ∧ y < 256 := fun y hy => by
    rcases List.mem_cons.1 hy with rfl | hy
    · exact hx
    · exact wf_u8 (ha.wf y (by rw [← hzs] at hy; exact List.mem_of_mem_take hy))
  have HZ := Lib.hid hzs
  have HYB := Lib.hid hyb
  have HYL := Lib.hid hyl
  obtain ⟨hx0, hx1⟩ := hx
  have hN1 : 1 ≤ N := by rw [← hyl]; simp
  clear hzs hyb hyl ha
  go_enter Try.func8, Try.ntmps8
  go_wp2_with fail
  refine (cut_any A n c 12 xs _ HA.out.len hle (HA.out.rd.alloc _) (by omega) (by omega) (by omega)).mono ?_
  rintro e w1 ⟨E, ce, rfl, he, hb1⟩
  rw [HZ.out] at he ⊢
  have hlit : Own .u8 5 w1 w.heap.size (.slice (some ⟨w.heap.size, 0, none⟩) 1 1) [x0] := (Own.new w [x0] 5 (by simp [maxLen])).later hb1
  go_wp2_with (at_builtin; refine wpList_app _ .u8 rfl (.tmp 15) (.tmp 17) 24 rfl 5 (.int .u8 0) 1 Try.underlying24 info_byte rfl w.heap.size (.slice (some ⟨w.heap.size, 0, none⟩) 1 1) [x0] rfl hlit _ _ _ rfl zs rfl he.rd (by simp only [List.length_singleton]; unfold maxLen; omega) (by simp only [List.length_singleton]; omega) (by have := hb1.size; simp only [World.size_alloc] at this; omega) ?_; intro F fc w2 hf hg2)
  have hb2 : Below w.heap.size w w2 := (((Below.refl w.heap.size w).alloc (Nat.le_refl _) _).trans (hb1.mono (by simp))).grown hg2 (by have := hb1.size; simp only [World.size_alloc] at this; omega) (fun g hg => (hlit.lt g hg).1)
  clear hg2 hlit he hb1
  change Own .u8 5 w2 w.heap.size (.slice F (1 + zs.length) fc) (x0 :: zs) at hf
  rw [show 1 + zs.length = N from by have := HYL.out; simp at this; omega] at hf ⊢
  refine (take_any F N fc (x0 :: zs) w2 HYL.out hf.cap hf.rd HYB.out).mono ?_
  rw [takeV_short (xs := x0 :: zs) (by rw [HYL.out]; show N < leadV x0; unfold leadV; (repeat' split) <;> omega)]
  rintro e w' ⟨rfl, rfl⟩
  go_wp2_with fail
  refine (wakes_any _).mono ?_
  rintro e w3 ⟨rfl, hb3⟩
  go_wp2_with fail
  go_ret
  exact ⟨rfl, hb2.trans (hb3.mono hb2.size)⟩

set_option maxHeartbeats 400000 in
theorem vintLead_2_no (A : Option Addr) (n c : Nat) (xs : List Int) (x0 : Int) (w : World) (ha : ArgI .u8 1 w A n c xs) (hx : 0 ≤ x0 ∧ x0 < 256) (zs : List Int) (hzs : xs.take (Int.toNat 12) = zs) (hq : x0 / 64 = 1) (N : Nat) (hyl : (x0 :: zs).length = N) (hs : (2 : Int) ≤ N) (x1 m0 m1 : Int) (e1 : (x0 :: zs).getD 1 0 = x1) (_d1 : 0 ≤ x1 ∧ x1 < 256)
    (hnum : numV (x0 :: zs) 2 = m1) (hm : x0 % 64 = m0) (_b0 : 0 ≤ m0 ∧ m0 < 64) (_b1 : 0 ≤ m1 ∧ m1 < 16384) (o1 : m0 * 256 + x1 = m1) (hz : szV m1 ≠ 2) (hle2 : m1 < 64) :
    Calls Try.prog 8 #[.int .u8 x0, .slice A n c] w fun e w' => e = .returned (.bool true) ∧ Below w.heap.size w w' := by
  have HA := Lib.hid ha
  have hlen := ha.reach
  have hle := ha.le
  have hz12 : zs.length ≤ 12 := by rw [← hzs]; simp; omega
  have hyb : ∀ y ∈ x0 :: zs, 0 ≤ y ∧ y < 256 := fun y hy => by
    rcases List.mem_cons.1 hy with rfl | hy
    · exact hx
    · exact wf_u8 (ha.wf y (by rw [← hzs] at hy; exact List.mem_of_mem_take hy))
  have HZ := Lib.hid hzs
  have HYB := Lib.hid hyb
  have HYL := Lib.hid hyl
  obtain ⟨hx0, hx1⟩ := hx
  have hN1 : 1 ≤ N := by rw [← hyl]; simp
  clear hzs hyb hyl ha
  have hlead : leadV x0 = 2 := by unfold leadV; (repeat' split) <;> omega
  have hd1 : decide (m1 ≤ 4611686018427387903) = true := by simp; omega
  have hd2 : (m1 == m1) = true := by simp
  have HNUM := Lib.hid hnum
  have HLEAD := Lib.hid hlead
  have HZZ := Lib.hid hz
  have E1 := Lib.hid e1
  clear hnum hlead hz e1
  go_enter Try.func8, Try.ntmps8
  go_wp2_with fail
  refine (cut_any A n c 12 xs _ HA.out.len hle (HA.out.rd.alloc _) (by omega) (by omega) (by omega)).mono ?_
  rintro e w1 ⟨E, ce, rfl, he, hb1⟩
  rw [HZ.out] at he ⊢
  have hlit : Own .u8 5 w1 w.heap.size (.slice (some ⟨w.heap.size, 0, none⟩) 1 1) [x0] := (Own.new w [x0] 5 (by simp [maxLen])).later hb1
  go_wp2_with (at_builtin; refine wpList_app _ .u8 rfl (.tmp 15) (.tmp 17) 24 rfl 5 (.int .u8 0) 1 Try.underlying24 info_byte rfl w.heap.size (.slice (some ⟨w.heap.size, 0, none⟩) 1 1) [x0] rfl hlit _ _ _ rfl zs rfl he.rd (by simp only [List.length_singleton]; unfold maxLen; omega) (by simp only [List.length_singleton]; omega) (by have := hb1.size; simp only [World.size_alloc] at this; omega) ?_; intro F fc w2 hf hg2)
  have hb2 : Below w.heap.size w w2 := (((Below.refl w.heap.size w).alloc (Nat.le_refl _) _).trans (hb1.mono (by simp))).grown hg2 (by have := hb1.size; simp only [World.size_alloc] at this; omega) (fun g hg => (hlit.lt g hg).1)
  clear hg2 hlit he hb1
  change Own .u8 5 w2 w.heap.size (.slice F (1 + zs.length) fc) (x0 :: zs) at hf
  rw [show 1 + zs.length = N from by have := HYL.out; simp at this; omega] at hf ⊢
  refine (take_any F N fc (x0 :: zs) w2 HYL.out hf.cap hf.rd HYB.out).mono ?_
  rw [takeV_no (xs := x0 :: zs) (s := 2) (m := m1) (show leadV x0 = 2 from HLEAD.out) (by rw [HYL.out]; omega) HNUM.out HZZ.out]
  rintro e w' ⟨rfl, rfl⟩
  obtain ⟨g, rfl, hBg, hgl, hl, hcell, hfr⟩ := hf.block (by omega)
  have c0 := hcell 0 (by omega)
  have c1 := hcell 1 (by omega)
  rw [E1.out] at c1
  rw [show (x0 :: zs).getD 0 0 = x0 from rfl] at c0
  have hcap := hf.cap
  have hcap2 : (2 : Int) ≤ (fc : Int) := by omega
  have hc1 : (fc = 1) = False := by simp; omega
  have HF := Lib.hid hf
  clear hcell hfr hf
  go_wp2_with fail
  refine wp_loop_rounds 2 ?_
  (rw [rounds_succ]; go_wp2_with fail)
  (rw [rounds_succ]; go_wp2_with fail)
  refine (wakes_any _).mono ?_
  rintro e w3 ⟨rfl, hb3⟩
  go_wp2_with fail
  go_ret
  have hb2' := hb2.alloc hb2.size (Obj.cells #[.int .i64 0, .int .i64 0, .int .i64 64, .int .i64 0, .int .i64 16384, .int .i64 0, .int .i64 0, .int .i64 0, .int .i64 1073741824] 3)
  exact ⟨rfl, hb2'.trans (hb3.mono hb2'.size)⟩


set_option maxHeartbeats 400000 in
theorem vintLead_2_yes (A : Option Addr) (n c : Nat) (xs : List Int) (x0 : Int) (w : World) (ha : ArgI .u8 1 w A n c xs) (hx : 0 ≤ x0 ∧ x0 < 256) (zs : List Int) (hzs : xs.take (Int.toNat 12) = zs) (hq : x0 / 64 = 1) (N : Nat) (hyl : (x0 :: zs).length = N) (hs : (2 : Int) ≤ N) (x1 m0 m1 : Int) (e1 : (x0 :: zs).getD 1 0 = x1) (_d1 : 0 ≤ x1 ∧ x1 < 256)
    (hnum : numV (x0 :: zs) 2 = m1) (hm : x0 % 64 = m0) (_b0 : 0 ≤ m0 ∧ m0 < 64) (_b1 : 0 ≤ m1 ∧ m1 < 16384) (o1 : m0 * 256 + x1 = m1) (hz : szV m1 = 2) (hle2 : 64 ≤ m1) :
    Calls Try.prog 8 #[.int .u8 x0, .slice A n c] w fun e w' => e = .returned (.bool true) ∧ Below w.heap.size w w' := by
  have HA := Lib.hid ha
  have hlen := ha.reach
  have hle := ha.le
  have hz12 : zs.length ≤ 12 := by rw [← hzs]; simp; omega
  have hyb : ∀ y ∈ x0 :: zs, 0 ≤ y ∧ y < 256 := fun y hy => by
    rcases List.mem_cons.1 hy with rfl | hy
    · exact hx
    · exact wf_u8 (ha.wf y (by rw [← hzs] at hy; exact List.mem_of_mem_take hy))
  have HZ := Lib.hid hzs
  have HYB := Lib.hid hyb
  have HYL := Lib.hid hyl
  obtain ⟨hx0, hx1⟩ := hx
  have hN1 : 1 ≤ N := by rw [← hyl]; simp
  clear hzs hyb hyl ha
  have hlead : leadV x0 = 2 := by unfold leadV; (repeat' split) <;> omega
  have hd1 : decide (m1 ≤ 4611686018427387903) = true := by simp; omega
  have hd2 : (m1 == m1) = true := by simp
  have HNUM := Lib.hid hnum
  have HLEAD := Lib.hid hlead
  have HZZ := Lib.hid hz
  have E1 := Lib.hid e1
  clear hnum hlead hz e1
  go_enter Try.func8, Try.ntmps8
  go_wp2_with fail
  refine (cut_any A n c 12 xs _ HA.out.len hle (HA.out.rd.alloc _) (by omega) (by omega) (by omega)).mono ?_
  rintro e w1 ⟨E, ce, rfl, he, hb1⟩
  rw [HZ.out] at he ⊢
  have hlit : Own .u8 5 w1 w.heap.size (.slice (some ⟨w.heap.size, 0, none⟩) 1 1) [x0] := (Own.new w [x0] 5 (by simp [maxLen])).later hb1
  go_wp2_with (at_builtin; refine wpList_app _ .u8 rfl (.tmp 15) (.tmp 17) 24 rfl 5 (.int .u8 0) 1 Try.underlying24 info_byte rfl w.heap.size (.slice (some ⟨w.heap.size, 0, none⟩) 1 1) [x0] rfl hlit _ _ _ rfl zs rfl he.rd (by simp only [List.length_singleton]; unfold maxLen; omega) (by simp only [List.length_singleton]; omega) (by have := hb1.size; simp only [World.size_alloc] at this; omega) ?_; intro F fc w2 hf hg2)
  have hb2 : Below w.heap.size w w2 := (((Below.refl w.heap.size w).alloc (Nat.le_refl _) _).trans (hb1.mono (by simp))).grown hg2 (by have := hb1.size; simp only [World.size_alloc] at this; omega) (fun g hg => (hlit.lt g hg).1)
  clear hg2 hlit he hb1
  change Own .u8 5 w2 w.heap.size (.slice F (1 + zs.length) fc) (x0 :: zs) at hf
  rw [show 1 + zs.length = N from by have := HYL.out; simp at this; omega] at hf ⊢
  refine (take_any F N fc (x0 :: zs) w2 HYL.out hf.cap hf.rd HYB.out).mono ?_
  rw [takeV_yes (xs := x0 :: zs) (s := 2) (m := m1) (show leadV x0 = 2 from HLEAD.out) (by rw [HYL.out]; omega) (by rw [HYL.out]; omega) HNUM.out HZZ.out]
  rintro e w' ⟨rfl, rfl⟩
  obtain ⟨g, rfl, hBg, hgl, hl, hcell, hfr⟩ := hf.block (by omega)
  have c0 := hcell 0 (by omega)
  have c1 := hcell 1 (by omega)
  rw [E1.out] at c1
  rw [show (x0 :: zs).getD 0 0 = x0 from rfl] at c0
  have hcap := hf.cap
  have hcap2 : (2 : Int) ≤ (fc : Int) := by omega
  have hc1 : (fc = 1) = False := by simp; omega
  have hput : putL m1 = (x0 :: zs).take 2 := by
    have := putL_numV (xs := x0 :: zs) (fun i hi => HYB.out _ (by rw [List.getD_eq_getElem?_getD, List.getElem?_eq_getElem hi]; exact List.getElem_mem hi)) (show leadV x0 = 2 from HLEAD.out) (by simp) (by rw [HYL.out]; omega) (by rw [HNUM.out]; exact HZZ.out)
    rw [HNUM.out] at this
    exact this
  have hlk : (putL m1).length = 2 := by rw [hput, List.length_take, HYL.out]; omega
  have hrt : ∀ o, Rd .u8 (w2.alloc o).drew (some ⟨g, 0, none⟩) (putL m1) := fun o => by rw [hput]; exact ((hf.rd.take 2).alloc o).drew
  have HLK := Lib.hid hlk
  have HRT := Lib.hid hrt
  clear hput hlk hrt
  have HF := Lib.hid hf
  clear hcell hfr hf
  go_wp2_with fail
  refine wp_loop_rounds 2 ?_
  (rw [rounds_succ]; go_wp2_with fail)
  (rw [rounds_succ]; go_wp2_with fail)
  all_goals
    go_region_held3 (fun _ => True) (trivial) (first
      | (go_at_call 11; refine (put_own _ _).mono ?_; rintro e w' ⟨P, cp, rfl, hp, hb⟩)
      | (go_at_call 15; refine (same_true (putL _) rfl HLK.out hp.rd ((HRT.out _).later hb) (by have := putL_len m1; unfold maxLen; omega)).mono ?_; rintro e w5 ⟨rfl, k5, rfl⟩)
      | (go_at_call 10; refine (wakes_any _).mono ?_; rintro e w3 ⟨rfl, hb3⟩))
    all_goals go_wp2
    all_goals go_ret
    all_goals
      refine ⟨rfl, ?_⟩
      have hb4 := ((hb2.alloc hb2.size (Obj.cells #[.int .i64 0, .int .i64 0, .int .i64 64, .int .i64 0, .int .i64 16384, .int .i64 0, .int .i64 0, .int .i64 0, .int .i64 1073741824] 3)).drew).trans (hb.mono (hb2.alloc hb2.size _).drew.size)
      exact (below_drewN' hb4 k5).trans (hb3.mono (below_drewN' hb4 k5).size)


set_option maxHeartbeats 1000000 in
theorem vintLead_4_short (A : Option Addr) (n c : Nat) (xs : List Int) (x0 : Int) (w : World) (ha : ArgI .u8 1 w A n c xs) (hx : 0 ≤ x0 ∧ x0 < 256) (zs : List Int) (hzs : xs.take (Int.toNat 12) = zs) (hq : x0 / 64 = 2) (N : Nat) (hyl : (x0 :: zs).length = N) (hs : (N : Int) < 4) :
    Calls Try.prog 8 #[.int .u8 x0, .slice A n c] w fun e w' => e = .returned (.bool true) ∧ Below w.heap.size w w' := by
  have HA := Lib.hid ha
  have hlen := ha.reach
  have hle := ha.le
  have hz12 : zs.length ≤ 12 := by rw [← hzs]; simp; omega
  have hyb : ∀ y ∈ x0 :: zs, 0 ≤ y ∧ y < 256 := fun y hy => by
    rcases List.mem_cons.1 hy with rfl | hy
    · exact hx
    · exact wf_u8 (ha.wf y (by rw [← hzs] at hy; exact List.mem_of_mem_take hy))
  have HZ := Lib.hid hzs
  have HYB := Lib.hid hyb
  have HYL := Lib.hid hyl
  obtain ⟨hx0, hx1⟩ := hx
  have hN1 : 1 ≤ N := by rw [← hyl]; simp
  clear hzs hyb hyl ha
  go_enter Try.func8, Try.ntmps8
  go_wp2_with fail
  refine (cut_any A n c 12 xs _ HA.out.len hle (HA.out.rd.alloc _) (by omega) (by omega) (by omega)).mono ?_
  rintro e w1 ⟨E, ce, rfl, he, hb1⟩
  rw [HZ.out] at he ⊢
  have hlit : Own .u8 5 w1 w.heap.size (.slice (some ⟨w.heap.size, 0, none⟩) 1 1) [x0] := (Own.new w [x0] 5 (by simp [maxLen])).later hb1
  go_wp2_with (at_builtin; refine wpList_app _ .u8 rfl (.tmp 15) (.tmp 17) 24 rfl 5 (.int .u8 0) 1 Try.underlying24 info_byte rfl w.heap.size (.slice (some ⟨w.heap.size, 0, none⟩) 1 1) [x0] rfl hlit _ _ _ rfl zs rfl he.rd (by simp only [List.length_singleton]; unfold maxLen; omega) (by simp only [List.length_singleton]; omega) (by have := hb1.size; simp only [World.size_alloc] at this; omega) ?_; intro F fc w2 hf hg2)
  have hb2 : Below w.heap.size w w2 := (((Below.refl w.heap.size w).alloc (Nat.le_refl _) _).trans (hb1.mono (by simp))).grown hg2 (by have := hb1.size; simp only [World.size_alloc] at this; omega) (fun g hg => (hlit.lt g hg).1)
  clear hg2 hlit he hb1
  change Own .u8 5 w2 w.heap.size (.slice F (1 + zs.length) fc) (x0 :: zs) at hf
  rw [show 1 + zs.length = N from by have := HYL.out; simp at this; omega] at hf ⊢
  refine (take_any F N fc (x0 :: zs) w2 HYL.out hf.cap hf.rd HYB.out).mono ?_
  rw [takeV_short (xs := x0 :: zs) (by rw [HYL.out]; show N < leadV x0; unfold leadV; (repeat' split) <;> omega)]
  rintro e w' ⟨rfl, rfl⟩
  go_wp2_with fail
  refine (wakes_any _).mono ?_
  rintro e w3 ⟨rfl, hb3⟩
  go_wp2_with fail
  go_ret
  exact ⟨rfl, hb2.trans (hb3.mono hb2.size)⟩

set_option maxHeartbeats 400000 in
theorem vintLead_4_no (A : Option Addr) (n c : Nat) (xs : List Int) (x0 : Int) (w : World) (ha : ArgI .u8 1 w A n c xs) (hx : 0 ≤ x0 ∧ x0 < 256) (zs : List Int) (hzs : xs.take (Int.toNat 12) = zs) (hq : x0 / 64 = 2) (N : Nat) (hyl : (x0 :: zs).length = N) (hs : (4 : Int) ≤ N) (x1 x2 x3 m0 m1 m2 m3 : Int) (e1 : (x0 :: zs).getD 1 0 = x1) (_d1 : 0 ≤ x1 ∧ x1 < 256) (e2 : (x0 :: zs).getD 2 0 = x2) (_d2 : 0 ≤ x2 ∧ x2 < 256) (e3 : (x0 :: zs).getD 3 0 = x3) (_d3 : 0 ≤ x3 ∧ x3 < 256)
    (hnum : numV (x0 :: zs) 4 = m3) (hm : x0 % 64 = m0) (_b0 : 0 ≤ m0 ∧ m0 < 64) (_b1 : 0 ≤ m1 ∧ m1 < 16384) (_b2 : 0 ≤ m2 ∧ m2 < 4194304) (_b3 : 0 ≤ m3 ∧ m3 < 1073741824) (o1 : m0 * 256 + x1 = m1) (o2 : m1 * 256 + x2 = m2) (o3 : m2 * 256 + x3 = m3) (hz : szV m3 ≠ 4) (hle2 : m3 < 16384) :
    Calls Try.prog 8 #[.int .u8 x0, .slice A n c] w fun e w' => e = .returned (.bool true) ∧ Below w.heap.size w w' := by
  have HA := Lib.hid ha
  have hlen := ha.reach
  have hle := ha.le
  have hz12 : zs.length ≤ 12 := by rw [← hzs]; simp; omega
  have hyb : ∀ y ∈ x0 :: zs, 0 ≤ y ∧ y < 256 := fun y hy => by
    rcases List.mem_cons.1 hy with rfl | hy
    · exact hx
    · exact wf_u8 (ha.wf y (by rw [← hzs] at hy; exact List.mem_of_mem_take hy))
  have HZ := Lib.hid hzs
  have HYB := Lib.hid hyb
  have HYL := Lib.hid hyl
  obtain ⟨hx0, hx1⟩ := hx
  have hN1 : 1 ≤ N := by rw [← hyl]; simp
  clear hzs hyb hyl ha
  have hlead : leadV x0 = 4 := by unfold leadV; (repeat' split) <;> omega
  have hd1 : decide (m3 ≤ 4611686018427387903) = true := by simp; omega
  have hd2 : (m3 == m3) = true := by simp
  have HNUM := Lib.hid hnum
  have HLEAD := Lib.hid hlead
  have HZZ := Lib.hid hz
  have E1 := Lib.hid e1
  have E2 := Lib.hid e2
  have E3 := Lib.hid e3
  clear hnum hlead hz e1 e2 e3
  go_enter Try.func8, Try.ntmps8
  go_wp2_with fail
  refine (cut_any A n c 12 xs _ HA.out.len hle (HA.out.rd.alloc _) (by omega) (by omega) (by omega)).mono ?_
  rintro e w1 ⟨E, ce, rfl, he, hb1⟩
  rw [HZ.out] at he ⊢
  have hlit : Own .u8 5 w1 w.heap.size (.slice (some ⟨w.heap.size, 0, none⟩) 1 1) [x0] := (Own.new w [x0] 5 (by simp [maxLen])).later hb1
  go_wp2_with (at_builtin; refine wpList_app _ .u8 rfl (.tmp 15) (.tmp 17) 24 rfl 5 (.int .u8 0) 1 Try.underlying24 info_byte rfl w.heap.size (.slice (some ⟨w.heap.size, 0, none⟩) 1 1) [x0] rfl hlit _ _ _ rfl zs rfl he.rd (by simp only [List.length_singleton]; unfold maxLen; omega) (by simp only [List.length_singleton]; omega) (by have := hb1.size; simp only [World.size_alloc] at this; omega) ?_; intro F fc w2 hf hg2)
  have hb2 : Below w.heap.size w w2 := (((Below.refl w.heap.size w).alloc (Nat.le_refl _) _).trans (hb1.mono (by simp))).grown hg2 (by have := hb1.size; simp only [World.size_alloc] at this; omega) (fun g hg => (hlit.lt g hg).1)
  clear hg2 hlit he hb1
  change Own .u8 5 w2 w.heap.size (.slice F (1 + zs.length) fc) (x0 :: zs) at hf
  rw [show 1 + zs.length = N from by have := HYL.out; simp at this; omega] at hf ⊢
  refine (take_any F N fc (x0 :: zs) w2 HYL.out hf.cap hf.rd HYB.out).mono ?_
  rw [takeV_no (xs := x0 :: zs) (s := 4) (m := m3) (show leadV x0 = 4 from HLEAD.out) (by rw [HYL.out]; omega) HNUM.out HZZ.out]
  rintro e w' ⟨rfl, rfl⟩
  obtain ⟨g, rfl, hBg, hgl, hl, hcell, hfr⟩ := hf.block (by omega)
  have c0 := hcell 0 (by omega)
  have c1 := hcell 1 (by omega)
  rw [E1.out] at c1
  have c2 := hcell 2 (by omega)
  rw [E2.out] at c2
  have c3 := hcell 3 (by omega)
  rw [E3.out] at c3
  rw [show (x0 :: zs).getD 0 0 = x0 from rfl] at c0
  have hcap := hf.cap
  have hcap2 : (4 : Int) ≤ (fc : Int) := by omega
  have hc1 : (fc = 1) = False := by simp; omega
  have HF := Lib.hid hf
  clear hcell hfr hf
  go_wp2_with fail
  refine wp_loop_rounds 4 ?_
  (rw [rounds_succ]; go_wp2_with fail)
  (rw [rounds_succ]; go_wp2_with fail)
  (rw [rounds_succ]; go_wp2_with fail)
  (rw [rounds_succ]; go_wp2_with fail)
  refine (wakes_any _).mono ?_
  rintro e w3 ⟨rfl, hb3⟩
  go_wp2_with fail
  go_ret
  have hb2' := hb2.alloc hb2.size (Obj.cells #[.int .i64 0, .int .i64 0, .int .i64 64, .int .i64 0, .int .i64 16384, .int .i64 0, .int .i64 0, .int .i64 0, .int .i64 1073741824] 3)
  exact ⟨rfl, hb2'.trans (hb3.mono hb2'.size)⟩


set_option maxHeartbeats 400000 in
theorem vintLead_4_yes (A : Option Addr) (n c : Nat) (xs : List Int) (x0 : Int) (w : World) (ha : ArgI .u8 1 w A n c xs) (hx : 0 ≤ x0 ∧ x0 < 256) (zs : List Int) (hzs : xs.take (Int.toNat 12) = zs) (hq : x0 / 64 = 2) (N : Nat) (hyl : (x0 :: zs).length = N) (hs : (4 : Int) ≤ N) (x1 x2 x3 m0 m1 m2 m3 : Int) (e1 : (x0 :: zs).getD 1 0 = x1) (_d1 : 0 ≤ x1 ∧ x1 < 256) (e2 : (x0 :: zs).getD 2 0 = x2) (_d2 : 0 ≤ x2 ∧ x2 < 256) (e3 : (x0 :: zs).getD 3 0 = x3) (_d3 : 0 ≤ x3 ∧ x3 < 256)
    (hnum : numV (x0 :: zs) 4 = m3) (hm : x0 % 64 = m0) (_b0 : 0 ≤ m0 ∧ m0 < 64) (_b1 : 0 ≤ m1 ∧ m1 < 16384) (_b2 : 0 ≤ m2 ∧ m2 < 4194304) (_b3 : 0 ≤ m3 ∧ m3 < 1073741824) (o1 : m0 * 256 + x1 = m1) (o2 : m1 * 256 + x2 = m2) (o3 : m2 * 256 + x3 = m3) (hz : szV m3 = 4) (hle2 : 16384 ≤ m3) :
    Calls Try.prog 8 #[.int .u8 x0, .slice A n c] w fun e w' => e = .returned (.bool true) ∧ Below w.heap.size w w' := by
  have HA := Lib.hid ha
  have hlen := ha.reach
  have hle := ha.le
  have hz12 : zs.length ≤ 12 := by rw [← hzs]; simp; omega
  have hyb : ∀ y ∈ x0 :: zs, 0 ≤ y ∧ y < 256 := fun y hy => by
    rcases List.mem_cons.1 hy with rfl | hy
    · exact hx
    · exact wf_u8 (ha.wf y (by rw [← hzs] at hy; exact List.mem_of_mem_take hy))
  have HZ := Lib.hid hzs
  have HYB := Lib.hid hyb
  have HYL := Lib.hid hyl
  obtain ⟨hx0, hx1⟩ := hx
  have hN1 : 1 ≤ N := by rw [← hyl]; simp
  clear hzs hyb hyl ha
  have hlead : leadV x0 = 4 := by unfold leadV; (repeat' split) <;> omega
  have hd1 : decide (m3 ≤ 4611686018427387903) = true := by simp; omega
  have hd2 : (m3 == m3) = true := by simp
  have HNUM := Lib.hid hnum
  have HLEAD := Lib.hid hlead
  have HZZ := Lib.hid hz
  have E1 := Lib.hid e1
  have E2 := Lib.hid e2
  have E3 := Lib.hid e3
  clear hnum hlead hz e1 e2 e3
  go_enter Try.func8, Try.ntmps8
  go_wp2_with fail
  refine (cut_any A n c 12 xs _ HA.out.len hle (HA.out.rd.alloc _) (by omega) (by omega) (by omega)).mono ?_
  rintro e w1 ⟨E, ce, rfl, he, hb1⟩
  rw [HZ.out] at he ⊢
  have hlit : Own .u8 5 w1 w.heap.size (.slice (some ⟨w.heap.size, 0, none⟩) 1 1) [x0] := (Own.new w [x0] 5 (by simp [maxLen])).later hb1
  go_wp2_with (at_builtin; refine wpList_app _ .u8 rfl (.tmp 15) (.tmp 17) 24 rfl 5 (.int .u8 0) 1 Try.underlying24 info_byte rfl w.heap.size (.slice (some ⟨w.heap.size, 0, none⟩) 1 1) [x0] rfl hlit _ _ _ rfl zs rfl he.rd (by simp only [List.length_singleton]; unfold maxLen; omega) (by simp only [List.length_singleton]; omega) (by have := hb1.size; simp only [World.size_alloc] at this; omega) ?_; intro F fc w2 hf hg2)
  have hb2 : Below w.heap.size w w2 := (((Below.refl w.heap.size w).alloc (Nat.le_refl _) _).trans (hb1.mono (by simp))).grown hg2 (by have := hb1.size; simp only [World.size_alloc] at this; omega) (fun g hg => (hlit.lt g hg).1)
  clear hg2 hlit he hb1
  change Own .u8 5 w2 w.heap.size (.slice F (1 + zs.length) fc) (x0 :: zs) at hf
  rw [show 1 + zs.length = N from by have := HYL.out; simp at this; omega] at hf ⊢
  refine (take_any F N fc (x0 :: zs) w2 HYL.out hf.cap hf.rd HYB.out).mono ?_
  rw [takeV_yes (xs := x0 :: zs) (s := 4) (m := m3) (show leadV x0 = 4 from HLEAD.out) (by rw [HYL.out]; omega) (by rw [HYL.out]; omega) HNUM.out HZZ.out]
  rintro e w' ⟨rfl, rfl⟩
  obtain ⟨g, rfl, hBg, hgl, hl, hcell, hfr⟩ := hf.block (by omega)
  have c0 := hcell 0 (by omega)
  have c1 := hcell 1 (by omega)
  rw [E1.out] at c1
  have c2 := hcell 2 (by omega)
  rw [E2.out] at c2
  have c3 := hcell 3 (by omega)
  rw [E3.out] at c3
  rw [show (x0 :: zs).getD 0 0 = x0 from rfl] at c0
  have hcap := hf.cap
  have hcap2 : (4 : Int) ≤ (fc : Int) := by omega
  have hc1 : (fc = 1) = False := by simp; omega
  have hput : putL m3 = (x0 :: zs).take 4 := by
    have := putL_numV (xs := x0 :: zs) (fun i hi => HYB.out _ (by rw [List.getD_eq_getElem?_getD, List.getElem?_eq_getElem hi]; exact List.getElem_mem hi)) (show leadV x0 = 4 from HLEAD.out) (by simp) (by rw [HYL.out]; omega) (by rw [HNUM.out]; exact HZZ.out)
    rw [HNUM.out] at this
    exact this
  have hlk : (putL m3).length = 4 := by rw [hput, List.length_take, HYL.out]; omega
  have hrt : ∀ o, Rd .u8 (w2.alloc o).drew (some ⟨g, 0, none⟩) (putL m3) := fun o => by rw [hput]; exact ((hf.rd.take 4).alloc o).drew
  have HLK := Lib.hid hlk
  have HRT := Lib.hid hrt
  clear hput hlk hrt
  have HF := Lib.hid hf
  clear hcell hfr hf
  go_wp2_with fail
  refine wp_loop_rounds 4 ?_
  (rw [rounds_succ]; go_wp2_with fail)
  (rw [rounds_succ]; go_wp2_with fail)
  (rw [rounds_succ]; go_wp2_with fail)
  (rw [rounds_succ]; go_wp2_with fail)
  all_goals
    go_region_held3 (fun _ => True) (trivial) (first
      | (go_at_call 11; refine (put_own _ _).mono ?_; rintro e w' ⟨P, cp, rfl, hp, hb⟩)
      | (go_at_call 15; refine (same_true (putL _) rfl HLK.out hp.rd ((HRT.out _).later hb) (by have := putL_len m3; unfold maxLen; omega)).mono ?_; rintro e w5 ⟨rfl, k5, rfl⟩)
      | (go_at_call 10; refine (wakes_any _).mono ?_; rintro e w3 ⟨rfl, hb3⟩))
    all_goals go_wp2
    all_goals go_ret
    all_goals
      refine ⟨rfl, ?_⟩
      have hb4 := ((hb2.alloc hb2.size (Obj.cells #[.int .i64 0, .int .i64 0, .int .i64 64, .int .i64 0, .int .i64 16384, .int .i64 0, .int .i64 0, .int .i64 0, .int .i64 1073741824] 3)).drew).trans (hb.mono (hb2.alloc hb2.size _).drew.size)
      exact (below_drewN' hb4 k5).trans (hb3.mono (below_drewN' hb4 k5).size)


set_option maxHeartbeats 1000000 in
theorem vintLead_8_short (A : Option Addr) (n c : Nat) (xs : List Int) (x0 : Int) (w : World) (ha : ArgI .u8 1 w A n c xs) (hx : 0 ≤ x0 ∧ x0 < 256) (zs : List Int) (hzs : xs.take (Int.toNat 12) = zs) (hq : x0 / 64 = 3) (N : Nat) (hyl : (x0 :: zs).length = N) (hs : (N : Int) < 8) :
    Calls Try.prog 8 #[.int .u8 x0, .slice A n c] w fun e w' => e = .returned (.bool true) ∧ Below w.heap.size w w' := by
  have HA := Lib.hid ha
  have hlen := ha.reach
  have hle := ha.le
  have hz12 : zs.length ≤ 12 := by rw [← hzs]; simp; omega
  have hyb : ∀ y ∈ x0 :: zs, 0 ≤ y ∧ y < 256 := fun y hy => by
    rcases List.mem_cons.1 hy with rfl | hy
    · exact hx
    · exact wf_u8 (ha.wf y (by rw [← hzs] at hy; exact List.mem_of_mem_take hy))
  have HZ := Lib.hid hzs
  have HYB := Lib.hid hyb
  have HYL := Lib.hid hyl
  obtain ⟨hx0, hx1⟩ := hx
  have hN1 : 1 ≤ N := by rw [← hyl]; simp
  clear hzs hyb hyl ha
  go_enter Try.func8, Try.ntmps8
  go_wp2_with fail
  refine (cut_any A n c 12 xs _ HA.out.len hle (HA.out.rd.alloc _) (by omega) (by omega) (by omega)).mono ?_
  rintro e w1 ⟨E, ce, rfl, he, hb1⟩
  rw [HZ.out] at he ⊢
  have hlit : Own .u8 5 w1 w.heap.size (.slice (some ⟨w.heap.size, 0, none⟩) 1 1) [x0] := (Own.new w [x0] 5 (by simp [maxLen])).later hb1
  go_wp2_with (at_builtin; refine wpList_app _ .u8 rfl (.tmp 15) (.tmp 17) 24 rfl 5 (.int .u8 0) 1 Try.underlying24 info_byte rfl w.heap.size (.slice (some ⟨w.heap.size, 0, none⟩) 1 1) [x0] rfl hlit _ _ _ rfl zs rfl he.rd (by simp only [List.length_singleton]; unfold maxLen; omega) (by simp only [List.length_singleton]; omega) (by have := hb1.size; simp only [World.size_alloc] at this; omega) ?_; intro F fc w2 hf hg2)
  have hb2 : Below w.heap.size w w2 := (((Below.refl w.heap.size w).alloc (Nat.le_refl _) _).trans (hb1.mono (by simp))).grown hg2 (by have := hb1.size; simp only [World.size_alloc] at this; omega) (fun g hg => (hlit.lt g hg).1)
  clear hg2 hlit he hb1
  change Own .u8 5 w2 w.heap.size (.slice F (1 + zs.length) fc) (x0 :: zs) at hf
  rw [show 1 + zs.length = N from by have := HYL.out; simp at this; omega] at hf ⊢
  refine (take_any F N fc (x0 :: zs) w2 HYL.out hf.cap hf.rd HYB.out).mono ?_
  rw [takeV_short (xs := x0 :: zs) (by rw [HYL.out]; show N < leadV x0; unfold leadV; (repeat' split) <;> omega)]
  rintro e w' ⟨rfl, rfl⟩
  go_wp2_with fail
  refine (wakes_any _).mono ?_
  rintro e w3 ⟨rfl, hb3⟩
  go_wp2_with fail
  go_ret
  exact ⟨rfl, hb2.trans (hb3.mono hb2.size)⟩

set_option maxHeartbeats 400000 in
theorem vintLead_8_no (A : Option Addr) (n c : Nat) (xs : List Int) (x0 : Int) (w : World) (ha : ArgI .u8 1 w A n c xs) (hx : 0 ≤ x0 ∧ x0 < 256) (zs : List Int) (hzs : xs.take (Int.toNat 12) = zs) (hq : x0 / 64 = 3) (N : Nat) (hyl : (x0 :: zs).length = N) (hs : (8 : Int) ≤ N) (x1 x2 x3 x4 x5 x6 x7 m0 m1 m2 m3 m4 m5 m6 m7 : Int) (e1 : (x0 :: zs).getD 1 0 = x1) (_d1 : 0 ≤ x1 ∧ x1 < 256) (e2 : (x0 :: zs).getD 2 0 = x2) (_d2 : 0 ≤ x2 ∧ x2 < 256) (e3 : (x0 :: zs).getD 3 0 = x3) (_d3 : 0 ≤ x3 ∧ x3 < 256) (e4 : (x0 :: zs).getD 4 0 = x4) (_d4 : 0 ≤ x4 ∧ x4 < 256) (e5 : (x0 :: zs).getD 5 0 = x5) (_d5 : 0 ≤ x5 ∧ x5 < 256) (e6 : (x0 :: zs).getD 6 0 = x6) (_d6 : 0 ≤ x6 ∧ x6 < 256) (e7 : (x0 :: zs).getD 7 0 = x7) (_d7 : 0 ≤ x7 ∧ x7 < 256)
    (hnum : numV (x0 :: zs) 8 = m7) (hm : x0 % 64 = m0) (_b0 : 0 ≤ m0 ∧ m0 < 64) (_b1 : 0 ≤ m1 ∧ m1 < 16384) (_b2 : 0 ≤ m2 ∧ m2 < 4194304) (_b3 : 0 ≤ m3 ∧ m3 < 1073741824) (_b4 : 0 ≤ m4 ∧ m4 < 274877906944) (_b5 : 0 ≤ m5 ∧ m5 < 70368744177664) (_b6 : 0 ≤ m6 ∧ m6 < 18014398509481984) (_b7 : 0 ≤ m7 ∧ m7 < 4611686018427387904) (o1 : m0 * 256 + x1 = m1) (o2 : m1 * 256 + x2 = m2) (o3 : m2 * 256 + x3 = m3) (o4 : m3 * 256 + x4 = m4) (o5 : m4 * 256 + x5 = m5) (o6 : m5 * 256 + x6 = m6) (o7 : m6 * 256 + x7 = m7) (hz : szV m7 ≠ 8) (hle2 : m7 < 1073741824) :
    Calls Try.prog 8 #[.int .u8 x0, .slice A n c] w fun e w' => e = .returned (.bool true) ∧ Below w.heap.size w w' := by
  have HA := Lib.hid ha
  have hlen := ha.reach
  have hle := ha.le
  have hz12 : zs.length ≤ 12 := by rw [← hzs]; simp; omega
  have hyb : ∀ y ∈ x0 :: zs, 0 ≤ y ∧ y < 256 := fun y hy => by
    rcases List.mem_cons.1 hy with rfl | hy
    · exact hx
    · exact wf_u8 (ha.wf y (by rw [← hzs] at hy; exact List.mem_of_mem_take hy))
  have HZ := Lib.hid hzs
  have HYB := Lib.hid hyb
  have HYL := Lib.hid hyl
  obtain ⟨hx0, hx1⟩ := hx
  have hN1 : 1 ≤ N := by rw [← hyl]; simp
  clear hzs hyb hyl ha
  have hlead : leadV x0 = 8 := by unfold leadV; (repeat' split) <;> omega
  have hd1 : decide (m7 ≤ 4611686018427387903) = true := by simp; omega
  have hd2 : (m7 == m7) = true := by simp
  have HNUM := Lib.hid hnum
  have HLEAD := Lib.hid hlead
  have HZZ := Lib.hid hz
  have E1 := Lib.hid e1
  have E2 := Lib.hid e2
  have E3 := Lib.hid e3
  have E4 := Lib.hid e4
  have E5 := Lib.hid e5
  have E6 := Lib.hid e6
  have E7 := Lib.hid e7
  clear hnum hlead hz e1 e2 e3 e4 e5 e6 e7
  go_enter Try.func8, Try.ntmps8
  go_wp2_with fail
  refine (cut_any A n c 12 xs _ HA.out.len hle (HA.out.rd.alloc _) (by omega) (by omega) (by omega)).mono ?_
  rintro e w1 ⟨E, ce, rfl, he, hb1⟩
  rw [HZ.out] at he ⊢
  have hlit : Own .u8 5 w1 w.heap.size (.slice (some ⟨w.heap.size, 0, none⟩) 1 1) [x0] := (Own.new w [x0] 5 (by simp [maxLen])).later hb1
  go_wp2_with (at_builtin; refine wpList_app _ .u8 rfl (.tmp 15) (.tmp 17) 24 rfl 5 (.int .u8 0) 1 Try.underlying24 info_byte rfl w.heap.size (.slice (some ⟨w.heap.size, 0, none⟩) 1 1) [x0] rfl hlit _ _ _ rfl zs rfl he.rd (by simp only [List.length_singleton]; unfold maxLen; omega) (by simp only [List.length_singleton]; omega) (by have := hb1.size; simp only [World.size_alloc] at this; omega) ?_; intro F fc w2 hf hg2)
  have hb2 : Below w.heap.size w w2 := (((Below.refl w.heap.size w).alloc (Nat.le_refl _) _).trans (hb1.mono (by simp))).grown hg2 (by have := hb1.size; simp only [World.size_alloc] at this; omega) (fun g hg => (hlit.lt g hg).1)
  clear hg2 hlit he hb1
  change Own .u8 5 w2 w.heap.size (.slice F (1 + zs.length) fc) (x0 :: zs) at hf
  rw [show 1 + zs.length = N from by have := HYL.out; simp at this; omega] at hf ⊢
  refine (take_any F N fc (x0 :: zs) w2 HYL.out hf.cap hf.rd HYB.out).mono ?_
  rw [takeV_no (xs := x0 :: zs) (s := 8) (m := m7) (show leadV x0 = 8 from HLEAD.out) (by rw [HYL.out]; omega) HNUM.out HZZ.out]
  rintro e w' ⟨rfl, rfl⟩
  obtain ⟨g, rfl, hBg, hgl, hl, hcell, hfr⟩ := hf.block (by omega)
  have c0 := hcell 0 (by omega)
  have c1 := hcell 1 (by omega)
  rw [E1.out] at c1
  have c2 := hcell 2 (by omega)
  rw [E2.out] at c2
  have c3 := hcell 3 (by omega)
  rw [E3.out] at c3
  have c4 := hcell 4 (by omega)
  rw [E4.out] at c4
  have c5 := hcell 5 (by omega)
  rw [E5.out] at c5
  have c6 := hcell 6 (by omega)
  rw [E6.out] at c6
  have c7 := hcell 7 (by omega)
  rw [E7.out] at c7
  rw [show (x0 :: zs).getD 0 0 = x0 from rfl] at c0
  have hcap := hf.cap
  have hcap2 : (8 : Int) ≤ (fc : Int) := by omega
  have hc1 : (fc = 1) = False := by simp; omega
  have HF := Lib.hid hf
  clear hcell hfr hf
  go_wp2_with fail
  refine wp_loop_rounds 8 ?_
  (rw [rounds_succ]; go_wp2_with fail)
  (rw [rounds_succ]; go_wp2_with fail)
  (rw [rounds_succ]; go_wp2_with fail)
  (rw [rounds_succ]; go_wp2_with fail)
  (rw [rounds_succ]; go_wp2_with fail)
  (rw [rounds_succ]; go_wp2_with fail)
  (rw [rounds_succ]; go_wp2_with fail)
  (rw [rounds_succ]; go_wp2_with fail)
  refine (wakes_any _).mono ?_
  rintro e w3 ⟨rfl, hb3⟩
  go_wp2_with fail
  go_ret
  have hb2' := hb2.alloc hb2.size (Obj.cells #[.int .i64 0, .int .i64 0, .int .i64 64, .int .i64 0, .int .i64 16384, .int .i64 0, .int .i64 0, .int .i64 0, .int .i64 1073741824] 3)
  exact ⟨rfl, hb2'.trans (hb3.mono hb2'.size)⟩


set_option maxHeartbeats 400000 in
theorem vintLead_8_yes (A : Option Addr) (n c : Nat) (xs : List Int) (x0 : Int) (w : World) (ha : ArgI .u8 1 w A n c xs) (hx : 0 ≤ x0 ∧ x0 < 256) (zs : List Int) (hzs : xs.take (Int.toNat 12) = zs) (hq : x0 / 64 = 3) (N : Nat) (hyl : (x0 :: zs).length = N) (hs : (8 : Int) ≤ N) (x1 x2 x3 x4 x5 x6 x7 m0 m1 m2 m3 m4 m5 m6 m7 : Int) (e1 : (x0 :: zs).getD 1 0 = x1) (_d1 : 0 ≤ x1 ∧ x1 < 256) (e2 : (x0 :: zs).getD 2 0 = x2) (_d2 : 0 ≤ x2 ∧ x2 < 256) (e3 : (x0 :: zs).getD 3 0 = x3) (_d3 : 0 ≤ x3 ∧ x3 < 256) (e4 : (x0 :: zs).getD 4 0 = x4) (_d4 : 0 ≤ x4 ∧ x4 < 256) (e5 : (x0 :: zs).getD 5 0 = x5) (_d5 : 0 ≤ x5 ∧ x5 < 256) (e6 : (x0 :: zs).getD 6 0 = x6) (_d6 : 0 ≤ x6 ∧ x6 < 256) (e7 : (x0 :: zs).getD 7 0 = x7) (_d7 : 0 ≤ x7 ∧ x7 < 256)
    (hnum : numV (x0 :: zs) 8 = m7) (hm : x0 % 64 = m0) (_b0 : 0 ≤ m0 ∧ m0 < 64) (_b1 : 0 ≤ m1 ∧ m1 < 16384) (_b2 : 0 ≤ m2 ∧ m2 < 4194304) (_b3 : 0 ≤ m3 ∧ m3 < 1073741824) (_b4 : 0 ≤ m4 ∧ m4 < 274877906944) (_b5 : 0 ≤ m5 ∧ m5 < 70368744177664) (_b6 : 0 ≤ m6 ∧ m6 < 18014398509481984) (_b7 : 0 ≤ m7 ∧ m7 < 4611686018427387904) (o1 : m0 * 256 + x1 = m1) (o2 : m1 * 256 + x2 = m2) (o3 : m2 * 256 + x3 = m3) (o4 : m3 * 256 + x4 = m4) (o5 : m4 * 256 + x5 = m5) (o6 : m5 * 256 + x6 = m6) (o7 : m6 * 256 + x7 = m7) (hz : szV m7 = 8) (hle2 : 1073741824 ≤ m7) :
    Calls Try.prog 8 #[.int .u8 x0, .slice A n c] w fun e w' => e = .returned (.bool true) ∧ Below w.heap.size w w' := by
  have HA := Lib.hid ha
  have hlen := ha.reach
  have hle := ha.le
  have hz12 : zs.length ≤ 12 := by rw [← hzs]; simp; omega
  have hyb : ∀ y ∈ x0 :: zs, 0 ≤ y ∧ y < 256 := fun y hy => by
    rcases List.mem_cons.1 hy with rfl | hy
    · exact hx
    · exact wf_u8 (ha.wf y (by rw [← hzs] at hy; exact List.mem_of_mem_take hy))
  have HZ := Lib.hid hzs
  have HYB := Lib.hid hyb
  have HYL := Lib.hid hyl
  obtain ⟨hx0, hx1⟩ := hx
  have hN1 : 1 ≤ N := by rw [← hyl]; simp
  clear hzs hyb hyl ha
  have hlead : leadV x0 = 8 := by unfold leadV; (repeat' split) <;> omega
  have hd1 : decide (m7 ≤ 4611686018427387903) = true := by simp; omega
  have hd2 : (m7 == m7) = true := by simp
  have HNUM := Lib.hid hnum
  have HLEAD := Lib.hid hlead
  have HZZ := Lib.hid hz
  have E1 := Lib.hid e1
  have E2 := Lib.hid e2
  have E3 := Lib.hid e3
  have E4 := Lib.hid e4
  have E5 := Lib.hid e5
  have E6 := Lib.hid e6
  have E7 := Lib.hid e7
  clear hnum hlead hz e1 e2 e3 e4 e5 e6 e7
  go_enter Try.func8, Try.ntmps8
  go_wp2_with fail
  refine (cut_any A n c 12 xs _ HA.out.len hle (HA.out.rd.alloc _) (by omega) (by omega) (by omega)).mono ?_
  rintro e w1 ⟨E, ce, rfl, he, hb1⟩
  rw [HZ.out] at he ⊢
  have hlit : Own .u8 5 w1 w.heap.size (.slice (some ⟨w.heap.size, 0, none⟩) 1 1) [x0] := (Own.new w [x0] 5 (by simp [maxLen])).later hb1
  go_wp2_with (at_builtin; refine wpList_app _ .u8 rfl (.tmp 15) (.tmp 17) 24 rfl 5 (.int .u8 0) 1 Try.underlying24 info_byte rfl w.heap.size (.slice (some ⟨w.heap.size, 0, none⟩) 1 1) [x0] rfl hlit _ _ _ rfl zs rfl he.rd (by simp only [List.length_singleton]; unfold maxLen; omega) (by simp only [List.length_singleton]; omega) (by have := hb1.size; simp only [World.size_alloc] at this; omega) ?_; intro F fc w2 hf hg2)
  have hb2 : Below w.heap.size w w2 := (((Below.refl w.heap.size w).alloc (Nat.le_refl _) _).trans (hb1.mono (by simp))).grown hg2 (by have := hb1.size; simp only [World.size_alloc] at this; omega) (fun g hg => (hlit.lt g hg).1)
  clear hg2 hlit he hb1
  change Own .u8 5 w2 w.heap.size (.slice F (1 + zs.length) fc) (x0 :: zs) at hf
  rw [show 1 + zs.length = N from by have := HYL.out; simp at this; omega] at hf ⊢
  refine (take_any F N fc (x0 :: zs) w2 HYL.out hf.cap hf.rd HYB.out).mono ?_
  rw [takeV_yes (xs := x0 :: zs) (s := 8) (m := m7) (show leadV x0 = 8 from HLEAD.out) (by rw [HYL.out]; omega) (by rw [HYL.out]; omega) HNUM.out HZZ.out]
  rintro e w' ⟨rfl, rfl⟩
  obtain ⟨g, rfl, hBg, hgl, hl, hcell, hfr⟩ := hf.block (by omega)
  have c0 := hcell 0 (by omega)
  have c1 := hcell 1 (by omega)
  rw [E1.out] at c1
  have c2 := hcell 2 (by omega)
  rw [E2.out] at c2
  have c3 := hcell 3 (by omega)
  rw [E3.out] at c3
  have c4 := hcell 4 (by omega)
  rw [E4.out] at c4
  have c5 := hcell 5 (by omega)
  rw [E5.out] at c5
  have c6 := hcell 6 (by omega)
  rw [E6.out] at c6
  have c7 := hcell 7 (by omega)
  rw [E7.out] at c7
  rw [show (x0 :: zs).getD 0 0 = x0 from rfl] at c0
  have hcap := hf.cap
  have hcap2 : (8 : Int) ≤ (fc : Int) := by omega
  have hc1 : (fc = 1) = False := by simp; omega
  have hput : putL m7 = (x0 :: zs).take 8 := by
    have := putL_numV (xs := x0 :: zs) (fun i hi => HYB.out _ (by rw [List.getD_eq_getElem?_getD, List.getElem?_eq_getElem hi]; exact List.getElem_mem hi)) (show leadV x0 = 8 from HLEAD.out) (by simp) (by rw [HYL.out]; omega) (by rw [HNUM.out]; exact HZZ.out)
    rw [HNUM.out] at this
    exact this
  have hlk : (putL m7).length = 8 := by rw [hput, List.length_take, HYL.out]; omega
  have hrt : ∀ o, Rd .u8 (w2.alloc o).drew (some ⟨g, 0, none⟩) (putL m7) := fun o => by rw [hput]; exact ((hf.rd.take 8).alloc o).drew
  have HLK := Lib.hid hlk
  have HRT := Lib.hid hrt
  clear hput hlk hrt
  have HF := Lib.hid hf
  clear hcell hfr hf
  go_wp2_with fail
  refine wp_loop_rounds 8 ?_
  (rw [rounds_succ]; go_wp2_with fail)
  (rw [rounds_succ]; go_wp2_with fail)
  (rw [rounds_succ]; go_wp2_with fail)
  (rw [rounds_succ]; go_wp2_with fail)
  (rw [rounds_succ]; go_wp2_with fail)
  (rw [rounds_succ]; go_wp2_with fail)
  (rw [rounds_succ]; go_wp2_with fail)
  (rw [rounds_succ]; go_wp2_with fail)
  all_goals
    go_region_held3 (fun _ => True) (trivial) (first
      | (go_at_call 11; refine (put_own _ _).mono ?_; rintro e w' ⟨P, cp, rfl, hp, hb⟩)
      | (go_at_call 15; refine (same_true (putL _) rfl HLK.out hp.rd ((HRT.out _).later hb) (by have := putL_len m7; unfold maxLen; omega)).mono ?_; rintro e w5 ⟨rfl, k5, rfl⟩)
      | (go_at_call 10; refine (wakes_any _).mono ?_; rintro e w3 ⟨rfl, hb3⟩))
    all_goals go_wp2
    all_goals go_ret
    all_goals
      refine ⟨rfl, ?_⟩
      have hb4 := ((hb2.alloc hb2.size (Obj.cells #[.int .i64 0, .int .i64 0, .int .i64 64, .int .i64 0, .int .i64 16384, .int .i64 0, .int .i64 0, .int .i64 0, .int .i64 1073741824] 3)).drew).trans (hb.mono (hb2.alloc hb2.size _).drew.size)
      exact (below_drewN' hb4 k5).trans (hb3.mono (below_drewN' hb4 k5).size)


theorem vintLead_walk (x0 : Int) (A : Option Addr) (n c : Nat) (xs : List Int) (w : World) (h0 : (Lit.int .u8 x0).wf = true) (ha : ArgI .u8 1 w A n c xs) :
    Calls Try.prog 8 #[.int .u8 x0, .slice A n c] w fun e w' => e = .returned (.bool true) ∧ Below w.heap.size w w' := by
  have hx := wf_u8 h0
  obtain ⟨zs, hzs⟩ : ∃ zs, xs.take (Int.toNat 12) = zs := ⟨_, rfl⟩
  have hyb : ∀ y ∈ x0 :: zs, 0 ≤ y ∧ y < 256 := fun y hy => by
    rcases List.mem_cons.1 hy with rfl | hy
    · exact hx
    · exact wf_u8 (ha.wf y (by rw [← hzs] at hy; exact List.mem_of_mem_take hy))
  have hxb : ∀ i, i < (x0 :: zs).length → 0 ≤ (x0 :: zs).getD i 0 ∧ (x0 :: zs).getD i 0 < 256 := fun i hi =>
    hyb _ (by rw [List.getD_eq_getElem?_getD, List.getElem?_eq_getElem hi]; exact List.getElem_mem hi)
  have hnb := numV_bd hxb
  have hlen : (x0 :: zs).length = zs.length + 1 := rfl
  have hq : x0 / 64 = 0 ∨ x0 / 64 = 1 ∨ x0 / 64 = 2 ∨ x0 / 64 = 3 := by omega
  rcases hq with hq | hq | hq | hq
  · have hu := hnb 0 (by omega) (by omega)
    simp only [Int.reducePow, Int.reduceMul, Nat.reduceAdd] at hu
    exact vintLead_1_yes A n c xs x0 w ha hx zs hzs hq _ rfl (by omega)  (numV (x0 :: zs) 1)  rfl rfl (hnb 0 (by omega) (by omega))  (szV_1 hu.1 hu.2) hu.1
  · by_cases hs : (x0 :: zs).length < 2
    · exact vintLead_2_short A n c xs x0 w ha hx zs hzs hq _ rfl (by omega)
    · have hu := hnb 1 (by omega) (by omega)
      simp only [Int.reducePow, Int.reduceMul, Nat.reduceAdd] at hu
      by_cases hle : 64 ≤ numV (x0 :: zs) 2
      · exact vintLead_2_yes A n c xs x0 w ha hx zs hzs hq _ rfl (by omega) _ (numV (x0 :: zs) 1) (numV (x0 :: zs) 2) rfl (hxb 1 (by omega)) rfl rfl (hnb 0 (by omega) (by omega)) (hnb 1 (by omega) (by omega)) rfl (szV_2 hle (by omega)) hle
      · exact vintLead_2_no A n c xs x0 w ha hx zs hzs hq _ rfl (by omega) _ (numV (x0 :: zs) 1) (numV (x0 :: zs) 2) rfl (hxb 1 (by omega)) rfl rfl (hnb 0 (by omega) (by omega)) (hnb 1 (by omega) (by omega)) rfl (fun h => by
          have : szV (numV (x0 :: zs) 2) < 2 := by unfold szV; (repeat' split) <;> omega
          omega) (by omega)
  · by_cases hs : (x0 :: zs).length < 4
    · exact vintLead_4_short A n c xs x0 w ha hx zs hzs hq _ rfl (by omega)
    · have hu := hnb 3 (by omega) (by omega)
      simp only [Int.reducePow, Int.reduceMul, Nat.reduceAdd] at hu
      by_cases hle : 16384 ≤ numV (x0 :: zs) 4
      · exact vintLead_4_yes A n c xs x0 w ha hx zs hzs hq _ rfl (by omega) _ _ _ (numV (x0 :: zs) 1) (numV (x0 :: zs) 2) (numV (x0 :: zs) 3) (numV (x0 :: zs) 4) rfl (hxb 1 (by omega)) rfl (hxb 2 (by omega)) rfl (hxb 3 (by omega)) rfl rfl (hnb 0 (by omega) (by omega)) (hnb 1 (by omega) (by omega)) (hnb 2 (by omega) (by omega)) (hnb 3 (by omega) (by omega)) rfl rfl rfl (szV_4 hle (by omega)) hle
      · exact vintLead_4_no A n c xs x0 w ha hx zs hzs hq _ rfl (by omega) _ _ _ (numV (x0 :: zs) 1) (numV (x0 :: zs) 2) (numV (x0 :: zs) 3) (numV (x0 :: zs) 4) rfl (hxb 1 (by omega)) rfl (hxb 2 (by omega)) rfl (hxb 3 (by omega)) rfl rfl (hnb 0 (by omega) (by omega)) (hnb 1 (by omega) (by omega)) (hnb 2 (by omega) (by omega)) (hnb 3 (by omega) (by omega)) rfl rfl rfl (fun h => by
          have : szV (numV (x0 :: zs) 4) < 4 := by unfold szV; (repeat' split) <;> omega
          omega) (by omega)
  · by_cases hs : (x0 :: zs).length < 8
    · exact vintLead_8_short A n c xs x0 w ha hx zs hzs hq _ rfl (by omega)
    · have hu := hnb 7 (by omega) (by omega)
      simp only [Int.reducePow, Int.reduceMul, Nat.reduceAdd] at hu
      by_cases hle : 1073741824 ≤ numV (x0 :: zs) 8
      · exact vintLead_8_yes A n c xs x0 w ha hx zs hzs hq _ rfl (by omega) _ _ _ _ _ _ _ (numV (x0 :: zs) 1) (numV (x0 :: zs) 2) (numV (x0 :: zs) 3) (numV (x0 :: zs) 4) (numV (x0 :: zs) 5) (numV (x0 :: zs) 6) (numV (x0 :: zs) 7) (numV (x0 :: zs) 8) rfl (hxb 1 (by omega)) rfl (hxb 2 (by omega)) rfl (hxb 3 (by omega)) rfl (hxb 4 (by omega)) rfl (hxb 5 (by omega)) rfl (hxb 6 (by omega)) rfl (hxb 7 (by omega)) rfl rfl (hnb 0 (by omega) (by omega)) (hnb 1 (by omega) (by omega)) (hnb 2 (by omega) (by omega)) (hnb 3 (by omega) (by omega)) (hnb 4 (by omega) (by omega)) (hnb 5 (by omega) (by omega)) (hnb 6 (by omega) (by omega)) (hnb 7 (by omega) (by omega)) rfl rfl rfl rfl rfl rfl rfl (szV_8 hle (by omega)) hle
      · exact vintLead_8_no A n c xs x0 w ha hx zs hzs hq _ rfl (by omega) _ _ _ _ _ _ _ (numV (x0 :: zs) 1) (numV (x0 :: zs) 2) (numV (x0 :: zs) 3) (numV (x0 :: zs) 4) (numV (x0 :: zs) 5) (numV (x0 :: zs) 6) (numV (x0 :: zs) 7) (numV (x0 :: zs) 8) rfl (hxb 1 (by omega)) rfl (hxb 2 (by omega)) rfl (hxb 3 (by omega)) rfl (hxb 4 (by omega)) rfl (hxb 5 (by omega)) rfl (hxb 6 (by omega)) rfl (hxb 7 (by omega)) rfl rfl (hnb 0 (by omega) (by omega)) (hnb 1 (by omega) (by omega)) (hnb 2 (by omega) (by omega)) (hnb 3 (by omega) (by omega)) (hnb 4 (by omega) (by omega)) (hnb 5 (by omega) (by omega)) (hnb 6 (by omega) (by omega)) (hnb 7 (by omega) (by omega)) rfl rfl rfl rfl rfl rfl rfl (fun h => by
          have : szV (numV (x0 :: zs) 8) < 8 := by unfold szV; (repeat' split) <;> omega
          omega) (by omega)
end Go.Proofs.Ytlmndmcjkkikpaa

/-
  What the document's own answers of chapter 1 (Size, Zig, Zag, Put, Take) are: contracts over the program.
-/
import Derived.Test.YtbjneoeiognahaaBase
import Derived.Handy
namespace Go.Proofs.Ytbjneoeiognahaa
open Go.RowKit

set_option maxRecDepth 10000 in
set_option maxHeartbeats 400000 in
theorem refSize_any (n : Int) (w : World) :
    Calls Try.prog 86 #[.int .i64 n] w fun e w' => e = .returned (.int .i64 (szV n)) ∧ w = w' := by
  go_enter Try.func86, Try.ntmps86
  go_wp2
  all_goals go_ret
  all_goals (refine ⟨ret_i ?_, rfl⟩; simp only [szV]; (repeat' (first | omega | split)))

set_option maxRecDepth 10000 in
/-- A byte in a block of its own. -/
theorem rd_one (k : IntKind) (w : World) (b : Int) (t : TypeId) : Rd k (w.alloc (.cells #[.int k b] t)) (some ⟨w.heap.size, 0, none⟩) [b] := by
  refine .inr ⟨_, _, rfl, fun i hi => ?_⟩
  have : i = 0 := by simpa using hi
  subst this
  simp

set_option maxRecDepth 10000 in
set_option maxHeartbeats 1000000 in
theorem refPut_1 (n : Int) (w : World) (h1 : 0 ≤ n) (h2 : n < 64) :
    Calls Try.prog 68 #[.int .i64 n] w fun e w' => ∃ A c, e = .returned (.slice A (putL n).length c) ∧ Own .u8 5 w' w.heap.size (.slice A (putL n).length c) (putL n) ∧ Below w.heap.size w w' := by
  have hp : putL n = [0 + n] := by
    rw [putL_1 h1 h2]; simp
  have HP := Lib.hid hp
  clear hp
  have hs := szV_1 h1 h2
  go_enter Try.func68, Try.ntmps68
  go_wp2_with (go_at_call 86; refine (refSize_any _ _).mono ?_; rw [hs]; rintro e w' ⟨rfl, rfl⟩)
  have ho0 : Own .u8 5 w w.heap.size (.slice none 0 0) [] := Own.nil _ _ _ _
  have hb0 : Below w.heap.size w w := Below.refl _ _
  refine wp_loop_rounds 2 ?_
  rw [rounds_succ]
  go_wp2_with (at_builtin; refine wpList_app _ .u8 rfl (.tmp 14) (.tmp 21) 23 rfl 5 (.int .u8 0) 1 Try.underlying23 info_byte rfl w.heap.size (.slice none 0 0) [] rfl (ho0.alloc _) _ _ _ rfl [n] rfl (rd_one _ _ _ _) (by simp [maxLen]) (by simp) (by have := hb0.size; simp only [World.size_alloc]; omega) ?_; intro A1 c1 w1 ho1 hg1)
  have hb1 : Below w.heap.size w w1 := (hb0.alloc hb0.size _).grown hg1 (by have := hb0.size; simp only [World.size_alloc]; omega) (fun g hg => (ho0.lt g hg).1)
  clear hg1 ho0 hb0
  change Own .u8 5 w1 w.heap.size (.slice A1 1 c1) [n] at ho1
  obtain ⟨g, rfl, hBg, hgl, hl, hcell, hfr⟩ := ho1.block (by omega)
  have hc := hcell 0 (by omega)
  have hf := hfr 0
  have hca : ∀ o, (w1.alloc o).cell? ⟨g, 0, none⟩ = some (.int .u8 (n)) := fun o => by rw [World.cell?_alloc_lt _ _ _ hgl]; exact hc
  have hfa : ∀ o, (w1.alloc o).frozen? ⟨g, 0, none⟩ = false := fun o => by rw [World.frozen?_alloc_past _ _ _ hgl]; exact hf
  simp only [List.getD_cons_zero] at hc
  clear hcell hfr
  rw [rounds_succ]
  go_wp2_with fail
  go_region
  rw [or_mark _ 0 (by omega) (by omega) (by omega)]
  go_wp2
  go_ret
  rw [HP.out]
  exact ⟨_, _, rfl, (show Own _ _ (World.drew _) _ _ _ from ((ho1.stored rfl 0 (0 + n)).alloc _)), (((hb1.setCell hBg _).alloc (by have := hb1.size; simp only [World.size_setCell]; omega) _).drew)⟩

set_option maxRecDepth 10000 in
set_option maxHeartbeats 1000000 in
theorem refPut_2 (n : Int) (w : World) (h1 : 64 ≤ n) (h2 : n < 16384) :
    Calls Try.prog 68 #[.int .i64 n] w fun e w' => ∃ A c, e = .returned (.slice A (putL n).length c) ∧ Own .u8 5 w' w.heap.size (.slice A (putL n).length c) (putL n) ∧ Below w.heap.size w w' := by
  have hp : putL n = [64 + n / 256, n % 256] := by
    exact putL_2 h1 h2
  have HP := Lib.hid hp
  clear hp
  have hs := szV_2 h1 h2
  go_enter Try.func68, Try.ntmps68
  go_wp2_with (go_at_call 86; refine (refSize_any _ _).mono ?_; rw [hs]; rintro e w' ⟨rfl, rfl⟩)
  have ho0 : Own .u8 5 w w.heap.size (.slice none 0 0) [] := Own.nil _ _ _ _
  have hb0 : Below w.heap.size w w := Below.refl _ _
  refine wp_loop_rounds 3 ?_
  rw [rounds_succ]
  go_wp2_with (at_builtin; refine wpList_app _ .u8 rfl (.tmp 14) (.tmp 21) 23 rfl 5 (.int .u8 0) 1 Try.underlying23 info_byte rfl w.heap.size (.slice none 0 0) [] rfl (ho0.alloc _) _ _ _ rfl [n / 256] rfl (rd_one _ _ _ _) (by simp [maxLen]) (by simp) (by have := hb0.size; simp only [World.size_alloc]; omega) ?_; intro A1 c1 w1 ho1 hg1)
  have hb1 : Below w.heap.size w w1 := (hb0.alloc hb0.size _).grown hg1 (by have := hb0.size; simp only [World.size_alloc]; omega) (fun g hg => (ho0.lt g hg).1)
  clear hg1 ho0 hb0
  rw [rounds_succ]
  go_wp2_with (at_builtin; refine wpList_app _ .u8 rfl (.tmp 14) (.tmp 21) 23 rfl 5 (.int .u8 0) 1 Try.underlying23 info_byte rfl w.heap.size (.slice A1 1 c1) [n / 256] rfl (ho1.alloc _) _ _ _ rfl [n % 256] rfl (rd_one _ _ _ _) (by simp [maxLen]) (by simp) (by have := hb1.size; simp only [World.size_alloc]; omega) ?_; intro A2 c2 w2 ho2 hg2)
  have hb2 : Below w.heap.size w w2 := (hb1.alloc hb1.size _).grown hg2 (by have := hb1.size; simp only [World.size_alloc]; omega) (fun g hg => (ho1.lt g hg).1)
  clear hg2 ho1 hb1
  change Own .u8 5 w2 w.heap.size (.slice A2 2 c2) [n / 256, n % 256] at ho2
  obtain ⟨g, rfl, hBg, hgl, hl, hcell, hfr⟩ := ho2.block (by omega)
  have hc := hcell 0 (by omega)
  have hf := hfr 0
  have hca : ∀ o, (w2.alloc o).cell? ⟨g, 0, none⟩ = some (.int .u8 (n / 256)) := fun o => by rw [World.cell?_alloc_lt _ _ _ hgl]; exact hc
  have hfa : ∀ o, (w2.alloc o).frozen? ⟨g, 0, none⟩ = false := fun o => by rw [World.frozen?_alloc_past _ _ _ hgl]; exact hf
  simp only [List.getD_cons_zero] at hc
  clear hcell hfr
  rw [rounds_succ]
  go_wp2_with fail
  go_region
  rw [or_mark _ 64 (by omega) (by omega) (by omega)]
  go_wp2
  go_ret
  rw [HP.out]
  exact ⟨_, _, rfl, (show Own _ _ (World.drew _) _ _ _ from ((ho2.stored rfl 0 (64 + n / 256)).alloc _)), (((hb2.setCell hBg _).alloc (by have := hb2.size; simp only [World.size_setCell]; omega) _).drew)⟩

set_option maxRecDepth 10000 in
set_option maxHeartbeats 1000000 in
theorem refPut_4 (n : Int) (w : World) (h1 : 16384 ≤ n) (h2 : n < 1073741824) :
    Calls Try.prog 68 #[.int .i64 n] w fun e w' => ∃ A c, e = .returned (.slice A (putL n).length c) ∧ Own .u8 5 w' w.heap.size (.slice A (putL n).length c) (putL n) ∧ Below w.heap.size w w' := by
  have hp : putL n = [128 + n / 16777216, n / 65536 % 256, n / 256 % 256, n % 256] := by
    rw [putL_4 h1 h2]; simp only [List.cons.injEq, and_true]; omega
  have HP := Lib.hid hp
  clear hp
  have hs := szV_4 h1 h2
  go_enter Try.func68, Try.ntmps68
  go_wp2_with (go_at_call 86; refine (refSize_any _ _).mono ?_; rw [hs]; rintro e w' ⟨rfl, rfl⟩)
  have ho0 : Own .u8 5 w w.heap.size (.slice none 0 0) [] := Own.nil _ _ _ _
  have hb0 : Below w.heap.size w w := Below.refl _ _
  refine wp_loop_rounds 5 ?_
  rw [rounds_succ]
  go_wp2_with (at_builtin; refine wpList_app _ .u8 rfl (.tmp 14) (.tmp 21) 23 rfl 5 (.int .u8 0) 1 Try.underlying23 info_byte rfl w.heap.size (.slice none 0 0) [] rfl (ho0.alloc _) _ _ _ rfl [n / 16777216] rfl (rd_one _ _ _ _) (by simp [maxLen]) (by simp) (by have := hb0.size; simp only [World.size_alloc]; omega) ?_; intro A1 c1 w1 ho1 hg1)
  have hb1 : Below w.heap.size w w1 := (hb0.alloc hb0.size _).grown hg1 (by have := hb0.size; simp only [World.size_alloc]; omega) (fun g hg => (ho0.lt g hg).1)
  clear hg1 ho0 hb0
  rw [rounds_succ]
  go_wp2_with (at_builtin; refine wpList_app _ .u8 rfl (.tmp 14) (.tmp 21) 23 rfl 5 (.int .u8 0) 1 Try.underlying23 info_byte rfl w.heap.size (.slice A1 1 c1) [n / 16777216] rfl (ho1.alloc _) _ _ _ rfl [n / 65536 % 256] rfl (rd_one _ _ _ _) (by simp [maxLen]) (by simp) (by have := hb1.size; simp only [World.size_alloc]; omega) ?_; intro A2 c2 w2 ho2 hg2)
  have hb2 : Below w.heap.size w w2 := (hb1.alloc hb1.size _).grown hg2 (by have := hb1.size; simp only [World.size_alloc]; omega) (fun g hg => (ho1.lt g hg).1)
  clear hg2 ho1 hb1
  rw [rounds_succ]
  go_wp2_with (at_builtin; refine wpList_app _ .u8 rfl (.tmp 14) (.tmp 21) 23 rfl 5 (.int .u8 0) 1 Try.underlying23 info_byte rfl w.heap.size (.slice A2 2 c2) [n / 16777216, n / 65536 % 256] rfl (ho2.alloc _) _ _ _ rfl [n / 256 % 256] rfl (rd_one _ _ _ _) (by simp [maxLen]) (by simp) (by have := hb2.size; simp only [World.size_alloc]; omega) ?_; intro A3 c3 w3 ho3 hg3)
  have hb3 : Below w.heap.size w w3 := (hb2.alloc hb2.size _).grown hg3 (by have := hb2.size; simp only [World.size_alloc]; omega) (fun g hg => (ho2.lt g hg).1)
  clear hg3 ho2 hb2
  rw [rounds_succ]
  go_wp2_with (at_builtin; refine wpList_app _ .u8 rfl (.tmp 14) (.tmp 21) 23 rfl 5 (.int .u8 0) 1 Try.underlying23 info_byte rfl w.heap.size (.slice A3 3 c3) [n / 16777216, n / 65536 % 256, n / 256 % 256] rfl (ho3.alloc _) _ _ _ rfl [n % 256] rfl (rd_one _ _ _ _) (by simp [maxLen]) (by simp) (by have := hb3.size; simp only [World.size_alloc]; omega) ?_; intro A4 c4 w4 ho4 hg4)
  have hb4 : Below w.heap.size w w4 := (hb3.alloc hb3.size _).grown hg4 (by have := hb3.size; simp only [World.size_alloc]; omega) (fun g hg => (ho3.lt g hg).1)
  clear hg4 ho3 hb3
  change Own .u8 5 w4 w.heap.size (.slice A4 4 c4) [n / 16777216, n / 65536 % 256, n / 256 % 256, n % 256] at ho4
  obtain ⟨g, rfl, hBg, hgl, hl, hcell, hfr⟩ := ho4.block (by omega)
  have hc := hcell 0 (by omega)
  have hf := hfr 0
  have hca : ∀ o, (w4.alloc o).cell? ⟨g, 0, none⟩ = some (.int .u8 (n / 16777216)) := fun o => by rw [World.cell?_alloc_lt _ _ _ hgl]; exact hc
  have hfa : ∀ o, (w4.alloc o).frozen? ⟨g, 0, none⟩ = false := fun o => by rw [World.frozen?_alloc_past _ _ _ hgl]; exact hf
  simp only [List.getD_cons_zero] at hc
  clear hcell hfr
  rw [rounds_succ]
  go_wp2_with fail
  go_region
  rw [or_mark _ 128 (by omega) (by omega) (by omega)]
  go_wp2
  go_ret
  rw [HP.out]
  exact ⟨_, _, rfl, (show Own _ _ (World.drew _) _ _ _ from ((ho4.stored rfl 0 (128 + n / 16777216)).alloc _)), (((hb4.setCell hBg _).alloc (by have := hb4.size; simp only [World.size_setCell]; omega) _).drew)⟩

set_option maxRecDepth 10000 in
set_option maxHeartbeats 1000000 in
theorem refPut_8 (n : Int) (w : World) (h1 : 1073741824 ≤ n) (h2 : n ≤ 4611686018427387903) :
    Calls Try.prog 68 #[.int .i64 n] w fun e w' => ∃ A c, e = .returned (.slice A (putL n).length c) ∧ Own .u8 5 w' w.heap.size (.slice A (putL n).length c) (putL n) ∧ Below w.heap.size w w' := by
  have hp : putL n = [192 + n / 72057594037927936, n / 281474976710656 % 256, n / 1099511627776 % 256, n / 4294967296 % 256, n / 16777216 % 256, n / 65536 % 256, n / 256 % 256, n % 256] := by
    rw [putL_8 h1 h2]; simp only [List.cons.injEq, and_true]; omega
  have HP := Lib.hid hp
  clear hp
  have hs := szV_8 h1 h2
  go_enter Try.func68, Try.ntmps68
  go_wp2_with (go_at_call 86; refine (refSize_any _ _).mono ?_; rw [hs]; rintro e w' ⟨rfl, rfl⟩)
  have ho0 : Own .u8 5 w w.heap.size (.slice none 0 0) [] := Own.nil _ _ _ _
  have hb0 : Below w.heap.size w w := Below.refl _ _
  refine wp_loop_rounds 9 ?_
  rw [rounds_succ]
  go_wp2_with (at_builtin; refine wpList_app _ .u8 rfl (.tmp 14) (.tmp 21) 23 rfl 5 (.int .u8 0) 1 Try.underlying23 info_byte rfl w.heap.size (.slice none 0 0) [] rfl (ho0.alloc _) _ _ _ rfl [n / 72057594037927936] rfl (rd_one _ _ _ _) (by simp [maxLen]) (by simp) (by have := hb0.size; simp only [World.size_alloc]; omega) ?_; intro A1 c1 w1 ho1 hg1)
  have hb1 : Below w.heap.size w w1 := (hb0.alloc hb0.size _).grown hg1 (by have := hb0.size; simp only [World.size_alloc]; omega) (fun g hg => (ho0.lt g hg).1)
  clear hg1 ho0 hb0
  rw [rounds_succ]
  go_wp2_with (at_builtin; refine wpList_app _ .u8 rfl (.tmp 14) (.tmp 21) 23 rfl 5 (.int .u8 0) 1 Try.underlying23 info_byte rfl w.heap.size (.slice A1 1 c1) [n / 72057594037927936] rfl (ho1.alloc _) _ _ _ rfl [n / 281474976710656 % 256] rfl (rd_one _ _ _ _) (by simp [maxLen]) (by simp) (by have := hb1.size; simp only [World.size_alloc]; omega) ?_; intro A2 c2 w2 ho2 hg2)
  have hb2 : Below w.heap.size w w2 := (hb1.alloc hb1.size _).grown hg2 (by have := hb1.size; simp only [World.size_alloc]; omega) (fun g hg => (ho1.lt g hg).1)
  clear hg2 ho1 hb1
  rw [rounds_succ]
  go_wp2_with (at_builtin; refine wpList_app _ .u8 rfl (.tmp 14) (.tmp 21) 23 rfl 5 (.int .u8 0) 1 Try.underlying23 info_byte rfl w.heap.size (.slice A2 2 c2) [n / 72057594037927936, n / 281474976710656 % 256] rfl (ho2.alloc _) _ _ _ rfl [n / 1099511627776 % 256] rfl (rd_one _ _ _ _) (by simp [maxLen]) (by simp) (by have := hb2.size; simp only [World.size_alloc]; omega) ?_; intro A3 c3 w3 ho3 hg3)
  have hb3 : Below w.heap.size w w3 := (hb2.alloc hb2.size _).grown hg3 (by have := hb2.size; simp only [World.size_alloc]; omega) (fun g hg => (ho2.lt g hg).1)
  clear hg3 ho2 hb2
  rw [rounds_succ]
  go_wp2_with (at_builtin; refine wpList_app _ .u8 rfl (.tmp 14) (.tmp 21) 23 rfl 5 (.int .u8 0) 1 Try.underlying23 info_byte rfl w.heap.size (.slice A3 3 c3) [n / 72057594037927936, n / 281474976710656 % 256, n / 1099511627776 % 256] rfl (ho3.alloc _) _ _ _ rfl [n / 4294967296 % 256] rfl (rd_one _ _ _ _) (by simp [maxLen]) (by simp) (by have := hb3.size; simp only [World.size_alloc]; omega) ?_; intro A4 c4 w4 ho4 hg4)
  have hb4 : Below w.heap.size w w4 := (hb3.alloc hb3.size _).grown hg4 (by have := hb3.size; simp only [World.size_alloc]; omega) (fun g hg => (ho3.lt g hg).1)
  clear hg4 ho3 hb3
  rw [rounds_succ]
  go_wp2_with (at_builtin; refine wpList_app _ .u8 rfl (.tmp 14) (.tmp 21) 23 rfl 5 (.int .u8 0) 1 Try.underlying23 info_byte rfl w.heap.size (.slice A4 4 c4) [n / 72057594037927936, n / 281474976710656 % 256, n / 1099511627776 % 256, n / 4294967296 % 256] rfl (ho4.alloc _) _ _ _ rfl [n / 16777216 % 256] rfl (rd_one _ _ _ _) (by simp [maxLen]) (by simp) (by have := hb4.size; simp only [World.size_alloc]; omega) ?_; intro A5 c5 w5 ho5 hg5)
  have hb5 : Below w.heap.size w w5 := (hb4.alloc hb4.size _).grown hg5 (by have := hb4.size; simp only [World.size_alloc]; omega) (fun g hg => (ho4.lt g hg).1)
  clear hg5 ho4 hb4
  rw [rounds_succ]
  go_wp2_with (at_builtin; refine wpList_app _ .u8 rfl (.tmp 14) (.tmp 21) 23 rfl 5 (.int .u8 0) 1 Try.underlying23 info_byte rfl w.heap.size (.slice A5 5 c5) [n / 72057594037927936, n / 281474976710656 % 256, n / 1099511627776 % 256, n / 4294967296 % 256, n / 16777216 % 256] rfl (ho5.alloc _) _ _ _ rfl [n / 65536 % 256] rfl (rd_one _ _ _ _) (by simp [maxLen]) (by simp) (by have := hb5.size; simp only [World.size_alloc]; omega) ?_; intro A6 c6 w6 ho6 hg6)
  have hb6 : Below w.heap.size w w6 := (hb5.alloc hb5.size _).grown hg6 (by have := hb5.size; simp only [World.size_alloc]; omega) (fun g hg => (ho5.lt g hg).1)
  clear hg6 ho5 hb5
  rw [rounds_succ]
  go_wp2_with (at_builtin; refine wpList_app _ .u8 rfl (.tmp 14) (.tmp 21) 23 rfl 5 (.int .u8 0) 1 Try.underlying23 info_byte rfl w.heap.size (.slice A6 6 c6) [n / 72057594037927936, n / 281474976710656 % 256, n / 1099511627776 % 256, n / 4294967296 % 256, n / 16777216 % 256, n / 65536 % 256] rfl (ho6.alloc _) _ _ _ rfl [n / 256 % 256] rfl (rd_one _ _ _ _) (by simp [maxLen]) (by simp) (by have := hb6.size; simp only [World.size_alloc]; omega) ?_; intro A7 c7 w7 ho7 hg7)
  have hb7 : Below w.heap.size w w7 := (hb6.alloc hb6.size _).grown hg7 (by have := hb6.size; simp only [World.size_alloc]; omega) (fun g hg => (ho6.lt g hg).1)
  clear hg7 ho6 hb6
  rw [rounds_succ]
  go_wp2_with (at_builtin; refine wpList_app _ .u8 rfl (.tmp 14) (.tmp 21) 23 rfl 5 (.int .u8 0) 1 Try.underlying23 info_byte rfl w.heap.size (.slice A7 7 c7) [n / 72057594037927936, n / 281474976710656 % 256, n / 1099511627776 % 256, n / 4294967296 % 256, n / 16777216 % 256, n / 65536 % 256, n / 256 % 256] rfl (ho7.alloc _) _ _ _ rfl [n % 256] rfl (rd_one _ _ _ _) (by simp [maxLen]) (by simp) (by have := hb7.size; simp only [World.size_alloc]; omega) ?_; intro A8 c8 w8 ho8 hg8)
  have hb8 : Below w.heap.size w w8 := (hb7.alloc hb7.size _).grown hg8 (by have := hb7.size; simp only [World.size_alloc]; omega) (fun g hg => (ho7.lt g hg).1)
  clear hg8 ho7 hb7
  change Own .u8 5 w8 w.heap.size (.slice A8 8 c8) [n / 72057594037927936, n / 281474976710656 % 256, n / 1099511627776 % 256, n / 4294967296 % 256, n / 16777216 % 256, n / 65536 % 256, n / 256 % 256, n % 256] at ho8
  obtain ⟨g, rfl, hBg, hgl, hl, hcell, hfr⟩ := ho8.block (by omega)
  have hc := hcell 0 (by omega)
  have hf := hfr 0
  have hca : ∀ o, (w8.alloc o).cell? ⟨g, 0, none⟩ = some (.int .u8 (n / 72057594037927936)) := fun o => by rw [World.cell?_alloc_lt _ _ _ hgl]; exact hc
  have hfa : ∀ o, (w8.alloc o).frozen? ⟨g, 0, none⟩ = false := fun o => by rw [World.frozen?_alloc_past _ _ _ hgl]; exact hf
  simp only [List.getD_cons_zero] at hc
  clear hcell hfr
  rw [rounds_succ]
  go_wp2_with fail
  go_region
  rw [or_mark _ 192 (by omega) (by omega) (by omega)]
  go_wp2
  go_ret
  rw [HP.out]
  exact ⟨_, _, rfl, (show Own _ _ (World.drew _) _ _ _ from ((ho8.stored rfl 0 (192 + n / 72057594037927936)).alloc _)), (((hb8.setCell hBg _).alloc (by have := hb8.size; simp only [World.size_setCell]; omega) _).drew)⟩

set_option maxRecDepth 10000 in
/-- The document's Put, of any number that has bytes. -/
theorem refPut_any (n : Int) (w : World) (h1 : 0 ≤ n) (h2 : n ≤ 4611686018427387903) :
    Calls Try.prog 68 #[.int .i64 n] w fun e w' => ∃ A c, e = .returned (.slice A (putL n).length c) ∧ Own .u8 5 w' w.heap.size (.slice A (putL n).length c) (putL n) ∧ Below w.heap.size w w' := by
  by_cases a : n < 64
  · exact refPut_1 n w h1 a
  · by_cases b : n < 16384
    · exact refPut_2 n w (by omega) b
    · by_cases c : n < 1073741824
      · exact refPut_4 n w (by omega) c
      · exact refPut_8 n w (by omega) h2

set_option maxRecDepth 10000 in
theorem refPut_no (n : Int) (w : World) (h : n < 0 ∨ 4611686018427387903 < n) :
    Calls Try.prog 68 #[.int .i64 n] w fun e w' => e = .returned (.slice none 0 0) ∧ w = w' := by
  have hs : szV n = 0 := by rcases h with h | h; exact szV_neg h; exact szV_big h
  clear h
  go_enter Try.func68, Try.ntmps68
  go_wp2_with (go_at_call 86; refine (refSize_any _ _).mono ?_; rw [hs]; rintro e w' ⟨rfl, rfl⟩)
  go_rounds 1
  go_ret
  exact ⟨rfl, rfl⟩

set_option maxRecDepth 10000 in
/-- The document's Put, of any int. -/
theorem refPut_own (n : Int) (w : World) :
    Calls Try.prog 68 #[.int .i64 n] w fun e w' => ∃ A c, e = .returned (.slice A (putL n).length c) ∧ Own .u8 5 w' w.heap.size (.slice A (putL n).length c) (putL n) ∧ Below w.heap.size w w' := by
  by_cases h : n < 0 ∨ 4611686018427387903 < n
  · rw [putL_no h]
    refine (refPut_no n w h).mono ?_
    rintro e w' ⟨rfl, rfl⟩
    exact ⟨_, _, rfl, Own.nil _ _ _ _, Below.refl _ _⟩
  · exact refPut_any n w (by omega) (by omega)
end Go.Proofs.Ytbjneoeiognahaa

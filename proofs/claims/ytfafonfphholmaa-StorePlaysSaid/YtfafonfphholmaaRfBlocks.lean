/-
  The document's store: Blocks. A contract over the program.
-/
import Derived.Test.YtfafonfphholmaaRfActs
import Derived.Test.YtfafonfphholmaaStBlocks
namespace Go.Proofs.Ytfafonfphholmaa
open Go.RowKit

theorem rd_int (w : World) (x : Int) (t : TypeId) : Rd .i64 (w.alloc (.cells #[.int .i64 x] t)) (some ⟨w.heap.size, 0, none⟩) [x] := by
  refine .inr ⟨w.heap.size, 0, rfl, fun i hi => ?_⟩
  have : i = 0 := by simpa using hi
  subst this
  go_simp
set_option maxRecDepth 10000 in
theorem info_num : (Try.prog.info? 3).map (fun i => (i.zero, i.size, i.bytes)) = some (some (.int .i64 0), 1, 8) := by kernel_rfl

section
variable {w : World} {B p : Nat} {s : St} {F : Nat → Prop}

set_option maxRecDepth 10000 in
set_option maxHeartbeats 2000000 in
theorem rfblocks_any (h : RefIs w B p s F) : Calls Try.prog 45 #[.pointer (some ⟨p, 0, none⟩)] w (BlEnd w (s.bs.map (·.n))) := by
  obtain ⟨lv, L, nn, h, hk, rfl, hf⟩ := h
  rw [← hk, List.map_map]
  have s0 := h.r0
  have hm := h.many
  rcases h.form with ⟨rfl, rfl⟩ | ⟨g, c, rfl, hlc, hcm, hB, hg, hcells, hfr⟩
  · clear h hk hf
    go_enter Try.func45, Try.ntmps45
    go_wp2
    go_loopw [3, 11] (fun vo vi wr => vo = .slice none 0 0 ∧ vi = .int .i64 0 ∧ wr = w) (fun _ _ _ => 0)
    case atStart => exact ⟨rfl, rfl, rfl⟩
    case round =>
      obtain ⟨rfl, rfl, rfl⟩ := hrel
      go_wp2
      go_ret
      exact ⟨none, 0, rfl, Own.nil _ _ _ _, Below.refl _ _⟩
  · have HC := Lib.hid hcells
    clear h hcells hfr hk hf
    obtain ⟨ns, hns⟩ : ∃ ns, L.map ((fun k : Blk => k.n) ∘ fun e : RE => e.k) = ns := ⟨_, rfl⟩
    rw [hns]
    have hnl : ns.length = L.length := by rw [← hns]; simp
    have hng : ∀ i (x : RE), L[i]? = some x → ns[i]? = some x.k.n := fun i x hx => by rw [← hns, List.getElem?_map, hx]; rfl
    obtain ⟨m, hml⟩ : ∃ m, L.length = m := ⟨_, rfl⟩
    rw [hml] at s0 hlc hm hnl
    have HML := Lib.hid hml
    have HNG := Lib.hid hng
    have HNL := Lib.hid hnl
    clear hml hns hng hnl
    have hcm2 : c ≤ 9223372036854775807 := by unfold maxLen at hcm; exact hcm
    clear hcm
    go_enter Try.func45, Try.ntmps45
    go_wp2
    go_loopw [3, 11] (fun vo vi wr => ∃ (k : Nat) (A : Option Addr) (d : Nat), k ≤ m ∧ vi = .int .i64 k ∧ vo = .slice A k d ∧ Hid (Own .i64 3 wr w.heap.size (.slice A k d) (ns.take k)) ∧ Hid (Below w.heap.size w wr)) (fun _ vi _ => m - (intOf vi).toNat)
    case atStart => exact ⟨0, none, 0, by omega, rfl, rfl, Lib.hid (by simpa using Own.nil _ _ _ _), Lib.hid (Below.refl _ _)⟩
    case round =>
      obtain ⟨k, A, d, hk, rfl, rfl, ho, hbl⟩ := hrel
      by_cases hlt : k < m
      · obtain ⟨x, hx⟩ : ∃ x, L[k]? = some x := ⟨L[k]'(by rw [HML.out]; exact hlt), List.getElem?_eq_getElem _⟩
        obtain ⟨c0, c1, c2, c3⟩ := HC.out k x hx
        have HX := Lib.hid (HNG.out k x hx)
        have d0 := cell_later hbl.out c0
        have d1 := cell_later hbl.out c1
        have d2 := cell_later hbl.out c2
        have d3 := cell_later hbl.out c3
        have i1 : (k : Int) < (m : Int) := by omega
        have i2 : (0 : Int) ≤ (k : Int) := by omega
        clear hx c0 c1 c2 c3
        obtain ⟨y, hy⟩ : ∃ y, x.k.n = y := ⟨_, rfl⟩
        obtain ⟨xl, hxs⟩ : ∃ y, x.k.xs.length = y := ⟨_, rfl⟩
        unfold RE.v at d1
        obtain ⟨xf, hxf⟩ : ∃ y, x.k.f = y := ⟨_, rfl⟩
        obtain ⟨xk, hxk⟩ : ∃ y, x.k.s = y := ⟨_, rfl⟩
        rw [hy] at d0 HX
        rw [hxs] at d1
        rw [hxk] at d2
        rw [hxf] at d3
        clear hy hxs hxk hxf
        have htl : (ns.take k).length = k := by rw [List.length_take, HNL.out]; omega
        have hto : ns.take k ++ [y] = ns.take (k + 1) := by rw [List.take_add_one, HX.out]; rfl
        have HTO := Lib.hid hto
        have HTL := Lib.hid htl
        clear hto htl
        have ho1 := (ho.out.alloc (.cells #[.int .i64 y, .slice x.A xl x.c, .int .i64 (xk : Nat), .bool xf] 53)).alloc (.cells #[.int .i64 y] 3)
        have hb1 := (hbl.out.alloc hbl.out.size (.cells #[.int .i64 y, .slice x.A xl x.c, .int .i64 (xk : Nat), .bool xf] 53)).alloc (by have := hbl.out.size; simp; omega) (.cells #[.int .i64 y] 3)
        have hrd := rd_int (wr.alloc (.cells #[.int .i64 y, .slice x.A xl x.c, .int .i64 (xk : Nat), .bool xf] 53)) y 3
        rw [show (wr.alloc (.cells #[.int .i64 y, .slice x.A xl x.c, .int .i64 (xk : Nat), .bool xf] 53)).heap.size = wr.heap.size + 1 from by simp] at hrd
        have HRD := Lib.hid hrd
        clear hrd
        have HO1 := Lib.hid ho1
        have HB1 := Lib.hid hb1
        clear ho1 hb1
        go_wp2_with (at_builtin; refine wpList_app _ .i64 rfl (.tmp 15) (.tmp 18) 60 rfl 3 (.int .i64 0) 8 Try.underlying60 info_num rfl w.heap.size (.slice A k d) (ns.take k) rfl HO1.out _ _ _ rfl [y] rfl HRD.out (by rw [HTL.out]; unfold maxLen; omega) (by rw [HTL.out]; omega) HB1.out.size ?_; intro A' c' w6 h6 g6; have HR6 := Lib.hid h6; have HB6 := Lib.hid (HB1.out.grown g6 HB1.out.size (fun g hg => (HO1.out.lt g hg).1)); clear h6 g6)
        go_roundw
        case rel =>
          refine ⟨k + 1, A', c', by omega, by go_num, (by rw [show min k ns.length = k from by (rw [HNL.out]; omega)]), Lib.hid ?_, HB6⟩
          have := HR6.out
          rw [HTL.out, HTO.out] at this
          exact this
        case measure => simp [intOf]; omega
      · have hkm : k = m := by omega
        subst hkm
        go_wp2
        go_ret
        have := ho.out
        rw [List.take_of_length_le (by rw [HNL.out]; exact Nat.le_refl _)] at this
        exact ⟨A, d, by rw [HNL.out]; rfl, by rw [HNL.out]; exact this, hbl.out⟩
end
end Go.Proofs.Ytfafonfphholmaa

/-
  The walk of VintRows.
-/
import Derived.Test.YtlmndmcjkkikpaaWakes
import Derived.Test.YtlmndmcjkkikpaaVintN
import Derived.Test.YtlmndmcjkkikpaaVintTake
import Derived.Test.YtlmndmcjkkikpaaCopy
import Derived.Test.YtlmndmcjkkikpaaRefPut
import Derived.Test.YtlmndmcjkkikpaaRowsMath
import Derived.StillTailTactics
namespace Go.Proofs.Ytlmndmcjkkikpaa
open Go.RowKit

theorem info_int : (Try.prog.info? 3).map (fun i => (i.zero, i.size, i.bytes)) = some (some (.int .i64 0), 1, 8) := by kernel_rfl

/-- What holds at every round's head of the first loop. -/
def RowsInv (W wr : World) (vb vw vi : Value) : Prop :=
  ∃ (L : List Int) (A A' : Option Addr) (c c' : Nat), L.length ≤ 12 ∧ (∀ x ∈ L, 0 ≤ x ∧ x ≤ 4611686018427387903) ∧ vb = .slice A (catL L).length c ∧ vw = .slice A' L.length c' ∧ vi = .int .i64 (L.length : Int) ∧
    Own .u8 5 wr W.heap.size (.slice A (catL L).length c) (catL L) ∧ Own .i64 3 wr W.heap.size (.slice A' L.length c') L ∧ Below W.heap.size W wr

set_option maxHeartbeats 1000000 in
theorem vintRows_walk (A0 : Option Addr) (n0 c0 : Nat) (xs : List Int) (A1 : Option Addr) (n1 c1 : Nat) (ys : List Int) (w : World) (ha : ArgI .i64 8 w A0 n0 c0 xs) (hb : ArgI .i64 8 w A1 n1 c1 ys) :
    Calls Try.prog 4 #[.slice A0 n0 c0, .slice A1 n1 c1] w fun e w' => e = .returned (.bool true) ∧ Below w.heap.size w w' := by
  have HA := Lib.hid ha
  have HB := Lib.hid hb
  have r0 := ha.reach
  have r1 := hb.reach
  have l0 := ha.le
  have l1 := hb.le
  clear ha hb
  go_enter Try.func4, Try.ntmps4
  go_wp2
  go_loopw [5, 6, 7] (fun vb vw vi wr => RowsInv w wr vb vw vi) (fun _ _ vi _ => 12 - (intOf vi).toNat)
  case atStart => exact ⟨[], none, none, 0, 0, by simp, by simp, rfl, rfl, rfl, Own.nil _ _ _ _, Own.nil _ _ _ _, Below.refl _ _⟩
  case round =>
    obtain ⟨L, A, A', c, c', hL, hLb, rfl, rfl, rfl, hob, how, hbl⟩ := hrel
    have HOB := Lib.hid hob
    have HOW := Lib.hid how
    have HLB := Lib.hid hLb
    have HBL := Lib.hid hbl
    clear hob how hLb hbl
    by_cases hlt : L.length < n0 ∧ L.length < n1 ∧ L.length < 12
    · obtain ⟨t0, t1, t2⟩ := hlt
      obtain ⟨b0, o0, rfl, hc0⟩ := HA.out.rd.some_ (by rw [HA.out.len]; omega)
      obtain ⟨b1, o1, rfl, hc1⟩ := HB.out.rd.some_ (by rw [HB.out.len]; omega)
      have k0 := hc0 L.length (by rw [HA.out.len]; omega)
      have k1 := hc1 L.length (by rw [HB.out.len]; omega)
      clear hc0 hc1
      rw [← HBL.out.cell (World.block_lt_of_cell? _ _ k0)] at k0
      rw [← HBL.out.cell (World.block_lt_of_cell? _ _ k1)] at k1
      have i0 : ((L.length : Nat) : Int) < (n0 : Int) := by omega
      have i1 : ((L.length : Nat) : Int) < (n1 : Int) := by omega
      have i2 : ((L.length : Nat) : Int) < 12 := by omega
      have i3 : (0 : Int) ≤ ((L.length : Nat) : Int) := by omega
      have wx := wf_i64 (HA.out.wf (xs.getD L.length 0) (by rw [List.getD_eq_getElem?_getD, List.getElem?_eq_getElem (by rw [HA.out.len]; omega)]; exact List.getElem_mem _))
      obtain ⟨x, hx⟩ : ∃ x, xs.getD L.length 0 = x := ⟨_, rfl⟩
      obtain ⟨y, hy⟩ : ∃ y, ys.getD L.length 0 = y := ⟨_, rfl⟩
      rw [hx] at k0 wx
      rw [hy] at k1
      clear hx hy
      go_wp2_with fail
      refine still_tail 8 (by kernel_rfl) (by kernel_rfl) ?_
      intro W hW
      have k0' : W.cell? ⟨b0, o0 + L.length, none⟩ = some (.int .i64 x) := by rw [hW]; exact k0
      have k1' : W.cell? ⟨b1, o1 + L.length, none⟩ = some (.int .i64 y) := by rw [hW]; exact k1
      have hbl1 : Below w.heap.size w W := by rw [hW]; exact HBL.out.drew
      have hob1 : Own .u8 5 W w.heap.size (.slice A (catL L).length c) (catL L) := by rw [hW]; exact HOB.out.drewN 1
      have how1 : Own .i64 3 W w.heap.size (.slice A' L.length c') L := by rw [hW]; exact HOW.out.drewN 1
      have HBL1 := Lib.hid hbl1
      have HOB1 := Lib.hid hob1
      have HOW1 := Lib.hid how1
      clear hW k0 k1 hbl1 hob1 how1
      simp only [List.take_succ_cons, List.take_zero, List.drop_succ_cons, List.drop_zero]
      repeat still_step
      refine wpStill_nil ?_
      go_wp2_with fail
      refine (n_any x y W wx.1 wx.2).mono ?_
      rintro e w1 ⟨v, _, rfl, hb1⟩
      go_wp2_with fail
      refine (within_any v 4611686018427387903 w1 (by omega) (by omega)).mono ?_
      rintro e w' ⟨rfl, rfl⟩
      obtain ⟨z, hz⟩ : ∃ z, v % 4611686018427387903 = z := ⟨_, rfl⟩
      have hz0 : 0 ≤ z := by omega
      have hz1 : z ≤ 4611686018427387903 := by omega
      rw [hz]
      clear hz wx k0' k1'
      go_wp2_with fail
      refine (put_own z w1).mono ?_
      rintro e w2 ⟨P, cp, rfl, hp, hb2⟩
      have s1 : w.heap.size ≤ W.heap.size := HBL1.out.size
      have s2 := hb1.size
      have s3 := hb2.size
      have hcl := catL_len L
      have hpl := putL_len z
      have hbA := hb1.trans (hb2.mono hb1.size)
      have hob2 := HOB1.out.later hbA
      have how2 := HOW1.out.later hbA
      have hbl2 := HBL1.out.trans (hbA.mono s1)
      clear hb1 hb2 hbA
      go_wp2_with (first
        | (at_builtin; refine wpList_app _ .u8 rfl (.tmp 44) (.tmp 46) 24 rfl 5 (.int .u8 0) 1 Try.underlying24 info_byte rfl w.heap.size (.slice A (catL L).length c) (catL L) rfl hob2 _ _ _ rfl (putL z) rfl hp.rd (by unfold maxLen; omega) (by omega) (by omega) ?_; intro F fc w3 hf hg3)
        | (at_builtin; refine wpList_app _ .i64 rfl (.tmp 48) (.tmp 50) 28 rfl 3 (.int .i64 0) 8 Try.underlying28 info_int rfl w.heap.size (.slice A' L.length c') L rfl ((how2.kept hg3 (how2.apart hob2 (by decide))).alloc _) _ _ _ rfl [z] rfl (rd_one _ _ _ _) (by unfold maxLen; omega) (by omega) (by have := hg3.size; simp only [World.size_alloc]; omega) ?_; intro G gc w4 hh hg4))
      have how3 := how2.kept hg3 (how2.apart hob2 (by decide))
      have hb3 := hbl2.grown hg3 (by omega) (fun g hg => (hob2.lt g hg).1)
      have hb4 := (hb3.alloc hb3.size (.cells #[.int .i64 z] 3)).grown hg4 (by have := hb3.size; simp only [World.size_alloc]; omega) (fun g hg => (how3.lt g hg).1)
      have hf4 := (hf.alloc (.cells #[.int .i64 z] 3)).kept hg4 (hf.apart how3 (by decide))
      go_roundw
      case rel =>
        refine ⟨L ++ [z], F, G, fc, gc, by simp; omega, ?_, by rw [catL_snoc, List.length_append], by simp, by simp, ?_, ?_, hb4⟩
        · intro q hq
          rcases List.mem_append.1 hq with hq | hq
          · exact HLB.out q hq
          · rw [List.mem_singleton.1 hq]; exact ⟨hz0, hz1⟩
        · rw [catL_snoc, List.length_append]; exact hf4
        · rw [List.length_append]; exact hh
      case measure => simp [intOf]; omega
    · have hcase : (n0 : Int) ≤ (L.length : Int) ∨ ((L.length : Int) < (n0 : Int) ∧ (n1 : Int) ≤ (L.length : Int)) ∨ ((L.length : Int) < (n0 : Int) ∧ (L.length : Int) < (n1 : Int) ∧ (12 : Int) ≤ (L.length : Int)) := by omega
      clear hlt
      rcases hcase with t0 | ⟨t0, t1⟩ | ⟨t0, t1, t2⟩
      all_goals
        have hcl := catL_len L
        have hcap := HOB.out.cap
        go_wp2
        go_loop [9, 54] (fun at_ j => ∃ k : Nat, k ≤ L.length ∧ j = .int .i64 (k : Int) ∧ at_ = .int .i64 ((catL (L.take k)).length : Int)) (fun _ j => L.length - (intOf j).toNat)
        case atStart => exact ⟨0, by omega, rfl, by simp [catL]⟩
        case round =>
          obtain ⟨k, hk, rfl, rfl⟩ := hrel
          obtain ⟨q, hq⟩ : ∃ q, (catL (L.take k)).length = q := ⟨_, rfl⟩
          rw [hq]
          by_cases hkl : k < L.length
          · obtain ⟨g, rfl, _, _, _, hgc, _⟩ := HOW.out.block (by omega)
            have c1 := hgc k hkl
            clear hgc
            have hx := HLB.out (L.getD k 0) (by rw [List.getD_eq_getElem?_getD, List.getElem?_eq_getElem hkl]; exact List.getElem_mem _)
            have hle := catL_take_le L k hkl
            have hdrop := catL_drop L k hkl
            have hsucc := congrArg List.length (catL_take_succ L k hkl)
            rw [List.length_append, hq] at hsucc
            rw [hq] at hle hdrop
            obtain ⟨x, hxe⟩ : ∃ x, L.getD k 0 = x := ⟨_, rfl⟩
            rw [hxe] at c1 hx hle hdrop hsucc
            obtain ⟨hx0, hx1⟩ := hx
            have hpos := putL_pos hx0 hx1
            obtain ⟨gb, rfl, _, _, _, hbc, _⟩ := HOB.out.block (by omega)
            obtain ⟨N, hN⟩ : ∃ N, (catL L).length = N := ⟨_, rfl⟩
            rw [hN] at hle hcap hcl hbc
            have hrd : Rd .u8 wr (some ⟨gb, q, none⟩) (putL x ++ catL (L.drop (k + 1))) := by
              rw [← hdrop]
              refine .inr ⟨gb, q, rfl, fun i hi => ?_⟩
              simp only [List.length_drop, hN] at hi
              rw [hbc (q + i) (by omega)]
              simp [List.getD]
            have hlen : (putL x ++ catL (L.drop (k + 1))).length = N - q := by rw [← hdrop, List.length_drop, hN]
            have hbytes : ∀ a ∈ putL x ++ catL (L.drop (k + 1)), 0 ≤ a ∧ a < 256 := fun a ha => by
              rcases List.mem_append.1 ha with ha | ha
              · exact putL_bytes x a ha
              · exact catL_bytes _ a ha
            have HRD := Lib.hid hrd
            have HLEN := Lib.hid hlen
            have HBY := Lib.hid hbytes
            have HSUCC := Lib.hid hsucc
            have HTV := Lib.hid (takeV_putL hx0 hx1 (catL (L.drop (k + 1))))
            have HN := Lib.hid hN
            clear hrd hlen hbytes hsucc hdrop hbc hxe hq
            rw [HN.out]
            have j1 : (k : Int) < (L.length : Int) := by omega
            have j2 : (0 : Int) ≤ (k : Int) := by omega
            have j3 : (q : Int) ≤ (N : Int) := by omega
            have j4 : (0 : Int) ≤ (q : Int) := by omega
            have j5 : (c = q) = False := by simp; omega
            have j6 : (N : Int) ≤ (c : Int) := by omega
            have j7 : (1 : Int) ≤ ((putL x).length : Int) := by omega
            go_wp2_with fail
            refine (take_any (some ⟨gb, q, none⟩) (N - q) (c - q) _ wr HLEN.out (by omega) HRD.out HBY.out).mono ?_
            rw [HTV.out]
            rintro e w' ⟨rfl, rfl⟩
            go_wp2_with fail
            go_round
            case rel => exact ⟨k + 1, by omega, by go_num, by rw [HSUCC.out]; go_num⟩
            case measure => simp [intOf]; omega
          · have : k = L.length := by omega
            subst this
            have HE : Hid ((catL (L.take L.length)).length = q) := hq
            have hq' : q = (catL L).length := by rw [← hq, List.take_length]
            clear hq
            subst hq'
            go_wp2_with fail
            refine (take_nil none 0 wr).mono ?_
            rintro e w' ⟨rfl, rfl⟩
            go_wp2_with fail
            refine (wakes_any _).mono ?_
            rintro e w3 ⟨rfl, hb3⟩
            go_wp2_with fail
            go_ret
            exact ⟨rfl, HBL.out.trans (hb3.mono HBL.out.size)⟩
end Go.Proofs.Ytlmndmcjkkikpaa

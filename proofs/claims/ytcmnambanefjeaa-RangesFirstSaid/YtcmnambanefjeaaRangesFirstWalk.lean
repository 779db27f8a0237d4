/-
  What RangesFirst answers: the walk.
-/
import Derived.Test.YtcmnambanefjeaaOne
import Derived.Test.YtcmnambanefjeaaCountMath
namespace Go.Proofs.Ytcmnambanefjeaa
open Go.RowKit
open Go.Sort (grow grow_grow grow_empty alloc_eq_grow)

set_option maxHeartbeats 2000000 in
set_option maxRecDepth 100000 in
theorem rangesFirst_walk (A : Option Addr) (n c : Nat) (X : Nat → ActT) (w : World) (hA : ArgA w A n c X) :
    Calls Try.prog 4 #[.slice A n c] w fun e w' => e = .returned (.bool true) ∧ Below w.heap.size w w' := by
  have HARG := Lib.hid hA
  have hnc := hA.le
  have hreach := hA.reach
  have HN1 := Lib.hid (newset_any w w.heap.size (Nat.le_refl _))
  obtain ⟨B, hB⟩ : ∃ B, w.heap.size = B := ⟨_, rfl⟩
  clear hA
  go_enter Try.func4, Try.ntmps4
  go_wp2_with fail
  refine HN1.out.mono ?_
  rintro e w1 ⟨rfl, s1, b1, z1⟩
  rw [hB]
  have HS1 := Lib.hid (show SetAt w1 w.heap.size B (.slice none 0 0) [] by rw [hB] at s1 ⊢; exact s1)
  have HB1 := Lib.hid b1
  clear s1 b1 z1 HN1
  have HBB := Lib.hid hB
  clear hB
  go_wp2_with fail
  go_loopg [4] 14 (fun kx s4 wr => ∃ (k : Nat) (va : Value) (xs : List (Int × Int)), s4 = .int .i64 k ∧ k ≤ 14 ∧ 14 - k ≤ kx ∧ Hid (SetAt wr w.heap.size B va xs ∧ Below w.heap.size w wr ∧ xs.length ≤ k))
  case atStart => exact ⟨0, _, [], rfl, by omega, by omega, HS1.out, HB1.out, by simp⟩
  case round =>
    obtain ⟨k, va, xs, rfl, hk14, hgk, hI⟩ := hrel
    by_cases hlt : k < n ∧ k < 14
    · obtain ⟨hkn, hk⟩ := hlt
      have har := HARG.out.later hI.out.2.1
      rcases har.rd with h0 | ⟨b, off, rfl, hcell⟩
      · omega
      · obtain ⟨c1, c2, _⟩ := hcell k hkn
        obtain ⟨F, hF⟩ : ∃ F, (X k).f % 200 = F := ⟨_, rfl⟩
        obtain ⟨P, hP⟩ : ∃ F, (X k).t % 9 = F := ⟨_, rfl⟩
        obtain ⟨x1, hx1⟩ : ∃ x, (X k).f = x := ⟨_, rfl⟩
        obtain ⟨x2, hx2⟩ : ∃ x, (X k).t = x := ⟨_, rfl⟩
        rw [hx1] at hF c1
        rw [hx2] at hP c2
        have wf := Lib.hid (fun V => by have := within_same x1 200 V (by omega) (by omega); rw [hF] at this; exact this)
        have wt := Lib.hid (fun V => by have := within_same x2 9 V (by omega) (by omega); rw [hP] at this; exact this)
        have hw1 : IntKind.i64.wrap (F + P) = F + P := by rw [IntKind.wrap_i64]; omega
        have i1 : (k : Int) < (n : Int) := by omega
        have i2 : (k : Int) < 14 := by omega
        have i3 : (0 : Int) ≤ (k : Int) := by omega
        clear hF hP hx1 hx2 hcell har
        go_wp2_with fail
        refine (wf.out wr).mono ?_
        rintro e V' ⟨rfl, rfl⟩
        go_wp2_with fail
        refine (wt.out V').mono ?_
        rintro e V ⟨rfl, rfl⟩
        go_wp2_with fail
        refine (add_any B va xs _ F (F + P) V hI.out.1 (by have := hI.out.2.2; omega) hI.out.2.1.size).mono ?_
        rintro e V1 ⟨rfl, va1, xs1, s1, g1, _, l1⟩
        have HH := Lib.hid (show SetAt V1 w.heap.size B va1 xs1 ∧ Below w.heap.size w V1 ∧ xs1.length ≤ k + 1 from ⟨s1, g1.below hI.out.2.1 hI.out.2.1.size hI.out.1.ge (fun g hg => (hI.out.1.own.lt g hg).1), by have := hI.out.2.2; omega⟩)
        clear s1 g1 l1
        go_wp2
        go_roundg (14 - (k + 1))
        case measure => omega
        case rel => exact ⟨k + 1, va1, xs1, by go_num, by omega, by omega, HH.out⟩
    · have HX := Lib.hid hI.out.1.norm
      have hl := hI.out.2.2
      have HL := Lib.hid (show xs.length ≤ 14 by omega)
      by_cases hkn : k < n
      · have i1 : (k : Int) < (n : Int) := by omega
        have i2 : ¬ ((k : Int) < 14) := by omega
        clear hl hlt hkn
        go_wp2_with fail
        refine (allset_any B va xs _ wr hI.out.1 (by have := HL.out; omega)).mono ?_
        rintro e V1 ⟨A1, c1, rfl, o1, b1⟩
        have O1 := Lib.hid (show One w V1 B va xs (.slice A1 xs.length c1) xs from ⟨hI.out.1.later b1, o1.less hI.out.2.1.size, by
          cases hv : (Value.slice A1 xs.length c1).ownBlock with
          | none => exact .inl rfl
          | some g =>
            right
            intro he
            have h1 := (o1.lt g hv).1
            have h2 := (hI.out.1.own.lt g he.symm).2
            omega, hI.out.2.1.trans (b1.mono hI.out.2.1.size)⟩)
        clear o1 b1
        go_wp2_with fail
        refine (count_any B va xs _ V1 O1.out.sa (by have := HL.out; omega)).mono ?_
        rintro e V2 ⟨rfl, b2⟩
        have O2 := Lib.hid (O1.out.later b2)
        clear b2 O1 hI
        obtain ⟨N, hN⟩ : ∃ N, xs.length = N := ⟨_, rfl⟩
        have HN := Lib.hid hN
        rw [hN] at O2 HL ⊢
        have hN14 := HL.out
        clear hN
        go_wp2_with fail
        go_loopg [7, 53] N (fun kx s7 s53 wr => ∃ (m : Nat) (va : Value), s53 = .int .i64 m ∧ s7 = .int .i64 (cntL (xs.drop m)) ∧ m ≤ N ∧ N - m ≤ kx ∧ Hid (One w wr B va (xs.drop m) (.slice A1 N c1) xs))
        case atStart => exact ⟨0, va, rfl, rfl, Nat.zero_le _, by omega, O2.out⟩
        case round =>
          obtain ⟨m, va, rfl, rfl, hmN, hgm, hO⟩ := hrel
          by_cases hmlt : m < N
          · obtain ⟨⟨x, y⟩, hxy⟩ : ∃ p, xs.getD m (0, 0) = p := ⟨_, rfl⟩
            have hdr : xs.drop m = (x, y) :: xs.drop (m + 1) := by
              rw [List.drop_eq_getElem_cons (by rw [HN.out]; exact hmlt), ← hxy]
              simp [List.getD, HN.out, hmlt]
            obtain ⟨rest, hrest⟩ : ∃ rest, xs.drop (m + 1) = rest := ⟨_, rfl⟩
            rw [hrest] at hdr
            have HREST := Lib.hid hrest
            rw [hdr] at hO ⊢
            have hnorm := hO.out.sa.norm
            have hhd : 0 ≤ x ∧ x < y ∧ y ≤ 1099511627776 := hnorm.head
            have hcb := cnt_bd hnorm.tail
            have hcb2 := cnt_bd hnorm
            obtain ⟨S', hS'⟩ : ∃ z, cntL rest = z := ⟨_, rfl⟩
            have hSS : cntL ((x, y) :: rest) = y - x + S' := by rw [cntL, hS']
            obtain ⟨S, hS⟩ : ∃ z, cntL ((x, y) :: rest) = z := ⟨_, rfl⟩
            rw [hS] at hSS hcb2 ⊢
            rw [hS'] at hcb
            have HS' := Lib.hid hS'
            have hrl : rest.length ≤ 14 := by rw [← hrest, List.length_drop, HN.out]; omega
            obtain ⟨g, hA1, _⟩ := hO.out.ow.at (by omega)
            have hcel := hO.out.ow
            rw [hA1] at hcel
            have hcells := hcel.cells m hmlt
            rw [hxy] at hcells
            obtain ⟨c1', c2'⟩ := hcells
            simp only [] at c1' c2'
            clear hS hS' hdr hxy hrest hcel
            have i3 : (m : Int) < (N : Int) := by omega
            have i4 : (0 : Int) ≤ (m : Int) := by omega
            have hw1 : IntKind.i64.wrap (y - x) = y - x := by rw [IntKind.wrap_i64]; omega
            have hw2 : IntKind.i64.wrap (S - (y - x)) = S' := by rw [IntKind.wrap_i64]; omega
            have hw3 : IntKind.i64.wrap (x + y) = x + y := by rw [IntKind.wrap_i64]; omega
            have hw4 : ¬ (S < y - x) := by omega
            obtain ⟨M, hM⟩ : ∃ M, (x + y).tdiv 2 = M := ⟨_, rfl⟩
            have hM2 : x ≤ M ∧ M < y := by rw [← hM, Int.tdiv_eq_ediv_of_nonneg (by omega)]; omega
            have HNO := Lib.hid hnorm
            subst hA1
            clear hSS
            go_wp2_with fail
            refine (first_some B va (x, y) rest _ (wr.alloc (.cells #[.int .i64 x, .int .i64 y] 31)) (hO.out.sa.alloc _)).mono ?_
            rintro e V3 ⟨rfl, b3⟩
            have HB3 := Lib.hid (show Below wr.heap.size wr V3 from ((Below.refl _ _).alloc (Nat.le_refl _) (.cells #[.int .i64 x, .int .i64 y] 31)).trans (b3.mono (by simp)))
            have HB4 := Lib.hid (HB3.out.alloc HB3.out.size (.cells #[.int .i64 x, .int .i64 y] 31))
            have BW := Lib.hid (((Box.new hO.out.sa x y).later b3).later ((Below.refl _ _).alloc (Nat.le_refl _) (.cells #[.int .i64 x, .int .i64 y] 31)))
            have O3 := Lib.hid (hO.out.later HB3.out)
            have BR := Lib.hid (Box.new O3.out.sa x y)
            obtain ⟨e1, e2⟩ := BW.out.cell
            clear b3 c1' c2'
            go_wp2_with fail
            have O4 := Lib.hid (O3.out.later ((Below.refl _ _).alloc (Nat.le_refl _) (.cells #[.int .i64 x, .int .i64 y] 31)))
            refine (O4.out.cut x M (by simp; omega)).mono ?_
            rintro e V5 ⟨rfl, va1, xs1, O5, I5, _, BX⟩
            have eq1 : xs1 = (M, y) :: rest := O5.sa.norm.ext (Norm.cons (show 0 ≤ M by omega) hM2.2 hhd.2.2 HNO.out.tail (fun q hq => HNO.out.rest q hq)) fun z => by
              rw [I5 z, ins_cons, ins_cons]
              constructor
              · rintro ⟨h | h, hz⟩
                · left
                  simp only [] at h ⊢
                  omega
                · exact .inr h
              · rintro (h | h)
                · refine ⟨.inl ?_, ?_⟩
                  · simp only [] at h ⊢
                    omega
                  · simp only [] at h
                    omega
                · refine ⟨.inr h, ?_⟩
                  obtain ⟨q, hq, h1, _⟩ := h
                  have := HNO.out.rest q hq
                  simp only [] at this
                  omega
            subst eq1
            have BR5 := Lib.hid (BX _ _ _ BR.out)
            have HO5 := Lib.hid O5
            clear O5 I5 BX e1 e2
            go_wp2_with fail
            refine (first_some B va1 (M, y) rest _ V5 HO5.out.sa).mono ?_
            rintro e V6 ⟨rfl, b6⟩
            have O6 := Lib.hid ((HO5.out.later b6).later ((Below.refl _ _).alloc (Nat.le_refl _) (.cells #[.int .i64 M, .int .i64 y] 31)))
            have BR6 := Lib.hid ((BR5.out.later b6).later ((Below.refl _ _).alloc (Nat.le_refl _) (.cells #[.int .i64 M, .int .i64 y] 31)))
            obtain ⟨e3, e4⟩ := BR6.out.cell
            clear b6
            go_wp2_with fail
            refine (O6.out.cut M y (by simp; omega)).mono ?_
            rintro e V7 ⟨rfl, va2, xs2, O7, I7, _, _⟩
            have eq2 : xs2 = rest := O7.sa.norm.ext HNO.out.tail fun z => by
              rw [I7 z, ins_cons]
              constructor
              · rintro ⟨h | h, hz⟩
                · exact absurd h hz
                · exact h
              · intro h
                refine ⟨.inr h, ?_⟩
                obtain ⟨q, hq, h1, _⟩ := h
                have := HNO.out.rest q hq
                simp only [] at this
                omega
            subst eq2
            have HO7 := Lib.hid O7
            clear O7 I7 e3 e4
            go_wp2_with fail
            refine (count_any B va2 xs2 _ V7 HO7.out.sa (by omega)).mono ?_
            rintro e V8 ⟨rfl, b8⟩
            rw [HS'.out]
            have HO8 := Lib.hid (HO7.out.later b8)
            clear b8
            go_wp2
            go_roundg (N - (m + 1))
            case measure => omega
            case rel => exact ⟨m + 1, va2, by go_num, by rw [HREST.out, HS'.out], by omega, by omega, by rw [HREST.out]; exact HO8.out⟩
          · have hdn : xs.drop m = [] := List.drop_eq_nil_of_le (by rw [HN.out]; omega)
            rw [hdn] at hO ⊢
            rw [show cntL [] = 0 from rfl]
            have i3 : ¬ ((m : Int) < (N : Int)) := by omega
            clear hdn
            go_wp2_with fail
            refine (first_none B va _ wr hO.out.sa).mono ?_
            rintro e U1 ⟨rfl, b1⟩
            have P1 := Lib.hid ((hO.out.later b1).later ((Below.refl _ _).alloc (Nat.le_refl _) (.cells #[.int .i64 0, .int .i64 0] 31)))
            clear b1
            go_wp2_with fail
            refine (allset_any B va [] _ _ P1.out.sa (by simp)).mono ?_
            rintro e U2 ⟨A2, c2, rfl, o2, b2⟩
            have P2 := Lib.hid (P1.out.later b2)
            clear o2 b2
            rw [List.length_nil]
            go_wp2_with fail
            refine (front_none B va _ U2 P2.out.sa).mono ?_
            rintro e U3 ⟨rfl, b3⟩
            have P3 := Lib.hid (P2.out.later b3)
            clear b3
            go_wp2_with fail
            refine (wakesR_any U3).mono ?_
            rintro e U4 ⟨rfl, b4⟩
            have P4 := Lib.hid (P3.out.later b4)
            clear b4
            go_wp2
            go_ret
            exact ⟨rfl, P4.out.bel⟩
      · have i1 : ¬ ((k : Int) < (n : Int)) := by omega
        clear hl hlt hkn
        go_wp2_with fail
        refine (allset_any B va xs _ wr hI.out.1 (by have := HL.out; omega)).mono ?_
        rintro e V1 ⟨A1, c1, rfl, o1, b1⟩
        have O1 := Lib.hid (show One w V1 B va xs (.slice A1 xs.length c1) xs from ⟨hI.out.1.later b1, o1.less hI.out.2.1.size, by
          cases hv : (Value.slice A1 xs.length c1).ownBlock with
          | none => exact .inl rfl
          | some g =>
            right
            intro he
            have h1 := (o1.lt g hv).1
            have h2 := (hI.out.1.own.lt g he.symm).2
            omega, hI.out.2.1.trans (b1.mono hI.out.2.1.size)⟩)
        clear o1 b1
        go_wp2_with fail
        refine (count_any B va xs _ V1 O1.out.sa (by have := HL.out; omega)).mono ?_
        rintro e V2 ⟨rfl, b2⟩
        have O2 := Lib.hid (O1.out.later b2)
        clear b2 O1 hI
        obtain ⟨N, hN⟩ : ∃ N, xs.length = N := ⟨_, rfl⟩
        have HN := Lib.hid hN
        rw [hN] at O2 HL ⊢
        have hN14 := HL.out
        clear hN
        go_wp2_with fail
        go_loopg [7, 53] N (fun kx s7 s53 wr => ∃ (m : Nat) (va : Value), s53 = .int .i64 m ∧ s7 = .int .i64 (cntL (xs.drop m)) ∧ m ≤ N ∧ N - m ≤ kx ∧ Hid (One w wr B va (xs.drop m) (.slice A1 N c1) xs))
        case atStart => exact ⟨0, va, rfl, rfl, Nat.zero_le _, by omega, O2.out⟩
        case round =>
          obtain ⟨m, va, rfl, rfl, hmN, hgm, hO⟩ := hrel
          by_cases hmlt : m < N
          · obtain ⟨⟨x, y⟩, hxy⟩ : ∃ p, xs.getD m (0, 0) = p := ⟨_, rfl⟩
            have hdr : xs.drop m = (x, y) :: xs.drop (m + 1) := by
              rw [List.drop_eq_getElem_cons (by rw [HN.out]; exact hmlt), ← hxy]
              simp [List.getD, HN.out, hmlt]
            obtain ⟨rest, hrest⟩ : ∃ rest, xs.drop (m + 1) = rest := ⟨_, rfl⟩
            rw [hrest] at hdr
            have HREST := Lib.hid hrest
            rw [hdr] at hO ⊢
            have hnorm := hO.out.sa.norm
            have hhd : 0 ≤ x ∧ x < y ∧ y ≤ 1099511627776 := hnorm.head
            have hcb := cnt_bd hnorm.tail
            have hcb2 := cnt_bd hnorm
            obtain ⟨S', hS'⟩ : ∃ z, cntL rest = z := ⟨_, rfl⟩
            have hSS : cntL ((x, y) :: rest) = y - x + S' := by rw [cntL, hS']
            obtain ⟨S, hS⟩ : ∃ z, cntL ((x, y) :: rest) = z := ⟨_, rfl⟩
            rw [hS] at hSS hcb2 ⊢
            rw [hS'] at hcb
            have HS' := Lib.hid hS'
            have hrl : rest.length ≤ 14 := by rw [← hrest, List.length_drop, HN.out]; omega
            obtain ⟨g, hA1, _⟩ := hO.out.ow.at (by omega)
            have hcel := hO.out.ow
            rw [hA1] at hcel
            have hcells := hcel.cells m hmlt
            rw [hxy] at hcells
            obtain ⟨c1', c2'⟩ := hcells
            simp only [] at c1' c2'
            clear hS hS' hdr hxy hrest hcel
            have i3 : (m : Int) < (N : Int) := by omega
            have i4 : (0 : Int) ≤ (m : Int) := by omega
            have hw1 : IntKind.i64.wrap (y - x) = y - x := by rw [IntKind.wrap_i64]; omega
            have hw2 : IntKind.i64.wrap (S - (y - x)) = S' := by rw [IntKind.wrap_i64]; omega
            have hw3 : IntKind.i64.wrap (x + y) = x + y := by rw [IntKind.wrap_i64]; omega
            have hw4 : ¬ (S < y - x) := by omega
            obtain ⟨M, hM⟩ : ∃ M, (x + y).tdiv 2 = M := ⟨_, rfl⟩
            have hM2 : x ≤ M ∧ M < y := by rw [← hM, Int.tdiv_eq_ediv_of_nonneg (by omega)]; omega
            have HNO := Lib.hid hnorm
            subst hA1
            clear hSS
            go_wp2_with fail
            refine (first_some B va (x, y) rest _ (wr.alloc (.cells #[.int .i64 x, .int .i64 y] 31)) (hO.out.sa.alloc _)).mono ?_
            rintro e V3 ⟨rfl, b3⟩
            have HB3 := Lib.hid (show Below wr.heap.size wr V3 from ((Below.refl _ _).alloc (Nat.le_refl _) (.cells #[.int .i64 x, .int .i64 y] 31)).trans (b3.mono (by simp)))
            have HB4 := Lib.hid (HB3.out.alloc HB3.out.size (.cells #[.int .i64 x, .int .i64 y] 31))
            have BW := Lib.hid (((Box.new hO.out.sa x y).later b3).later ((Below.refl _ _).alloc (Nat.le_refl _) (.cells #[.int .i64 x, .int .i64 y] 31)))
            have O3 := Lib.hid (hO.out.later HB3.out)
            have BR := Lib.hid (Box.new O3.out.sa x y)
            obtain ⟨e1, e2⟩ := BW.out.cell
            clear b3 c1' c2'
            go_wp2_with fail
            have O4 := Lib.hid (O3.out.later ((Below.refl _ _).alloc (Nat.le_refl _) (.cells #[.int .i64 x, .int .i64 y] 31)))
            refine (O4.out.cut x M (by simp; omega)).mono ?_
            rintro e V5 ⟨rfl, va1, xs1, O5, I5, _, BX⟩
            have eq1 : xs1 = (M, y) :: rest := O5.sa.norm.ext (Norm.cons (show 0 ≤ M by omega) hM2.2 hhd.2.2 HNO.out.tail (fun q hq => HNO.out.rest q hq)) fun z => by
              rw [I5 z, ins_cons, ins_cons]
              constructor
              · rintro ⟨h | h, hz⟩
                · left
                  simp only [] at h ⊢
                  omega
                · exact .inr h
              · rintro (h | h)
                · refine ⟨.inl ?_, ?_⟩
                  · simp only [] at h ⊢
                    omega
                  · simp only [] at h
                    omega
                · refine ⟨.inr h, ?_⟩
                  obtain ⟨q, hq, h1, _⟩ := h
                  have := HNO.out.rest q hq
                  simp only [] at this
                  omega
            subst eq1
            have BR5 := Lib.hid (BX _ _ _ BR.out)
            have HO5 := Lib.hid O5
            clear O5 I5 BX e1 e2
            go_wp2_with fail
            refine (first_some B va1 (M, y) rest _ V5 HO5.out.sa).mono ?_
            rintro e V6 ⟨rfl, b6⟩
            have O6 := Lib.hid ((HO5.out.later b6).later ((Below.refl _ _).alloc (Nat.le_refl _) (.cells #[.int .i64 M, .int .i64 y] 31)))
            have BR6 := Lib.hid ((BR5.out.later b6).later ((Below.refl _ _).alloc (Nat.le_refl _) (.cells #[.int .i64 M, .int .i64 y] 31)))
            obtain ⟨e3, e4⟩ := BR6.out.cell
            clear b6
            go_wp2_with fail
            refine (O6.out.cut M y (by simp; omega)).mono ?_
            rintro e V7 ⟨rfl, va2, xs2, O7, I7, _, _⟩
            have eq2 : xs2 = rest := O7.sa.norm.ext HNO.out.tail fun z => by
              rw [I7 z, ins_cons]
              constructor
              · rintro ⟨h | h, hz⟩
                · exact absurd h hz
                · exact h
              · intro h
                refine ⟨.inr h, ?_⟩
                obtain ⟨q, hq, h1, _⟩ := h
                have := HNO.out.rest q hq
                simp only [] at this
                omega
            subst eq2
            have HO7 := Lib.hid O7
            clear O7 I7 e3 e4
            go_wp2_with fail
            refine (count_any B va2 xs2 _ V7 HO7.out.sa (by omega)).mono ?_
            rintro e V8 ⟨rfl, b8⟩
            rw [HS'.out]
            have HO8 := Lib.hid (HO7.out.later b8)
            clear b8
            go_wp2
            go_roundg (N - (m + 1))
            case measure => omega
            case rel => exact ⟨m + 1, va2, by go_num, by rw [HREST.out, HS'.out], by omega, by omega, by rw [HREST.out]; exact HO8.out⟩
          · have hdn : xs.drop m = [] := List.drop_eq_nil_of_le (by rw [HN.out]; omega)
            rw [hdn] at hO ⊢
            rw [show cntL [] = 0 from rfl]
            have i3 : ¬ ((m : Int) < (N : Int)) := by omega
            clear hdn
            go_wp2_with fail
            refine (first_none B va _ wr hO.out.sa).mono ?_
            rintro e U1 ⟨rfl, b1⟩
            have P1 := Lib.hid ((hO.out.later b1).later ((Below.refl _ _).alloc (Nat.le_refl _) (.cells #[.int .i64 0, .int .i64 0] 31)))
            clear b1
            go_wp2_with fail
            refine (allset_any B va [] _ _ P1.out.sa (by simp)).mono ?_
            rintro e U2 ⟨A2, c2, rfl, o2, b2⟩
            have P2 := Lib.hid (P1.out.later b2)
            clear o2 b2
            rw [List.length_nil]
            go_wp2_with fail
            refine (front_none B va _ U2 P2.out.sa).mono ?_
            rintro e U3 ⟨rfl, b3⟩
            have P3 := Lib.hid (P2.out.later b3)
            clear b3
            go_wp2_with fail
            refine (wakesR_any U3).mono ?_
            rintro e U4 ⟨rfl, b4⟩
            have P4 := Lib.hid (P3.out.later b4)
            clear b4
            go_wp2
            go_ret
            exact ⟨rfl, P4.out.bel⟩
end Go.Proofs.Ytcmnambanefjeaa

/-
  What Come of the developers' End does: a contract over the program.
-/
import Derived.Test.YtpjlnpnadkbakaaGreatQBPrEn12
import Derived.Test.YtpjlnpnadkbakaaGreatQBMem
namespace Go.Proofs.YtpjlnpnadkbakaaGreat
set_option maxRecDepth 10000
open Go.RowKit
set_option maxHeartbeats 4000000 in
theorem eecome_no {w : World} {L : Lab} {K b : Nat} {s : EeS} {E : En} (h : EE w L K b s E) (hK : K ≠ 0) (hok : E.ok) (k pa nu ofn fr : Int) (da : List Int) (fin : Bool) (se li : Int) (A : Option Addr) (c : Nat) (hp : PktAt w ⟨k, pa, nu, ofn, fr, da, fin, se, li⟩ A c) (ha : Aps w L K A) (hm : E.mayC ⟨k, pa, nu, ofn, fr, da, fin, se, li⟩ = false) {N : Nat} (hc : E.cap N) (hN : N ≤ 272000000000) :
    Calls Tryz.prog 22 #[.pointer (some ⟨b, 0, none⟩), .agg #[.int .i64 k, .int .i64 pa, .int .i64 nu, .int .i64 ofn, .int .i64 fr, .slice A da.length c, .bool fin, .int .i64 se, .int .i64 li]] w (EeAns w L K b s (E.count 4 1) (.bool false)) := by
  have hsy := Sy.new hp ha
  obtain ⟨w0, hw0⟩ : ∃ w0, w.alloc (.cells #[.int .i64 k, .int .i64 pa, .int .i64 nu, .int .i64 ofn, .int .i64 fr, .slice A da.length c, .bool fin, .int .i64 se, .int .i64 li] 32) = w0 := ⟨_, rfl⟩
  rw [show w.alloc (.cells (Pkt.cs ⟨k, pa, nu, ofn, fr, da, fin, se, li⟩ A c).toArray 32) = w0 from hw0] at hsy
  have hb0 : Below w.heap.size w w0 := by rw [← hw0]; exact (Below.refl _ _).alloc (Nat.le_refl _) _
  have h1 := h.grow hb0 (K + 13)
  obtain ⟨L0, hL0⟩ : ∃ L0, relab L w.heap.size (K + 13) = L0 := ⟨_, rfl⟩
  obtain ⟨b0, hb0'⟩ : ∃ b0, w.heap.size = b0 := ⟨_, rfl⟩
  rw [hL0] at h1 hsy
  obtain ⟨x0, x1, x2, x3, x4, x5, x6, x7, x8⟩ := hsy.v.cells
  simp only [] at x0 x1 x2 x3 x4 x5 x6 x7 x8
  rw [hb0'] at hsy
  have hmay := eetakes_any h1 hok _ A c hsy.at_
  rw [hm] at hmay
  have HMAY := Lib.hid (show Calls Tryz.prog 69 #[.pointer (some ⟨b, 0, none⟩), .agg #[.int .i64 k, .int .i64 pa, .int .i64 nu, .int .i64 ofn, .int .i64 fr, .slice A da.length c, .bool fin, .int .i64 se, .int .i64 li]] w0 _ from hmay)
  have HQ := Lib.hid (And.intro h1 (And.intro hsy hc))
  clear h hok hp ha hm hc hsy hb0 h1 hL0 hmay hb0'
  go_enter Tryz.func22, Tryz.ntmps22
  go_wp2_with fail
  clear x0 x1 x2 x3 x4 x5 x6 x7 x8
  refine HMAY.out.mono ?_
  rintro e w1 ⟨rfl, hb1⟩
  obtain ⟨h1, hsy, hc⟩ := HQ.out
  have h2 := h1.grow hb1 0
  have hs2 := hsy.turn (Tn.of_below hb1 L0 0 (Es K))
  have HAD := Lib.hid (eecount_any h2 hK 4 (by omega) 1 (by omega) (by omega) hc (by omega) 4 rfl)
  have c18 := h2.c18
  have HT := Lib.hid hs2.tn
  clear h1 hsy hc h2 hs2 hb1 HMAY HQ
  go_wp2_with fail
  refine HAD.out.mono ?_
  rintro e w2 ⟨⟨z, rfl⟩, L2, h2, ht2⟩
  have HFIN := Lib.hid (show EeAns w L K b s (E.count 4 1) (.bool false) (.returned (.bool false)) w2 from ⟨rfl, L2, h2, HT.out.trans ht2⟩)
  clear h2 ht2 HT HAD c18
  go_wp2
  go_ret
  exact HFIN.out
set_option maxHeartbeats 8000000 in
theorem eecome_1 {w : World} {L : Lab} {K b : Nat} {s : EeS} {E : En} (h : EE w L K b s E) (hK : K ≠ 0) (hok : E.ok) (i : Nat) (hi : i < E.ps.length) (nu ofn fr : Int) (da : List Int) (fin : Bool) (se li : Int) (A : Option Addr) (c : Nat) (hp : PktAt w ⟨1, (i : Int), nu, ofn, fr, da, fin, se, li⟩ A c) (ha : Aps w L K A) (hpb0 : PkB ⟨1, (i : Int), nu, ofn, fr, da, fin, se, li⟩) (hm : E.mayC ⟨1, (i : Int), nu, ofn, fr, da, fin, se, li⟩ = true) (ho : Pkt.ok ⟨1, (i : Int), nu, ofn, fr, da, fin, se, li⟩ = true) (hkm : E.mayK ⟨1, (i : Int), nu, ofn, fr, da, fin, se, li⟩ i = true) {N : Nat} (hc : E.cap N) (hN : N ≤ 272000000000) :
    Calls Tryz.prog 22 #[.pointer (some ⟨b, 0, none⟩), .agg #[.int .i64 1, .int .i64 (i : Int), .int .i64 nu, .int .i64 ofn, .int .i64 fr, .slice A da.length c, .bool fin, .int .i64 se, .int .i64 li]] w (EeAns w L K b s (E.come ⟨1, (i : Int), nu, ofn, fr, da, fin, se, li⟩) (.bool true)) := by
  have hsy := Sy.new hp ha
  obtain ⟨w0, hw0⟩ : ∃ w0, w.alloc (.cells #[.int .i64 1, .int .i64 (i : Int), .int .i64 nu, .int .i64 ofn, .int .i64 fr, .slice A da.length c, .bool fin, .int .i64 se, .int .i64 li] 32) = w0 := ⟨_, rfl⟩
  rw [show w.alloc (.cells (Pkt.cs ⟨1, (i : Int), nu, ofn, fr, da, fin, se, li⟩ A c).toArray 32) = w0 from hw0] at hsy
  have hb0 : Below w.heap.size w w0 := by rw [← hw0]; exact (Below.refl _ _).alloc (Nat.le_refl _) _
  have h1 := h.grow hb0 (K + 13)
  obtain ⟨L0, hL0⟩ : ∃ L0, relab L w.heap.size (K + 13) = L0 := ⟨_, rfl⟩
  obtain ⟨b0, hb0'⟩ : ∃ b0, w.heap.size = b0 := ⟨_, rfl⟩
  rw [hL0] at h1 hsy
  obtain ⟨x0, x1, x2, x3, x4, x5, x6, x7, x8⟩ := hsy.v.cells
  simp only [] at x0 x1 x2 x3 x4 x5 x6 x7 x8
  rw [hb0'] at hsy
  have hmay := eetakes_any h1 hok _ A c hsy.at_
  rw [hm] at hmay
  have HMAY := Lib.hid (show Calls Tryz.prog 69 #[.pointer (some ⟨b, 0, none⟩), .agg #[.int .i64 1, .int .i64 (i : Int), .int .i64 nu, .int .i64 ofn, .int .i64 fr, .slice A da.length c, .bool fin, .int .i64 se, .int .i64 li]] w0 _ from hmay)
  have hE : E.come ⟨1, (i : Int), nu, ofn, fr, da, fin, se, li⟩ = E.came ⟨1, (i : Int), nu, ofn, fr, da, fin, se, li⟩ := by unfold En.come; rw [hm]; rfl
  have hnu := Pkt.ok_nu ho
  have HQ := Lib.hid (And.intro h1 (And.intro hsy (And.intro hc (And.intro hok (And.intro hi (And.intro hpb0 (And.intro ho (And.intro hkm (And.intro hE hnu)))))))))
  have HB := Lib.hid hb0'
  clear h hok hp ha hm hc hsy hb0 h1 hL0 hmay hi hpb0 ho hkm hE hnu hb0'
  go_enter Tryz.func22, Tryz.ntmps22
  go_wp2_with fail
  clear x0 x1 x2 x3 x4 x5 x6 x7 x8
  try rw [HB.out]
  refine HMAY.out.mono ?_
  rintro e w1 ⟨rfl, hb1⟩
  obtain ⟨h1, hsy, hc, hok, hi, hpb0, ho, hkm, hE, hnu⟩ := HQ.out
  have h2 := h1.grow hb1 0
  have hs2 := hsy.turn (Tn.of_below hb1 L0 0 (Es K))
  obtain ⟨L1, hL1⟩ : ∃ L1, relab L0 w0.heap.size 0 = L1 := ⟨_, rfl⟩
  rw [hL1] at h2 hs2
  have hnt := eenote_any h2 hK (evP 4 ⟨1, (i : Int), nu, ofn, fr, da, fin, se, li⟩) none 0 A c (evP_at 4 (by omega) hs2.at_) (EvB.pkt (EvB.kin EvB.zero (by decide)) hpb0) hc (by omega)
  rw [En.noteS_in (by show (4 : Int) ≠ 5; decide)] at hnt
  have HNO := Lib.hid (show Calls Tryz.prog 65 #[.pointer (some ⟨b, 0, none⟩), .agg #[.int .i64 4, .int .i64 0, .slice none 0 0, .int .i64 1, .int .i64 (i : Int), .int .i64 nu, .int .i64 ofn, .int .i64 fr, .slice A da.length c, .bool fin, .int .i64 se, .int .i64 li]] w1 _ from hnt)
  obtain ⟨x0, x1, x2, x3, x4, x5, x6, x7, x8⟩ := hs2.v.cells
  simp only [] at x0 x1 x2 x3 x4 x5 x6 x7 x8
  have HQ2 := Lib.hid (And.intro hs2 (And.intro hc (And.intro hok (And.intro hi (And.intro ho (And.intro hkm (And.intro hE (And.intro hnu hpb0))))))))
  clear h1 hsy hc hok hi hpb0 ho hkm hE hnu h2 hs2 hL1 hb1 hnt HMAY HQ
  go_wp2_with fail
  clear x0 x1 x2 x3 x4 x5 x6 x7 x8
  refine HNO.out.mono ?_
  rintro e w3 ⟨rfl, L3, h3, ht3⟩
  obtain ⟨hs2, hc, hok, hi, ho, hkm, hE, hnu, hpb0⟩ := HQ2.out
  have hs3 := hs2.turn ht3
  have hc3 := hc.note (evP 4 ⟨1, (i : Int), nu, ofn, fr, da, fin, se, li⟩)
  have c18 := h3.c18
  have HAD := Lib.hid (eecount_any h3 hK 3 (by omega) 1 (by omega) (by omega) hc3 (by omega) 3 rfl)
  have HQ3 := Lib.hid (And.intro hs3 (And.intro (hc3.count 3 (n := 1) (k := 1) (by omega) (by omega)) (And.intro ((hok.note (evP 4 ⟨1, (i : Int), nu, ofn, fr, da, fin, se, li⟩)).count 3 1) (And.intro hi (And.intro ho (And.intro hkm (And.intro hE (And.intro hnu hpb0))))))))
  clear hs2 hc hok hi ho hkm hE hnu hpb0 h3 ht3 hs3 hc3 HQ2 HNO
  go_wp2_with fail
  clear c18
  refine HAD.out.mono ?_
  rintro e w4 ⟨⟨z, rfl⟩, L4, h4, ht4⟩
  obtain ⟨hs3, hc2, hok2, hi, ho, hkm, hE, hnu, hpb0⟩ := HQ3.out
  obtain ⟨E2, hE2⟩ : ∃ E2, (E.note (evP 4 ⟨1, (i : Int), nu, ofn, fr, da, fin, se, li⟩)).count 3 1 = E2 := ⟨_, rfl⟩
  rw [hE2] at h4 hc2 hok2
  have hi2 : i < E2.ps.length := by rw [← hE2]; exact hi
  have hEF : E.come ⟨1, (i : Int), nu, ofn, fr, da, fin, se, li⟩ = (E2.setP i ((E2.pa i).setJo true)).say i ⟨2, (i : Int), 0, nu, 0, [], false, 0, 0⟩ := by rw [hE, ← hE2]; rfl
  have hks : True := trivial
  have hda : True := trivial
  have hsy5 := (hs3.turn ht4).drewN 1
  have h5 := h4.drewN 1
  obtain ⟨w5, hw5⟩ : ∃ w5, w4.drew = w5 := ⟨_, rfl⟩
  rw [show w4.drewN 1 = w5 from hw5] at hsy5 h5
  obtain ⟨n, hn⟩ : ∃ n, E2.ps.length = n := ⟨_, rfl⟩
  obtain ⟨g, cp, hpv, c10, hg, _, _⟩ := h5.look hn (i := i) (by omega)
  have y := hg i (by omega)
  obtain ⟨pb, hpb⟩ : ∃ pb, s.pb.getD i 0 = pb := ⟨_, rfl⟩
  rw [hpb] at y
  have S0 := Lib.hid (show w5.cell? ⟨b, 0 + 10, none⟩ = some (.slice (some ⟨g, 0, none⟩) n cp) ∧ w5.cell? ⟨b0, 0 + 1, none⟩ = some (.int .i64 (i : Int)) ∧ w5.cell? ⟨g, i, none⟩ = some (.pointer (some ⟨pb, 0, none⟩)) from ⟨c10, hsy5.v.cells.c1, y⟩)
  have HQ5 := Lib.hid (And.intro h5 (And.intro hsy5 (And.intro hok2 (And.intro hc2 (And.intro hi2 (And.intro hEF (And.intro hnu (And.intro hpb (And.intro hks hda)))))))))
  have x0 : w5.cell? ⟨b0, 0, none⟩ = some (.int .i64 1) := hsy5.v.cells.c0
  have i1 : (i : Int) < (n : Int) := by omega
  have i2 : (0 : Int) ≤ (i : Int) := by omega
  clear hs3 hc2 hok2 hi ho hkm hE hnu hpb0 hE2 h4 ht4 hi2 hEF hks hda hsy5 h5 hn hpv hg hpb c10 y HQ3 HAD HB
  go_wp2_with fail
  refine wp_region_held_drew (S := fun wi => wi.cell? ⟨b, 0 + 10, none⟩ = some (.slice (some ⟨g, 0, none⟩) n cp) ∧ wi.cell? ⟨b0, 0 + 1, none⟩ = some (.int .i64 (i : Int)) ∧ wi.cell? ⟨g, i, none⟩ = some (.pointer (some ⟨pb, 0, none⟩))) (by kernel_rfl) (by rw [hw5]; exact S0.out) ?_
  intro hHeld
  rw [hw5] at hHeld ⊢
  clear hw5
  refine tkH 0 ?_
  refine tkH 1 ?_
  refine tkH 2 ?_
  refine tkH 3 ?_
  refine tkH 4 ?_
  refine tkH 5 ?_
  refine tkH 6 ?_
  refine tkH 7 ?_
  refine tkH 8 ?_
  refine wpAnyH_done (by kernel_rfl) ?_ _
  clear hHeld S0
  obtain ⟨h5, hsy5, hok2, hc2, hi2, hEF, hnu, hpb, hks, hda⟩ := HQ5.out
  have hjn := eejoin1_any h5 hK i hi2
  rw [hpb] at hjn
  have HJN := Lib.hid hjn
  have HQ6 := Lib.hid (And.intro hsy5 (And.intro hok2 (And.intro hc2 (And.intro hi2 (And.intro hEF hnu)))))
  clear h5 hsy5 hok2 hc2 hi2 hEF hnu hpb hjn hks hda HQ5
  go_wp2_with fail
  refine HJN.out.mono ?_
  rintro e w6 ⟨rfl, L6, h6, ht6⟩
  obtain ⟨hsy5, hok2, hc2, hi2, hEF, hnu⟩ := HQ6.out
  have hsy6 := hsy5.turn ht6
  obtain ⟨E3, hE3⟩ : ∃ E3, E2.setP i ((E2.pa i).setJo true) = E3 := ⟨_, rfl⟩
  have hok3 : E3.ok := by rw [← hE3]; exact hok2.setP i ((hok2.pa hi2).setJo true)
  have hc3 : E3.cap (N + 2) := by rw [← hE3]; exact hc2.of_eq rfl rfl rfl
  have hi3 : i < E3.ps.length := by rw [← hE3]; simpa [En.setP] using hi2
  rw [hE3] at h6 hEF
  have hfi := hok3.pa hi3
  obtain ⟨hpa, hpb3⟩ := (Byt.nil w6 L6).pkt (k := 2) (pa := (i : Int)) (nu := 0) (ofn := nu) (fr := 0) (se := 0) (li := 0) (fin := false) (by simp) (by simp) (by omega) (by have := hok3.np3; omega) (by omega) (by omega) (by omega) (by omega) (by omega)
  have hsay := eesay_any h6 hK hok3 i hi3 2 0 nu 0 [] false 0 0 none 0 hpa ((Byt.nil w6 L6).aps hK) (hpb3.nu (by have := hfi.ok.s1; have := hfi.ok.s2; omega)) hc3 (by omega)
  simp only [List.length_nil] at hsay
  have HSY := Lib.hid hsay
  have v1 : w6.cell? ⟨b0, 0 + 1, none⟩ = some (.int .i64 (i : Int)) := hsy6.v.cells.c1
  have v2 : w6.cell? ⟨b0, 0 + 2, none⟩ = some (.int .i64 nu) := hsy6.v.cells.c2
  have HT := Lib.hid (And.intro hsy6 hEF)
  clear h6 ht6 hsy5 hok2 hc2 hi2 hEF hnu hsy6 hE3 hok3 hc3 hi3 hfi hpa hpb3 hsay HJN HQ6
  go_wp2_with fail
  clear v1 v2
  refine HSY.out.mono ?_
  rintro e w9 ⟨⟨ea, eb, rfl⟩, L9, h9, ht9⟩
  clear HSY
  have HFIN := Lib.hid (show EeAns w L K b s (E.come ⟨1, (i : Int), nu, ofn, fr, da, fin, se, li⟩) (.bool true) (.returned (.bool true)) w9 from ⟨rfl, L9, by rw [HT.out.2]; exact h9, (HT.out.1.turn ht9).tn⟩)
  clear h9 ht9 HT
  go_wp2
  go_ret
  exact HFIN.out
set_option maxHeartbeats 8000000 in
theorem eecome_2 {w : World} {L : Lab} {K b : Nat} {s : EeS} {E : En} (h : EE w L K b s E) (hK : K ≠ 0) (hok : E.ok) (i : Nat) (hi : i < E.ps.length) (nu ofn fr : Int) (da : List Int) (fin : Bool) (se li : Int) (A : Option Addr) (c : Nat) (hp : PktAt w ⟨2, (i : Int), nu, ofn, fr, da, fin, se, li⟩ A c) (ha : Aps w L K A) (hpb0 : PkB ⟨2, (i : Int), nu, ofn, fr, da, fin, se, li⟩) (hm : E.mayC ⟨2, (i : Int), nu, ofn, fr, da, fin, se, li⟩ = true) (ho : Pkt.ok ⟨2, (i : Int), nu, ofn, fr, da, fin, se, li⟩ = true) (hkm : E.mayK ⟨2, (i : Int), nu, ofn, fr, da, fin, se, li⟩ i = true) {N : Nat} (hc : E.cap N) (hN : N ≤ 272000000000) :
    Calls Tryz.prog 22 #[.pointer (some ⟨b, 0, none⟩), .agg #[.int .i64 2, .int .i64 (i : Int), .int .i64 nu, .int .i64 ofn, .int .i64 fr, .slice A da.length c, .bool fin, .int .i64 se, .int .i64 li]] w (EeAns w L K b s (E.come ⟨2, (i : Int), nu, ofn, fr, da, fin, se, li⟩) (.bool true)) := by
  have hsy := Sy.new hp ha
  obtain ⟨w0, hw0⟩ : ∃ w0, w.alloc (.cells #[.int .i64 2, .int .i64 (i : Int), .int .i64 nu, .int .i64 ofn, .int .i64 fr, .slice A da.length c, .bool fin, .int .i64 se, .int .i64 li] 32) = w0 := ⟨_, rfl⟩
  rw [show w.alloc (.cells (Pkt.cs ⟨2, (i : Int), nu, ofn, fr, da, fin, se, li⟩ A c).toArray 32) = w0 from hw0] at hsy
  have hb0 : Below w.heap.size w w0 := by rw [← hw0]; exact (Below.refl _ _).alloc (Nat.le_refl _) _
  have h1 := h.grow hb0 (K + 13)
  obtain ⟨L0, hL0⟩ : ∃ L0, relab L w.heap.size (K + 13) = L0 := ⟨_, rfl⟩
  obtain ⟨b0, hb0'⟩ : ∃ b0, w.heap.size = b0 := ⟨_, rfl⟩
  rw [hL0] at h1 hsy
  obtain ⟨x0, x1, x2, x3, x4, x5, x6, x7, x8⟩ := hsy.v.cells
  simp only [] at x0 x1 x2 x3 x4 x5 x6 x7 x8
  rw [hb0'] at hsy
  have hmay := eetakes_any h1 hok _ A c hsy.at_
  rw [hm] at hmay
  have HMAY := Lib.hid (show Calls Tryz.prog 69 #[.pointer (some ⟨b, 0, none⟩), .agg #[.int .i64 2, .int .i64 (i : Int), .int .i64 nu, .int .i64 ofn, .int .i64 fr, .slice A da.length c, .bool fin, .int .i64 se, .int .i64 li]] w0 _ from hmay)
  have hE : E.come ⟨2, (i : Int), nu, ofn, fr, da, fin, se, li⟩ = E.came ⟨2, (i : Int), nu, ofn, fr, da, fin, se, li⟩ := by unfold En.come; rw [hm]; rfl
  have hnu := Pkt.ok_nu ho
  have HQ := Lib.hid (And.intro h1 (And.intro hsy (And.intro hc (And.intro hok (And.intro hi (And.intro hpb0 (And.intro ho (And.intro hkm (And.intro hE hnu)))))))))
  have HB := Lib.hid hb0'
  clear h hok hp ha hm hc hsy hb0 h1 hL0 hmay hi hpb0 ho hkm hE hnu hb0'
  go_enter Tryz.func22, Tryz.ntmps22
  go_wp2_with fail
  clear x0 x1 x2 x3 x4 x5 x6 x7 x8
  try rw [HB.out]
  refine HMAY.out.mono ?_
  rintro e w1 ⟨rfl, hb1⟩
  obtain ⟨h1, hsy, hc, hok, hi, hpb0, ho, hkm, hE, hnu⟩ := HQ.out
  have h2 := h1.grow hb1 0
  have hs2 := hsy.turn (Tn.of_below hb1 L0 0 (Es K))
  obtain ⟨L1, hL1⟩ : ∃ L1, relab L0 w0.heap.size 0 = L1 := ⟨_, rfl⟩
  rw [hL1] at h2 hs2
  have hnt := eenote_any h2 hK (evP 4 ⟨2, (i : Int), nu, ofn, fr, da, fin, se, li⟩) none 0 A c (evP_at 4 (by omega) hs2.at_) (EvB.pkt (EvB.kin EvB.zero (by decide)) hpb0) hc (by omega)
  rw [En.noteS_in (by show (4 : Int) ≠ 5; decide)] at hnt
  have HNO := Lib.hid (show Calls Tryz.prog 65 #[.pointer (some ⟨b, 0, none⟩), .agg #[.int .i64 4, .int .i64 0, .slice none 0 0, .int .i64 2, .int .i64 (i : Int), .int .i64 nu, .int .i64 ofn, .int .i64 fr, .slice A da.length c, .bool fin, .int .i64 se, .int .i64 li]] w1 _ from hnt)
  obtain ⟨x0, x1, x2, x3, x4, x5, x6, x7, x8⟩ := hs2.v.cells
  simp only [] at x0 x1 x2 x3 x4 x5 x6 x7 x8
  have HQ2 := Lib.hid (And.intro hs2 (And.intro hc (And.intro hok (And.intro hi (And.intro ho (And.intro hkm (And.intro hE (And.intro hnu hpb0))))))))
  clear h1 hsy hc hok hi hpb0 ho hkm hE hnu h2 hs2 hL1 hb1 hnt HMAY HQ
  go_wp2_with fail
  clear x0 x1 x2 x3 x4 x5 x6 x7 x8
  refine HNO.out.mono ?_
  rintro e w3 ⟨rfl, L3, h3, ht3⟩
  obtain ⟨hs2, hc, hok, hi, ho, hkm, hE, hnu, hpb0⟩ := HQ2.out
  have hs3 := hs2.turn ht3
  have hc3 := hc.note (evP 4 ⟨2, (i : Int), nu, ofn, fr, da, fin, se, li⟩)
  have c18 := h3.c18
  have HAD := Lib.hid (eecount_any h3 hK 3 (by omega) 1 (by omega) (by omega) hc3 (by omega) 3 rfl)
  have HQ3 := Lib.hid (And.intro hs3 (And.intro (hc3.count 3 (n := 1) (k := 1) (by omega) (by omega)) (And.intro ((hok.note (evP 4 ⟨2, (i : Int), nu, ofn, fr, da, fin, se, li⟩)).count 3 1) (And.intro hi (And.intro ho (And.intro hkm (And.intro hE (And.intro hnu hpb0))))))))
  clear hs2 hc hok hi ho hkm hE hnu hpb0 h3 ht3 hs3 hc3 HQ2 HNO
  go_wp2_with fail
  clear c18
  refine HAD.out.mono ?_
  rintro e w4 ⟨⟨z, rfl⟩, L4, h4, ht4⟩
  obtain ⟨hs3, hc2, hok2, hi, ho, hkm, hE, hnu, hpb0⟩ := HQ3.out
  obtain ⟨E2, hE2⟩ : ∃ E2, (E.note (evP 4 ⟨2, (i : Int), nu, ofn, fr, da, fin, se, li⟩)).count 3 1 = E2 := ⟨_, rfl⟩
  rw [hE2] at h4 hc2 hok2
  have hi2 : i < E2.ps.length := by rw [← hE2]; exact hi
  have hEF : E.come ⟨2, (i : Int), nu, ofn, fr, da, fin, se, li⟩ = (E2.setP i ((E2.pa i).setJo true)).pump := by rw [hE, ← hE2]; rfl
  have hks : True := trivial
  have hda : True := trivial
  have hsy5 := (hs3.turn ht4).drewN 1
  have h5 := h4.drewN 1
  obtain ⟨w5, hw5⟩ : ∃ w5, w4.drew = w5 := ⟨_, rfl⟩
  rw [show w4.drewN 1 = w5 from hw5] at hsy5 h5
  obtain ⟨n, hn⟩ : ∃ n, E2.ps.length = n := ⟨_, rfl⟩
  obtain ⟨g, cp, hpv, c10, hg, _, _⟩ := h5.look hn (i := i) (by omega)
  have y := hg i (by omega)
  obtain ⟨pb, hpb⟩ : ∃ pb, s.pb.getD i 0 = pb := ⟨_, rfl⟩
  rw [hpb] at y
  have S0 := Lib.hid (show w5.cell? ⟨b, 0 + 10, none⟩ = some (.slice (some ⟨g, 0, none⟩) n cp) ∧ w5.cell? ⟨b0, 0 + 1, none⟩ = some (.int .i64 (i : Int)) ∧ w5.cell? ⟨g, i, none⟩ = some (.pointer (some ⟨pb, 0, none⟩)) from ⟨c10, hsy5.v.cells.c1, y⟩)
  have HQ5 := Lib.hid (And.intro h5 (And.intro hsy5 (And.intro hok2 (And.intro hc2 (And.intro hi2 (And.intro hEF (And.intro hnu (And.intro hpb (And.intro hks hda)))))))))
  have x0 : w5.cell? ⟨b0, 0, none⟩ = some (.int .i64 2) := hsy5.v.cells.c0
  have i1 : (i : Int) < (n : Int) := by omega
  have i2 : (0 : Int) ≤ (i : Int) := by omega
  clear hs3 hc2 hok2 hi ho hkm hE hnu hpb0 hE2 h4 ht4 hi2 hEF hks hda hsy5 h5 hn hpv hg hpb c10 y HQ3 HAD HB
  go_wp2_with fail
  refine wp_region_held_drew (S := fun wi => wi.cell? ⟨b, 0 + 10, none⟩ = some (.slice (some ⟨g, 0, none⟩) n cp) ∧ wi.cell? ⟨b0, 0 + 1, none⟩ = some (.int .i64 (i : Int)) ∧ wi.cell? ⟨g, i, none⟩ = some (.pointer (some ⟨pb, 0, none⟩))) (by kernel_rfl) (by rw [hw5]; exact S0.out) ?_
  intro hHeld
  rw [hw5] at hHeld ⊢
  clear hw5
  refine tkH 0 ?_
  refine tkH 1 ?_
  refine tkH 2 ?_
  refine tkH 3 ?_
  refine tkH 4 ?_
  refine tkH 5 ?_
  refine tkH 6 ?_
  refine tkH 7 ?_
  refine tkH 8 ?_
  refine wpAnyH_done (by kernel_rfl) ?_ _
  clear hHeld S0
  obtain ⟨h5, hsy5, hok2, hc2, hi2, hEF, hnu, hpb, hks, hda⟩ := HQ5.out
  have hjn := eejoin1_any h5 hK i hi2
  rw [hpb] at hjn
  have HJN := Lib.hid hjn
  have HQ6 := Lib.hid (And.intro hsy5 (And.intro hok2 (And.intro hc2 (And.intro hi2 (And.intro hEF hnu)))))
  clear h5 hsy5 hok2 hc2 hi2 hEF hnu hpb hjn hks hda HQ5
  go_wp2_with fail
  refine HJN.out.mono ?_
  rintro e w6 ⟨rfl, L6, h6, ht6⟩
  obtain ⟨hsy5, hok2, hc2, hi2, hEF, hnu⟩ := HQ6.out
  have hsy6 := hsy5.turn ht6
  obtain ⟨E3, hE3⟩ : ∃ E3, E2.setP i ((E2.pa i).setJo true) = E3 := ⟨_, rfl⟩
  have hok3 : E3.ok := by rw [← hE3]; exact hok2.setP i ((hok2.pa hi2).setJo true)
  have hc3 : E3.cap (N + 2) := by rw [← hE3]; exact hc2.of_eq rfl rfl rfl
  have hi3 : i < E3.ps.length := by rw [← hE3]; simpa [En.setP] using hi2
  rw [hE3] at h6 hEF
  have HPU := Lib.hid (eepump_any h6 hK hok3 hc3 (by omega))
  have HT := Lib.hid (And.intro hsy6 hEF)
  clear h6 ht6 hsy5 hok2 hc2 hi2 hEF hnu hsy6 hE3 hok3 hc3 hi3 HJN HQ6
  go_wp2_with fail
  refine HPU.out.mono ?_
  rintro e w9 ⟨rfl, L9, h9, ht9⟩
  clear HPU
  have HFIN := Lib.hid (show EeAns w L K b s (E.come ⟨2, (i : Int), nu, ofn, fr, da, fin, se, li⟩) (.bool true) (.returned (.bool true)) w9 from ⟨rfl, L9, by rw [HT.out.2]; exact h9, (HT.out.1.turn ht9).tn⟩)
  clear h9 ht9 HT
  go_wp2
  go_ret
  exact HFIN.out
set_option maxHeartbeats 8000000 in
theorem eecome_3 {w : World} {L : Lab} {K b : Nat} {s : EeS} {E : En} (h : EE w L K b s E) (hK : K ≠ 0) (hok : E.ok) (i : Nat) (hi : i < E.ps.length) (nu ofn fr : Int) (da : List Int) (fin : Bool) (se li : Int) (A : Option Addr) (c : Nat) (hp : PktAt w ⟨3, (i : Int), nu, ofn, fr, da, fin, se, li⟩ A c) (ha : Aps w L K A) (hpb0 : PkB ⟨3, (i : Int), nu, ofn, fr, da, fin, se, li⟩) (hm : E.mayC ⟨3, (i : Int), nu, ofn, fr, da, fin, se, li⟩ = true) (ho : Pkt.ok ⟨3, (i : Int), nu, ofn, fr, da, fin, se, li⟩ = true) (hkm : E.mayK ⟨3, (i : Int), nu, ofn, fr, da, fin, se, li⟩ i = true) {N : Nat} (hc : E.cap N) (hN : N ≤ 272000000000) :
    Calls Tryz.prog 22 #[.pointer (some ⟨b, 0, none⟩), .agg #[.int .i64 3, .int .i64 (i : Int), .int .i64 nu, .int .i64 ofn, .int .i64 fr, .slice A da.length c, .bool fin, .int .i64 se, .int .i64 li]] w (EeAns w L K b s (E.come ⟨3, (i : Int), nu, ofn, fr, da, fin, se, li⟩) (.bool true)) := by
  have hsy := Sy.new hp ha
  obtain ⟨w0, hw0⟩ : ∃ w0, w.alloc (.cells #[.int .i64 3, .int .i64 (i : Int), .int .i64 nu, .int .i64 ofn, .int .i64 fr, .slice A da.length c, .bool fin, .int .i64 se, .int .i64 li] 32) = w0 := ⟨_, rfl⟩
  rw [show w.alloc (.cells (Pkt.cs ⟨3, (i : Int), nu, ofn, fr, da, fin, se, li⟩ A c).toArray 32) = w0 from hw0] at hsy
  have hb0 : Below w.heap.size w w0 := by rw [← hw0]; exact (Below.refl _ _).alloc (Nat.le_refl _) _
  have h1 := h.grow hb0 (K + 13)
  obtain ⟨L0, hL0⟩ : ∃ L0, relab L w.heap.size (K + 13) = L0 := ⟨_, rfl⟩
  obtain ⟨b0, hb0'⟩ : ∃ b0, w.heap.size = b0 := ⟨_, rfl⟩
  rw [hL0] at h1 hsy
  obtain ⟨x0, x1, x2, x3, x4, x5, x6, x7, x8⟩ := hsy.v.cells
  simp only [] at x0 x1 x2 x3 x4 x5 x6 x7 x8
  rw [hb0'] at hsy
  have hmay := eetakes_any h1 hok _ A c hsy.at_
  rw [hm] at hmay
  have HMAY := Lib.hid (show Calls Tryz.prog 69 #[.pointer (some ⟨b, 0, none⟩), .agg #[.int .i64 3, .int .i64 (i : Int), .int .i64 nu, .int .i64 ofn, .int .i64 fr, .slice A da.length c, .bool fin, .int .i64 se, .int .i64 li]] w0 _ from hmay)
  have hE : E.come ⟨3, (i : Int), nu, ofn, fr, da, fin, se, li⟩ = E.came ⟨3, (i : Int), nu, ofn, fr, da, fin, se, li⟩ := by unfold En.come; rw [hm]; rfl
  have hnu := Pkt.ok_nu ho
  have HQ := Lib.hid (And.intro h1 (And.intro hsy (And.intro hc (And.intro hok (And.intro hi (And.intro hpb0 (And.intro ho (And.intro hkm (And.intro hE hnu)))))))))
  have HB := Lib.hid hb0'
  clear h hok hp ha hm hc hsy hb0 h1 hL0 hmay hi hpb0 ho hkm hE hnu hb0'
  go_enter Tryz.func22, Tryz.ntmps22
  go_wp2_with fail
  clear x0 x1 x2 x3 x4 x5 x6 x7 x8
  try rw [HB.out]
  refine HMAY.out.mono ?_
  rintro e w1 ⟨rfl, hb1⟩
  obtain ⟨h1, hsy, hc, hok, hi, hpb0, ho, hkm, hE, hnu⟩ := HQ.out
  have h2 := h1.grow hb1 0
  have hs2 := hsy.turn (Tn.of_below hb1 L0 0 (Es K))
  obtain ⟨L1, hL1⟩ : ∃ L1, relab L0 w0.heap.size 0 = L1 := ⟨_, rfl⟩
  rw [hL1] at h2 hs2
  have hnt := eenote_any h2 hK (evP 4 ⟨3, (i : Int), nu, ofn, fr, da, fin, se, li⟩) none 0 A c (evP_at 4 (by omega) hs2.at_) (EvB.pkt (EvB.kin EvB.zero (by decide)) hpb0) hc (by omega)
  rw [En.noteS_in (by show (4 : Int) ≠ 5; decide)] at hnt
  have HNO := Lib.hid (show Calls Tryz.prog 65 #[.pointer (some ⟨b, 0, none⟩), .agg #[.int .i64 4, .int .i64 0, .slice none 0 0, .int .i64 3, .int .i64 (i : Int), .int .i64 nu, .int .i64 ofn, .int .i64 fr, .slice A da.length c, .bool fin, .int .i64 se, .int .i64 li]] w1 _ from hnt)
  obtain ⟨x0, x1, x2, x3, x4, x5, x6, x7, x8⟩ := hs2.v.cells
  simp only [] at x0 x1 x2 x3 x4 x5 x6 x7 x8
  have HQ2 := Lib.hid (And.intro hs2 (And.intro hc (And.intro hok (And.intro hi (And.intro ho (And.intro hkm (And.intro hE (And.intro hnu hpb0))))))))
  clear h1 hsy hc hok hi hpb0 ho hkm hE hnu h2 hs2 hL1 hb1 hnt HMAY HQ
  go_wp2_with fail
  clear x0 x1 x2 x3 x4 x5 x6 x7 x8
  refine HNO.out.mono ?_
  rintro e w3 ⟨rfl, L3, h3, ht3⟩
  obtain ⟨hs2, hc, hok, hi, ho, hkm, hE, hnu, hpb0⟩ := HQ2.out
  have hs3 := hs2.turn ht3
  have hc3 := hc.note (evP 4 ⟨3, (i : Int), nu, ofn, fr, da, fin, se, li⟩)
  have c18 := h3.c18
  have HAD := Lib.hid (eecount_any h3 hK 3 (by omega) 1 (by omega) (by omega) hc3 (by omega) 3 rfl)
  have HQ3 := Lib.hid (And.intro hs3 (And.intro (hc3.count 3 (n := 1) (k := 1) (by omega) (by omega)) (And.intro ((hok.note (evP 4 ⟨3, (i : Int), nu, ofn, fr, da, fin, se, li⟩)).count 3 1) (And.intro hi (And.intro ho (And.intro hkm (And.intro hE (And.intro hnu hpb0))))))))
  clear hs2 hc hok hi ho hkm hE hnu hpb0 h3 ht3 hs3 hc3 HQ2 HNO
  go_wp2_with fail
  clear c18
  refine HAD.out.mono ?_
  rintro e w4 ⟨⟨z, rfl⟩, L4, h4, ht4⟩
  obtain ⟨hs3, hc2, hok2, hi, ho, hkm, hE, hnu, hpb0⟩ := HQ3.out
  obtain ⟨E2, hE2⟩ : ∃ E2, (E.note (evP 4 ⟨3, (i : Int), nu, ofn, fr, da, fin, se, li⟩)).count 3 1 = E2 := ⟨_, rfl⟩
  rw [hE2] at h4 hc2 hok2
  have hi2 : i < E2.ps.length := by rw [← hE2]; exact hi
  have hEF : E.come ⟨3, (i : Int), nu, ofn, fr, da, fin, se, li⟩ = (E2.setI (E2.i.put fr da fin)).say i ⟨4, (i : Int), 0, nu, 0, [], false, (E2.i.put fr da fin).seen, (E2.i.put fr da fin).limit⟩ := by rw [hE, ← hE2]; rfl
  have hks : True := trivial
  have hda : 0 ≤ fr ∧ fr + (da.length : Int) ≤ 4096 ∧ da.length ≤ 64 ∧ ∀ x ∈ da, 0 ≤ x ∧ x < 256 := by
    have hd := Pkt.ok_data ho
    exact ⟨hd.1, hd.2.1, hd.2.2, hpb0.byt⟩
  have hsy5 := (hs3.turn ht4).drewN 1
  have h5 := h4.drewN 1
  obtain ⟨w5, hw5⟩ : ∃ w5, w4.drew = w5 := ⟨_, rfl⟩
  rw [show w4.drewN 1 = w5 from hw5] at hsy5 h5
  obtain ⟨n, hn⟩ : ∃ n, E2.ps.length = n := ⟨_, rfl⟩
  obtain ⟨g, cp, hpv, c10, hg, _, _⟩ := h5.look hn (i := i) (by omega)
  have y := hg i (by omega)
  obtain ⟨pb, hpb⟩ : ∃ pb, s.pb.getD i 0 = pb := ⟨_, rfl⟩
  rw [hpb] at y
  have S0 := Lib.hid (show w5.cell? ⟨b, 0 + 10, none⟩ = some (.slice (some ⟨g, 0, none⟩) n cp) ∧ w5.cell? ⟨b0, 0 + 1, none⟩ = some (.int .i64 (i : Int)) ∧ w5.cell? ⟨g, i, none⟩ = some (.pointer (some ⟨pb, 0, none⟩)) from ⟨c10, hsy5.v.cells.c1, y⟩)
  have HQ5 := Lib.hid (And.intro h5 (And.intro hsy5 (And.intro hok2 (And.intro hc2 (And.intro hi2 (And.intro hEF (And.intro hnu (And.intro hpb (And.intro hks hda)))))))))
  have x0 : w5.cell? ⟨b0, 0, none⟩ = some (.int .i64 3) := hsy5.v.cells.c0
  have i1 : (i : Int) < (n : Int) := by omega
  have i2 : (0 : Int) ≤ (i : Int) := by omega
  clear hs3 hc2 hok2 hi ho hkm hE hnu hpb0 hE2 h4 ht4 hi2 hEF hks hda hsy5 h5 hn hpv hg hpb c10 y HQ3 HAD HB
  go_wp2_with fail
  refine wp_region_held_drew (S := fun wi => wi.cell? ⟨b, 0 + 10, none⟩ = some (.slice (some ⟨g, 0, none⟩) n cp) ∧ wi.cell? ⟨b0, 0 + 1, none⟩ = some (.int .i64 (i : Int)) ∧ wi.cell? ⟨g, i, none⟩ = some (.pointer (some ⟨pb, 0, none⟩))) (by kernel_rfl) (by rw [hw5]; exact S0.out) ?_
  intro hHeld
  rw [hw5] at hHeld ⊢
  clear hw5
  refine tkH 0 ?_
  refine tkH 1 ?_
  refine tkH 2 ?_
  refine tkH 3 ?_
  refine tkH 4 ?_
  refine tkH 5 ?_
  refine tkH 6 ?_
  refine tkH 7 ?_
  refine tkH 8 ?_
  refine wpAnyH_done (by kernel_rfl) ?_ _
  clear hHeld S0
  obtain ⟨h5, hsy5, hok2, hc2, hi2, hEF, hnu, hpb, hks, hda⟩ := HQ5.out
  have hsy5d := hsy5.drewN 1
  have h5d := h5.drewN 1
  obtain ⟨W5, hW5⟩ : ∃ W, w5.drew = W := ⟨_, rfl⟩
  rw [show w5.drewN 1 = W5 from hW5] at hsy5d h5d
  have HPT := Lib.hid (eeput_any h5d hK hok2 fr A da.length c da rfl hsy5d.at_.rd (fun a e => (hsy5d.ap a e).2) fin (by omega) (by omega))
  obtain ⟨q5, hq5⟩ := h5d
  have d15 : W5.cell? ⟨b, 0 + 15, none⟩ = some (.pointer (some ⟨s.ib, 0, none⟩)) := hq5.cell 15 (by omega)
  have e4 : W5.cell? ⟨b0, 0 + 4, none⟩ = some (.int .i64 fr) := hsy5d.v.cells.c4
  have e5 : W5.cell? ⟨b0, 0 + 5, none⟩ = some (.slice A da.length c) := hsy5d.v.cells.c5
  have e6 : W5.cell? ⟨b0, 0 + 6, none⟩ = some (.bool fin) := hsy5d.v.cells.c6
  have HQ6 := Lib.hid (And.intro hsy5d (And.intro hok2 (And.intro hc2 (And.intro hi2 (And.intro hEF (And.intro hnu hda))))))
  clear h5 hsy5 hsy5d hok2 hc2 hi2 hEF hnu hpb hks hda hq5 q5 HQ5
  go_wp2_with fail
  refine still_tail 10 (by kernel_rfl) (by kernel_rfl) ?_
  intro W' hW'
  obtain rfl : W' = W5 := by rw [hW', hW5]
  clear hW' hW5
  simp only [List.take_succ_cons, List.take_zero, List.drop_succ_cons, List.drop_zero]
  repeat still_step
  refine wpStill_nil ?_
  go_wp2_with fail
  clear d15 e4 e5 e6
  refine HPT.out.mono ?_
  rintro e w7 ⟨⟨va, rfl⟩, L7, h7, ht7⟩
  obtain ⟨hsy5, hok2, hc2, hi2, hEF, hnu, hda⟩ := HQ6.out
  have hsy7 := hsy5.turn ht7
  have hok3 : (E2.setI (E2.i.put fr da fin)).ok := hok2.putI hda.2.1 hda.2.2.2
  have hc3 : (E2.setI (E2.i.put fr da fin)).cap (N + 2) := hc2.of_eq rfl rfl rfl
  obtain ⟨E3, hE3⟩ : ∃ E3, E2.setI (E2.i.put fr da fin) = E3 := ⟨_, rfl⟩
  have hi3 : i < E3.ps.length := by rw [← hE3]; exact hi2
  have hii : E2.i.put fr da fin = E3.i := by rw [← hE3]; rfl
  rw [hE3] at h7 hok3 hc3 hEF
  rw [hii] at hEF
  have HCELL := Lib.hid (show ∀ (wi : World) (Li : Lab), EE wi Li K b s E3 → Sy w wi L Li K b0 ⟨3, (i : Int), nu, ofn, fr, da, fin, se, li⟩ A c → wi.cell? ⟨b, 0 + 15, none⟩ = some (.pointer (some ⟨s.ib, 0, none⟩)) ∧ wi.cell? ⟨b0, 0 + 1, none⟩ = some (.int .i64 (i : Int)) ∧ wi.cell? ⟨b0, 0 + 2, none⟩ = some (.int .i64 nu) from fun wi Li hd hv => by
    obtain ⟨q, hd⟩ := hd
    exact ⟨hd.cell 15 (by omega), hv.v.cells.c1, hv.v.cells.c2⟩)
  have M7 := Lib.hid (And.intro (h7.drewN 1) (hsy7.drewN 1))
  have S7 := Lib.hid (HCELL.out w7.drew L7 M7.out.1 M7.out.2)
  have HQ7 := Lib.hid (And.intro hok3 (And.intro hc3 (And.intro hEF (And.intro hi3 hnu))))
  clear hsy5 hok2 hc2 hi2 hEF hnu hda h7 ht7 hsy7 hok3 hc3 hi3 hii hE3 HPT HQ6
  go_wp2_with fail
  refine wp_region_held_drew (S := fun wi => wi.cell? ⟨b, 0 + 15, none⟩ = some (.pointer (some ⟨s.ib, 0, none⟩)) ∧ wi.cell? ⟨b0, 0 + 1, none⟩ = some (.int .i64 (i : Int)) ∧ wi.cell? ⟨b0, 0 + 2, none⟩ = some (.int .i64 nu)) (by kernel_rfl) S7.out ?_
  intro hHeld
  refine tkH 0 ?_
  refine tkH 1 ?_
  refine tkH 2 ?_
  refine tkH 3 ?_
  refine tkH 4 ?_
  refine tkH 5 ?_
  refine tkH 6 ?_
  refine tkH 7 ?_
  refine tkH 8 ?_
  refine tkH 10 ?_
  refine tkH 11 ?_
  refine tkH 12 ?_
  refine tkH 13 ?_
  refine wpAnyH_ready (rs := [9]) (by kernel_rfl) (by simp) ?_
  refine AllReadyH.cons rfl (fun K2 hK2 => ?_) AllReadyH.nil
  go_simp
  refine (eeseen_any M7.out.1 HQ7.out.1).mono ?_
  rintro e w8 ⟨rfl, hb8⟩
  have M8 := Lib.hid (And.intro (M7.out.1.grow hb8 0) (M7.out.2.turn (Tn.of_below hb8 L7 0 (Es K))))
  obtain ⟨L8, hL8⟩ : ∃ L8, relab L7 (w7.drewN 1).heap.size 0 = L8 := ⟨_, rfl⟩
  rw [hL8] at M8
  clear hb8 M7 S7 hL8
  try go_wp2_with fail
  refine hK2.out _ _ (HCELL.out _ _ M8.out.1 M8.out.2) (fun hHeld2 => ?_)
  clear hK2 K2 hHeld
  have hHeld := hHeld2
  clear hHeld2
  try simp only [Act.put, List.getElem_toArray, List.getElem_cons_zero, List.getElem_cons_succ, List.setIfInBounds_toArray, List.set_cons_zero, List.set_cons_succ]
  refine wpAnyH_ready (rs := [14]) (by kernel_rfl) (by simp) ?_
  refine AllReadyH.cons rfl (fun K2 hK2 => ?_) AllReadyH.nil
  go_simp
  refine (eelimit_any M8.out.1 HQ7.out.1).mono ?_
  rintro e w9 ⟨rfl, hb9⟩
  have M9 := Lib.hid (And.intro (M8.out.1.grow hb9 0) (M8.out.2.turn (Tn.of_below hb9 L8 0 (Es K))))
  obtain ⟨L9, hL9⟩ : ∃ L9, relab L8 w8.heap.size 0 = L9 := ⟨_, rfl⟩
  rw [hL9] at M9
  clear hb9 M8 hL9
  try go_wp2_with fail
  refine hK2.out _ _ (HCELL.out _ _ M9.out.1 M9.out.2) (fun hHeld2 => ?_)
  clear hK2 K2 hHeld
  have hHeld := hHeld2
  clear hHeld2
  try simp only [Act.put, List.getElem_toArray, List.getElem_cons_zero, List.getElem_cons_succ, List.setIfInBounds_toArray, List.set_cons_zero, List.set_cons_succ]
  refine tkH 15 ?_
  refine wpAnyH_ready (rs := [16]) (by kernel_rfl) (by simp) ?_
  refine AllReadyH.cons rfl (fun K2 hK2 => ?_) AllReadyH.nil
  go_simp
  obtain ⟨hok3, hc3, hEF, hi3, hnu⟩ := HQ7.out
  have hfi := hok3.pa hi3
  have hs := In.seen_range hok3
  have hl := In.limit_range hok3
  obtain ⟨hpa, hpb3⟩ := (Byt.nil w9 L9).pkt (k := 4) (pa := (i : Int)) (nu := 0) (ofn := nu) (fr := 0) (se := E3.i.seen) (li := E3.i.limit) (fin := false) (by simp) (by simp) (by omega) (by have := hok3.np3; omega) (by omega) (by omega) (by omega) (by omega) (by omega)
  have hsay := eesay_any M9.out.1 hK hok3 i hi3 4 0 nu 0 [] false E3.i.seen E3.i.limit none 0 hpa ((Byt.nil w9 L9).aps hK) (hpb3.nu (by have := hfi.ok.s1; have := hfi.ok.s2; omega)) hc3 (by omega)
  simp only [List.length_nil] at hsay
  refine hsay.mono ?_
  rintro e w10 ⟨⟨ea, eb, rfl⟩, L10, h10, ht10⟩
  have hsy10 := M9.out.2.turn ht10
  have HFIN := Lib.hid (show EeAns w L K b s (E.come ⟨3, (i : Int), nu, ofn, fr, da, fin, se, li⟩) (.bool true) (.returned (.bool true)) w10 from ⟨rfl, L10, by rw [hEF]; exact h10, hsy10.tn⟩)
  have S10 := Lib.hid (show w10.cell? ⟨b, 0 + 15, none⟩ = some (.pointer (some ⟨s.ib, 0, none⟩)) ∧ w10.cell? ⟨b0, 0 + 1, none⟩ = some (.int .i64 (i : Int)) ∧ w10.cell? ⟨b0, 0 + 2, none⟩ = some (.int .i64 nu) by
    obtain ⟨q, hd⟩ := h10
    exact ⟨hd.cell 15 (by omega), hsy10.v.cells.c1, hsy10.v.cells.c2⟩)
  clear hok3 hc3 hEF hi3 hnu hfi hs hl hpa hpb3 hsay h10 ht10 hsy10 M9 HQ7 HCELL
  try go_wp2_with fail
  refine hK2.out _ _ S10.out (fun hHeld2 => ?_)
  clear hK2 K2 hHeld
  have hHeld := hHeld2
  clear hHeld2
  try simp only [Act.put, List.getElem_toArray, List.getElem_cons_zero, List.getElem_cons_succ, List.setIfInBounds_toArray, List.set_cons_zero, List.set_cons_succ]
  refine wpAnyH_done (by kernel_rfl) ?_ _
  clear hHeld S10
  go_wp2
  go_ret
  exact HFIN.out
set_option maxHeartbeats 8000000 in
theorem eecome_4 {w : World} {L : Lab} {K b : Nat} {s : EeS} {E : En} (h : EE w L K b s E) (hK : K ≠ 0) (hok : E.ok) (i : Nat) (hi : i < E.ps.length) (nu ofn fr : Int) (da : List Int) (fin : Bool) (se li : Int) (A : Option Addr) (c : Nat) (hp : PktAt w ⟨4, (i : Int), nu, ofn, fr, da, fin, se, li⟩ A c) (ha : Aps w L K A) (hpb0 : PkB ⟨4, (i : Int), nu, ofn, fr, da, fin, se, li⟩) (hm : E.mayC ⟨4, (i : Int), nu, ofn, fr, da, fin, se, li⟩ = true) (ho : Pkt.ok ⟨4, (i : Int), nu, ofn, fr, da, fin, se, li⟩ = true) (hkm : E.mayK ⟨4, (i : Int), nu, ofn, fr, da, fin, se, li⟩ i = true) {N : Nat} (hc : E.cap N) (hN : N ≤ 272000000000) :
    Calls Tryz.prog 22 #[.pointer (some ⟨b, 0, none⟩), .agg #[.int .i64 4, .int .i64 (i : Int), .int .i64 nu, .int .i64 ofn, .int .i64 fr, .slice A da.length c, .bool fin, .int .i64 se, .int .i64 li]] w (EeAns w L K b s (E.come ⟨4, (i : Int), nu, ofn, fr, da, fin, se, li⟩) (.bool true)) := by
  have hsy := Sy.new hp ha
  obtain ⟨w0, hw0⟩ : ∃ w0, w.alloc (.cells #[.int .i64 4, .int .i64 (i : Int), .int .i64 nu, .int .i64 ofn, .int .i64 fr, .slice A da.length c, .bool fin, .int .i64 se, .int .i64 li] 32) = w0 := ⟨_, rfl⟩
  rw [show w.alloc (.cells (Pkt.cs ⟨4, (i : Int), nu, ofn, fr, da, fin, se, li⟩ A c).toArray 32) = w0 from hw0] at hsy
  have hb0 : Below w.heap.size w w0 := by rw [← hw0]; exact (Below.refl _ _).alloc (Nat.le_refl _) _
  have h1 := h.grow hb0 (K + 13)
  obtain ⟨L0, hL0⟩ : ∃ L0, relab L w.heap.size (K + 13) = L0 := ⟨_, rfl⟩
  obtain ⟨b0, hb0'⟩ : ∃ b0, w.heap.size = b0 := ⟨_, rfl⟩
  rw [hL0] at h1 hsy
  obtain ⟨x0, x1, x2, x3, x4, x5, x6, x7, x8⟩ := hsy.v.cells
  simp only [] at x0 x1 x2 x3 x4 x5 x6 x7 x8
  rw [hb0'] at hsy
  have hmay := eetakes_any h1 hok _ A c hsy.at_
  rw [hm] at hmay
  have HMAY := Lib.hid (show Calls Tryz.prog 69 #[.pointer (some ⟨b, 0, none⟩), .agg #[.int .i64 4, .int .i64 (i : Int), .int .i64 nu, .int .i64 ofn, .int .i64 fr, .slice A da.length c, .bool fin, .int .i64 se, .int .i64 li]] w0 _ from hmay)
  have hE : E.come ⟨4, (i : Int), nu, ofn, fr, da, fin, se, li⟩ = E.came ⟨4, (i : Int), nu, ofn, fr, da, fin, se, li⟩ := by unfold En.come; rw [hm]; rfl
  have hnu := Pkt.ok_nu ho
  have HQ := Lib.hid (And.intro h1 (And.intro hsy (And.intro hc (And.intro hok (And.intro hi (And.intro hpb0 (And.intro ho (And.intro hkm (And.intro hE hnu)))))))))
  have HB := Lib.hid hb0'
  clear h hok hp ha hm hc hsy hb0 h1 hL0 hmay hi hpb0 ho hkm hE hnu hb0'
  go_enter Tryz.func22, Tryz.ntmps22
  go_wp2_with fail
  clear x0 x1 x2 x3 x4 x5 x6 x7 x8
  try rw [HB.out]
  refine HMAY.out.mono ?_
  rintro e w1 ⟨rfl, hb1⟩
  obtain ⟨h1, hsy, hc, hok, hi, hpb0, ho, hkm, hE, hnu⟩ := HQ.out
  have h2 := h1.grow hb1 0
  have hs2 := hsy.turn (Tn.of_below hb1 L0 0 (Es K))
  obtain ⟨L1, hL1⟩ : ∃ L1, relab L0 w0.heap.size 0 = L1 := ⟨_, rfl⟩
  rw [hL1] at h2 hs2
  have hnt := eenote_any h2 hK (evP 4 ⟨4, (i : Int), nu, ofn, fr, da, fin, se, li⟩) none 0 A c (evP_at 4 (by omega) hs2.at_) (EvB.pkt (EvB.kin EvB.zero (by decide)) hpb0) hc (by omega)
  rw [En.noteS_in (by show (4 : Int) ≠ 5; decide)] at hnt
  have HNO := Lib.hid (show Calls Tryz.prog 65 #[.pointer (some ⟨b, 0, none⟩), .agg #[.int .i64 4, .int .i64 0, .slice none 0 0, .int .i64 4, .int .i64 (i : Int), .int .i64 nu, .int .i64 ofn, .int .i64 fr, .slice A da.length c, .bool fin, .int .i64 se, .int .i64 li]] w1 _ from hnt)
  obtain ⟨x0, x1, x2, x3, x4, x5, x6, x7, x8⟩ := hs2.v.cells
  simp only [] at x0 x1 x2 x3 x4 x5 x6 x7 x8
  have HQ2 := Lib.hid (And.intro hs2 (And.intro hc (And.intro hok (And.intro hi (And.intro ho (And.intro hkm (And.intro hE (And.intro hnu hpb0))))))))
  clear h1 hsy hc hok hi hpb0 ho hkm hE hnu h2 hs2 hL1 hb1 hnt HMAY HQ
  go_wp2_with fail
  clear x0 x1 x2 x3 x4 x5 x6 x7 x8
  refine HNO.out.mono ?_
  rintro e w3 ⟨rfl, L3, h3, ht3⟩
  obtain ⟨hs2, hc, hok, hi, ho, hkm, hE, hnu, hpb0⟩ := HQ2.out
  have hs3 := hs2.turn ht3
  have hc3 := hc.note (evP 4 ⟨4, (i : Int), nu, ofn, fr, da, fin, se, li⟩)
  have c18 := h3.c18
  have HAD := Lib.hid (eecount_any h3 hK 3 (by omega) 1 (by omega) (by omega) hc3 (by omega) 3 rfl)
  have HQ3 := Lib.hid (And.intro hs3 (And.intro (hc3.count 3 (n := 1) (k := 1) (by omega) (by omega)) (And.intro ((hok.note (evP 4 ⟨4, (i : Int), nu, ofn, fr, da, fin, se, li⟩)).count 3 1) (And.intro hi (And.intro ho (And.intro hkm (And.intro hE (And.intro hnu hpb0))))))))
  clear hs2 hc hok hi ho hkm hE hnu hpb0 h3 ht3 hs3 hc3 HQ2 HNO
  go_wp2_with fail
  clear c18
  refine HAD.out.mono ?_
  rintro e w4 ⟨⟨z, rfl⟩, L4, h4, ht4⟩
  obtain ⟨hs3, hc2, hok2, hi, ho, hkm, hE, hnu, hpb0⟩ := HQ3.out
  obtain ⟨E2, hE2⟩ : ∃ E2, (E.note (evP 4 ⟨4, (i : Int), nu, ofn, fr, da, fin, se, li⟩)).count 3 1 = E2 := ⟨_, rfl⟩
  rw [hE2] at h4 hc2 hok2
  have hi2 : i < E2.ps.length := by rw [← hE2]; exact hi
  have hEF : E.come ⟨4, (i : Int), nu, ofn, fr, da, fin, se, li⟩ = (((E2.setP i (ackP (E2.pa i) ofn E2.now)).setO (E2.o.ack se)).setLim (max E2.limit li)).pump := by rw [hE, ← hE2]; rfl
  have hks : se ≤ E2.pl.sent ∧ 0 ≤ li ∧ li ≤ 4496 := by
    have hk := hkm
    unfold En.mayK at hk
    simp at hk
    have ha := Pkt.ok_ack ho
    rw [← hE2]
    exact ⟨hk.2, ha.1, ha.2.1⟩
  have hda : True := trivial
  have hsy5 := (hs3.turn ht4).drewN 1
  have h5 := h4.drewN 1
  obtain ⟨w5, hw5⟩ : ∃ w5, w4.drew = w5 := ⟨_, rfl⟩
  rw [show w4.drewN 1 = w5 from hw5] at hsy5 h5
  obtain ⟨n, hn⟩ : ∃ n, E2.ps.length = n := ⟨_, rfl⟩
  obtain ⟨g, cp, hpv, c10, hg, _, _⟩ := h5.look hn (i := i) (by omega)
  have y := hg i (by omega)
  obtain ⟨pb, hpb⟩ : ∃ pb, s.pb.getD i 0 = pb := ⟨_, rfl⟩
  rw [hpb] at y
  have S0 := Lib.hid (show w5.cell? ⟨b, 0 + 10, none⟩ = some (.slice (some ⟨g, 0, none⟩) n cp) ∧ w5.cell? ⟨b0, 0 + 1, none⟩ = some (.int .i64 (i : Int)) ∧ w5.cell? ⟨g, i, none⟩ = some (.pointer (some ⟨pb, 0, none⟩)) from ⟨c10, hsy5.v.cells.c1, y⟩)
  have HQ5 := Lib.hid (And.intro h5 (And.intro hsy5 (And.intro hok2 (And.intro hc2 (And.intro hi2 (And.intro hEF (And.intro hnu (And.intro hpb (And.intro hks hda)))))))))
  have x0 : w5.cell? ⟨b0, 0, none⟩ = some (.int .i64 4) := hsy5.v.cells.c0
  have i1 : (i : Int) < (n : Int) := by omega
  have i2 : (0 : Int) ≤ (i : Int) := by omega
  clear hs3 hc2 hok2 hi ho hkm hE hnu hpb0 hE2 h4 ht4 hi2 hEF hks hda hsy5 h5 hn hpv hg hpb c10 y HQ3 HAD HB
  go_wp2_with fail
  refine wp_region_held_drew (S := fun wi => wi.cell? ⟨b, 0 + 10, none⟩ = some (.slice (some ⟨g, 0, none⟩) n cp) ∧ wi.cell? ⟨b0, 0 + 1, none⟩ = some (.int .i64 (i : Int)) ∧ wi.cell? ⟨g, i, none⟩ = some (.pointer (some ⟨pb, 0, none⟩))) (by kernel_rfl) (by rw [hw5]; exact S0.out) ?_
  intro hHeld
  rw [hw5] at hHeld ⊢
  clear hw5
  refine tkH 0 ?_
  refine tkH 1 ?_
  refine tkH 2 ?_
  refine tkH 3 ?_
  refine tkH 4 ?_
  refine tkH 5 ?_
  refine tkH 6 ?_
  refine tkH 7 ?_
  refine tkH 8 ?_
  refine wpAnyH_done (by kernel_rfl) ?_ _
  clear hHeld S0
  obtain ⟨h5, hsy5, hok2, hc2, hi2, hEF, hnu, hpb, hks, hda⟩ := HQ5.out
  have hsy5d := hsy5.drewN 1
  have h5d := h5.drewN 1
  obtain ⟨W, hW⟩ : ∃ W, w5.drew = W := ⟨_, rfl⟩
  rw [show w5.drewN 1 = W from hW] at hsy5d h5d
  have hac := eeacked_any h5d hK hok2 i hi2 ofn
  rw [hpb] at hac
  have HAC := Lib.hid hac
  obtain ⟨q5, hq5⟩ := h5d
  have d8 : W.cell? ⟨b, 0 + 8, none⟩ = some (.int .i64 E2.now) := hq5.cell 8 (by omega)
  have e3 : W.cell? ⟨b0, 0 + 3, none⟩ = some (.int .i64 ofn) := hsy5d.v.cells.c3
  have HQ6 := Lib.hid (And.intro hsy5d (And.intro hok2 (And.intro hc2 (And.intro hi2 (And.intro hEF hks)))))
  clear h5 hsy5 hsy5d hok2 hc2 hi2 hEF hnu hpb hks hda hq5 q5 hac HQ5
  go_wp2_with fail
  refine still_tail 7 (by kernel_rfl) (by kernel_rfl) ?_
  intro W' hW'
  obtain rfl : W' = W := by rw [hW', hW]
  clear hW' hW
  simp only [List.take_succ_cons, List.take_zero, List.drop_succ_cons, List.drop_zero]
  repeat still_step
  refine wpStill_nil ?_
  go_wp2_with fail
  clear d8 e3
  refine HAC.out.mono ?_
  rintro e w7 ⟨⟨va, rfl⟩, L7, h7, ht7⟩
  obtain ⟨hsy5, hok2, hc2, hi2, hEF, hks⟩ := HQ6.out
  have hsy7 := (hsy5.turn ht7).drewN 1
  have h7d := h7.drewN 1
  have hok3 : (E2.setP i (ackP (E2.pa i) ofn E2.now)).ok := hok2.setP i ((hok2.pa hi2).ackP ofn)
  have hc3 : (E2.setP i (ackP (E2.pa i) ofn E2.now)).cap (N + 2) := hc2.of_eq rfl rfl rfl
  obtain ⟨E3, hE3⟩ : ∃ E3, E2.setP i (ackP (E2.pa i) ofn E2.now) = E3 := ⟨_, rfl⟩
  have ho3 : E2.o = E3.o ∧ E2.limit = E3.limit ∧ E2.pl = E3.pl := by rw [← hE3]; exact ⟨rfl, rfl, rfl⟩
  rw [hE3] at h7d hok3 hc3 hEF
  rw [ho3.1, ho3.2.1] at hEF
  rw [ho3.2.2] at hks
  obtain ⟨W, hW⟩ : ∃ W, w7.drew = W := ⟨_, rfl⟩
  rw [show w7.drewN 1 = W from hW] at hsy7 h7d
  have HAO := Lib.hid (eeackO_any h7d hK se)
  obtain ⟨q7, hq7⟩ := h7d
  have d13 : W.cell? ⟨b, 0 + 13, none⟩ = some (.pointer (some ⟨s.ob, 0, none⟩)) := hq7.cell 13 (by omega)
  have e7 : W.cell? ⟨b0, 0 + 7, none⟩ = some (.int .i64 se) := hsy7.v.cells.c7
  have hok4 := hok3.ackO hks.1
  have hc4 : (E3.setO (E3.o.ack se)).cap (N + 2) := hc3.of_eq rfl rfl rfl
  have HQ7 := Lib.hid (And.intro hsy7 (And.intro hok4 (And.intro hc4 (And.intro hEF hks.2))))
  clear h7 ht7 hsy5 hok2 hc2 hi2 hEF hks hsy7 hok3 hc3 hE3 ho3 hq7 hok4 hc4 q7 HQ6 HAC
  go_wp2_with fail
  refine still_tail 6 (by kernel_rfl) (by kernel_rfl) ?_
  intro W' hW'
  obtain rfl : W' = W := by rw [hW', hW]
  clear hW' hW
  simp only [List.take_succ_cons, List.take_zero, List.drop_succ_cons, List.drop_zero]
  repeat still_step
  refine wpStill_nil ?_
  go_wp2_with fail
  clear d13 e7
  refine HAO.out.mono ?_
  rintro e w8 ⟨⟨vb, rfl⟩, L8, h8, ht8⟩
  obtain ⟨hsy7, hok4, hc4, hEF, hli⟩ := HQ7.out
  obtain ⟨E4, hE4⟩ : ∃ E4, E3.setO (E3.o.ack se) = E4 := ⟨_, rfl⟩
  have hl4 : E3.limit = E4.limit := by rw [← hE4]; rfl
  rw [hE4] at h8 hok4 hc4 hEF
  rw [hl4] at hEF
  have hsy8 := (hsy7.turn ht8).drewN 1
  have h8d := h8.drewN 1
  obtain ⟨W, hW⟩ : ∃ W, w8.drew = W := ⟨_, rfl⟩
  rw [show w8.drewN 1 = W from hW] at hsy8 h8d
  obtain ⟨q8, hq8⟩ := h8d
  have d9 : W.cell? ⟨b, 0 + 9, none⟩ = some (.int .i64 E4.limit) := hq8.cell 9 (by omega)
  have f9 : W.frozen? ⟨b, 0 + 9, none⟩ = false := hq8.fr 9
  have S0 := Lib.hid (show W.cell? ⟨b0, 0 + 8, none⟩ = some (.int .i64 li) from hsy8.v.cells.c8)
  have hr0 := hok4.l0
  have hr1 := hok4.l1
  obtain ⟨M, hM⟩ : ∃ M, max E4.limit li = M := ⟨_, rfl⟩
  have hmx := run_max2 E4.limit li _ rfl
  rw [hM] at hmx hEF
  obtain ⟨h9, ht9⟩ := hq8.setLim hK M
  have hok5 := hok4.setLim (n := M) (by omega) (by omega)
  have hc5 : (E4.setLim M).cap (N + 2) := hc4.of_eq rfl rfl rfl
  have hsy9 := hsy8.turn ht9
  obtain ⟨w9, hw9⟩ : ∃ w9, W.setCell ⟨b, 0 + 9, none⟩ (.int .i64 M) = w9 := ⟨_, rfl⟩
  rw [show (⟨b, 9, none⟩ : Addr) = ⟨b, 0 + 9, none⟩ from rfl, hw9] at h9 ht9 hsy9
  have S1 := Lib.hid (show w9.cell? ⟨b0, 0 + 8, none⟩ = some (.int .i64 li) from hsy9.v.cells.c8)
  have HPU := Lib.hid (eepump_any ⟨_, h9⟩ hK hok5 hc5 (by omega))
  have HT := Lib.hid (And.intro hsy9 hEF)
  clear hsy7 hok4 hc4 hEF hli hE4 hl4 h8 ht8 hsy8 hq8 q8 hr0 hr1 hM h9 ht9 hok5 hc5 hsy9 HQ7 HAO
  go_wp2_with fail
  refine wp_region_held_drew (S := fun wi => wi.cell? ⟨b0, 0 + 8, none⟩ = some (.int .i64 li)) (by kernel_rfl) (by rw [hW]; exact S0.out) ?_
  intro hHeld
  rw [hW] at hHeld ⊢
  clear hW
  refine tkH 0 ?_
  refine tkH 1 ?_
  refine tkH 2 ?_
  refine tkH 3 ?_
  refine tkH 5 ?_
  refine tkH 6 ?_
  refine wpAnyH_ready (rs := [4]) (by kernel_rfl) (by simp) ?_
  refine AllReadyH.cons rfl (fun K2 hK2 => ?_) AllReadyH.nil
  go_simp
  refine hK2.out _ _ S0.out (fun hHeld2 => ?_)
  clear hK2 K2 hHeld
  have hHeld := hHeld2
  clear hHeld2
  try simp only [Act.put, List.getElem_toArray, List.getElem_cons_zero, List.getElem_cons_succ, List.setIfInBounds_toArray, List.set_cons_zero, List.set_cons_succ]
  refine tkH 7 ?_
  refine tkH 8 ?_
  refine tkH 9 ?_
  refine wpAnyH_ready (rs := [10]) (by kernel_rfl) (by simp) ?_
  refine AllReadyH.cons rfl (fun K2 hK2 => ?_) AllReadyH.nil
  go_simp
  try rw [hw9]
  refine hK2.out _ _ S1.out (fun hHeld2 => ?_)
  clear hK2 K2 hHeld
  have hHeld := hHeld2
  clear hHeld2
  try simp only [Act.put, List.getElem_toArray, List.getElem_cons_zero, List.getElem_cons_succ, List.setIfInBounds_toArray, List.set_cons_zero, List.set_cons_succ]
  refine wpAnyH_done (by kernel_rfl) ?_ _
  clear hHeld S0 S1 hw9 d9 f9 hmx
  go_wp2_with fail
  refine HPU.out.mono ?_
  rintro e w10 ⟨rfl, L9, h9, ht9⟩
  clear HPU
  have HFIN := Lib.hid (show EeAns w L K b s (E.come ⟨4, (i : Int), nu, ofn, fr, da, fin, se, li⟩) (.bool true) (.returned (.bool true)) w10 from ⟨rfl, L9, by rw [HT.out.2]; exact h9, (HT.out.1.turn ht9).tn⟩)
  clear h9 ht9 HT
  go_wp2
  go_ret
  exact HFIN.out
theorem eecome_any {w : World} {L : Lab} {K b : Nat} {s : EeS} {E : En} (h : EE w L K b s E) (hK : K ≠ 0) (hok : E.ok) (p : Pkt) (A : Option Addr) (c : Nat) (hp : PktAt w p A c) (ha : Aps w L K A) (hpb : PkB p) {N : Nat} (hc : E.cap N) (hN : N ≤ 272000000000) :
    Calls Tryz.prog 22 #[.pointer (some ⟨b, 0, none⟩), p.val A c] w (EeAns w L K b s (E.come p) (.bool (E.mayC p))) := by
  cases hm : E.mayC p
  · have hE : E.come p = E.count 4 1 := by unfold En.come; rw [hm]; rfl
    rw [hE]
    obtain ⟨k, pa, nu, ofn, fr, da, fin, se, li⟩ := p
    exact eecome_no h hK hok k pa nu ofn fr da fin se li A c hp ha hm hc hN
  · have ho : p.ok = true := by
      cases e : p.ok
      · rw [En.mayC_no e] at hm; cases hm
      · rfl
    have hpr := Pkt.ok_pa ho
    have hpn : p.pa < (E.ps.length : Int) := by
      by_cases e : (E.ps.length : Int) ≤ p.pa
      · rw [En.mayC_out e] at hm; cases hm
      · omega
    obtain ⟨i, hi⟩ := Int.eq_ofNat_of_zero_le hpr.1
    have hup : (E.pa i).up = true := by
      cases e : (E.pa i).up
      · rw [En.mayC_down hi e] at hm; cases hm
      · rfl
    have hk := En.mayC_up ho hi (by omega) hup
    rw [hm] at hk
    have hkr := Pkt.ok_kind ho
    have hin : i < E.ps.length := by omega
    obtain ⟨k, pa, nu, ofn, fr, da, fin, se, li⟩ := p
    simp only at hi hkr
    subst hi
    have hkk : k = 1 ∨ k = 2 ∨ k = 3 ∨ k = 4 := by omega
    rcases hkk with rfl | rfl | rfl | rfl
    · exact eecome_1 h hK hok i hin nu ofn fr da fin se li A c hp ha hpb hm ho hk.symm hc hN
    · exact eecome_2 h hK hok i hin nu ofn fr da fin se li A c hp ha hpb hm ho hk.symm hc hN
    · exact eecome_3 h hK hok i hin nu ofn fr da fin se li A c hp ha hpb hm ho hk.symm hc hN
    · exact eecome_4 h hK hok i hin nu ofn fr da fin se li A c hp ha hpb hm ho hk.symm hc hN
end Go.Proofs.YtpjlnpnadkbakaaGreat

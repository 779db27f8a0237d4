/-
  What the document's PackEvents makes of a list of events: a contract over the program.
-/
import Derived.Test.YtbjneoeiognahaaEvPack
import Derived.Test.YtbjneoeiognahaaRefPlain
import Derived.Test.YtbjneoeiognahaaRefEvent
import Derived.Deep.LoopGhost
import Derived.Deep.DeepCutAuto
namespace Go.Proofs.Ytbjneoeiognahaa
open Go.RowKit

set_option maxRecDepth 100000 in
set_option maxHeartbeats 8000000 in
theorem refPackE_any (ms : List EvM) (A : Option Addr) (c : Nat) (w : World) (hx : Evs w A ms) (hl : ms.length ≤ 140737488355328) (hr : (packL (ms.map EvM.e)).length ≤ 140737488351232) :
    Calls Try.prog 37 #[.slice A ms.length c] w fun x w' => ∃ A' c', x = .returned (.tuple #[.slice A' (packO (ms.map EvM.e)).length c', .bool (okL (ms.map EvM.e))]) ∧
      Own .u8 5 w' w.heap.size (.slice A' (packO (ms.map EvM.e)).length c') (packO (ms.map EvM.e)) ∧ Below w.heap.size w w' := by
  obtain ⟨n, hn⟩ : ∃ n, ms.length = n := ⟨_, rfl⟩
  have hnm : (ms.map EvM.e).length = n := by simpa using hn
  have hgd : ∀ j, (hj : j < (ms.map EvM.e).length) → (ms.map EvM.e)[j] = (ms.getD j default).e := by
    intro j hj
    have hj2 : j < ms.length := by simpa using hj
    simp [List.getD, hj2]
  rw [hn] at hl ⊢
  obtain ⟨R, hR⟩ : ∃ R, packO (ms.map EvM.e) = R := ⟨_, rfl⟩
  obtain ⟨r, hr2⟩ : ∃ r : Bool, okL (ms.map EvM.e) = r := ⟨_, rfl⟩
  rw [hR, hr2]
  have hbad : ∀ k, k < n → (ms.getD k default).e.ok = false → R = [] ∧ r = false := by
    intro k hk h
    have h9 : okL (ms.map EvM.e) = false := okL_not (j := k) (by omega) (by rw [hgd]; exact h)
    rw [← hR, ← hr2]
    unfold packO
    rw [h9]
    exact ⟨rfl, rfl⟩
  have hgood : (∀ j, j < n → (ms.getD j default).e.ok = true) → R = packL ((ms.map EvM.e).take n) ∧ r = true := by
    intro h
    have h9 : okL (ms.map EvM.e) = true := okL_all (fun j hj => by rw [hgd]; exact h j (by omega))
    rw [← hR, ← hr2]
    unfold packO
    rw [h9, List.take_of_length_le (by omega)]
    exact ⟨rfl, rfl⟩
  have hsucc : ∀ k, k < n → packL ((ms.map EvM.e).take (k + 1)) = packL ((ms.map EvM.e).take k) ++ [(ms.getD k default).e.k] ++ (ms.getD k default).e.restL ∧ (packL ((ms.map EvM.e).take k)).length + 1 + (ms.getD k default).e.restL.length ≤ 140737488351232 := by
    intro k hk
    have h1 := packL_take_succ (ms.map EvM.e) k (by omega)
    rw [hgd] at h1
    have h2 := packL_take_le (ms.map EvM.e) (k + 1)
    rw [h1] at h2
    simp only [List.length_append, List.length_cons, List.length_nil] at h2
    exact ⟨h1, by omega⟩
  obtain ⟨pl, hpl⟩ : ∃ pl, (fun k => packL ((ms.map EvM.e).take k)) = pl := ⟨_, rfl⟩
  have hp0 : pl 0 = [] := by rw [← hpl]; simp [packL]
  have hsucc : ∀ k, k < n → pl (k + 1) = pl k ++ [(ms.getD k default).e.k] ++ (ms.getD k default).e.restL ∧ (pl k).length + 1 + (ms.getD k default).e.restL.length ≤ 140737488351232 := by rw [← hpl]; exact hsucc
  have hgood : (∀ j, j < n → (ms.getD j default).e.ok = true) → R = pl n ∧ r = true := by rw [← hpl]; exact hgood
  have HX := Lib.hid hx
  have HN := Lib.hid hn
  have HS := Lib.hid hsucc
  have HBAD := Lib.hid hbad
  have HGOOD := Lib.hid hgood
  have HP0 := Lib.hid hp0
  clear hx hn hsucc hbad hgood hp0 hpl hR hr2 hr hnm hgd
  go_enter Try.func37, Try.ntmps37
  go_wp2
  go_loopw [4, 11] (fun vb vi wr => ∃ (k : Nat) (D : Option Addr) (m dc : Nat), k ≤ n ∧ vi = .int .i64 k ∧ vb = .slice D m dc ∧ Hid (m = (pl k).length) ∧ Hid (∀ j, j < k → (ms.getD j default).e.ok = true) ∧ Hid (Own .u8 5 wr w.heap.size (.slice D m dc) (pl k)) ∧ Hid (Below w.heap.size w wr)) (fun _ vi _ => n - (intOf vi).toNat)
  case atStart => exact ⟨0, none, 0, 0, by omega, rfl, rfl, (by rw [HP0.out]; rfl), (fun j hj => absurd hj (by omega)), (by rw [HP0.out]; exact Own.nil _ _ _ _), Below.refl _ _⟩
  case round =>
    obtain ⟨k, D, m, dc, hk, rfl, rfl, hm, hp, ho, hbl⟩ := hrel
    by_cases hlt : k < n
    · have i1 : (k : Int) < (n : Int) := by omega
      have i2 : (0 : Int) ≤ (k : Int) := by omega
      have hka : k < ms.length := by rw [HN.out]; exact hlt
      have hx2 := HX.out.later (hbl.out.mono (Nat.le_refl _))
      have x1 := hx2.get hka
      obtain ⟨b1, o1, rfl, hx3⟩ : ∃ b off, A = some ⟨b, off, none⟩ ∧ ∀ i, i < ms.length → (ms.getD i default).lies wr b (off + i * 12) := by
        rcases hx2.lie with h | h
        · subst h; simp at hka
        · exact h
      have x3 := hx3 k hka
      have x0 := HX.out.get hka
      have hs1 := HS.out k hlt
      have hb1 := HBAD.out k hlt
      obtain ⟨x, hx⟩ : ∃ x, ms.getD k default = x := ⟨_, rfl⟩
      rw [hx] at x0 x1 x3 hs1 hb1
      have X0 := Lib.hid x0
      clear x0
      have HE := Lib.hid hx
      have HB1 := Lib.hid hb1
      have HS1 := Lib.hid hs1.1
      have hs2 := hs1.2
      clear hx hx2 hx3 hka hs1 hb1
      have hv := EvV.new wr x.e x.A x.c x.B x.d
      have hab := (Below.refl wr.heap.size wr).alloc (Nat.le_refl _) (.cells (x.e.cs x.A x.c x.B x.d).toArray 60)
      have X1 := Lib.hid (show EvAt _ x.e x.A x.c x.B x.d from EvAt.later x1 hab)
      have HO := Lib.hid (ho.out.later hab)
      have HBL := Lib.hid (hbl.out.trans (hab.mono hbl.out.size))
      have HV := Lib.hid hv
      clear hv hab x1 ho hbl
      obtain ⟨c0, c1, c2, c3, c4, c5, c6, c7, c8, c9, c10, c11⟩ := x3
      unfold Ev.cs at X1 HO HBL HV
      change Hid (EvAt (wr.alloc (.cells #[.int .i64 x.e.k, .int .i64 x.e.n, .slice x.A x.e.da.length x.c, .int .i64 x.e.pk.k, .int .i64 x.e.pk.pa, .int .i64 x.e.pk.nu, .int .i64 x.e.pk.ofn, .int .i64 x.e.pk.fr, .slice x.B x.e.pk.da.length x.d, .bool x.e.pk.fin, .int .i64 x.e.pk.se, .int .i64 x.e.pk.li] 60)) x.e x.A x.c x.B x.d) at X1
      have hc := fun W (h : EvAt W x.e x.A x.c x.B x.d) => rightEvent_any x.e x.A x.c x.B x.d W h
      cases hok : x.e.ok
      · simp only [hok] at hc
        have HC := Lib.hid hc
        obtain ⟨hR1, hr1⟩ := HB1.out hok
        clear hc
        go_wp2_with fail
        refine (HC.out _ X1.out).mono ?_
        rintro e w2 ⟨rfl, hb2⟩
        have HB2 := Lib.hid (HBL.out.trans (hb2.mono HBL.out.size))
        clear hb2
        go_wp2_with fail
        go_ret2
        rw [hR1, hr1]
        exact ⟨none, 0, rfl, Own.nil _ _ _ _, HB2.out⟩
      · simp only [hok] at hc
        have HC := Lib.hid hc
        have hkk := Ev.ok_kind0 hok
        have hw8 : IntKind.u8.wrap x.e.k = x.e.k := by rw [IntKind.wrap_u8]; omega
        have HOK := Lib.hid hok
        have HKK := Lib.hid hkk
        clear hc hok hkk
        go_wp2_with fail
        refine (HC.out _ X1.out).mono ?_
        rintro e w2 ⟨rfl, hb2⟩
        obtain ⟨q, hq⟩ : ∃ q, wr.heap.size = q := ⟨_, rfl⟩
        rw [hq] at HV ⊢
        have HV2 := Lib.hid (HV.out.later hb2)
        have HO2 := Lib.hid (HO.out.later hb2)
        have HB2 := Lib.hid (HBL.out.trans (hb2.mono HBL.out.size))
        clear hb2 HV HO HBL X1 hq c0 c1 c2 c3 c4 c5 c6 c7 c8 c9 c10 c11
        have hvc := HV2.out.cells
        obtain ⟨d0, d1, d2, d3, d4, d5, d6, d7, d8, d9, d10, d11⟩ := hvc
        simp only [Nat.zero_add] at d0 d1 d2 d3 d4 d5 d6 d7 d8 d9 d10 d11
        have hab := (Below.refl w2.heap.size w2).alloc (Nat.le_refl _) (.cells #[.int .u8 x.e.k] 5)
        have HV3 := Lib.hid (HV2.out.later hab)
        have HO3 := Lib.hid (HO2.out.later hab)
        have HB3 := Lib.hid (HB2.out.trans (hab.mono HB2.out.size))
        clear hab HV2 HO2 HB2
        have HM := Lib.hid hm.out.symm
        clear hm
        go_upto_region 8 with (at_builtin; refine wpList_app _ .u8 rfl (.tmp 18) (.tmp 22) 23 rfl 5 (.int .u8 0) 1 Try.underlying23 info_byte rfl w.heap.size (.slice D m dc) (pl k) rfl HO3.out _ 1 1 rfl [x.e.k] rfl (Rd.one w2 x.e.k 5) (by unfold maxLen; omega) (by omega) HB3.out.size ?_; intro A2 c2 w3 h3 g3; have HO4 := Lib.hid h3; have HV4 := Lib.hid (HV3.out.grown HO3.out g3); have HB4 := Lib.hid (HB3.out.grown g3 HB3.out.size (fun g hg => (HO3.out.lt g hg).1)); clear h3 g3 d0 d1 d2 d3 d4 d5 d6 d7 d8 d9 d10 d11 HO3 HV3 HB3; have hvc := HV4.out.cells; obtain ⟨d0, d1, d2, d3, d4, d5, d6, d7, d8, d9, d10, d11⟩ := hvc; simp only [Nat.zero_add] at d0 d1 d2 d3 d4 d5 d6 d7 d8 d9 d10 d11)
        have hl1 : (pl k ++ [x.e.k]).length = (pl k).length + 1 := by simp
        have HL1 := Lib.hid hl1
        clear hl1
        have hpa := fun W (hb : Below w.heap.size w W) => X0.out.later (hb.mono (Nat.le_refl _))
        have HXA := Lib.hid hpa
        clear hpa
        rcases HKK.out with hk1 | hk1 | hk1 | hk1 | hk1 | hk1 | hk1 | hk1
        · have hrs : x.e.restL = putL (x.e.da.length : Int) ++ x.e.da := by unfold Ev.restL; simp [hk1]
          have hrl := congrArg List.length hrs
          simp only [List.length_append] at hrl
          rw [hrl] at hs2
          have HRS := Lib.hid hrs
          clear hrs hrl
          go_wp2_with fail
          refine (wrap_any x.A x.e.da.length x.c x.e.da _ rfl (HXA.out _ HB4.out).rd (by omega)).mono ?_
          rintro e w4 ⟨A3, c3, rfl, h4, b4⟩
          have HO5 := Lib.hid (HO4.out.later b4)
          have HB5 := Lib.hid (HB4.out.trans (b4.mono HB4.out.size))
          have HR5 := Lib.hid h4.rd
          clear h4 b4 HO4 HB4 HV4 d0 d1 d2 d3 d4 d5 d6 d7 d8 d9 d10 d11
          go_wp2_with (at_builtin; refine wpList_app _ .u8 rfl (.tmp 29) (.tmp 32) 23 rfl 5 (.int .u8 0) 1 Try.underlying23 info_byte rfl w.heap.size (.slice A2 ((pl k).length + 1) c2) (pl k ++ [x.e.k]) rfl HO5.out A3 _ c3 rfl (putL (x.e.da.length : Int) ++ x.e.da) (by simp) HR5.out (by unfold maxLen; rw [HL1.out]; omega) (by rw [HL1.out]; omega) HB5.out.size ?_; intro A6 c6 w6 h6 g6; have HO6 := Lib.hid h6; have HB6 := Lib.hid (HB5.out.grown g6 HB5.out.size (fun g hg => (HO5.out.lt g hg).1)); clear h6 g6)
          go_roundw
          case rel => exact ⟨k + 1, A6, _, c6, by omega, by go_num, rfl, (Lib.hid (by rw [HS1.out, List.length_append, HL1.out, HRS.out]; try simp)), (fun j hj => by
              by_cases h : j < k
              · exact hp.out j h
              · have : j = k := by omega
                subst this
                rw [HE.out]
                exact HOK.out), (by have h := HO6.out; rw [HL1.out] at h; rw [HS1.out, HRS.out]; exact h), HB6.out⟩
          case measure => simp [intOf]; omega
        · have hrs : x.e.restL = putL (x.e.da.length : Int) ++ x.e.da := by unfold Ev.restL; simp [hk1]
          have hrl := congrArg List.length hrs
          simp only [List.length_append] at hrl
          rw [hrl] at hs2
          have HRS := Lib.hid hrs
          clear hrs hrl
          go_wp2_with fail
          refine (wrap_any x.A x.e.da.length x.c x.e.da _ rfl (HXA.out _ HB4.out).rd (by omega)).mono ?_
          rintro e w4 ⟨A3, c3, rfl, h4, b4⟩
          have HO5 := Lib.hid (HO4.out.later b4)
          have HB5 := Lib.hid (HB4.out.trans (b4.mono HB4.out.size))
          have HR5 := Lib.hid h4.rd
          clear h4 b4 HO4 HB4 HV4 d0 d1 d2 d3 d4 d5 d6 d7 d8 d9 d10 d11
          go_wp2_with (at_builtin; refine wpList_app _ .u8 rfl (.tmp 29) (.tmp 32) 23 rfl 5 (.int .u8 0) 1 Try.underlying23 info_byte rfl w.heap.size (.slice A2 ((pl k).length + 1) c2) (pl k ++ [x.e.k]) rfl HO5.out A3 _ c3 rfl (putL (x.e.da.length : Int) ++ x.e.da) (by simp) HR5.out (by unfold maxLen; rw [HL1.out]; omega) (by rw [HL1.out]; omega) HB5.out.size ?_; intro A6 c6 w6 h6 g6; have HO6 := Lib.hid h6; have HB6 := Lib.hid (HB5.out.grown g6 HB5.out.size (fun g hg => (HO5.out.lt g hg).1)); clear h6 g6)
          go_roundw
          case rel => exact ⟨k + 1, A6, _, c6, by omega, by go_num, rfl, (Lib.hid (by rw [HS1.out, List.length_append, HL1.out, HRS.out]; try simp)), (fun j hj => by
              by_cases h : j < k
              · exact hp.out j h
              · have : j = k := by omega
                subst this
                rw [HE.out]
                exact HOK.out), (by have h := HO6.out; rw [HL1.out] at h; rw [HS1.out, HRS.out]; exact h), HB6.out⟩
          case measure => simp [intOf]; omega
        · have hrs : x.e.restL = putL x.e.n := by unfold Ev.restL; simp [hk1]
          have hrl := congrArg List.length hrs
          rw [hrl] at hs2
          have HRS := Lib.hid hrs
          clear hrs hrl
          go_wp2_with fail
          refine (refPut_own x.e.n _).mono ?_
          rintro e w4 ⟨A3, c3, rfl, h4, b4⟩
          have HO5 := Lib.hid (HO4.out.later b4)
          have HB5 := Lib.hid (HB4.out.trans (b4.mono HB4.out.size))
          have HR5 := Lib.hid h4.rd
          clear h4 b4 HO4 HB4 HV4 d0 d1 d2 d3 d4 d5 d6 d7 d8 d9 d10 d11
          go_wp2_with (at_builtin; refine wpList_app _ .u8 rfl (.tmp 38) (.tmp 41) 23 rfl 5 (.int .u8 0) 1 Try.underlying23 info_byte rfl w.heap.size (.slice A2 ((pl k).length + 1) c2) (pl k ++ [x.e.k]) rfl HO5.out A3 _ c3 rfl (putL x.e.n) rfl HR5.out (by unfold maxLen; rw [HL1.out]; omega) (by rw [HL1.out]; omega) HB5.out.size ?_; intro A6 c6 w6 h6 g6; have HO6 := Lib.hid h6; have HB6 := Lib.hid (HB5.out.grown g6 HB5.out.size (fun g hg => (HO5.out.lt g hg).1)); clear h6 g6)
          go_roundw
          case rel => exact ⟨k + 1, A6, _, c6, by omega, by go_num, rfl, (Lib.hid (by rw [HS1.out, List.length_append, HL1.out, HRS.out]; try simp)), (fun j hj => by
              by_cases h : j < k
              · exact hp.out j h
              · have : j = k := by omega
                subst this
                rw [HE.out]
                exact HOK.out), (by have h := HO6.out; rw [HL1.out] at h; rw [HS1.out, HRS.out]; exact h), HB6.out⟩
          case measure => simp [intOf]; omega
        · have hrs : x.e.restL = x.e.pk.plainL := by unfold Ev.restL; simp [hk1]
          have hrl := congrArg List.length hrs
          rw [hrl] at hs2
          have HRS := Lib.hid hrs
          clear hrs hrl
          have hpo : x.e.pk.ok = true := by
            have h9 := HOK.out
            unfold Ev.ok at h9
            rw [if_neg (by omega), if_neg (by omega), if_pos (by omega)] at h9
            simp only [Bool.and_eq_true] at h9
            exact h9.1.1
          have hpc := refPlain_any x.e.pk x.B x.d w3 (HXA.out _ HB4.out).pk
          unfold Pkt.plainO at hpc
          simp only [hpo, if_true] at hpc
          unfold Pkt.val at hpc
          have HPC := Lib.hid hpc
          clear hpc hpo
          go_wp2_with fail
          refine HPC.out.mono ?_
          rintro e w4 ⟨A3, c3, rfl, h4, b4⟩
          have HO5 := Lib.hid (HO4.out.later b4)
          have HB5 := Lib.hid (HB4.out.trans (b4.mono HB4.out.size))
          have HR5 := Lib.hid h4.rd
          clear h4 b4 HO4 HB4 HV4 d0 d1 d2 d3 d4 d5 d6 d7 d8 d9 d10 d11
          go_wp2_with (at_builtin; refine wpList_app _ .u8 rfl (.tmp 52) (.tmp 53) 23 rfl 5 (.int .u8 0) 1 Try.underlying23 info_byte rfl w.heap.size (.slice A2 ((pl k).length + 1) c2) (pl k ++ [x.e.k]) rfl HO5.out A3 _ c3 rfl x.e.pk.plainL rfl HR5.out (by unfold maxLen; rw [HL1.out]; omega) (by rw [HL1.out]; omega) HB5.out.size ?_; intro A6 c6 w6 h6 g6; have HO6 := Lib.hid h6; have HB6 := Lib.hid (HB5.out.grown g6 HB5.out.size (fun g hg => (HO5.out.lt g hg).1)); clear h6 g6)
          go_roundw
          case rel => exact ⟨k + 1, A6, _, c6, by omega, by go_num, rfl, (Lib.hid (by rw [HS1.out, List.length_append, HL1.out, HRS.out]; try simp)), (fun j hj => by
              by_cases h : j < k
              · exact hp.out j h
              · have : j = k := by omega
                subst this
                rw [HE.out]
                exact HOK.out), (by have h := HO6.out; rw [HL1.out] at h; rw [HS1.out, HRS.out]; exact h), HB6.out⟩
          case measure => simp [intOf]; omega
        · have hrs : x.e.restL = x.e.pk.plainL := by unfold Ev.restL; simp [hk1]
          have hrl := congrArg List.length hrs
          rw [hrl] at hs2
          have HRS := Lib.hid hrs
          clear hrs hrl
          have hpo : x.e.pk.ok = true := by
            have h9 := HOK.out
            unfold Ev.ok at h9
            rw [if_neg (by omega), if_neg (by omega), if_pos (by omega)] at h9
            simp only [Bool.and_eq_true] at h9
            exact h9.1.1
          have hpc := refPlain_any x.e.pk x.B x.d w3 (HXA.out _ HB4.out).pk
          unfold Pkt.plainO at hpc
          simp only [hpo, if_true] at hpc
          unfold Pkt.val at hpc
          have HPC := Lib.hid hpc
          clear hpc hpo
          go_wp2_with fail
          refine HPC.out.mono ?_
          rintro e w4 ⟨A3, c3, rfl, h4, b4⟩
          have HO5 := Lib.hid (HO4.out.later b4)
          have HB5 := Lib.hid (HB4.out.trans (b4.mono HB4.out.size))
          have HR5 := Lib.hid h4.rd
          clear h4 b4 HO4 HB4 HV4 d0 d1 d2 d3 d4 d5 d6 d7 d8 d9 d10 d11
          go_wp2_with (at_builtin; refine wpList_app _ .u8 rfl (.tmp 52) (.tmp 53) 23 rfl 5 (.int .u8 0) 1 Try.underlying23 info_byte rfl w.heap.size (.slice A2 ((pl k).length + 1) c2) (pl k ++ [x.e.k]) rfl HO5.out A3 _ c3 rfl x.e.pk.plainL rfl HR5.out (by unfold maxLen; rw [HL1.out]; omega) (by rw [HL1.out]; omega) HB5.out.size ?_; intro A6 c6 w6 h6 g6; have HO6 := Lib.hid h6; have HB6 := Lib.hid (HB5.out.grown g6 HB5.out.size (fun g hg => (HO5.out.lt g hg).1)); clear h6 g6)
          go_roundw
          case rel => exact ⟨k + 1, A6, _, c6, by omega, by go_num, rfl, (Lib.hid (by rw [HS1.out, List.length_append, HL1.out, HRS.out]; try simp)), (fun j hj => by
              by_cases h : j < k
              · exact hp.out j h
              · have : j = k := by omega
                subst this
                rw [HE.out]
                exact HOK.out), (by have h := HO6.out; rw [HL1.out] at h; rw [HS1.out, HRS.out]; exact h), HB6.out⟩
          case measure => simp [intOf]; omega
        · have hrs : x.e.restL = [] := by unfold Ev.restL; simp [hk1]
          have hrl := congrArg List.length hrs
          simp only [List.length_nil] at hrl
          rw [hrl] at hs2
          have HRS := Lib.hid hrs
          clear hrs hrl
          clear d1 d2 d3 d4 d5 d6 d7 d8 d9 d10 d11
          go_wp2_with fail
          go_roundw
          case rel => exact ⟨k + 1, A2, _, c2, by omega, by go_num, rfl, (Lib.hid (by rw [HS1.out, List.length_append, HL1.out, HRS.out]; try simp)), (fun j hj => by
              by_cases h : j < k
              · exact hp.out j h
              · have : j = k := by omega
                subst this
                rw [HE.out]
                exact HOK.out), (by have h := HO4.out; rw [HS1.out, HRS.out, List.append_nil]; exact h), HB4.out⟩
          case measure => simp [intOf]; omega
        · have hrs : x.e.restL = putL x.e.n := by unfold Ev.restL; simp [hk1]
          have hrl := congrArg List.length hrs
          rw [hrl] at hs2
          have HRS := Lib.hid hrs
          clear hrs hrl
          go_wp2_with fail
          refine (refPut_own x.e.n _).mono ?_
          rintro e w4 ⟨A3, c3, rfl, h4, b4⟩
          have HO5 := Lib.hid (HO4.out.later b4)
          have HB5 := Lib.hid (HB4.out.trans (b4.mono HB4.out.size))
          have HR5 := Lib.hid h4.rd
          clear h4 b4 HO4 HB4 HV4 d0 d1 d2 d3 d4 d5 d6 d7 d8 d9 d10 d11
          go_wp2_with (at_builtin; refine wpList_app _ .u8 rfl (.tmp 38) (.tmp 41) 23 rfl 5 (.int .u8 0) 1 Try.underlying23 info_byte rfl w.heap.size (.slice A2 ((pl k).length + 1) c2) (pl k ++ [x.e.k]) rfl HO5.out A3 _ c3 rfl (putL x.e.n) rfl HR5.out (by unfold maxLen; rw [HL1.out]; omega) (by rw [HL1.out]; omega) HB5.out.size ?_; intro A6 c6 w6 h6 g6; have HO6 := Lib.hid h6; have HB6 := Lib.hid (HB5.out.grown g6 HB5.out.size (fun g hg => (HO5.out.lt g hg).1)); clear h6 g6)
          go_roundw
          case rel => exact ⟨k + 1, A6, _, c6, by omega, by go_num, rfl, (Lib.hid (by rw [HS1.out, List.length_append, HL1.out, HRS.out]; try simp)), (fun j hj => by
              by_cases h : j < k
              · exact hp.out j h
              · have : j = k := by omega
                subst this
                rw [HE.out]
                exact HOK.out), (by have h := HO6.out; rw [HL1.out] at h; rw [HS1.out, HRS.out]; exact h), HB6.out⟩
          case measure => simp [intOf]; omega
        · have hrs : x.e.restL = putL x.e.n := by unfold Ev.restL; simp [hk1]
          have hrl := congrArg List.length hrs
          rw [hrl] at hs2
          have HRS := Lib.hid hrs
          clear hrs hrl
          go_wp2_with fail
          refine (refPut_own x.e.n _).mono ?_
          rintro e w4 ⟨A3, c3, rfl, h4, b4⟩
          have HO5 := Lib.hid (HO4.out.later b4)
          have HB5 := Lib.hid (HB4.out.trans (b4.mono HB4.out.size))
          have HR5 := Lib.hid h4.rd
          clear h4 b4 HO4 HB4 HV4 d0 d1 d2 d3 d4 d5 d6 d7 d8 d9 d10 d11
          go_wp2_with (at_builtin; refine wpList_app _ .u8 rfl (.tmp 38) (.tmp 41) 23 rfl 5 (.int .u8 0) 1 Try.underlying23 info_byte rfl w.heap.size (.slice A2 ((pl k).length + 1) c2) (pl k ++ [x.e.k]) rfl HO5.out A3 _ c3 rfl (putL x.e.n) rfl HR5.out (by unfold maxLen; rw [HL1.out]; omega) (by rw [HL1.out]; omega) HB5.out.size ?_; intro A6 c6 w6 h6 g6; have HO6 := Lib.hid h6; have HB6 := Lib.hid (HB5.out.grown g6 HB5.out.size (fun g hg => (HO5.out.lt g hg).1)); clear h6 g6)
          go_roundw
          case rel => exact ⟨k + 1, A6, _, c6, by omega, by go_num, rfl, (Lib.hid (by rw [HS1.out, List.length_append, HL1.out, HRS.out]; try simp)), (fun j hj => by
              by_cases h : j < k
              · exact hp.out j h
              · have : j = k := by omega
                subst this
                rw [HE.out]
                exact HOK.out), (by have h := HO6.out; rw [HL1.out] at h; rw [HS1.out, HRS.out]; exact h), HB6.out⟩
          case measure => simp [intOf]; omega
    · go_wp2_with fail
      go_ret2
      have hkn : k = n := by omega
      subst hkn
      obtain ⟨g1, g2⟩ := HGOOD.out hp.out
      rw [g1, g2]
      have hm2 := hm.out
      subst hm2
      exact ⟨D, dc, rfl, ho.out, hbl.out⟩
end Go.Proofs.Ytbjneoeiognahaa

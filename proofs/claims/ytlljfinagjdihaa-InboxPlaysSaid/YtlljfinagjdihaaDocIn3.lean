/-
  What Put of the document's own inbox does: contract over the program.
-/
import Derived.Test.YtlljfinagjdihaaDocIn2
import Derived.Deep.DeepCutAuto
import Derived.Deep.CutBlock
import Derived.Lib.AppendZerosOnto
namespace Go.Proofs.Ytlljfinagjdihaa
open Go.RowKit

theorem cnt_new (s : In) (f : Int) (ys : List Int) (i : Nat) : s.steps f ys (i + 1) = ((s.steps f ys i).1.put1 (f + i) (ys.getD i 0), (s.steps f ys i).2 + (s.steps f ys i).1.cnt1 (f + i)) := rfl

section
variable {w : World} {B b : Nat} {bv gv : Value} {xs : List Int} {ps : List (Int × Int)} {s : In}

set_option maxRecDepth 100000 in
set_option maxHeartbeats 2000000 in
theorem diput_any (h : DiAt w B b bv gv xs ps s) (f : Int) (A : Option Addr) (m c : Nat) (ys : List Int) (hm : ys.length = m) (hr : Rd .u8 w A ys) (hd : ∀ a, A = some a → ¬ Dif b bv gv a.block) (fin : Bool) (hf : -9223372036854775808 ≤ f ∧ f ≤ 9223372036854775807) (hmm : m ≤ 1048576) (hlim : s.tk + s.win ≤ 8192) (hx : xs.length ≤ 8192) :
    Calls Try.prog 24 #[.pointer (some ⟨b, 0, none⟩), .int .i64 f, .slice A m c, .bool fin] w fun e w' => e = .returned (.int .i64 (s.new_ f ys)) ∧ DMid w w' B b bv gv (s.put f ys fin) := by
  have HRD := Lib.hid (show ∀ (W : World) bv' gv', SC w W (Dif b bv gv) (Dif b bv' gv') → ∀ i, i < m → ∃ a o, A = some ⟨a, o, none⟩ ∧ W.cell? ⟨a, o + i, none⟩ = some (.int .u8 (ys.getD i 0)) from fun W bv' gv' hsc i hi => by
    obtain ⟨a, o, rfl, hc⟩ := (rd_trn hr hsc.trn hd).some_ (by rw [hm]; omega)
    exact ⟨a, o, rfl, hc i (by omega)⟩)
  have HST := Lib.hid (fun i => In.steps_same (s := s) f ys i)
  have HSK := Lib.hid (fun i => In.steps_ok h.ok f ys i)
  have HCN := Lib.hid (fun i => In.steps_cnt (s := s) f ys i)
  have H0 : Hid (DMid w w B b bv gv (s.steps f ys 0).1) := Lib.hid ⟨_, _, _, _, h, SC.refl _ _, hx⟩
  have HLIM := Lib.hid hlim
  have HF := Lib.hid hf
  have HM := Lib.hid (And.intro hm hmm)
  clear h hr hd hm hf hmm hlim hx
  obtain ⟨RN, hRN⟩ : ∃ z, s.new_ f ys = z := ⟨_, rfl⟩
  obtain ⟨RS, hRS⟩ : ∃ z, s.put f ys fin = z := ⟨_, rfl⟩
  rw [hRN, hRS]
  have HRN := Lib.hid hRN
  have HRS := Lib.hid hRS
  clear hRN hRS
  go_enter Try.func24, Try.ntmps24
  go_wp2
  go_loopw [9, 18] (fun nv iv wr => ∃ (i : Nat), i ≤ m ∧ iv = .int .i64 i ∧ nv = .int .i64 (s.steps f ys i).2 ∧ Hid (DMid w wr B b bv gv (s.steps f ys i).1)) (fun _ iv _ => m - (intOf iv).toNat)
  case atStart => exact ⟨0, by omega, rfl, rfl, H0⟩
  case round =>
    clear H0
    obtain ⟨i, hi, rfl, rfl, hmid⟩ := hrel
    by_cases hin : i < m
    · obtain ⟨bv1, gv1, xs1, ps1, hdi, hsc, hxl⟩ := hmid.out
      clear hmid
      obtain ⟨a, o, rfl, y0⟩ := HRD.out wr bv1 gv1 hsc i hin
      have hsame := HST.out i
      have hcn := HCN.out i
      have hst := cnt_new s f ys i
      obtain ⟨s1, hs1⟩ : ∃ x, (s.steps f ys i).1 = x := ⟨_, rfl⟩
      obtain ⟨n1, hn1⟩ : ∃ x, (s.steps f ys i).2 = x := ⟨_, rfl⟩
      obtain ⟨x, hx⟩ : ∃ x, ys.getD i 0 = x := ⟨_, rfl⟩
      rw [hs1] at hdi hsame hst
      rw [hn1] at hcn hst
      rw [hn1]
      rw [hx] at y0 hst
      have i1 : (i : Int) < (m : Int) := by omega
      have i2 : (0 : Int) ≤ (i : Int) := by omega
      have hM := HM.out
      have HIW := Lib.hid (show wrap64 ((i : Int) + 1) = ((i + 1 : Nat) : Int) from wrap_at (by omega) (by omega) (by omega))
      have HNX := Lib.hid (show i < m ∧ i ≤ 1048576 by omega)
      have HSKIP := Lib.hid (show ¬ s1.may (f + i) → s.steps f ys (i + 1) = (s1, n1) from fun hno => by rw [hst]; unfold In.put1 In.cnt1; rw [if_neg hno, if_neg hno]; simp)
      have HTAKE := Lib.hid (show s1.may (f + i) → s.steps f ys (i + 1) = (s1.lay (f + i) x, n1 + 1) from fun hyes => by rw [hst]; unfold In.put1 In.cnt1; rw [if_pos hyes, if_pos hyes])
      have hlim : s1.tk + s1.win ≤ 8192 := by rw [hsame.1, hsame.2.1]; exact HLIM.out
      have HDI := Lib.hid hdi
      have HSC := Lib.hid hsc
      have HXL := Lib.hid hxl
      have HCN1 := Lib.hid hcn
      have HS1 := Lib.hid hs1
      have HL1 := Lib.hid hlim
      clear hst hsame hcn hs1 hn1 hx hi hin hM hlim hsc hxl
      by_cases hbig : f > 8192
      · -- far beyond
        have hno : ¬ s1.may (f + i) := fun hh => by have := hh.2.1; have := HL1.out; omega
        have hs := HSKIP.out hno
        have HMID : Hid (DMid w wr B b bv gv (s.steps f ys (i + 1)).1) := Lib.hid (by rw [hs]; exact ⟨_, _, _, _, HDI.out, HSC.out, HXL.out⟩)
        have HN := Lib.hid (show (s.steps f ys (i + 1)).2 = n1 by rw [hs])
        clear hs hno hdi
        go_wp2
        go_roundw
        case rel => exact ⟨i + 1, by have := HNX.out; omega, by first | rfl | (rw [HIW.out]) | go_num, by rw [HN.out], HMID⟩
        case measure => (try rw [HIW.out]); have := HNX.out; simp [intOf]; omega
      · have hF := HF.out
        have hN := HNX.out
        obtain ⟨K, hK⟩ : ∃ K, f + (i : Int) = K := ⟨_, rfl⟩
        have HKW := Lib.hid (show wrap64 (f + (i : Int)) = K from wrap_at hK (by omega) (by omega))
        have HKR := Lib.hid (show -9223372036854775808 ≤ K ∧ K ≤ 1100000 by omega)
        rw [hK] at HSKIP HTAKE
        clear hK hF hN
        by_cases hneg : K < 0
        · have hno : ¬ s1.may K := fun hh => by have := hh.1; omega
          have hs := HSKIP.out hno
          have HMID : Hid (DMid w wr B b bv gv (s.steps f ys (i + 1)).1) := Lib.hid (by rw [hs]; exact ⟨_, _, _, _, HDI.out, HSC.out, HXL.out⟩)
          have HN := Lib.hid (show (s.steps f ys (i + 1)).2 = n1 by rw [hs])
          clear hs hno hdi
          have hkw := HKW.out
          go_wp2
          clear hkw
          go_roundw
          case rel => exact ⟨i + 1, by have := HNX.out; omega, by first | rfl | (rw [HIW.out]) | go_num, by rw [HN.out], HMID⟩
          case measure => (try rw [HIW.out]); have := HNX.out; simp [intOf]; omega
        · obtain ⟨Kn, hKn⟩ : ∃ y : Nat, K = y := ⟨K.toNat, by omega⟩
          subst hKn
          have hkw := HKW.out
          have k0 : (0 : Int) ≤ (Kn : Int) := by omega
          clear hneg hdi
          go_wp2_with fail
          refine (dilimit_any HDI.out (by have := HL1.out; have := HDI.out.ok.w0; omega) 0).mono ?_
          rintro e w1 ⟨rfl, k1, rfl⟩
          obtain ⟨W1, hW1⟩ : ∃ W, (wr.drewN 0).drewN k1 = W := ⟨_, rfl⟩
          have HD1 : Hid (DiAt W1 B b bv1 gv1 xs1 ps1 s1) := Lib.hid (by rw [← hW1]; exact (HDI.out.drewN 0).drewN k1)
          have HSC1 : Hid (SC w W1 (Dif b bv gv) (Dif b bv1 gv1)) := Lib.hid (HSC.out.trans (by rw [← hW1]; exact SC.of_below ⟨rfl, rfl, rfl, Nat.le_refl _, fun _ _ => rfl⟩))
          rw [hW1]
          clear hW1 y0 HDI
          have d2 := HD1.out.c2
          obtain ⟨en, hen⟩ : ∃ z, s1.en = z := ⟨_, rfl⟩
          obtain ⟨LM, hLM⟩ : ∃ z, s1.tk + s1.win = z := ⟨_, rfl⟩
          rw [hen] at d2
          rw [hLM]
          have HEN := Lib.hid hen
          have HLM := Lib.hid hLM
          clear hen hLM
          by_cases hlm : (Kn : Int) ≥ LM
          · have hno : ¬ s1.may Kn := fun hh => by have := hh.2.1; have := HLM.out; omega
            have hs := HSKIP.out hno
            have HMID : Hid (DMid w W1 B b bv gv (s.steps f ys (i + 1)).1) := Lib.hid (by rw [hs]; exact ⟨_, _, _, _, HD1.out, HSC1.out, HXL.out⟩)
            have HN := Lib.hid (show (s.steps f ys (i + 1)).2 = n1 by rw [hs])
            clear hs hno
            go_wp2
            go_roundw
            case rel => exact ⟨i + 1, by have := HNX.out; omega, by first | rfl | (rw [HIW.out]) | go_num, by rw [HN.out], HMID⟩
            case measure => (try rw [HIW.out]); have := HNX.out; simp [intOf]; omega
          · by_cases hee : 0 ≤ en ∧ (Kn : Int) ≥ en
            · obtain ⟨e0, e1⟩ := hee
              have e2 : en ≥ 0 := e0
              have hno : ¬ s1.may Kn := fun hh => by have := hh.2.2.1; have := HEN.out; omega
              have hs := HSKIP.out hno
              have HMID : Hid (DMid w W1 B b bv gv (s.steps f ys (i + 1)).1) := Lib.hid (by rw [hs]; exact ⟨_, _, _, _, HD1.out, HSC1.out, HXL.out⟩)
              have HN := Lib.hid (show (s.steps f ys (i + 1)).2 = n1 by rw [hs])
              clear hs hno
              go_wp2
              go_roundw
              case rel => exact ⟨i + 1, by have := HNX.out; omega, by first | rfl | (rw [HIW.out]) | go_num, by rw [HN.out], HMID⟩
              case measure => (try rw [HIW.out]); have := HNX.out; simp [intOf]; omega
            · have hcase : (decide (0 ≤ en) = false ∧ en < 0) ∨ (en ≥ 0 ∧ ¬ ((Kn : Int) ≥ en)) := by
                by_cases h0 : 0 ≤ en
                · exact .inr ⟨h0, fun h => hee ⟨h0, h⟩⟩
                · exact .inl ⟨decide_eq_false h0, by omega⟩
              have HMY := Lib.hid (show s1.g Kn = none → s1.may Kn from fun hg => ⟨by omega, by have := HLM.out; omega, by have := HEN.out; omega, hg⟩)
              have HLT := Lib.hid (show (Kn : Int) < 8192 by have := HLM.out; have := HL1.out; omega)
              have hk1 : wrap64 ((Kn : Int) + 1) = (Kn : Int) + 1 := wrap_at rfl (by omega) (by have := HLT.out; omega)
              have HK1 := Lib.hid hk1
              clear hee hk1
              by_cases hins : ins ps1 Kn
              · have hno : ¬ s1.may Kn := fun hh => by
                  have := (HD1.out.rep.yes Kn hins).2.2
                  rw [hh.2.2.2] at this
                  cases this
                have HHAS := Lib.hid (setfhas_any b gv1 ps1 B Kn (Kn + 1) true W1 HD1.out.sf (by omega) ⟨fun _ => (ins_unit ps1 Kn).2 hins, fun _ => rfl⟩)
                clear hins
                rcases hcase with ⟨q0, q1⟩ | ⟨q0, q1⟩
                all_goals
                  have hk1 := HK1.out
                  go_wp2_with fail
                  refine HHAS.out.mono ?_
                  rintro e w2 ⟨rfl, hb2⟩
                  have HD2 := Lib.hid (HD1.out.later hb2)
                  have HSC2 := Lib.hid (HSC1.out.trans (sc_later hb2))
                  clear hb2 hk1
                  have hs := HSKIP.out hno
                  have HMID : Hid (DMid w w2 B b bv gv (s.steps f ys (i + 1)).1) := Lib.hid (by rw [hs]; exact ⟨_, _, _, _, HD2.out, HSC2.out, HXL.out⟩)
                  have HN := Lib.hid (show (s.steps f ys (i + 1)).2 = n1 by rw [hs])
                  clear hs hno
                  go_wp2
                  go_roundw
                  case rel => exact ⟨i + 1, by have := HNX.out; omega, by first | rfl | (rw [HIW.out]) | go_num, by rw [HN.out], HMID⟩
                  case measure => (try rw [HIW.out]); have := HNX.out; simp [intOf]; omega
              · have hyes := HMY.out (HD1.out.rep.no Kn hins)
                have hs := HTAKE.out hyes
                have HN := Lib.hid (show (s.steps f ys (i + 1)).1 = s1.lay Kn x ∧ (s.steps f ys (i + 1)).2 = n1 + 1 by rw [hs]; exact ⟨rfl, rfl⟩)
                have HYES := Lib.hid hyes
                have HHAS := Lib.hid (setfhas_any b gv1 ps1 B Kn (Kn + 1) false W1 HD1.out.sf (by omega) ⟨fun e => (by cases e), fun e => absurd ((ins_unit ps1 Kn).1 e) hins⟩)
                have HINS := Lib.hid hins
                clear hins hyes hs
                rcases hcase with ⟨q0, q1⟩ | ⟨q0, q1⟩
                all_goals
                  have hk1 := HK1.out
                  go_wp2_with fail
                  refine HHAS.out.mono ?_
                  rintro e w2 ⟨rfl, hb2⟩
                  have HD2 := Lib.hid (HD1.out.later hb2)
                  have HSC2 := Lib.hid (HSC1.out.trans (sc_later hb2))
                  clear hb2 hk1 hkw d2
                  go_upto_block 2 with (fail)
                  go_cut [] (fun wx => ∃ wz, wz = wx ∧ Hid (∃ (A2 : Option Addr) (n2 c2 : Nat) (xs2 : List Int), DiAt wz B b (.slice A2 n2 c2) gv1 xs2 ps1 s1 ∧ SC w wz (Dif b bv gv) (Dif b (.slice A2 n2 c2) gv1) ∧ xs2.length = n2 ∧ Kn < n2 ∧ n2 ≤ 8192))
                  case first =>
                    clear q0 q1 hlm
                    have HIN0 : Hid (∃ (A2 : Option Addr) (n2 c2 : Nat) (xs2 : List Int), DiAt w2 B b (.slice A2 n2 c2) gv1 xs2 ps1 s1 ∧ SC w w2 (Dif b bv gv) (Dif b (.slice A2 n2 c2) gv1) ∧ xs2.length = n2 ∧ n2 ≤ 8192) := Lib.hid (by
                      obtain ⟨A2, c2, hv2⟩ := HD2.out.own.form
                      exact ⟨A2, _, c2, xs1, hv2 ▸ HD2.out, hv2 ▸ HSC2.out, rfl, HXL.out⟩)
                    go_wp2_with fail
                    go_loopg [] 8193 (fun kx wv => Hid (∃ (A2 : Option Addr) (n2 c2 : Nat) (xs2 : List Int), DiAt wv B b (.slice A2 n2 c2) gv1 xs2 ps1 s1 ∧ SC w wv (Dif b bv gv) (Dif b (.slice A2 n2 c2) gv1) ∧ xs2.length = n2 ∧ n2 ≤ 8192 ∧ 8193 ≤ n2 + kx))
                    case atStart => exact Lib.hid (by obtain ⟨A2, n2, c2, xs2, h1, h2, h3, h4⟩ := HIN0.out; exact ⟨A2, n2, c2, xs2, h1, h2, h3, h4, by omega⟩)
                    case round =>
                      clear HIN0
                      obtain ⟨A2, n2, c2, xs2, h2, hs2, hl2, hn2, hg2⟩ := hrel.out
                      clear hrel
                      by_cases hle : n2 ≤ Kn
                      · have j0 : (n2 : Int) ≤ (Kn : Int) := by omega
                        have d3 := h2.c3
                        have hX := h2.later ((Below.refl _ _).alloc (Nat.le_refl _) (.cells #[.int .u8 0] 5))
                        have d3' := hX.c3
                        have hlt := HLT.out
                        obtain ⟨A3, c3, w3, hrun, ho3, hg3, hf3⟩ := run_append_f (P := Try.prog) (wr.alloc (.cells #[.int .u8 0] 5)) .u8 22 22 5 (.int .u8 0) 1 Try.underlying22 info_byteI rfl B (.slice A2 n2 c2) xs2 hX.own (some ⟨wr.heap.size, 0, none⟩) 1 1 [0] rfl (Rd.new wr [0] _) (by unfold maxLen; omega) (by omega) hX.size
                        rw [hl2] at hrun ho3 hf3
                        obtain ⟨z1, z2, z3, z4⟩ := hX.set3 (Trn.of_grown hg3) ho3 hf3 (hX.rep.more [0])
                        have HNEW := Lib.hid (show ∃ (A9 : Option Addr) (n9 c9 : Nat) (xs9 : List Int), DiAt (w3.setCell ⟨b, 0 + 3, none⟩ (.slice A3 (n2 + 1) c3)) B b (.slice A9 n9 c9) gv1 xs9 ps1 s1 ∧ SC w (w3.setCell ⟨b, 0 + 3, none⟩ (.slice A3 (n2 + 1) c3)) (Dif b bv gv) (Dif b (.slice A9 n9 c9) gv1) ∧ xs9.length = n9 ∧ n9 ≤ 8192 ∧ 8193 ≤ n9 + (gk - 1) from
                          ⟨A3, n2 + 1, c3, _, z3, hs2.trans ((sc_later ((Below.refl _ _).alloc (Nat.le_refl _) _)).trans z4), by rw [List.length_append, hl2, List.length_singleton], by omega, by omega⟩)
                        have HGK := Lib.hid (show gk - 1 < gk by omega)
                        clear h2 hs2 hl2 hn2 hg2 hle hX ho3 hg3 hf3 z3 z4 hlt
                        go_wp2_with (at_builtin; refine Lib.wpList_append_run _ rfl _ _ _ _ rfl _ _ rfl rfl _ _ hrun ?_)
                        go_roundg (gk - 1)
                        case measure => exact HGK.out
                        case rel => exact HNEW
                      · have j0 : ¬ ((n2 : Int) ≤ (Kn : Int)) := by omega
                        have d3 := h2.c3
                        have HEND := Lib.hid (show ∃ (A2 : Option Addr) (n2 c2 : Nat) (xs2 : List Int), DiAt wr B b (.slice A2 n2 c2) gv1 xs2 ps1 s1 ∧ SC w wr (Dif b bv gv) (Dif b (.slice A2 n2 c2) gv1) ∧ xs2.length = n2 ∧ Kn < n2 ∧ n2 ≤ 8192 from ⟨A2, n2, c2, xs2, h2, hs2, hl2, by omega, hn2⟩)
                        clear h2 hs2 hl2 hn2 hg2 hle
                        go_wp2_with fail
                        go_meet
                        exact ⟨_, rfl, HEND⟩
                  case rest =>
                  obtain ⟨wz, rfl, hgr⟩ := hcut
                  obtain ⟨A2, n2, c2, xs2, h2, hs2, hl2, hk2, hn2⟩ := hgr.out
                  obtain ⟨g2, rfl, _, _, _, hcell, hfro⟩ := h2.own.block (by omega : 0 < n2)
                  have e3 := h2.c3
                  have ec := hcell Kn hk2
                  have ef := hfro Kn
                  have i3 : (Kn : Int) < (n2 : Int) := by omega
                  obtain ⟨hb1, hsb⟩ := h2.byte hl2 Kn HINS.out x
                  obtain ⟨w3, hw3⟩ : ∃ w, wz.setCell ⟨g2, Kn, none⟩ (.int .u8 x) = w := ⟨_, rfl⟩
                  rw [hw3] at hb1 hsb
                  have HADD := Lib.hid (setfadd_any b gv1 ps1 B Kn (Kn + 1) w3 hb1.sf)
                  have hlt := HLT.out
                  have HB1 := Lib.hid hb1
                  have HSB := Lib.hid (hs2.trans hsb)
                  have HRL := Lib.hid (h2.rep.lay Kn x (by omega) (by omega))
                  have HLK := Lib.hid (In.lay_ok h2.ok HYES.out x)
                  have HL2 := Lib.hid (show (xs2.set Kn x).length ≤ 8192 by rw [List.length_set]; omega)
                  have HNW := Lib.hid (show wrap64 (n1 + 1) = n1 + 1 from wrap_at rfl (by have := HCN1.out; have := HNX.out; omega) (by have := HCN1.out; have := HNX.out; omega))
                  clear h2 hs2 hl2 hk2 hn2 hgr hcell hfro hb1 hsb hlt
                  have hk1 := HK1.out
                  go_wp2_with fail
                  refine HADD.out.mono ?_
                  rintro e w4 ⟨rfl, gv4, hsf4, hsc4⟩
                  obtain ⟨h4, s4⟩ := HB1.out.set4 (s' := s1.lay Kn x) hsf4 hsc4 ⟨rfl, rfl, rfl⟩ HRL.out HLK.out
                  have HMID : Hid (DMid w w4 B b bv gv (s.steps f ys (i + 1)).1) := Lib.hid (by rw [HN.out.1]; exact ⟨_, _, _, _, h4, HSB.out.trans s4, HL2.out⟩)
                  clear hsf4 hsc4 h4 s4 HADD HB1 HSB HRL HLK hk1
                  have hnw := HNW.out
                  go_wp2
                  clear hnw
                  go_roundw
                  case rel => exact ⟨i + 1, by have := HNX.out; omega, by first | rfl | (rw [HIW.out]) | go_num, by rw [HN.out.2, HNW.out], HMID⟩
                  case measure => (try rw [HIW.out]); have := HNX.out; simp [intOf]; omega
    · have : i = m := by omega
      subst this
      obtain ⟨bv1, gv1, xs1, ps1, hdi, hsc, hxl⟩ := hmid.out
      have hsame := HST.out i
      have hsk := HSK.out i
      have hM := HM.out
      have hnew : (s.steps f ys i).2 = RN := by rw [← HRN.out]; unfold In.new_; rw [hM.1]
      rw [hnew]
      have hput : RS = (s.steps f ys i).1.fin (f + i) fin := by rw [← HRS.out]; unfold In.put; rw [hM.1]
      obtain ⟨s1, hs1⟩ : ∃ x, (s.steps f ys i).1 = x := ⟨_, rfl⟩
      rw [hs1] at hdi hsame hsk hput
      obtain ⟨Ag, cg, hgv⟩ := hdi.sf.own.form
      obtain ⟨ng, hng⟩ : ∃ n, ps1.length = n := ⟨_, rfl⟩
      rw [hng] at hgv
      have c4 := hdi.c4
      have hog := hdi.sf.own
      rw [hgv] at c4 hog
      have hgl := hdi.rep.norm.len
      rw [hng] at hgl
      have j1 : ¬ ((i : Int) < (i : Int)) := by omega
      have HDM := Lib.hid (show ¬ (fin = true ∧ s1.ends (f + i)) → DMid w wr B b bv gv RS from fun hno => by rw [hput, In.fin_no hno]; exact ⟨_, _, _, _, hdi, hsc, hxl⟩)
      have HYS := Lib.hid (show fin = true → s1.ends (f + i) → DMid w (wr.setCell ⟨b, 0 + 2, none⟩ (.int .i64 (f + i))) B b bv gv RS from fun h1 h2 => by
        rw [hput, h1, In.fin_yes h2]
        have hk := In.fin_ok hsk (f + i) true
        rw [In.fin_yes h2] at hk
        exact ⟨_, _, _, _, hdi.set2 hk, hsc.trans (sc_dif _ _), hxl⟩)
      have HTOP := Lib.hid (fun hk => top_iff hdi.rep (f + i) hk)
      have HD := Lib.hid hdi
      have HGV := Lib.hid hgv
      have HMM := Lib.hid hM.2
      clear hmid hsame hsk hM hput hnew hs1 hi hin hsc hxl hdi hgv HRD HRN HRS
      go_upto_if 102 with (fail)
      clear j1
      go_cut [13] (fun tv wx => tv = .int .i64 (topOf ps1) ∧ wr = wx)
      case first =>
        by_cases hn0 : ng = 0
        · subst hn0
          have e : topOf ps1 = 0 := by
            have : ps1 = [] := List.eq_nil_of_length_eq_zero hng
            rw [this]; rfl
          have HE := Lib.hid e
          clear e hog
          go_wp2
          go_meet
          exact ⟨by rw [HE.out], rfl⟩
        · obtain ⟨n', hn'⟩ : ∃ n', ng = n' + 1 := ⟨ng - 1, by omega⟩
          obtain ⟨gg, rfl, _⟩ := hog.at (by omega)
          have y2 := (hog.cells n' (by omega)).2
          rw [← top_get (hng.trans hn')] at y2
          have HS := Lib.hid (show wrap64 ((ng : Int) - 1) = (n' : Int) from wrap_at (by omega) (by omega) (by omega))
          have g1 : (ng : Int) > 0 := by omega
          have g2 : (n' : Int) < (ng : Int) := by omega
          have g3 : (0 : Int) ≤ (n' : Int) := by omega
          clear hog hng hgl hn' hn0
          have hsub := HS.out
          go_wp2
          go_meet
          exact ⟨rfl, rfl⟩
      case rest =>
      obtain ⟨rfl, rfl⟩ := hcut
      have d2 := HD.out.c2
      have f2 := HD.out.fr (0 + 2)
      obtain ⟨en, hen⟩ : ∃ z, s1.en = z := ⟨_, rfl⟩
      rw [hen] at d2
      obtain ⟨T, hT⟩ : ∃ T, topOf ps1 = T := ⟨_, rfl⟩
      rw [hT] at HTOP ⊢
      have HEN := Lib.hid hen
      have hmm := HMM.out
      have hF := HF.out
      have hneg : wrap64 (-(i : Int)) = -(i : Int) := wrap_at rfl (by omega) (by omega)
      have HNG := Lib.hid hneg
      clear hneg c4 hog hng hgl hen hT
      cases fin
      · have hno : ¬ (false = true ∧ s1.ends (f + i)) := fun h => by cases h.1
        clear hmm hF
        go_wp2
        go_ret
        exact ⟨rfl, HDM.out hno⟩
      · by_cases q1 : f ≥ -(i : Int)
        · by_cases q2 : f ≤ 4096
          · obtain ⟨K, hK⟩ : ∃ K, f + (i : Int) = K := ⟨_, rfl⟩
            have HKW := Lib.hid (show wrap64 (f + (i : Int)) = K from wrap_at hK (by omega) (by omega))
            have k0 : K ≥ 0 := by omega
            rw [hK] at HDM HYS HTOP
            clear hmm hF hK
            by_cases q3 : en < 0
            · by_cases q4 : K ≤ 4096
              · by_cases q5 : K ≥ T
                · have he : s1.ends K := ⟨by rw [HEN.out]; exact q3, k0, q4, (HTOP.out k0).1 q5⟩
                  have HY := Lib.hid (HYS.out rfl he)
                  clear he
                  have hkw := HKW.out
                  have hneg := HNG.out
                  go_wp2
                  go_ret
                  exact ⟨rfl, HY.out⟩
                · have hno : ¬ (true = true ∧ s1.ends K) := fun h => q5 ((HTOP.out k0).2 h.2.2.2.2)
                  have hkw := HKW.out
                  have hneg := HNG.out
                  go_wp2
                  go_ret
                  exact ⟨rfl, HDM.out hno⟩
              · have hno : ¬ (true = true ∧ s1.ends K) := fun h => q4 h.2.2.2.1
                have hkw := HKW.out
                have hneg := HNG.out
                go_wp2
                go_ret
                exact ⟨rfl, HDM.out hno⟩
            · have hno : ¬ (true = true ∧ s1.ends K) := fun h => q3 (by have := h.2.1; rw [HEN.out] at this; exact this)
              have q3' : decide (en < 0) = false := decide_eq_false q3
              have hkw := HKW.out
              have hneg := HNG.out
              go_wp2
              go_ret
              exact ⟨rfl, HDM.out hno⟩
          · have hno : ¬ (true = true ∧ s1.ends (f + i)) := fun h => by have := h.2.2.2.1; omega
            clear hmm hF
            have hneg := HNG.out
            go_wp2
            go_ret
            exact ⟨rfl, HDM.out hno⟩
        · have hno : ¬ (true = true ∧ s1.ends (f + i)) := fun h => by have := h.2.2.1; omega
          clear hmm hF
          have hneg := HNG.out
          go_wp2
          go_ret
          exact ⟨rfl, HDM.out hno⟩
end
end Go.Proofs.Ytlljfinagjdihaa

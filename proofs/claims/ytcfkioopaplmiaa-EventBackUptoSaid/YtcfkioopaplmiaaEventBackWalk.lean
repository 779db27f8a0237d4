/-
  The walk of EventBack.
-/
import Derived.Test.YtcfkioopaplmiaaEvWakes
import Derived.Test.YtcfkioopaplmiaaEvAll
import Derived.Test.YtcfkioopaplmiaaEvRow2
import Derived.Test.YtcfkioopaplmiaaPlayEvents
import Derived.Test.YtcfkioopaplmiaaArgE
import Derived.Deep.LoopGhost
import Derived.Deep.DeepCutAuto
namespace Go.Proofs.Ytcfkioopaplmiaa
open Go.RowKit

set_option maxRecDepth 100000 in
set_option maxHeartbeats 8000000 in
theorem eventBack_walk (a0 : Option Addr) (len0 cap0 : Nat) (X0 : List EvM) (a1 : Option Addr) (len1 cap1 : Nat) (z1 : List Int) (a2 : Option Addr) (len2 cap2 : Nat) (z2 : List Int) (a3 : Int) (W : World)
    (h0 : ArgE W a0 len0 cap0 X0) (h1 : ArgI .i64 8 W a1 len1 cap1 z1) (h2 : ArgI .u8 1 W a2 len2 cap2 z2) (w3 : (Lit.int .i64 a3).wf = true) (hb : len2 ≤ 1048576) :
    Calls Try.prog 7 #[.slice a0 len0 cap0, .slice a1 len1 cap1, .slice a2 len2 cap2, .int .i64 a3] W fun e W' => e = .returned (.bool true) ∧ Below W.heap.size W W' := by
  have hbytes : ∀ x ∈ z2, 0 ≤ x ∧ x < 256 := fun x hx => wf_u8 (h2.wf x hx)
  have hw3 := wf_i64 w3
  have hnil2 : a2 = none → cap2 = 0 ∧ len2 = 0 := fun e => by
    have := h2.nil e
    have := h2.le
    omega
  have hpl := playEvents_any a0 len0 cap0 X0 a1 len1 cap1 z1 10 W h0 h1 (by omega)
  have HPL := Lib.hid hpl
  have H2 := Lib.hid h2
  have HBY := Lib.hid hbytes
  have HW3 := Lib.hid hw3
  have HNIL := Lib.hid hnil2
  clear hpl h0 h1 h2 hbytes hw3 hnil2 w3
  go_enter Try.func7, Try.ntmps7
  go_wp2_with fail
  refine HPL.out.mono ?_
  rintro e w1 ⟨v, ls, rfl, hrow, hls, hb1⟩
  obtain ⟨A1, hA1⟩ := hrow.form
  obtain ⟨c1, rfl⟩ := hA1
  have HRW := Lib.hid hrow
  have HB1 := Lib.hid hb1
  obtain ⟨n, hn⟩ : ∃ n, ls.length = n := ⟨_, rfl⟩
  have HN := Lib.hid hn
  rw [hn] at hls HRW ⊢
  clear hrow hb1 hn
  go_wp2_with fail
  go_loopw [9, 32] (fun va vi wr => ∃ (k : Nat) (gs : List EvM), k ≤ n ∧ vi = .int .i64 k ∧ Hid (gs.length ≤ k) ∧ Hid (∀ m ∈ gs, m.e.ok = true) ∧ Hid (EvRow2 wr w1.heap.size W.heap.size va gs) ∧ Hid (Below w1.heap.size w1 wr)) (fun _ vi _ => n - (intOf vi).toNat)
  case atStart => exact ⟨0, [], by omega, rfl, Nat.le_refl _, (fun m hm => absurd hm (by simp)), EvRow2.nil _ _ _, Below.refl _ _⟩
  case round =>
    obtain ⟨k, gs, hk, rfl, hlen, hok, hro, hbl⟩ := hrel
    obtain ⟨A2, hA2⟩ := hro.out.form
    obtain ⟨c2, rfl⟩ := hA2
    by_cases hlt : k < n
    · have i1 : (k : Int) < (n : Int) := by omega
      have i2 : (0 : Int) ≤ (k : Int) := by omega
      have hka : k < ls.length := by rw [HN.out]; exact hlt
      have hx2 := HRW.out.evs.later hbl.out
      have hxm : ls.getD k default ∈ ls := by simp [List.getD, hka]
      have xo := (HRW.out.each _ hxm).later hbl.out
      obtain ⟨b1, o1, rfl, hx3⟩ : ∃ b off, A1 = some ⟨b, off, none⟩ ∧ ∀ i, i < ls.length → (ls.getD i default).lies wr b (off + i * 12) := by
        rcases hx2.lie with h | h
        · subst h; simp at hka
        · exact h
      have x3 := hx3 k hka
      obtain ⟨x, hx⟩ : ∃ x, ls.getD k default = x := ⟨_, rfl⟩
      rw [hx] at xo x3
      have XO := Lib.hid xo
      clear hx hx2 hx3 hka hxm xo
      have hab := (Below.refl wr.heap.size wr).alloc (Nat.le_refl _) (.cells x.cs.toArray 28)
      have HV := Lib.hid (EvV.new wr x.e x.A x.c x.B x.d)
      have XO1 := Lib.hid (XO.out.later hab)
      have HRO := Lib.hid (hro.out.later hab)
      have HBL := Lib.hid (hbl.out.trans (hab.mono hbl.out.size))
      clear hab hro hbl XO
      obtain ⟨c0, c1', c2', c3, c4, c5, c6, c7, c8, c9, c10, c11⟩ := x3
      unfold EvM.cs Ev.cs at XO1 HRO HBL
      unfold Ev.cs at HV
      have hc := fun W (h : EvAt W x.e x.A x.c x.B x.d) => checkE_any x.e x.A x.c x.B x.d W h
      cases hox : x.e.ok
      · simp only [hox, Bool.false_eq_true, if_false] at hc
        have HC := Lib.hid hc
        clear hc hox
        go_wp2_with fail
        refine (HC.out _ XO1.out.at).mono ?_
        rintro e w2 ⟨rfl, hb2⟩
        have HB2 := Lib.hid (HBL.out.trans (hb2.mono HBL.out.size))
        have HR2 := Lib.hid (HRO.out.later hb2)
        clear hb2
        go_wp2_with fail
        go_roundw
        case rel => exact ⟨k + 1, gs, by omega, by go_num, Nat.le_succ_of_le hlen.out, hok, HR2, HB2⟩
        case measure => simp [intOf]; omega
      · simp only [hox, if_true] at hc
        have HC := Lib.hid hc
        have HOX := Lib.hid hox
        clear hc hox
        go_wp2_with fail
        refine (HC.out _ XO1.out.at).mono ?_
        rintro e w2 ⟨rfl, hb2⟩
        obtain ⟨q, hq⟩ : ∃ q, wr.heap.size = q := ⟨_, rfl⟩
        rw [hq] at HV ⊢
        have HV2 := Lib.hid (HV.out.later hb2)
        have hb3 := (Below.refl w2.heap.size w2).alloc (Nat.le_refl _) (.cells x.cs.toArray 28)
        have HR2 := Lib.hid ((HRO.out.later hb2).later hb3)
        have XO2 := Lib.hid ((XO1.out.later hb2).later hb3)
        have HB2 := Lib.hid ((HBL.out.trans (hb2.mono HBL.out.size)).trans (hb3.mono (Nat.le_trans HBL.out.size hb2.size)))
        have HLN := Lib.hid (lies_new w2 x 28)
        have hr9 : (gs.length + 1) * 128 ≤ 140737488355328 := by have := hlen.out; omega
        clear hb2 hb3 HV HRO HBL XO1 hq c0 c1' c2' c3 c4 c5 c6 c7 c8 c9 c10 c11
        have hvc := HV2.out.cells
        obtain ⟨d0, d1, d2, d3, d4, d5, d6, d7, d8, d9, d10, d11⟩ := hvc
        simp only [Nat.zero_add] at d0 d1 d2 d3 d4 d5 d6 d7 d8 d9 d10 d11
        go_wp2_with (at_builtin; refine wpList_appE2 rfl (.tmp 39) (.tmp 41) rfl w1.heap.size W.heap.size (.slice A2 gs.length c2) gs x rfl HR2.out HB1.out.size _ 1 rfl XO2.out HLN.out hr9 HB2.out.size ?_; intro D2 dd2 w6 h6 g6; have HR6 := Lib.hid h6; have HB6 := Lib.hid (HB2.out.grown g6 HB2.out.size (fun g hg => (HR2.out.lt g hg).1)); clear h6 g6)
        go_roundw
        case rel => exact ⟨k + 1, gs ++ [x], by omega, by go_num, (by simp; exact hlen.out), (fun m hm => by
          rcases List.mem_append.1 hm with h | h
          · exact hok.out m h
          · simp at h; rw [h]; exact HOX.out), HR6, HB6⟩
        case measure => simp [intOf]; omega
    · have hg10 : gs.length ≤ 10 := by have := hlen.out; omega
      obtain ⟨es, hes⟩ : ∃ es, gs.map EvM.e = es := ⟨_, rfl⟩
      have hesok : ∀ e ∈ es, e.ok = true := by
        rw [← hes]; intro e he; rw [List.mem_map] at he; obtain ⟨m, hm, rfl⟩ := he; exact hok.out m hm
      have heslen : es.length = gs.length := by rw [← hes]; simp
      have hpl1 : (packL es).length ≤ 42000 := by have := packL_len es hesok; omega
      have hpb : ∀ x ∈ packL es, 0 ≤ x ∧ x < 256 := packL_bytes hesok (by
        rw [← hes]; intro e he; rw [List.mem_map] at he; obtain ⟨m, hm, rfl⟩ := he
        have hb := (hro.out.each m hm).bd
        exact ⟨hb.byt, hb.pk.byt⟩)
      have hEvs := (hro.out.less HB1.out.size).evs
      have HCAP := Lib.hid hro.out.cap
      have hpk := packE_any gs A2 c2 wr hEvs (by omega) (by rw [hes]; omega)
      rw [hes, show packO es = packL es by unfold packO; rw [if_pos (okL_of hesok)], if_pos (okL_of hesok)] at hpk
      have hue : unE (packL es) ((packL es).length + 1) 0 [] = (es, 0, true) := by
        have := unE_at es ((packL es).length + 1) 0 (packL es) [] hesok (Nat.zero_le _) (by simp) (by have := packL_ge es; omega)
        simpa using this
      obtain ⟨P, hP⟩ : ∃ P, packL es = P := ⟨_, rfl⟩
      rw [hP] at hpk hue hpl1 hpb
      have HP := Lib.hid hP
      have HES := Lib.hid hes
      have HESOK := Lib.hid hesok
      have HESL := Lib.hid heslen
      have HPL1 := Lib.hid hpl1
      have HPB := Lib.hid hpb
      have HEVS := Lib.hid hEvs
      have HPK := Lib.hid hpk
      have HUE := Lib.hid hue
      have HBW := Lib.hid (HB1.out.trans (hbl.out.mono HB1.out.size))
      clear hP hes hesok heslen hpl1 hpb hEvs hpk hue hbl hro hlen hok HRW
      go_wp2_with fail
      refine HPK.out.mono ?_
      rintro e w2 ⟨A3, c3, rfl, hp, hb2⟩
      have hun := unpackE_any A3 P.length c3 P w2 rfl hp.rd (by have := HPL1.out; omega) hp.none_len HPB.out
      rw [HUE.out] at hun
      simp only [if_true] at hun
      have HUN := Lib.hid hun
      have HP2 := Lib.hid hp
      have HB2 := Lib.hid hb2
      clear hun hp hb2 HPK
      go_wp2_with fail
      refine HUN.out.mono ?_
      rintro e w3' ⟨v3, ls3, rfl, hr3, hl3, hb3⟩
      obtain ⟨A4, hA4⟩ := hr3.form
      obtain ⟨c4, rfl⟩ := hA4
      have hb23 := HB2.out.trans (hb3.mono HB2.out.size)
      have hal := allE_any gs ls3 A2 A4 c2 c4 w3' (HEVS.out.later hb23) hr3.evs (by unfold maxLen; omega)
      have hd9 : decide (gs.map EvM.e = ls3.map EvM.e) = true := by rw [HES.out, hl3]; simp
      rw [hd9] at hal
      have HAL := Lib.hid hal
      have HP3 := Lib.hid (HP2.out.later hb3)
      have HB3 := Lib.hid hb23
      clear hal hd9 hb23 hr3 hl3 hb3 HUN HP2 HB2
      go_wp2_with fail
      refine HAL.out.mono ?_
      rintro e w4 ⟨rfl, hb4⟩
      have HP4 := Lib.hid (HP3.out.later hb4)
      have hb4' := HB3.out.trans (hb4.mono HB3.out.size)
      have HB4 := Lib.hid hb4'
      have HBW4 := Lib.hid (HBW.out.trans (hb4'.mono HBW.out.size))
      have hub := unpackE_any a2 len2 cap2 z2 w4 H2.out.len (H2.out.rd.later (HBW4.out.mono (Nat.le_refl _))) (by omega) HNIL.out HBY.out
      obtain ⟨es5, p5, t5, hu5⟩ : ∃ es p t, unE z2 (len2 + 1) 0 [] = (es, p, t) := ⟨_, _, _, rfl⟩
      rw [hu5] at hub
      simp only at hub
      obtain ⟨r5, hr5⟩ : ∃ r : Int, (if t5 = true then 0 else 2) = r := ⟨_, rfl⟩
      rw [hr5] at hub
      have HUB := Lib.hid hub
      have HU5 := Lib.hid hu5
      have HR5 := Lib.hid hr5
      clear hub hu5 hr5 hb4 hb4' HP3 HB3 HAL
      go_wp2_with fail
      refine HUB.out.mono ?_
      rintro e w5 ⟨v5, ls5, rfl, hr5, hl5, hb5⟩
      obtain ⟨A5, hA5⟩ := hr5.form
      obtain ⟨c5, rfl⟩ := hA5
      have HR5' := Lib.hid hr5
      have HL5 := Lib.hid hl5
      have HP5 := Lib.hid (HP4.out.later hb5)
      have hb5' := HB4.out.trans (hb5.mono HB4.out.size)
      have HB5 := Lib.hid hb5'
      have HBW5 := Lib.hid (HBW.out.trans (hb5'.mono HBW.out.size))
      clear hr5 hl5 hb5 hb5' HB4 HP4 HBW4 HUB
      go_upto_if 78 with (fail)
      go_cut [] (fun wx => Hid (Below w5.heap.size w5 wx))
      case first =>
        cases t5
        · obtain ⟨he5, hp5a, hp5b⟩ := unE_place z2 HBY.out (len2 + 1) 0 [] es5 p5 (Nat.zero_le _) (by rw [H2.out.len]; omega) HU5.out
          have hls : ls5 = [] := by have := HL5.out; rw [he5] at this; simpa using this
          have hr9 : r5 = 2 := by have := HR5.out; simpa using this.symm
          subst hr9
          subst hls
          have hp9 : p5 < len2 := by rw [← H2.out.len]; exact hp5b
          have q1 : ¬ (p5 : Int) < 0 := by omega
          have q2 : decide ((p5 : Int) ≥ (len2 : Int)) = false := by simp; omega
          clear hp5a hp5b he5
          simp only [List.length_nil]
          go_wp2_with fail
          go_meet
          exact Below.refl _ _
        · obtain ⟨more, hm1, hm2, hm3⟩ := unE_inv z2 HBY.out (len2 + 1) 0 [] es5 p5 (Nat.zero_le _) HU5.out
          simp only [List.nil_append] at hm1
          subst hm1
          rw [List.drop_zero] at hm3
          have hr9 : r5 = 0 := by have := HR5.out; simpa using this.symm
          subst hr9
          have hl9 : ls5.length ≤ len2 := by
            have h1 := congrArg List.length HL5.out
            have h2 := packL_ge es5
            rw [List.length_map] at h1
            rw [← hm3, H2.out.len] at h2
            omega
          have hpk := packE_any ls5 A5 c5 w5 HR5'.out.evs (by omega) (by rw [HL5.out, ← hm3, H2.out.len]; omega)
          rw [HL5.out, show packO es5 = z2 by unfold packO; rw [if_pos (okL_of hm2), hm3], if_pos (okL_of hm2)] at hpk
          have HPK := Lib.hid hpk
          clear hpk hm2 hm3
          go_wp2_with fail
          refine HPK.out.mono ?_
          rintro e w6 ⟨A6, c6, rfl, ho6, hb6⟩
          have HO6 := Lib.hid ho6
          have HB6 := Lib.hid hb6
          clear ho6 hb6
          go_wp2_with fail
          refine (same_true z2 rfl H2.out.len HO6.out.rd (H2.out.rd.later ((HBW5.out.trans (HB6.out.mono HBW5.out.size)).mono (Nat.le_refl _))) (by rw [H2.out.len]; unfold maxLen; omega)).mono ?_
          rintro e w7 ⟨rfl, kq, rfl⟩
          go_wp2_with fail
          go_meet
          exact below_drewN' HB6.out kq
      case rest =>
      have HPC := Lib.hid (HP5.out.later hcut.out)
      have hbc := HB5.out.trans (hcut.out.mono HB5.out.size)
      have HBC := Lib.hid hbc
      have HBWC := Lib.hid (HBW.out.trans (hbc.mono HBW.out.size))
      clear hbc hcut HP5 HB5 HBW5 HR5' HL5 HU5 HR5
      by_cases h0 : gs.length = 0
      · have hes0 : es = [] := by have := HESL.out; rw [h0] at this; exact List.eq_nil_of_length_eq_zero this
        have hP0 : P.length = 0 := by rw [← HP.out, hes0]; rfl
        rw [h0, hP0]
        go_wp2_with fail
        refine (wakesE_any _).mono ?_
        rintro e w8 ⟨rfl, hb8⟩
        go_wp2_with fail
        go_ret
        exact ⟨rfl, HBWC.out.trans (hb8.mono HBWC.out.size)⟩
      · obtain ⟨m, hm⟩ : ∃ m, gs.length = m + 1 := ⟨gs.length - 1, by omega⟩
        have hmes : m < es.length := by rw [HESL.out]; omega
        obtain ⟨Q, hQ⟩ : ∃ Q, packL (es.take m) = Q := ⟨_, rfl⟩
        obtain ⟨l9, hl9⟩ : ∃ e, es[m] = e := ⟨_, rfl⟩
        have hokl : l9.ok = true := by rw [← hl9]; exact HESOK.out _ (List.getElem_mem hmes)
        have hPQ : P = Q ++ l9.plainL := by
          have := packL_take_succ es m hmes
          rw [List.take_of_length_le (by rw [HESL.out]; omega), HP.out, hQ, hl9] at this
          rw [this]
          simp [Ev.plainL]
        have hokt : ∀ e ∈ es.take m, e.ok = true := fun e he => HESOK.out e (List.mem_of_mem_take he)
        have hpll := congrArg List.length hPQ
        rw [List.length_append] at hpll
        have hpa := packE_any (gs.take m) A2 c2 wc ((HEVS.out.take m).later (HBC.out.mono (Nat.le_refl _))) (by simp; omega) (by rw [List.map_take, HES.out, hQ]; have := HPL1.out; omega)
        rw [List.map_take, HES.out, show packO (es.take m) = Q by unfold packO; rw [if_pos (okL_of hokt), hQ], if_pos (okL_of hokt), List.length_take, Nat.min_eq_left (by omega)] at hpa
        have HPA := Lib.hid hpa
        have hpos := l9.plainL_pos
        obtain ⟨L9, hL9⟩ : ∃ n, l9.plainL.length = n := ⟨_, rfl⟩
        rw [hL9] at hpll hpos
        have HQ := Lib.hid hQ
        have HL9 := Lib.hid hl9
        have HOKL := Lib.hid hokl
        have HOKT := Lib.hid hokt
        have HLL := Lib.hid hL9
        have HPQ := Lib.hid hPQ
        have hpl2 := HPL1.out
        have hcap9 := HCAP.out
        clear hpa hQ hl9 hokl hokt hL9 hPQ
        rw [hm] at hcap9 ⊢
        rw [hpll] at hpl2 ⊢
        clear h0
        go_wp2_with fail
        refine HPA.out.mono ?_
        rintro e w8 ⟨A8, c8, rfl, ho8, hb8⟩
        have HPC8 := Lib.hid (HPC.out.later hb8)
        have HBW8 := Lib.hid (HBWC.out.trans (hb8.mono HBWC.out.size))
        have HBC8 := Lib.hid (HBC.out.trans (hb8.mono HBC.out.size))
        clear ho8 hb8 HPA HPC HBC HBWC
        have hpos1 : ¬ (L9 : Int) < 1 := by omega
        by_cases hone : L9 = 1
        · subst hone
          have hk6 := Ev.plainL_one HOKL.out HLL.out
          have hx2 := HEVS.out.later (HBC8.out.mono (Nat.le_refl _))
          have hka : m < gs.length := by omega
          obtain ⟨b1, o1, rfl, hx3⟩ : ∃ b off, A2 = some ⟨b, off, none⟩ ∧ ∀ i, i < gs.length → (gs.getD i default).lies w8 b (off + i * 12) := by
            rcases hx2.lie with h | h
            · subst h; simp at hka
            · exact h
          have x3 := (hx3 m hka).c0
          have he9 : (gs.getD m default).e = l9 := by
            rw [← HL9.out]
            have h9 : es[m] = (gs.map EvM.e)[m]'(by simpa using hka) := by simp [HES.out]
            rw [h9]
            simp [List.getD, hka]
          rw [he9, hk6] at x3
          clear hx2 hx3 he9 hk6
          have i2 : (0 : Int) ≤ (m : Int) := by omega
          have i3 : (m : Int) < (m : Int) + 1 := by omega
          go_wp2_with fail
          refine (wakesE_any _).mono ?_
          rintro e w9 ⟨rfl, hb9⟩
          go_wp2_with fail
          go_ret
          exact ⟨rfl, HBW8.out.trans (hb9.mono HBW8.out.size)⟩
        · obtain ⟨kn, hkn⟩ : ∃ kn : Nat, a3 % ((L9 : Int) - 1) = (kn : Int) := ⟨(a3 % ((L9 : Int) - 1)).toNat, by rw [Int.toNat_of_nonneg (Int.emod_nonneg _ (by omega))]⟩
          have hkl : kn < L9 - 1 := by have := Int.emod_lt_of_pos a3 (show (0 : Int) < (L9 : Int) - 1 by omega); omega
          have hxl : (P.take (Q.length + 1 + kn)).length = Q.length + 1 + kn := by rw [List.length_take, hpll]; omega
          have hxe : P.take (Q.length + 1 + kn) = Q ++ l9.plainL.take (1 + kn) := by
            rw [HPQ.out, List.take_append, List.take_of_length_le (by omega), show Q.length + 1 + kn - Q.length = 1 + kn by omega]
          have huc : unE (P.take (Q.length + 1 + kn)) (Q.length + 1 + kn + 1) 0 [] = ([], Q.length, false) := by
            have := unE_cut l9 (1 + kn) HOKL.out (by omega) (by rw [HLL.out]; omega) (es.take m) (Q.length + 1 + kn + 1) 0 (P.take (Q.length + 1 + kn)) [] (fun x hx => HPB.out x (List.mem_of_mem_take hx)) HOKT.out (Nat.zero_le _)
              (by rw [List.drop_zero, hxe, HQ.out]) (by have := packL_ge (es.take m); rw [HQ.out] at this; omega)
            rw [HQ.out] at this
            simpa using this
          have hcap3 : Q.length + L9 ≤ c3 := by have := HPC8.out.cap; omega
          have hun := unpackE_any A3 (Q.length + 1 + kn) c3 (P.take (Q.length + 1 + kn)) w8 hxl (HPC8.out.rd.take _) (by omega) (fun e => by have := (HPC8.out.none_len e).2; omega) (fun x hx => HPB.out x (List.mem_of_mem_take hx))
          rw [huc] at hun
          simp only [Bool.false_eq_true, if_false] at hun
          have HUN := Lib.hid hun
          have HKN := Lib.hid hkn
          have hd9 : (Q.length : Int) + (L9 : Int) - Q.length - 1 = (L9 : Int) - 1 := by omega
          clear hxl hxe huc hun hkn
          go_wp2_with fail
          clear hd9
          refine (within_any a3 ((L9 : Int) - 1) _ (by omega) (by omega)).mono ?_
          rw [HKN.out]
          rintro e w9 ⟨rfl, rfl⟩
          go_wp2_with fail
          refine HUN.out.mono ?_
          rintro e w10 ⟨v10, ls10, rfl, hr10, hl10, hb10⟩
          have HB10 := Lib.hid (HBW8.out.trans (hb10.mono HBW8.out.size))
          clear hr10 hl10 hb10
          go_wp2_with fail
          refine (wakesE_any _).mono ?_
          rintro e w11 ⟨rfl, hb11⟩
          go_wp2_with fail
          go_ret
          exact ⟨rfl, HB10.out.trans (hb11.mono HB10.out.size)⟩
end Go.Proofs.Ytcfkioopaplmiaa

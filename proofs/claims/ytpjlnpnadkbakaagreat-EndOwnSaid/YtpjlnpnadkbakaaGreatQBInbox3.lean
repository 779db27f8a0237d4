/-
  What Put of package inbox does: contract over the program.
-/
import Derived.Test.YtpjlnpnadkbakaaGreatQBInbox2
import Derived.Test.YtpjlnpnadkbakaaGreatQBMem
namespace Go.Proofs.YtpjlnpnadkbakaaGreat
set_option maxRecDepth 10000
open Go.RowKit
structure PuM (w wr : World) (B p q g n : Nat) (v : Value) (ps : List (Int × Int)) (s : In) (f : Int) (ys : List Int) (F k : Int) : Prop where
  ib : ∃ xs, IbAt wr B p q g n v xs ps s ∧ Laid xs s f ys F k
  sc : SC w wr (Ibf p q g v) (Ibf p q g v)
section
variable {w wr w' : World} {B p q g n : Nat} {v : Value} {xs : List Int} {ps : List (Int × Int)} {s : In} {f F k : Int} {ys : List Int}
theorem PuM.later (h : PuM w wr B p q g n v ps s f ys F k) (hb : Below wr.heap.size wr w') : PuM w w' B p q g n v ps s f ys F k := by
  obtain ⟨xs, h1, h2⟩ := h.ib
  exact ⟨⟨xs, h1.later hb, h2⟩, h.sc.trans (sc_later hb)⟩
theorem PuM.drew (h : PuM w wr B p q g n v ps s f ys F k) : PuM w wr.drew B p q g n v ps s f ys F k := h.later ⟨rfl, rfl, rfl, Nat.le_refl _, fun _ _ => rfl⟩
theorem PuM.skip (h : PuM w wr B p q g n v ps s f ys F k) (hk : ins ps k) : PuM w wr B p q g n v ps s f ys F (k + 1) := by
  obtain ⟨xs, h1, h2⟩ := h.ib
  exact ⟨⟨xs, h1, h2.skip ((h1.iff k).1 hk)⟩, h.sc⟩
theorem PuM.lay (h : PuM w wr B p q g n v ps s f ys F k) (h0 : 0 ≤ F) (hF : F ≤ k) (hk : k < s.tk + s.win) (hi : ¬ ins ps k) (r : Nat) (hr : k % (n : Int) = (r : Int)) (x : Int) (hx : ys.getD (k - f).toNat 0 = x) :
    (∃ y, wr.cell? ⟨g, r, none⟩ = some (.int .u8 y)) ∧ wr.frozen? ⟨g, r, none⟩ = false ∧ PuM w (wr.setCell ⟨g, r, none⟩ (.int .u8 x)) B p q g n v ps s f ys F (k + 1) := by
  obtain ⟨xs, h1, h2⟩ := h.ib
  have hn1 := h1.n1
  have b2 := Int.emod_lt_of_pos k (show 0 < (n : Int) by omega)
  obtain ⟨g', he, _, _, _, hc, hfr⟩ := h1.own.block (by omega)
  obtain ⟨rfl⟩ : g = g' := by injection he with he; injection he
  have hg : s.g k = none := by
    by_cases hc : s.g k = none
    · exact hc
    · exact absurd ((h1.iff k).2 hc) hi
  have hl := h2.lay h1.ok h0 hF hk hg
  rw [← h1.win, hr, hx, Int.toNat_natCast] at hl
  exact ⟨⟨_, hc r (by omega)⟩, hfr r, ⟨_, h1.byte r x hl.ring, hl⟩, h.sc.trans (sc_ibf_byte _ _)⟩
theorem PuM.to (h : PuM w wr B p q g n v ps s f ys F k) {T : Int} (hT : T ≤ k) : PuM w wr B p q g n v ps s f ys F T := by
  obtain ⟨xs, h1, h2⟩ := h.ib
  exact ⟨⟨xs, h1, h2.ring, fun j a b c => h2.new j a (by omega) c⟩, h.sc⟩
theorem PuM.fin (h : PuM w wr B p q g n v ps s f ys F k) {i : Nat} (h0 : 0 ≤ F) (hT : k ≤ 1099511627776) (hw : ∀ j, (F ≤ j ∧ j < k) ↔ (f ≤ j ∧ j < f + i ∧ 0 ≤ j ∧ j < s.tk + s.win ∧ (s.en < 0 ∨ j < s.en)))
    {v' : Value} {us : List (Int × Int)} (hs : SetAt w' B q v' us) (hc : Chg wr w' q v v') (hu : ∀ j, ins us j ↔ ins ps j ∨ (max F 0 ≤ j ∧ j < min k 1099511627776)) :
    (∃ xs, IbAt w' B p q g n v' xs us (s.steps f ys i).1 ∧ SC w w' (Ibf p q g v) (Ibf p q g v')) ∧ cntL us - cntL ps = (s.steps f ys i).2 := by
  obtain ⟨xs, h1, h2⟩ := h.ib
  have hu2 : ∀ j, ins us j ↔ ins ps j ∨ (F ≤ j ∧ j < k) := fun j => by
    rw [hu]
    exact ⟨fun x => x.imp id (fun y => by omega), fun x => x.imp id (fun y => by omega)⟩
  exact ⟨⟨xs, h1.chg hs hc (In.steps_same f ys i) (h2.all hw) (steps_ins h1.iff hw hu2) (In.steps_ok h1.ok f ys i), h.sc.trans (sc_chgI hc)⟩, new_cnt h1.set.norm hs.norm h1.iff f ys i F k h0 hT hw hu2⟩
set_option maxHeartbeats 4000000 in
theorem ibput_any (h : IbAt w B p q g n v xs ps s) (f : Int) (A : Option Addr) (m c : Nat) (ys : List Int) (hm : ys.length = m) (hr : Rd .u8 w A ys) (hd : ∀ a, A = some a → 0 < m → ¬ Ibf p q g v a.block) (fin : Bool) (hf : -9223372036854775808 ≤ f ∧ f ≤ 9223372036854775807) (hmm : m ≤ 1048576) (hlim : s.tk + s.win ≤ 8192) :
    Calls Tryz.prog 72 #[.pointer (some ⟨p, 0, none⟩), .int .i64 f, .slice A m c, .bool fin] w fun e w' => e = .returned (.int .i64 (s.new_ f ys)) ∧ ∃ v' xs' us, IbAt w' B p q g n v' xs' us (s.put f ys fin) ∧ SC w w' (Ibf p q g v) (Ibf p q g v') := by
  have hok := h.ok
  have hw1 := hok.w0
  have ht0 := hok.t0
  obtain ⟨E, hE⟩ : ∃ E, wrap64 (f + (m : Int)) = E := ⟨_, rfl⟩
  have hE2 : E = f + (m : Int) ∨ (E < 0 ∧ 8192 < f) := by rw [← hE]; unfold wrap64; omega
  have hends : s.ends E ↔ s.ends (f + (m : Int)) := by
    rcases hE2 with e | e
    · rw [e]
    · exact ⟨fun x => by have := x.2.1; omega, fun x => by have := x.2.2.1; omega⟩
  obtain ⟨s1, hs1⟩ : ∃ s1, s.fin (f + (m : Int)) fin = s1 := ⟨_, rfl⟩
  have hput := In.put_first (s := s) f ys fin
  rw [hm, hs1] at hput
  have hok1 : s1.ok := by rw [← hs1]; exact In.fin_ok hok _ _
  have hsame : s1.win = s.win ∧ s1.tk = s.tk := by
    rw [← hs1]
    unfold In.fin
    split <;> exact ⟨rfl, rfl⟩
  obtain ⟨F, hF⟩ : ∃ F, max f 0 = F := ⟨_, rfl⟩
  obtain ⟨T, hT⟩ : ∃ T, min E (stopI s1) = T := ⟨_, rfl⟩
  have m1 := run_max2 f 0 F hF.symm
  have hst : stopI s1 ≤ 8192 := by unfold stopI; split <;> omega
  have hF0 : 0 ≤ F ∧ (F = 0 ∨ F = f) := by omega
  have hTle : T ≤ 8192 := by omega
  have hwin : ∀ j, (F ≤ j ∧ j < T) ↔ (f ≤ j ∧ j < f + (m : Nat) ∧ 0 ≤ j ∧ j < s1.tk + s1.win ∧ (s1.en < 0 ∨ j < s1.en)) := by
    intro j
    have hstop : ∀ j, j < stopI s1 ↔ j < s1.tk + s1.win ∧ (s1.en < 0 ∨ j < s1.en) := fun j => by unfold stopI; split <;> omega
    have h2 := hstop j
    rcases hE2 with e | e
    · constructor
      · intro hj
        have := h2.1 (by omega)
        omega
      · intro hj
        have := h2.2 ⟨hj.2.2.2.1, hj.2.2.2.2⟩
        omega
    · constructor
      · intro hj; omega
      · intro hj; omega
  have HRD := Lib.hid (show ∀ (W : World), SC w W (Ibf p q g v) (Ibf p q g v) → ∀ i, i < m → ∃ a o, A = some ⟨a, o, none⟩ ∧ W.cell? ⟨a, o + i, none⟩ = some (.int .u8 (ys.getD i 0)) from fun W hsc i hi => by
    obtain ⟨a, o, rfl, hc⟩ := (rd_trn hr hsc.trn (fun a ha => hd a ha (by omega))).some_ (by rw [hm]; omega)
    exact ⟨a, o, rfl, hc i (by omega)⟩)
  have HWIN := Lib.hid hwin
  have HF0 := Lib.hid hF0
  have HTL := Lib.hid hTle
  have HLIM := Lib.hid (show s1.tk + s1.win ≤ 8192 ∧ s1.tk ≤ 8192 by omega)
  have HM := Lib.hid (And.intro hm hmm)
  have HN1 := Lib.hid h.n1
  have HFR := Lib.hid hf
  have HEQ := Lib.hid hE
  have HTQ := Lib.hid hT
  have H := Lib.hid h
  have HP1 : Hid (∀ wA, (∃ xs, IbAt wA B p q g n v xs ps s1) → SC w wA (Ibf p q g v) (Ibf p q g v) → PuM w wA B p q g n v ps s1 f ys F F) := Lib.hid fun wA ⟨xs, hx⟩ hsc => ⟨⟨xs, hx, Laid.start hx.ring f ys F⟩, hsc⟩
  obtain ⟨RN, hRN⟩ : ∃ z, s.new_ f ys = z := ⟨_, rfl⟩
  obtain ⟨RS, hRS⟩ : ∃ z, s.put f ys fin = z := ⟨_, rfl⟩
  rw [hRN, hRS] at hput
  rw [hRN, hRS]
  have HRES := Lib.hid hput
  have HSW := Lib.hid hsame
  have HME := Lib.hid (fun b hb => ibmay_any h E b hb)
  have HFN : Hid (¬ (fin = true ∧ s.ends E) → s1 = s) := Lib.hid fun x => by rw [← hs1, In.fin_no (fun y => x ⟨y.1, hends.2 y.2⟩)]
  have HFY : Hid (fin = true → s.ends E → s1 = s.shut E) := Lib.hid fun x y => by
    rw [← hs1, x, In.fin_yes (hends.1 y)]
    rcases hE2 with e | e
    · rw [e]
    · have := y.2.1; omega
  have HOK1 := Lib.hid hok1
  clear hE h hr hd hm hf hmm hlim hok hw1 ht0 hE2 hends hs1 hput hok1 hsame hF hT hst hF0 hTle hwin hRN hRS
  by_cases hfin : fin = true
  · subst hfin
    by_cases hen : s.ends E
    · have HS1 := Lib.hid (HFY.out rfl hen)
      have HCALL := Lib.hid (HME.out true ⟨fun _ => hen, fun _ => rfl⟩)
      clear hen HME HFN HFY
      go_enter Tryz.func72, Tryz.ntmps72
      go_wp2_with fail
      rw [HEQ.out]
      refine HCALL.out.mono ?_
      rintro e w1 ⟨rfl, hb⟩
      have hx := H.out.later hb
      have c3 := hx.c3
      have f3 := hx.fr (0 + 3)
      have HA := Lib.hid (HP1.out (w1.setCell ⟨p, 3, none⟩ (.int .i64 E)) ⟨_, by rw [HS1.out]; exact hx.set3 (by rw [← HS1.out]; exact HOK1.out)⟩ ((sc_later hb).trans (sc_ibf _ _)))
      clear hb hx HCALL
      go_wp2_with fail
      clear c3 f3
      obtain ⟨wA, hwA⟩ : ∃ x, w1.setCell ⟨p, 3, none⟩ (.int .i64 E) = x := ⟨_, rfl⟩
      rw [hwA] at HA ⊢
      clear hwA
      obtain ⟨xsA, hxA, -⟩ := HA.out.ib
      refine (ibstop_any hxA (by have := HLIM.out; omega)).mono ?_
      rintro e wB0 ⟨rfl, kB, rfl⟩
      have HB := Lib.hid (HA.out.later (w' := wA.drewN kB) ⟨rfl, rfl, rfl, Nat.le_refl _, fun _ _ => rfl⟩)
      obtain ⟨wB, hwB⟩ : ∃ x, wA.drewN kB = x := ⟨_, rfl⟩
      rw [hwB] at HB ⊢
      clear hwB hxA HA HS1 HP1
      go_wp2_with fail
      try rw [HEQ.out]
      rw [HTQ.out]
      go_loopw [12] (fun kv wr => ∃ (k : Int), kv = .int .i64 k ∧ F ≤ k ∧ (k ≤ T ∨ k = F) ∧ Hid (PuM w wr B p q g n v ps s1 f ys F k)) (fun kv _ => (T - intOf kv).toNat)
      case atStart => exact ⟨F, rfl, Int.le_refl _, .inr rfl, HB⟩
      case round =>
        clear HB
        obtain ⟨k, rfl, hk1, hk2, hmid⟩ := hrel
        by_cases hkT : k < T
        · have hkw := (HWIN.out k).1 ⟨hk1, hkT⟩
          have hb0 := HLIM.out
          have hF9 := HF0.out
          obtain ⟨Kn, hKn⟩ : ∃ y : Nat, k = y := ⟨k.toNat, by omega⟩
          subst hKn
          obtain ⟨i, hi⟩ : ∃ i : Nat, (Kn : Int) - f = i := ⟨((Kn : Int) - f).toNat, by omega⟩
          have him : i < m := by omega
          obtain ⟨a, o, rfl, y0⟩ := HRD.out wr hmid.out.sc i him
          obtain ⟨x, hx⟩ : ∃ x, ys.getD i 0 = x := ⟨_, rfl⟩
          rw [hx] at y0
          have HX := Lib.hid (show ys.getD ((Kn : Int) - f).toNat 0 = x by rw [hi, Int.toNat_natCast]; exact hx)
          have hn9 := HN1.out
          obtain ⟨r, hr⟩ : ∃ r : Nat, (Kn : Int) % (n : Int) = r := ⟨((Kn : Int) % (n : Int)).toNat, by have := Int.emod_nonneg (Kn : Int) (show (n : Int) ≠ 0 by omega); omega⟩
          have hrn : r < n := by have := Int.emod_lt_of_pos (Kn : Int) (show 0 < (n : Int) by omega); omega
          have HLAY := Lib.hid (fun (W : World) (hM : PuM w W B p q g n v ps s1 f ys F Kn) (hins : ¬ ins ps Kn) => hM.lay hF9.1 hk1 hkw.2.2.2.1 hins r hr x HX.out)
          have HKW := Lib.hid (show wrap64 ((Kn : Int) + 1) = (Kn : Int) + 1 from wrap_at rfl (by omega) (by omega))
          have HIW := Lib.hid (show wrap64 ((Kn : Int) - f) = (i : Int) from wrap_at hi (by omega) (by have := HM.out; omega))
          have HR := Lib.hid ((Int.tmod_eq_emod_of_nonneg (show 0 ≤ (Kn : Int) by omega)).trans hr)
          have HK := Lib.hid (show F ≤ (Kn : Int) + 1 ∧ (Kn : Int) + 1 ≤ T ∧ (Kn : Int) < T by omega)
          have HIM := Lib.hid him
          have HI9 := Lib.hid hi
          have HRN := Lib.hid hrn
          have HMID := Lib.hid hmid.out
          obtain ⟨xs1, hxI, -⟩ := hmid.out.ib
          have d1 := hxI.c1
          have HSET := Lib.hid hxI.set
          have HPL := Lib.hid hxI.plen
          clear hkw hb0 hF9 hi him hx hn9 hr hrn hmid hxI hk1 hk2
          have hkw := HKW.out
          by_cases hins : ins ps Kn
          · have HHAS := Lib.hid (has_any q v ps B Kn (Kn + 1) true wr HSET.out HPL.out ⟨fun _ j h1 h2 => (by rw [show j = (Kn : Int) by omega]; exact hins), fun _ => rfl⟩)
            have HSK := Lib.hid (HMID.out.skip hins)
            clear hins HLAY y0
            go_wp2_with fail
            refine HHAS.out.mono ?_
            rintro e w2 ⟨rfl, hb2⟩
            have HNX := Lib.hid (HSK.out.later hb2)
            clear hb2 HHAS HSK
            go_wp2
            clear hkw
            go_roundw
            case rel => exact ⟨(Kn : Int) + 1, by first | rfl | rw [HKW.out], HK.out.1, .inl HK.out.2.1, HNX⟩
            case measure => (try rw [HKW.out]); have := HK.out; simp [intOf]; omega
          · have HHAS := Lib.hid (has_any q v ps B Kn (Kn + 1) false wr HSET.out HPL.out ⟨fun e => (by cases e), fun e => absurd (e Kn (Int.le_refl _) (by omega)) hins⟩)
            have HINS := Lib.hid hins
            clear hins
            go_wp2_with fail
            refine HHAS.out.mono ?_
            rintro e w2 ⟨rfl, hb2⟩
            have HM2 := Lib.hid (HMID.out.later hb2)
            clear hb2 HHAS y0 d1 HMID HSET
            clear hkw
            go_wp2_with fail
            obtain ⟨a9, o9, hA9, y9⟩ := HRD.out _ HM2.out.drew.sc i HIM.out
            obtain ⟨rfl, rfl⟩ : a = a9 ∧ o = o9 := by injection hA9 with hA9; injection hA9 with h1 h2; exact ⟨h1, h2⟩
            obtain ⟨⟨y2, g1⟩, g2, HN9⟩ := HLAY.out _ HM2.out.drew HINS.out
            have HNX := Lib.hid HN9
            obtain ⟨xs3, hx3, -⟩ := HM2.out.drew.ib
            refine wp_region_held_drew (S := fun wi => wi.cell? ⟨p, 0, none⟩ = some (.slice (some ⟨g, 0, none⟩) n n) ∧ wi.cell? ⟨a, o + i, none⟩ = some (.int .u8 x)) (by kernel_rfl) ⟨hx3.c0, by rw [y9]; have := HX.out; rw [show ((Kn : Int) - f).toNat = i by have := HI9.out; omega] at this; rw [this]⟩ ?_
            intro hHeld
            clear hA9 y9 hx3 HN9
            obtain ⟨W, hW⟩ : ∃ W, w2.drew = W := ⟨_, rfl⟩
            rw [hW] at hHeld HNX g1 g2 ⊢
            have HNXW := Lib.hid (show (W.setCell ⟨g, r, none⟩ (.int .u8 x)).cell? ⟨p, 0, none⟩ = some (.slice (some ⟨g, 0, none⟩) n n) ∧ (W.setCell ⟨g, r, none⟩ (.int .u8 x)).cell? ⟨a, o + i, none⟩ = some (.int .u8 x) by
              obtain ⟨a9, o9, hA9, y9⟩ := HRD.out _ HNX.out.sc i HIM.out
              obtain ⟨rfl, rfl⟩ : a = a9 ∧ o = o9 := by injection hA9 with hA9; injection hA9 with h1 h2; exact ⟨h1, h2⟩
              obtain ⟨xs3, hx3, -⟩ := HNX.out.ib
              exact ⟨hx3.c0, by rw [y9]; have := HX.out; rw [show ((Kn : Int) - f).toNat = i by have := HI9.out; omega] at this; rw [this]⟩)
            clear hW HM2
            have r1 : (r : Int) < (n : Int) := by have := HRN.out; omega
            have r2 : (0 : Int) ≤ (r : Int) := by omega
            have i1 : (i : Int) < (m : Int) := by have := HIM.out; omega
            have i2 : (0 : Int) ≤ (i : Int) := by omega
            have n1 : ¬ (n = 0) := by have := HN1.out; omega
            refine tkH 0 ?_
            refine tkH 1 ?_
            refine tkH 2 ?_
            refine wpAnyH_take (i := 3) (v := ?_) rfl (by kernel_rfl) (by kernel_rfl) (by kernel_rfl) (fun _ _ _ h => h) (Or.inl ⟨by rfl, ?_⟩) (by assumption) ?_
            rotate_left
            · intro w hSw
              (try dsimp only at hSw)
              have c9 := hSw.1
              clear hSw
              go_simp
              try (with_reducible rfl)
            try simp only [Act.put, List.getElem_toArray, List.getElem_cons_zero, List.getElem_cons_succ, List.setIfInBounds_toArray, List.set_cons_zero, List.set_cons_succ]
            refine tkH 4 ?_
            refine tkH 5 ?_
            refine tkH 6 ?_
            refine tkH 7 ?_
            refine wpAnyH_take (i := 8) (v := ?_) rfl (by kernel_rfl) (by kernel_rfl) (by kernel_rfl) (fun _ _ _ h => h) (Or.inl ⟨by rfl, ?_⟩) (by assumption) ?_
            rotate_left
            · intro w hSw
              (try dsimp only at hSw)
              have c9 := hSw.1
              clear hSw
              go_simp
              try (with_reducible rfl)
            try simp only [Act.put, List.getElem_toArray, List.getElem_cons_zero, List.getElem_cons_succ, List.setIfInBounds_toArray, List.set_cons_zero, List.set_cons_succ]
            refine tkH 9 ?_
            have hrr := HR.out
            refine tkH 10 ?_
            clear hrr
            refine tkH 11 ?_
            refine tkH 12 ?_
            refine tkH 13 ?_
            have hw2 := HIW.out
            have hw3 : IntKind.i64.wrap ((Kn : Int) - f) = (i : Int) := (IntWalk.i64_left _).trans hw2
            refine tkH 14 ?_
            clear hw2 hw3
            refine tkH 15 ?_
            refine wpAnyH_take (i := 16) (v := ?_) rfl (by kernel_rfl) (by kernel_rfl) (by kernel_rfl) (fun _ _ _ h => h) (Or.inl ⟨by rfl, ?_⟩) (by assumption) ?_
            rotate_left
            · intro w hSw
              (try dsimp only at hSw)
              have c9 := hSw.2
              clear hSw
              go_simp
              try (with_reducible rfl)
            try simp only [Act.put, List.getElem_toArray, List.getElem_cons_zero, List.getElem_cons_succ, List.setIfInBounds_toArray, List.set_cons_zero, List.set_cons_succ]
            refine tkH 17 ?_
            refine wpAnyH_ready (rs := [18]) (by kernel_rfl) (by simp) ?_
            refine AllReadyH.cons rfl (fun K hK => ?_) AllReadyH.nil
            go_simp
            refine hK.out _ _ HNXW.out (fun hHeld2 => ?_)
            clear hK K hHeld
            have hHeld := hHeld2
            clear hHeld2
            try simp only [Act.put, List.getElem_toArray, List.getElem_cons_zero, List.getElem_cons_succ, List.setIfInBounds_toArray, List.set_cons_zero, List.set_cons_succ]
            refine wpAnyH_done (by kernel_rfl) ?_ _
            have hkw := HKW.out
            go_wp2
            clear hkw
            go_roundw
            case rel => exact ⟨(Kn : Int) + 1, by first | rfl | rw [HKW.out], HK.out.1, .inl HK.out.2.1, HNX⟩
            case measure => (try rw [HKW.out]); have := HK.out; simp [intOf]; omega
        · have HMT := Lib.hid (hmid.out.to (T := T) (by omega))
          clear hmid hk1 hk2
          obtain ⟨xs1, hxI, -⟩ := HMT.out.ib
          have d1 := hxI.c1
          have HCNT := Lib.hid (count_any q v ps B wr hxI.set hxI.plen)
          have HCB := Lib.hid (cnt_bd hxI.set.norm)
          have HLT := Lib.hid (fun (W : World) (hb : Below wr.heap.size wr W) => (hxI.later hb).c1)
          have HPT := Lib.hid (fun (W : World) (hb : Below wr.heap.size wr W) => (HMT.out.later hb))
          have HADD := Lib.hid (fun (W : World) (hb : Below wr.heap.size wr W) => add_any q v ps B F T W (hxI.later hb).set hxI.plen (hxI.later hb).size)
          clear hxI HMT
          go_wp2_with fail
          refine HCNT.out.mono ?_
          rintro e w3 ⟨rfl, hb3⟩
          have d1 := HLT.out w3 hb3
          have HB3 := Lib.hid hb3
          obtain ⟨cP, hcP⟩ : ∃ z, cntL ps = z := ⟨_, rfl⟩
          rw [hcP] at HCB ⊢
          clear hb3
          go_wp2_with fail
          refine (HADD.out w3 HB3.out).mono ?_
          rintro e w4 ⟨rfl, v', us, hs4, hc4, hi4, -⟩
          have hfin := (HPT.out w3 HB3.out).fin HF0.out.1 (by have := HTL.out; omega) HWIN.out hs4 hc4 hi4
          rw [HRES.out, hcP] at hfin
          obtain ⟨⟨xs5, h5, sc5⟩, hcnt⟩ := hfin
          have d1b := h5.c1
          have HCB2 := Lib.hid (cnt_bd hs4.norm)
          have HCNT2 := Lib.hid (count_any q v' us B w4 hs4 h5.plen)
          obtain ⟨cU, hcU⟩ : ∃ z, cntL us = z := ⟨_, rfl⟩
          rw [hcU] at hcnt HCB2 HCNT2
          have HSUB := Lib.hid (show wrap64 (cU - cP) = RN from wrap_at hcnt (by have := HCB.out; have := HCB2.out; omega) (by have := HCB.out; have := HCB2.out; omega))
          have H5 := Lib.hid h5
          have SC5 := Lib.hid sc5
          clear hs4 hc4 hi4 hcnt hcU hcP h5 sc5 d1
          go_wp2_with fail
          refine HCNT2.out.mono ?_
          rintro e w6 ⟨rfl, hb6⟩
          have HFIN := Lib.hid (show ∃ v' xs' us, IbAt w6 B p q g n v' xs' us RS ∧ SC w w6 (Ibf p q g v) (Ibf p q g v') from ⟨v', xs5, us, H5.out.later hb6, SC5.out.trans (sc_later hb6)⟩)
          clear hb6
          have hsub := HSUB.out
          go_wp2
          go_ret
          exact ⟨ret_i HSUB.out, HFIN.out⟩
    · have HS1 := Lib.hid (HFN.out (fun x => hen x.2))
      have HCALL := Lib.hid (HME.out false ⟨fun x => (by cases x), fun x => absurd x hen⟩)
      clear hen HME HFN HFY
      go_enter Tryz.func72, Tryz.ntmps72
      go_wp2_with fail
      rw [HEQ.out]
      refine HCALL.out.mono ?_
      rintro e wA ⟨rfl, hb⟩
      have HA := Lib.hid (HP1.out wA ⟨_, by rw [HS1.out]; exact H.out.later hb⟩ (sc_later hb))
      clear hb HCALL
      go_wp2_with fail
      obtain ⟨xsA, hxA, -⟩ := HA.out.ib
      refine (ibstop_any hxA (by have := HLIM.out; omega)).mono ?_
      rintro e wB0 ⟨rfl, kB, rfl⟩
      have HB := Lib.hid (HA.out.later (w' := wA.drewN kB) ⟨rfl, rfl, rfl, Nat.le_refl _, fun _ _ => rfl⟩)
      obtain ⟨wB, hwB⟩ : ∃ x, wA.drewN kB = x := ⟨_, rfl⟩
      rw [hwB] at HB ⊢
      clear hwB hxA HA HS1 HP1
      go_wp2_with fail
      try rw [HEQ.out]
      rw [HTQ.out]
      go_loopw [12] (fun kv wr => ∃ (k : Int), kv = .int .i64 k ∧ F ≤ k ∧ (k ≤ T ∨ k = F) ∧ Hid (PuM w wr B p q g n v ps s1 f ys F k)) (fun kv _ => (T - intOf kv).toNat)
      case atStart => exact ⟨F, rfl, Int.le_refl _, .inr rfl, HB⟩
      case round =>
        clear HB
        obtain ⟨k, rfl, hk1, hk2, hmid⟩ := hrel
        by_cases hkT : k < T
        · have hkw := (HWIN.out k).1 ⟨hk1, hkT⟩
          have hb0 := HLIM.out
          have hF9 := HF0.out
          obtain ⟨Kn, hKn⟩ : ∃ y : Nat, k = y := ⟨k.toNat, by omega⟩
          subst hKn
          obtain ⟨i, hi⟩ : ∃ i : Nat, (Kn : Int) - f = i := ⟨((Kn : Int) - f).toNat, by omega⟩
          have him : i < m := by omega
          obtain ⟨a, o, rfl, y0⟩ := HRD.out wr hmid.out.sc i him
          obtain ⟨x, hx⟩ : ∃ x, ys.getD i 0 = x := ⟨_, rfl⟩
          rw [hx] at y0
          have HX := Lib.hid (show ys.getD ((Kn : Int) - f).toNat 0 = x by rw [hi, Int.toNat_natCast]; exact hx)
          have hn9 := HN1.out
          obtain ⟨r, hr⟩ : ∃ r : Nat, (Kn : Int) % (n : Int) = r := ⟨((Kn : Int) % (n : Int)).toNat, by have := Int.emod_nonneg (Kn : Int) (show (n : Int) ≠ 0 by omega); omega⟩
          have hrn : r < n := by have := Int.emod_lt_of_pos (Kn : Int) (show 0 < (n : Int) by omega); omega
          have HLAY := Lib.hid (fun (W : World) (hM : PuM w W B p q g n v ps s1 f ys F Kn) (hins : ¬ ins ps Kn) => hM.lay hF9.1 hk1 hkw.2.2.2.1 hins r hr x HX.out)
          have HKW := Lib.hid (show wrap64 ((Kn : Int) + 1) = (Kn : Int) + 1 from wrap_at rfl (by omega) (by omega))
          have HIW := Lib.hid (show wrap64 ((Kn : Int) - f) = (i : Int) from wrap_at hi (by omega) (by have := HM.out; omega))
          have HR := Lib.hid ((Int.tmod_eq_emod_of_nonneg (show 0 ≤ (Kn : Int) by omega)).trans hr)
          have HK := Lib.hid (show F ≤ (Kn : Int) + 1 ∧ (Kn : Int) + 1 ≤ T ∧ (Kn : Int) < T by omega)
          have HIM := Lib.hid him
          have HI9 := Lib.hid hi
          have HRN := Lib.hid hrn
          have HMID := Lib.hid hmid.out
          obtain ⟨xs1, hxI, -⟩ := hmid.out.ib
          have d1 := hxI.c1
          have HSET := Lib.hid hxI.set
          have HPL := Lib.hid hxI.plen
          clear hkw hb0 hF9 hi him hx hn9 hr hrn hmid hxI hk1 hk2
          have hkw := HKW.out
          by_cases hins : ins ps Kn
          · have HHAS := Lib.hid (has_any q v ps B Kn (Kn + 1) true wr HSET.out HPL.out ⟨fun _ j h1 h2 => (by rw [show j = (Kn : Int) by omega]; exact hins), fun _ => rfl⟩)
            have HSK := Lib.hid (HMID.out.skip hins)
            clear hins HLAY y0
            go_wp2_with fail
            refine HHAS.out.mono ?_
            rintro e w2 ⟨rfl, hb2⟩
            have HNX := Lib.hid (HSK.out.later hb2)
            clear hb2 HHAS HSK
            go_wp2
            clear hkw
            go_roundw
            case rel => exact ⟨(Kn : Int) + 1, by first | rfl | rw [HKW.out], HK.out.1, .inl HK.out.2.1, HNX⟩
            case measure => (try rw [HKW.out]); have := HK.out; simp [intOf]; omega
          · have HHAS := Lib.hid (has_any q v ps B Kn (Kn + 1) false wr HSET.out HPL.out ⟨fun e => (by cases e), fun e => absurd (e Kn (Int.le_refl _) (by omega)) hins⟩)
            have HINS := Lib.hid hins
            clear hins
            go_wp2_with fail
            refine HHAS.out.mono ?_
            rintro e w2 ⟨rfl, hb2⟩
            have HM2 := Lib.hid (HMID.out.later hb2)
            clear hb2 HHAS y0 d1 HMID HSET
            clear hkw
            go_wp2_with fail
            obtain ⟨a9, o9, hA9, y9⟩ := HRD.out _ HM2.out.drew.sc i HIM.out
            obtain ⟨rfl, rfl⟩ : a = a9 ∧ o = o9 := by injection hA9 with hA9; injection hA9 with h1 h2; exact ⟨h1, h2⟩
            obtain ⟨⟨y2, g1⟩, g2, HN9⟩ := HLAY.out _ HM2.out.drew HINS.out
            have HNX := Lib.hid HN9
            obtain ⟨xs3, hx3, -⟩ := HM2.out.drew.ib
            refine wp_region_held_drew (S := fun wi => wi.cell? ⟨p, 0, none⟩ = some (.slice (some ⟨g, 0, none⟩) n n) ∧ wi.cell? ⟨a, o + i, none⟩ = some (.int .u8 x)) (by kernel_rfl) ⟨hx3.c0, by rw [y9]; have := HX.out; rw [show ((Kn : Int) - f).toNat = i by have := HI9.out; omega] at this; rw [this]⟩ ?_
            intro hHeld
            clear hA9 y9 hx3 HN9
            obtain ⟨W, hW⟩ : ∃ W, w2.drew = W := ⟨_, rfl⟩
            rw [hW] at hHeld HNX g1 g2 ⊢
            have HNXW := Lib.hid (show (W.setCell ⟨g, r, none⟩ (.int .u8 x)).cell? ⟨p, 0, none⟩ = some (.slice (some ⟨g, 0, none⟩) n n) ∧ (W.setCell ⟨g, r, none⟩ (.int .u8 x)).cell? ⟨a, o + i, none⟩ = some (.int .u8 x) by
              obtain ⟨a9, o9, hA9, y9⟩ := HRD.out _ HNX.out.sc i HIM.out
              obtain ⟨rfl, rfl⟩ : a = a9 ∧ o = o9 := by injection hA9 with hA9; injection hA9 with h1 h2; exact ⟨h1, h2⟩
              obtain ⟨xs3, hx3, -⟩ := HNX.out.ib
              exact ⟨hx3.c0, by rw [y9]; have := HX.out; rw [show ((Kn : Int) - f).toNat = i by have := HI9.out; omega] at this; rw [this]⟩)
            clear hW HM2
            have r1 : (r : Int) < (n : Int) := by have := HRN.out; omega
            have r2 : (0 : Int) ≤ (r : Int) := by omega
            have i1 : (i : Int) < (m : Int) := by have := HIM.out; omega
            have i2 : (0 : Int) ≤ (i : Int) := by omega
            have n1 : ¬ (n = 0) := by have := HN1.out; omega
            refine tkH 0 ?_
            refine tkH 1 ?_
            refine tkH 2 ?_
            refine wpAnyH_take (i := 3) (v := ?_) rfl (by kernel_rfl) (by kernel_rfl) (by kernel_rfl) (fun _ _ _ h => h) (Or.inl ⟨by rfl, ?_⟩) (by assumption) ?_
            rotate_left
            · intro w hSw
              (try dsimp only at hSw)
              have c9 := hSw.1
              clear hSw
              go_simp
              try (with_reducible rfl)
            try simp only [Act.put, List.getElem_toArray, List.getElem_cons_zero, List.getElem_cons_succ, List.setIfInBounds_toArray, List.set_cons_zero, List.set_cons_succ]
            refine tkH 4 ?_
            refine tkH 5 ?_
            refine tkH 6 ?_
            refine tkH 7 ?_
            refine wpAnyH_take (i := 8) (v := ?_) rfl (by kernel_rfl) (by kernel_rfl) (by kernel_rfl) (fun _ _ _ h => h) (Or.inl ⟨by rfl, ?_⟩) (by assumption) ?_
            rotate_left
            · intro w hSw
              (try dsimp only at hSw)
              have c9 := hSw.1
              clear hSw
              go_simp
              try (with_reducible rfl)
            try simp only [Act.put, List.getElem_toArray, List.getElem_cons_zero, List.getElem_cons_succ, List.setIfInBounds_toArray, List.set_cons_zero, List.set_cons_succ]
            refine tkH 9 ?_
            have hrr := HR.out
            refine tkH 10 ?_
            clear hrr
            refine tkH 11 ?_
            refine tkH 12 ?_
            refine tkH 13 ?_
            have hw2 := HIW.out
            have hw3 : IntKind.i64.wrap ((Kn : Int) - f) = (i : Int) := (IntWalk.i64_left _).trans hw2
            refine tkH 14 ?_
            clear hw2 hw3
            refine tkH 15 ?_
            refine wpAnyH_take (i := 16) (v := ?_) rfl (by kernel_rfl) (by kernel_rfl) (by kernel_rfl) (fun _ _ _ h => h) (Or.inl ⟨by rfl, ?_⟩) (by assumption) ?_
            rotate_left
            · intro w hSw
              (try dsimp only at hSw)
              have c9 := hSw.2
              clear hSw
              go_simp
              try (with_reducible rfl)
            try simp only [Act.put, List.getElem_toArray, List.getElem_cons_zero, List.getElem_cons_succ, List.setIfInBounds_toArray, List.set_cons_zero, List.set_cons_succ]
            refine tkH 17 ?_
            refine wpAnyH_ready (rs := [18]) (by kernel_rfl) (by simp) ?_
            refine AllReadyH.cons rfl (fun K hK => ?_) AllReadyH.nil
            go_simp
            refine hK.out _ _ HNXW.out (fun hHeld2 => ?_)
            clear hK K hHeld
            have hHeld := hHeld2
            clear hHeld2
            try simp only [Act.put, List.getElem_toArray, List.getElem_cons_zero, List.getElem_cons_succ, List.setIfInBounds_toArray, List.set_cons_zero, List.set_cons_succ]
            refine wpAnyH_done (by kernel_rfl) ?_ _
            have hkw := HKW.out
            go_wp2
            clear hkw
            go_roundw
            case rel => exact ⟨(Kn : Int) + 1, by first | rfl | rw [HKW.out], HK.out.1, .inl HK.out.2.1, HNX⟩
            case measure => (try rw [HKW.out]); have := HK.out; simp [intOf]; omega
        · have HMT := Lib.hid (hmid.out.to (T := T) (by omega))
          clear hmid hk1 hk2
          obtain ⟨xs1, hxI, -⟩ := HMT.out.ib
          have d1 := hxI.c1
          have HCNT := Lib.hid (count_any q v ps B wr hxI.set hxI.plen)
          have HCB := Lib.hid (cnt_bd hxI.set.norm)
          have HLT := Lib.hid (fun (W : World) (hb : Below wr.heap.size wr W) => (hxI.later hb).c1)
          have HPT := Lib.hid (fun (W : World) (hb : Below wr.heap.size wr W) => (HMT.out.later hb))
          have HADD := Lib.hid (fun (W : World) (hb : Below wr.heap.size wr W) => add_any q v ps B F T W (hxI.later hb).set hxI.plen (hxI.later hb).size)
          clear hxI HMT
          go_wp2_with fail
          refine HCNT.out.mono ?_
          rintro e w3 ⟨rfl, hb3⟩
          have d1 := HLT.out w3 hb3
          have HB3 := Lib.hid hb3
          obtain ⟨cP, hcP⟩ : ∃ z, cntL ps = z := ⟨_, rfl⟩
          rw [hcP] at HCB ⊢
          clear hb3
          go_wp2_with fail
          refine (HADD.out w3 HB3.out).mono ?_
          rintro e w4 ⟨rfl, v', us, hs4, hc4, hi4, -⟩
          have hfin := (HPT.out w3 HB3.out).fin HF0.out.1 (by have := HTL.out; omega) HWIN.out hs4 hc4 hi4
          rw [HRES.out, hcP] at hfin
          obtain ⟨⟨xs5, h5, sc5⟩, hcnt⟩ := hfin
          have d1b := h5.c1
          have HCB2 := Lib.hid (cnt_bd hs4.norm)
          have HCNT2 := Lib.hid (count_any q v' us B w4 hs4 h5.plen)
          obtain ⟨cU, hcU⟩ : ∃ z, cntL us = z := ⟨_, rfl⟩
          rw [hcU] at hcnt HCB2 HCNT2
          have HSUB := Lib.hid (show wrap64 (cU - cP) = RN from wrap_at hcnt (by have := HCB.out; have := HCB2.out; omega) (by have := HCB.out; have := HCB2.out; omega))
          have H5 := Lib.hid h5
          have SC5 := Lib.hid sc5
          clear hs4 hc4 hi4 hcnt hcU hcP h5 sc5 d1
          go_wp2_with fail
          refine HCNT2.out.mono ?_
          rintro e w6 ⟨rfl, hb6⟩
          have HFIN := Lib.hid (show ∃ v' xs' us, IbAt w6 B p q g n v' xs' us RS ∧ SC w w6 (Ibf p q g v) (Ibf p q g v') from ⟨v', xs5, us, H5.out.later hb6, SC5.out.trans (sc_later hb6)⟩)
          clear hb6
          have hsub := HSUB.out
          go_wp2
          go_ret
          exact ⟨ret_i HSUB.out, HFIN.out⟩
  · have hff : fin = false := by cases fin <;> simp_all
    subst hff
    have HS1 := Lib.hid (HFN.out (fun x => hfin x.1))
    have HA := Lib.hid (HP1.out w ⟨_, by rw [HS1.out]; exact H.out⟩ (SC.refl _ _))
    clear hfin HME HFN HFY
    go_enter Tryz.func72, Tryz.ntmps72
    go_wp2_with fail
    obtain ⟨wA, hwA⟩ : ∃ x, w = x := ⟨_, rfl⟩
    have HA9 : Hid (PuM w wA B p q g n v ps s1 f ys F F) := by rw [← hwA]; exact HA
    clear HA
    have HA := HA9
    clear HA9
    rw [hwA]
    obtain ⟨xsA, hxA, -⟩ := HA.out.ib
    refine (ibstop_any hxA (by have := HLIM.out; omega)).mono ?_
    rintro e wB0 ⟨rfl, kB, rfl⟩
    have HB := Lib.hid (HA.out.later (w' := wA.drewN kB) ⟨rfl, rfl, rfl, Nat.le_refl _, fun _ _ => rfl⟩)
    obtain ⟨wB, hwB⟩ : ∃ x, wA.drewN kB = x := ⟨_, rfl⟩
    rw [hwB] at HB ⊢
    clear hwB hxA HA HS1 HP1
    go_wp2_with fail
    try rw [HEQ.out]
    rw [HTQ.out]
    go_loopw [12] (fun kv wr => ∃ (k : Int), kv = .int .i64 k ∧ F ≤ k ∧ (k ≤ T ∨ k = F) ∧ Hid (PuM w wr B p q g n v ps s1 f ys F k)) (fun kv _ => (T - intOf kv).toNat)
    case atStart => exact ⟨F, rfl, Int.le_refl _, .inr rfl, HB⟩
    case round =>
      clear HB
      obtain ⟨k, rfl, hk1, hk2, hmid⟩ := hrel
      by_cases hkT : k < T
      · have hkw := (HWIN.out k).1 ⟨hk1, hkT⟩
        have hb0 := HLIM.out
        have hF9 := HF0.out
        obtain ⟨Kn, hKn⟩ : ∃ y : Nat, k = y := ⟨k.toNat, by omega⟩
        subst hKn
        obtain ⟨i, hi⟩ : ∃ i : Nat, (Kn : Int) - f = i := ⟨((Kn : Int) - f).toNat, by omega⟩
        have him : i < m := by omega
        obtain ⟨a, o, rfl, y0⟩ := HRD.out wr hmid.out.sc i him
        obtain ⟨x, hx⟩ : ∃ x, ys.getD i 0 = x := ⟨_, rfl⟩
        rw [hx] at y0
        have HX := Lib.hid (show ys.getD ((Kn : Int) - f).toNat 0 = x by rw [hi, Int.toNat_natCast]; exact hx)
        have hn9 := HN1.out
        obtain ⟨r, hr⟩ : ∃ r : Nat, (Kn : Int) % (n : Int) = r := ⟨((Kn : Int) % (n : Int)).toNat, by have := Int.emod_nonneg (Kn : Int) (show (n : Int) ≠ 0 by omega); omega⟩
        have hrn : r < n := by have := Int.emod_lt_of_pos (Kn : Int) (show 0 < (n : Int) by omega); omega
        have HLAY := Lib.hid (fun (W : World) (hM : PuM w W B p q g n v ps s1 f ys F Kn) (hins : ¬ ins ps Kn) => hM.lay hF9.1 hk1 hkw.2.2.2.1 hins r hr x HX.out)
        have HKW := Lib.hid (show wrap64 ((Kn : Int) + 1) = (Kn : Int) + 1 from wrap_at rfl (by omega) (by omega))
        have HIW := Lib.hid (show wrap64 ((Kn : Int) - f) = (i : Int) from wrap_at hi (by omega) (by have := HM.out; omega))
        have HR := Lib.hid ((Int.tmod_eq_emod_of_nonneg (show 0 ≤ (Kn : Int) by omega)).trans hr)
        have HK := Lib.hid (show F ≤ (Kn : Int) + 1 ∧ (Kn : Int) + 1 ≤ T ∧ (Kn : Int) < T by omega)
        have HIM := Lib.hid him
        have HI9 := Lib.hid hi
        have HRN := Lib.hid hrn
        have HMID := Lib.hid hmid.out
        obtain ⟨xs1, hxI, -⟩ := hmid.out.ib
        have d1 := hxI.c1
        have HSET := Lib.hid hxI.set
        have HPL := Lib.hid hxI.plen
        clear hkw hb0 hF9 hi him hx hn9 hr hrn hmid hxI hk1 hk2
        have hkw := HKW.out
        by_cases hins : ins ps Kn
        · have HHAS := Lib.hid (has_any q v ps B Kn (Kn + 1) true wr HSET.out HPL.out ⟨fun _ j h1 h2 => (by rw [show j = (Kn : Int) by omega]; exact hins), fun _ => rfl⟩)
          have HSK := Lib.hid (HMID.out.skip hins)
          clear hins HLAY y0
          go_wp2_with fail
          refine HHAS.out.mono ?_
          rintro e w2 ⟨rfl, hb2⟩
          have HNX := Lib.hid (HSK.out.later hb2)
          clear hb2 HHAS HSK
          go_wp2
          clear hkw
          go_roundw
          case rel => exact ⟨(Kn : Int) + 1, by first | rfl | rw [HKW.out], HK.out.1, .inl HK.out.2.1, HNX⟩
          case measure => (try rw [HKW.out]); have := HK.out; simp [intOf]; omega
        · have HHAS := Lib.hid (has_any q v ps B Kn (Kn + 1) false wr HSET.out HPL.out ⟨fun e => (by cases e), fun e => absurd (e Kn (Int.le_refl _) (by omega)) hins⟩)
          have HINS := Lib.hid hins
          clear hins
          go_wp2_with fail
          refine HHAS.out.mono ?_
          rintro e w2 ⟨rfl, hb2⟩
          have HM2 := Lib.hid (HMID.out.later hb2)
          clear hb2 HHAS y0 d1 HMID HSET
          clear hkw
          go_wp2_with fail
          obtain ⟨a9, o9, hA9, y9⟩ := HRD.out _ HM2.out.drew.sc i HIM.out
          obtain ⟨rfl, rfl⟩ : a = a9 ∧ o = o9 := by injection hA9 with hA9; injection hA9 with h1 h2; exact ⟨h1, h2⟩
          obtain ⟨⟨y2, g1⟩, g2, HN9⟩ := HLAY.out _ HM2.out.drew HINS.out
          have HNX := Lib.hid HN9
          obtain ⟨xs3, hx3, -⟩ := HM2.out.drew.ib
          refine wp_region_held_drew (S := fun wi => wi.cell? ⟨p, 0, none⟩ = some (.slice (some ⟨g, 0, none⟩) n n) ∧ wi.cell? ⟨a, o + i, none⟩ = some (.int .u8 x)) (by kernel_rfl) ⟨hx3.c0, by rw [y9]; have := HX.out; rw [show ((Kn : Int) - f).toNat = i by have := HI9.out; omega] at this; rw [this]⟩ ?_
          intro hHeld
          clear hA9 y9 hx3 HN9
          obtain ⟨W, hW⟩ : ∃ W, w2.drew = W := ⟨_, rfl⟩
          rw [hW] at hHeld HNX g1 g2 ⊢
          have HNXW := Lib.hid (show (W.setCell ⟨g, r, none⟩ (.int .u8 x)).cell? ⟨p, 0, none⟩ = some (.slice (some ⟨g, 0, none⟩) n n) ∧ (W.setCell ⟨g, r, none⟩ (.int .u8 x)).cell? ⟨a, o + i, none⟩ = some (.int .u8 x) by
            obtain ⟨a9, o9, hA9, y9⟩ := HRD.out _ HNX.out.sc i HIM.out
            obtain ⟨rfl, rfl⟩ : a = a9 ∧ o = o9 := by injection hA9 with hA9; injection hA9 with h1 h2; exact ⟨h1, h2⟩
            obtain ⟨xs3, hx3, -⟩ := HNX.out.ib
            exact ⟨hx3.c0, by rw [y9]; have := HX.out; rw [show ((Kn : Int) - f).toNat = i by have := HI9.out; omega] at this; rw [this]⟩)
          clear hW HM2
          have r1 : (r : Int) < (n : Int) := by have := HRN.out; omega
          have r2 : (0 : Int) ≤ (r : Int) := by omega
          have i1 : (i : Int) < (m : Int) := by have := HIM.out; omega
          have i2 : (0 : Int) ≤ (i : Int) := by omega
          have n1 : ¬ (n = 0) := by have := HN1.out; omega
          refine tkH 0 ?_
          refine tkH 1 ?_
          refine tkH 2 ?_
          refine wpAnyH_take (i := 3) (v := ?_) rfl (by kernel_rfl) (by kernel_rfl) (by kernel_rfl) (fun _ _ _ h => h) (Or.inl ⟨by rfl, ?_⟩) (by assumption) ?_
          rotate_left
          · intro w hSw
            (try dsimp only at hSw)
            have c9 := hSw.1
            clear hSw
            go_simp
            try (with_reducible rfl)
          try simp only [Act.put, List.getElem_toArray, List.getElem_cons_zero, List.getElem_cons_succ, List.setIfInBounds_toArray, List.set_cons_zero, List.set_cons_succ]
          refine tkH 4 ?_
          refine tkH 5 ?_
          refine tkH 6 ?_
          refine tkH 7 ?_
          refine wpAnyH_take (i := 8) (v := ?_) rfl (by kernel_rfl) (by kernel_rfl) (by kernel_rfl) (fun _ _ _ h => h) (Or.inl ⟨by rfl, ?_⟩) (by assumption) ?_
          rotate_left
          · intro w hSw
            (try dsimp only at hSw)
            have c9 := hSw.1
            clear hSw
            go_simp
            try (with_reducible rfl)
          try simp only [Act.put, List.getElem_toArray, List.getElem_cons_zero, List.getElem_cons_succ, List.setIfInBounds_toArray, List.set_cons_zero, List.set_cons_succ]
          refine tkH 9 ?_
          have hrr := HR.out
          refine tkH 10 ?_
          clear hrr
          refine tkH 11 ?_
          refine tkH 12 ?_
          refine tkH 13 ?_
          have hw2 := HIW.out
          have hw3 : IntKind.i64.wrap ((Kn : Int) - f) = (i : Int) := (IntWalk.i64_left _).trans hw2
          refine tkH 14 ?_
          clear hw2 hw3
          refine tkH 15 ?_
          refine wpAnyH_take (i := 16) (v := ?_) rfl (by kernel_rfl) (by kernel_rfl) (by kernel_rfl) (fun _ _ _ h => h) (Or.inl ⟨by rfl, ?_⟩) (by assumption) ?_
          rotate_left
          · intro w hSw
            (try dsimp only at hSw)
            have c9 := hSw.2
            clear hSw
            go_simp
            try (with_reducible rfl)
          try simp only [Act.put, List.getElem_toArray, List.getElem_cons_zero, List.getElem_cons_succ, List.setIfInBounds_toArray, List.set_cons_zero, List.set_cons_succ]
          refine tkH 17 ?_
          refine wpAnyH_ready (rs := [18]) (by kernel_rfl) (by simp) ?_
          refine AllReadyH.cons rfl (fun K hK => ?_) AllReadyH.nil
          go_simp
          refine hK.out _ _ HNXW.out (fun hHeld2 => ?_)
          clear hK K hHeld
          have hHeld := hHeld2
          clear hHeld2
          try simp only [Act.put, List.getElem_toArray, List.getElem_cons_zero, List.getElem_cons_succ, List.setIfInBounds_toArray, List.set_cons_zero, List.set_cons_succ]
          refine wpAnyH_done (by kernel_rfl) ?_ _
          have hkw := HKW.out
          go_wp2
          clear hkw
          go_roundw
          case rel => exact ⟨(Kn : Int) + 1, by first | rfl | rw [HKW.out], HK.out.1, .inl HK.out.2.1, HNX⟩
          case measure => (try rw [HKW.out]); have := HK.out; simp [intOf]; omega
      · have HMT := Lib.hid (hmid.out.to (T := T) (by omega))
        clear hmid hk1 hk2
        obtain ⟨xs1, hxI, -⟩ := HMT.out.ib
        have d1 := hxI.c1
        have HCNT := Lib.hid (count_any q v ps B wr hxI.set hxI.plen)
        have HCB := Lib.hid (cnt_bd hxI.set.norm)
        have HLT := Lib.hid (fun (W : World) (hb : Below wr.heap.size wr W) => (hxI.later hb).c1)
        have HPT := Lib.hid (fun (W : World) (hb : Below wr.heap.size wr W) => (HMT.out.later hb))
        have HADD := Lib.hid (fun (W : World) (hb : Below wr.heap.size wr W) => add_any q v ps B F T W (hxI.later hb).set hxI.plen (hxI.later hb).size)
        clear hxI HMT
        go_wp2_with fail
        refine HCNT.out.mono ?_
        rintro e w3 ⟨rfl, hb3⟩
        have d1 := HLT.out w3 hb3
        have HB3 := Lib.hid hb3
        obtain ⟨cP, hcP⟩ : ∃ z, cntL ps = z := ⟨_, rfl⟩
        rw [hcP] at HCB ⊢
        clear hb3
        go_wp2_with fail
        refine (HADD.out w3 HB3.out).mono ?_
        rintro e w4 ⟨rfl, v', us, hs4, hc4, hi4, -⟩
        have hfin := (HPT.out w3 HB3.out).fin HF0.out.1 (by have := HTL.out; omega) HWIN.out hs4 hc4 hi4
        rw [HRES.out, hcP] at hfin
        obtain ⟨⟨xs5, h5, sc5⟩, hcnt⟩ := hfin
        have d1b := h5.c1
        have HCB2 := Lib.hid (cnt_bd hs4.norm)
        have HCNT2 := Lib.hid (count_any q v' us B w4 hs4 h5.plen)
        obtain ⟨cU, hcU⟩ : ∃ z, cntL us = z := ⟨_, rfl⟩
        rw [hcU] at hcnt HCB2 HCNT2
        have HSUB := Lib.hid (show wrap64 (cU - cP) = RN from wrap_at hcnt (by have := HCB.out; have := HCB2.out; omega) (by have := HCB.out; have := HCB2.out; omega))
        have H5 := Lib.hid h5
        have SC5 := Lib.hid sc5
        clear hs4 hc4 hi4 hcnt hcU hcP h5 sc5 d1
        go_wp2_with fail
        refine HCNT2.out.mono ?_
        rintro e w6 ⟨rfl, hb6⟩
        have HFIN := Lib.hid (show ∃ v' xs' us, IbAt w6 B p q g n v' xs' us RS ∧ SC w w6 (Ibf p q g v) (Ibf p q g v') from ⟨v', xs5, us, H5.out.later hb6, SC5.out.trans (sc_later hb6)⟩)
        clear hb6
        have hsub := HSUB.out
        go_wp2
        go_ret
        exact ⟨ret_i HSUB.out, HFIN.out⟩
end
end Go.Proofs.YtpjlnpnadkbakaaGreat

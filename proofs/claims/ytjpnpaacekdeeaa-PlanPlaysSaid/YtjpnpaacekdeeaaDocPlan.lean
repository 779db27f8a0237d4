/-
  What Next and Lost of the document's own plan do: contracts over the program.
-/
import Derived.Test.YtjpnpaacekdeeaaDocSet3
import Derived.Test.YtjpnpaacekdeeaaDocWrite
import Derived.Test.YtjpnpaacekdeeaaPlanOut
import Derived.Test.YtjpnpaacekdeeaaPlanSmall
namespace Go.Proofs.Ytjpnpaacekdeeaa
open Go.RowKit

/-- Up to where the document's Next tells. -/
theorem docreach (o : Ou) (f t c r0 : Int) (hf : f < t) (ht : t ≤ o.places) (h0 : r0 = min t (f + c)) :
    (r0 = (o.xs.length : Int) ∧ t > r0 → reachI o f t c = t) ∧ (¬ (r0 = (o.xs.length : Int) ∧ t > r0) → reachI o f t c = r0) := by
  obtain ⟨n, hn⟩ : ∃ n : Int, (o.xs.length : Int) = n := ⟨_, rfl⟩
  unfold Ou.places at ht
  unfold reachI
  rw [hn] at ht ⊢
  cases hc : o.cl
  · rw [hc] at ht
    simp at ht
    simp
    omega
  · rw [hc] at ht
    simp at ht
    simp
    constructor
    · intro h1 h2
      split <;> omega
    · intro h1
      split <;> omega

section
variable {w : World} {B b : Nat} {v : Value} {s : Int} {ps : List (Int × Int)} {B' po : Nat} {vo : Value} {o : Ou}

theorem doclost_any (h : DpAt w B b v s ps) (f t : Int) : Calls Try.prog 22 #[.pointer (some ⟨b, 0, none⟩), .int .i64 f, .int .i64 t] w fun e w' => e = .returned (.tuple #[]) ∧ ∃ v', DpAt w' B b v' s (addN ps f t) ∧ SC w w' (Dft b v) (Dft b v') := by
  have HA := Lib.hid (docadd_any b v s ps B f t w h)
  clear h
  go_enter Try.func22, Try.ntmps22
  go_wp2_with fail
  refine HA.out.mono ?_
  rintro e w' ⟨rfl, v', h1, h2⟩
  have H1 := Lib.hid h1
  have H2 := Lib.hid h2
  clear h1 h2
  go_wp2
  go_end0
  exact ⟨rfl, v', H1.out, H2.out⟩

/-- What a Next leaves. -/
def DNextEnd (w : World) (B b : Nat) (v : Value) (x : Nx) (e : Ending) (w' : World) : Prop :=
  e = .returned (.tuple #[.int .i64 x.f, .int .i64 x.t, .bool x.ok]) ∧ ∃ v', DpAt w' B b v' x.p.sent x.p.ls ∧ SC w w' (Dft b v) (Dft b v')

set_option maxRecDepth 100000 in
set_option maxHeartbeats 2000000 in
theorem docnext_any (h : DpAt w B b v s ps) (ho : DoAt w B' po vo o) (hd : Sep (Oft po vo) (Dft b v)) (hok : (Pl.mk ps s).ok) (hsp : s ≤ o.places) (l c : Int) :
    Calls Try.prog 23 #[.pointer (some ⟨b, 0, none⟩), .pointer (some ⟨po, 0, none⟩), .int .i64 l, .int .i64 c] w (DNextEnd w B b v ((Pl.mk ps s).next o l c)) := by
  have HCL := Lib.hid (fun W => docclamp_any c 1 64 (chk c) W rfl)
  have hcr := Pl.chk_range c
  have hCUT : ∀ W, W = w.drew → Calls Try.prog 39 #[.pointer (some ⟨b, 0 + 1, none⟩), .int .i64 0, .int .i64 o.ak] W fun e w' => e = .returned (.tuple #[]) ∧ ∃ v', DpAt w' B b v' s (cutN ps 0 o.ak) ∧ DoAt w' B' po vo o ∧ SC w w' (Dft b v) (Dft b v') := by
    intro W hW
    have hX : DpAt W B b v s ps := by rw [hW]; exact h.drewN 1
    have hO : DoAt W B' po vo o := by rw [hW]; exact ho.drewN 1
    have hgw : SC w W (Dft b v) (Dft b v) := by rw [hW]; exact SC.of_below ⟨rfl, rfl, rfl, Nat.le_refl _, fun _ _ => rfl⟩
    refine (doccut_any b v s ps B 0 o.ak W hX).mono ?_
    rintro e w' ⟨rfl, v', h1, h2⟩
    exact ⟨rfl, v', h1, hO.kept h2.trn hd, hgw.trans h2⟩
  have HCUT0 := Lib.hid hCUT
  have c1 := ho.c1
  have hTl : o.till l ≤ o.places := by
    have h3 : (o.xs.length : Int) ≤ o.places := by unfold Ou.places; split <;> omega
    have h4 := Ou.places_range ho.ok
    unfold Ou.till
    split <;> omega
  have hTr := Pl.till_range ho.ok l
  have HOK := Lib.hid hok
  have HOO := Lib.hid ho.ok
  have HRC := Lib.hid (fun f t r0 => docreach o f t (chk c) r0)
  have hcok := Pl.cut_ok hok 0 o.ak
  clear hCUT h ho hd hok
  obtain ⟨ak, hak⟩ : ∃ ak, o.ak = ak := ⟨_, rfl⟩
  unfold Pl.next
  rw [hak] at HCUT0 c1 hcok ⊢
  clear hak
  obtain ⟨C, hC⟩ : ∃ C, chk c = C := ⟨_, rfl⟩
  rw [hC] at HCL hcr HRC ⊢
  clear hC
  obtain ⟨L, hL⟩ : ∃ L, cutN ps 0 ak = L := ⟨_, rfl⟩
  rw [show cutN (Pl.mk ps s).ls 0 ak = L from hL]
  rw [hL] at HCUT0
  rw [show cutN (Pl.mk ps s).ls 0 ak = L from hL] at hcok
  have HLOK := Lib.hid hcok
  clear hL hcok
  obtain ⟨T, hT⟩ : ∃ T, o.till l = T := ⟨_, rfl⟩
  rw [hT] at hTl hTr ⊢
  have HT := Lib.hid hT
  clear hT
  obtain ⟨X, hX⟩ : ∃ X, Pl.step L (Pl.mk ps s).sent T C o = X := ⟨_, rfl⟩
  rw [hX]
  have hX' : Pl.step L s T C o = X := hX
  have HX0 := Lib.hid hX'
  clear hX hX'
  obtain ⟨n, hn⟩ : ∃ n, o.xs.length = n := ⟨_, rfl⟩
  rw [hn] at HRC
  have HN := Lib.hid hn
  clear hn
  have HTL := Lib.hid hTl
  have HTR := Lib.hid hTr
  have HSP := Lib.hid hsp
  have HCR := Lib.hid hcr
  clear hTl hTr hsp hcr
  rcases L with _ | ⟨q0, qs⟩
  all_goals
    go_enter Try.func23, Try.ntmps23
    go_wp2_with fail
    refine (HCL.out _).mono ?_
    rintro e w0 ⟨rfl, rfl⟩
    go_wp2_with fail
    refine still_tail 7 (by kernel_rfl) (by kernel_rfl) ?_
    intro W hW
    have d1 : W.cell? ⟨po, 0 + 1, none⟩ = some (.int .i64 ak) := by rw [hW]; exact c1
    have HC2 := Lib.hid (HCUT0.out W hW)
    clear hW HCUT0 c1
    simp only [List.take_succ_cons, List.take_zero, List.drop_succ_cons, List.drop_zero]
    repeat still_step
    refine wpStill_nil ?_
    go_wp2_with fail
    refine HC2.out.mono ?_
    rintro e w1 ⟨rfl, v1, h1, o1, s1⟩
    obtain ⟨Av, cv, hv1⟩ := h1.own.form
    obtain ⟨Ao, co, hvo⟩ := o1.own.form
    have e0 := h1.c0
    have e1 := h1.c1
    have e2 := o1.c2
    rw [hv1] at e1
    rw [hvo, HN.out] at e2
    have HOP := Lib.hid (show ∀ k, Calls Try.prog 40 #[.pointer (some ⟨po, 0, none⟩), .int .i64 l] (w1.drewN k) fun e w' => e = .returned (.int .i64 T) ∧ w1.drewN k = w' from fun k => by
      rw [← HT.out]
      exact dopen_any (o1.drewN k) l)
    have H1 := Lib.hid h1
    have S1 := Lib.hid s1
    have HV := Lib.hid hv1
    clear h1 o1 s1 HC2 d1 hvo hv1
    go_wp2_with fail
    go_quiet ((go_at_call 40; exact quiet_eq' (HOP.out _)))
  · have hx := HX0.out
    unfold Pl.step at hx
    have hs0 := HOK.out.s0
    have hs1 := HOK.out.s1
    simp only [] at hs0 hs1
    by_cases hlt : s < T
    · rw [if_pos hlt] at hx
      have HX := Lib.hid hx
      have hcr := HCR.out
      have g1 : wrap64 (s + C) = s + C := wrap_at rfl (by omega) (by omega)
      obtain ⟨r0, hr0⟩ : ∃ r, r = min T (s + C) := ⟨_, rfl⟩
      have g2 := run_min2 T (s + C) r0 hr0
      have HRE := Lib.hid (HRC.out s T r0 hlt HTL.out hr0)
      have HST := Lib.hid (show ∀ (r : Int) (k : Nat), DpAt ((w1.drewN k).setCell ⟨b, 0, none⟩ (.int .i64 r)) B b v1 r [] ∧ SC w ((w1.drewN k).setCell ⟨b, 0, none⟩ (.int .i64 r)) (Dft b v) (Dft b v1) from fun r k => by
        have := (H1.out.drewN k).set0 r
        exact ⟨this.1, S1.out.trans ((SC.of_below ⟨rfl, rfl, rfl, Nat.le_refl _, fun _ _ => rfl⟩ : SC w1 (w1.drewN k) (Dft b v1) (Dft b v1)).trans this.2)⟩)
      have f0 := H1.out.fr 0
      clear hx hr0 hcr hs0 hs1
      by_cases hc1 : r0 = (n : Int)
      · by_cases hc2 : T > r0
        · have HRR := Lib.hid (show reachI o s T C = T from HRE.out.1 ⟨hc1, hc2⟩)
          clear HRE
          go_wp2
          go_ret3
          rw [← HX.out, HRR.out]
          exact ⟨rfl, v1, (HST.out T _).1, (HST.out T _).2⟩
        · have HRR := Lib.hid (show reachI o s T C = r0 from HRE.out.2 (fun h => hc2 h.2))
          clear HRE
          subst hc1
          go_wp2
          go_ret3
          rw [← HX.out, HRR.out]
          exact ⟨rfl, v1, (HST.out (n : Int) _).1, (HST.out (n : Int) _).2⟩
      · have HRR := Lib.hid (show reachI o s T C = r0 from HRE.out.2 (fun h => hc1 h.1))
        clear HRE
        go_wp2
        go_ret3
        rw [← HX.out, HRR.out]
        exact ⟨rfl, v1, (HST.out r0 _).1, (HST.out r0 _).2⟩
    · rw [if_neg hlt] at hx
      have HX := Lib.hid hx
      clear hx hs0 hs1
      go_wp2
      go_ret3
      rw [← HX.out]
      exact ⟨rfl, v1, H1.out.drewN _, S1.out.trans (SC.of_below ⟨rfl, rfl, rfl, Nat.le_refl _, fun _ _ => rfl⟩)⟩
  · obtain ⟨f0, t0⟩ := q0
    have hx := HX0.out
    unfold Pl.step at hx
    simp only [] at hx
    have hmr := Pl.mem_range HLOK.out List.mem_cons_self
    simp only [] at hmr
    obtain ⟨m, hm⟩ : ∃ m, ((f0, t0) :: qs).length = m := ⟨_, rfl⟩
    have hm0 : 0 < m := by rw [← hm]; simp
    have hown := H1.out.own
    rw [HV.out, hm] at hown
    rw [hm] at e1
    obtain ⟨g, rfl, _⟩ := hown.at hm0
    have y1 := (hown.cells 0 hm0).1
    have y2 := (hown.cells 0 hm0).2
    simp only [List.getD_cons_zero, Nat.zero_mul] at y1 y2
    have i1 : (0 : Int) < (m : Int) := by omega
    have hsp := HSP.out
    have hs1 := HOK.out.s1
    simp only [] at hs1
    have hcr := HCR.out
    have i2 : ¬ (f0 ≥ t0) := by omega
    have g1 : wrap64 (f0 + C) = f0 + C := wrap_at rfl (by omega) (by omega)
    obtain ⟨r0, hr0⟩ : ∃ r, r = min t0 (f0 + C) := ⟨_, rfl⟩
    have g2 := run_min2 t0 (f0 + C) r0 hr0
    have HRE := Lib.hid (HRC.out f0 t0 r0 hmr.2.1 (by omega) hr0)
    have HX := Lib.hid hx
    have HCUT := Lib.hid (show ∀ (r : Int) (k : Nat), Calls Try.prog 39 #[.pointer (some ⟨b, 0 + 1, none⟩), .int .i64 f0, .int .i64 r] (w1.drewN k) fun e w' => e = .returned (.tuple #[]) ∧ ∃ v', DpAt w' B b v' s (cutN ((f0, t0) :: qs) f0 r) ∧ SC w w' (Dft b v) (Dft b v') from fun r k => by
      refine (doccut_any b v1 s _ B f0 r (w1.drewN k) (H1.out.drewN k)).mono ?_
      rintro e w' ⟨rfl, v', h1, h2⟩
      exact ⟨rfl, v', h1, S1.out.trans ((SC.of_below ⟨rfl, rfl, rfl, Nat.le_refl _, fun _ _ => rfl⟩ : SC w1 (w1.drewN k) (Dft b v1) (Dft b v1)).trans h2)⟩)
    clear hx hmr hm hown hsp hs1 hcr hr0
    go_wp2_with fail
    go_quiet (fail)
    by_cases hc1 : r0 = (n : Int)
    · by_cases hc2 : t0 > r0
      · have HRR := Lib.hid (show reachI o f0 t0 C = t0 from HRE.out.1 ⟨hc1, hc2⟩)
        clear HRE
        go_wp2_with fail
        refine (HCUT.out t0 _).mono ?_
        rintro e w4 ⟨rfl, v2, h4, s4⟩
        have H4 := Lib.hid h4
        have S4 := Lib.hid s4
        clear h4 s4
        go_wp2
        go_ret3
        rw [← HX.out, HRR.out]
        exact ⟨rfl, v2, H4.out, S4.out⟩
      · have HRR := Lib.hid (show reachI o f0 t0 C = r0 from HRE.out.2 (fun h => hc2 h.2))
        clear HRE
        subst hc1
        go_wp2_with fail
        refine (HCUT.out (n : Int) _).mono ?_
        rintro e w4 ⟨rfl, v2, h4, s4⟩
        have H4 := Lib.hid h4
        have S4 := Lib.hid s4
        clear h4 s4
        go_wp2
        go_ret3
        rw [← HX.out, HRR.out]
        exact ⟨rfl, v2, H4.out, S4.out⟩
    · have HRR := Lib.hid (show reachI o f0 t0 C = r0 from HRE.out.2 (fun h => hc1 h.1))
      clear HRE
      go_wp2_with fail
      refine (HCUT.out r0 _).mono ?_
      rintro e w4 ⟨rfl, v2, h4, s4⟩
      have H4 := Lib.hid h4
      have S4 := Lib.hid s4
      clear h4 s4
      go_wp2
      go_ret3
      rw [← HX.out, HRR.out]
      exact ⟨rfl, v2, H4.out, S4.out⟩
end
end Go.Proofs.Ytjpnpaacekdeeaa

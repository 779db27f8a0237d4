/-
  What Same of chapter 14's statements answers of a plan and the document's own plan that are alike: contract over the program.
-/
import Derived.Test.YtjpnpaacekdeeaaDocPlan
import Derived.Laws.StructEq
namespace Go.Proofs.Ytjpnpaacekdeeaa
open Go.RowKit

theorem docmissing_any {w : World} {B b : Nat} {v : Value} {s : Int} {ps : List (Int × Int)} (h : DpAt w B b v s ps) : Calls Try.prog 41 #[.pointer (some ⟨b, 0, none⟩)] w fun e w' => e = .returned v ∧ w = w' := by
  obtain ⟨A, c, hv⟩ := h.own.form
  have c1 := h.c1
  rw [hv] at c1 ⊢
  clear h hv
  go_enter Try.func41, Try.ntmps41
  go_wp2
  go_ret
  exact ⟨rfl, rfl⟩

set_option maxRecDepth 100000 in
set_option maxHeartbeats 2000000 in
theorem psame_any {w : World} {B p q : Nat} {v : Value} {P : Pl} {B' b : Nat} {v' : Value} (h : PlanAt w B p q v P) (hr : DpAt w B' b v' P.sent P.ls) :
    Calls Try.prog 24 #[.pointer (some ⟨p, 0, none⟩), .pointer (some ⟨b, 0, none⟩)] w fun e w' => e = .returned (.bool true) ∧ Below w.heap.size w w' := by
  have HM := Lib.hid (missing_any h)
  have H := Lib.hid h
  have HR := Lib.hid hr
  have hlen := h.ok.norm.len
  obtain ⟨n, hn⟩ : ∃ n, P.ls.length = n := ⟨_, rfl⟩
  rw [hn] at HM hlen
  obtain ⟨Av, cv, hv⟩ := hr.own.form
  rw [hn] at hv
  have HV := Lib.hid hv
  have HN := Lib.hid hn
  have HNN := Lib.hid hlen
  clear h hr hn hlen hv
  go_enter Try.func24, Try.ntmps24
  go_wp2_with fail
  refine HM.out.mono ?_
  rintro e w1 ⟨A1, c1, rfl, ho, hb⟩
  have H1 := Lib.hid (H.out.later hb)
  have HR1 := Lib.hid (HR.out.later hb)
  have HO1 := Lib.hid ho
  have HB1 := Lib.hid hb
  have r0 := (HR.out.later hb).c0
  obtain ⟨s, hs⟩ : ∃ s, P.sent = s := ⟨_, rfl⟩
  rw [hs] at r0
  have HSE := Lib.hid (show ∀ k, Calls Try.prog 13 #[.pointer (some ⟨p, 0, none⟩)] (w1.drewN k) fun e w' => e = .returned (.int .i64 s) ∧ w1.drewN k = w' from fun k => by
    rw [← hs]
    exact sent_any (H1.out.drewN k))
  have HDM := Lib.hid (show ∀ k, Calls Try.prog 41 #[.pointer (some ⟨b, 0, none⟩)] (w1.drewN k) fun e w' => e = .returned (.slice Av n cv) ∧ w1.drewN k = w' from fun k => by
    rw [← HV.out]
    exact docmissing_any (HR1.out.drewN k))
  clear ho hb HM hs
  go_wp2_with fail
  go_quiet ((first | (go_at_call 13; exact quiet_eq' (HSE.out _)) | (go_at_call 41; exact quiet_eq' (HDM.out _))))
  clear HSE HDM r0
  go_wp2
  go_loopw [29] (fun iv wr => ∃ k : Nat, k ≤ n ∧ iv = .int .i64 k ∧ Hid (Below w1.heap.size w1 wr)) (fun iv _ => n - (intOf iv).toNat)
  case atStart => exact ⟨0, by omega, rfl, Lib.hid ⟨rfl, rfl, rfl, Nat.le_refl _, fun _ _ => rfl⟩⟩
  case round =>
    obtain ⟨k, hk, rfl, hb⟩ := hrel
    by_cases hkn : k < n
    · have ho2 := HO1.out.later hb.out
      obtain ⟨g, rfl, _⟩ := ho2.at (by omega)
      have y1 := (ho2.cells k hkn).1
      have y2 := (ho2.cells k hkn).2
      have hr2 := HR1.out.later hb.out
      have hro := hr2.own
      rw [HV.out] at hro
      obtain ⟨g2, rfl, _⟩ := hro.at (by omega)
      have hro' := hro.alloc (.cells #[.int .i64 (P.ls.getD k (0, 0)).1, .int .i64 (P.ls.getD k (0, 0)).2] 37)
      have x1 := (hro'.cells k hkn).1
      have x2 := (hro'.cells k hkn).2
      obtain ⟨⟨x, y⟩, hxy⟩ : ∃ z, P.ls.getD k (0, 0) = z := ⟨_, rfl⟩
      rw [hxy] at y1 y2 x1 x2
      simp only [] at y1 y2 x1 x2
      have hb2 : Below wr.heap.size wr (wr.alloc (.cells #[.int .i64 x, .int .i64 y] 37)) := (Below.refl _ _).alloc (Nat.le_refl _) _
      have HDM := Lib.hid (show ∀ j, Calls Try.prog 41 #[.pointer (some ⟨b, 0, none⟩)] ((wr.alloc (.cells #[.int .i64 x, .int .i64 y] 37)).drewN j) fun e w' => e = .returned (.slice (some ⟨g2, 0, none⟩) n cv) ∧ (wr.alloc (.cells #[.int .i64 x, .int .i64 y] 37)).drewN j = w' from fun j => by
        rw [← HV.out]
        exact docmissing_any ((hr2.later hb2).drewN j))
      have HB2 := Lib.hid (hb.out.alloc hb.out.size (.cells #[.int .i64 x, .int .i64 y] 37))
      have i1 : (k : Int) < (n : Int) := by omega
      have i2 : (0 : Int) ≤ (k : Int) := by omega
      have HIW := Lib.hid (show wrap64 ((k : Int) + 1) = ((k + 1 : Nat) : Int) from wrap_at (by omega) (by have := HNN.out; omega) (by have := HNN.out; omega))
      have HK1 := Lib.hid (show k + 1 ≤ n by omega)
      have HKN := Lib.hid hkn
      clear ho2 hr2 hro hro' hxy hb2 hb hk hkn
      go_wp2_with fail
      go_quiet ((go_at_call 41; exact quiet_eq' (HDM.out _)))
      go_wp2
      go_roundw
      case rel => exact ⟨k + 1, HK1.out, by rw [HIW.out], Lib.hid (below_drewN' HB2.out _)⟩
      case measure => rw [HIW.out]; have := HKN.out; simp [intOf]; omega
    · have : k = n := by omega
      subst this
      have j1 : ¬ ((k : Int) < (k : Int)) := by omega
      have HF := Lib.hid (HB1.out.trans (hb.out.mono HB1.out.size))
      clear hb hk hkn
      go_wp2
      go_ret
      exact ⟨rfl, HF.out⟩
end Go.Proofs.Ytjpnpaacekdeeaa

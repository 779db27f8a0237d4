/-
  What the statements' help Events makes of a list of events: some list, of the call's own. A contract over the program.
-/
import Derived.Test.YtbjneoeiognahaaEvRow
import Derived.Test.YtbjneoeiognahaaPlayEvent
import Derived.Test.YtbjneoeiognahaaArgE
import Derived.Deep.LoopGhost
import Derived.Deep.DeepCutAuto
namespace Go.Proofs.Ytbjneoeiognahaa
open Go.RowKit

set_option maxRecDepth 10000 in
/-- An event in a block of its own. -/
theorem lies_new (w : World) (m : EvM) (t : TypeId) : ∀ j u, m.cs[j]? = some u → (w.alloc (.cells m.cs.toArray t)).cell? ((⟨w.heap.size, 0, none⟩ : Addr).add j) = some u := fun j u hu => by
  have h := Ev.range w m.e m.A m.c m.B m.d t j u hu
  rw [Addr.add_lit]
  exact h

set_option maxRecDepth 100000 in
set_option maxHeartbeats 4000000 in
theorem playEvents_any (A : Option Addr) (n c : Nat) (ms : List EvM) (H : Option Addr) (hn hc : Nat) (hs : List Int) (most : Nat) (w : World) (h0 : ArgE w A n c ms) (h1 : ArgI .i64 8 w H hn hc hs) (hmost : most ≤ 100) :
    Calls Try.prog 35 #[.slice A n c, .slice H hn hc, .int .i64 (most : Nat)] w fun x w' => ∃ v ls, x = .returned v ∧ EvRow w' w.heap.size v ls ∧ ls.length ≤ most ∧ Below w.heap.size w w' := by
  have H0 := Lib.hid h0
  have H1 := Lib.hid h1
  have hnb := h0.reach
  have hle := h0.le
  have hnb2 := h1.reach
  have hle2 := h1.le
  clear h0 h1
  go_enter Try.func35, Try.ntmps35
  go_wp2
  go_loopw [7, 8] (fun vo vi wr => ∃ (k : Nat) (ls : List EvM), k ≤ n ∧ k ≤ most ∧ vi = .int .i64 k ∧ ls.length = k ∧ Hid (EvRow wr w.heap.size vo ls) ∧ Hid (Below w.heap.size w wr)) (fun _ vi _ => n - (intOf vi).toNat)
  case atStart => exact ⟨0, [], by omega, by omega, rfl, rfl, EvRow.nil _ _, Below.refl _ _⟩
  case round =>
    obtain ⟨k, ls, hk, hk2, rfl, hls, hrow, hbl⟩ := hrel
    by_cases hlt : k < n ∧ k < most
    · obtain ⟨t1, t2⟩ := hlt
      have i1 : (k : Int) < (n : Int) := by omega
      have i2 : (0 : Int) ≤ (k : Int) := by omega
      have i3 : (k : Int) < (most : Int) := by omega
      have hka : k < ms.length := by rw [H0.out.len]; exact t1
      have hx2 := H0.out.evs.later (hbl.out.mono (Nat.le_refl _))
      have x1 := hx2.get hka
      obtain ⟨b1, o1, rfl, hx3⟩ : ∃ b off, A = some ⟨b, off, none⟩ ∧ ∀ i, i < ms.length → (ms.getD i default).lies wr b (off + i * 12) := by
        rcases hx2.lie with h | h
        · subst h; simp at hka
        · exact h
      have x3 := hx3 k hka
      obtain ⟨x, hx⟩ : ∃ x, ms.getD k default = x := ⟨_, rfl⟩
      rw [hx] at x1 x3
      have X1 := Lib.hid x1
      clear hx hx2 hx3 x1 hka
      obtain ⟨c0, c1, c2, c3, c4, c5, c6, c7, c8, c9, c10, c11⟩ := x3
      obtain ⟨A1, hA1⟩ := hrow.out.form
      obtain ⟨c1', rfl⟩ := hA1
      rw [hls] at hrow
      by_cases t3 : k < hn
      · have i4 : (k : Int) < (hn : Int) := by omega
        obtain ⟨hb, ho, rfl, hcell⟩ := H1.out.rd.some_ (by rw [H1.out.len]; omega)
        have hcl := cell_later (hbl.out.mono (Nat.le_refl _)) (hcell k (by rw [H1.out.len]; omega))
        have hw := wf_i64 (H1.out.wf (hs.getD k 0) (by simp [List.getD, H1.out.len, t3]))
        obtain ⟨hv, hhv⟩ : ∃ v, hs.getD k 0 = v := ⟨_, rfl⟩
        rw [hhv] at hcl hw
        clear hcell hhv
        go_wp2_with fail
        refine (playEvent_any x.e hv x.A x.c x.B x.d _ X1.out hw).mono ?_
        rintro e w2 ⟨ev, A2, c2', B2, d2, rfl, hbd, ho1, ho2, hb2⟩
        have hown : EvM.own w2 w.heap.size ⟨ev, A2, c2', B2, d2⟩ := ⟨hbd, ho1.less hbl.out.size, ho2.less hbl.out.size⟩
        have hb3 := (Below.refl w2.heap.size w2).alloc (Nat.le_refl _) (.cells (EvM.cs ⟨ev, A2, c2', B2, d2⟩).toArray 60)
        have HO := Lib.hid (hown.later hb3)
        have HRW := Lib.hid ((hrow.out.later hb2).later hb3)
        have HBL := Lib.hid ((hbl.out.trans (hb2.mono hbl.out.size)).trans (hb3.mono (Nat.le_trans hbl.out.size hb2.size)))
        have HLN := Lib.hid (lies_new w2 ⟨ev, A2, c2', B2, d2⟩ 60)
        clear hbd ho1 ho2 hb2 hb3 hown hrow hbl c0 c1 c2 c3 c4 c5 c6 c7 c8 c9 c10 c11
        unfold Ev.val
        go_wp2_with (at_builtin; refine wpList_appE rfl (.tmp 29) (.tmp 36) rfl w.heap.size (.slice A1 k c1') ls ⟨ev, A2, c2', B2, d2⟩ rfl HRW.out _ 1 rfl HO.out HLN.out (by omega) HBL.out.size ?_; intro D dd w3 h3 g3; have HR3 := Lib.hid h3; have HB3 := Lib.hid (HBL.out.grown g3 HBL.out.size (fun g hg => (HRW.out.lt g hg).1)); clear h3 g3)
        go_roundw
        case rel => exact ⟨k + 1, ls ++ [⟨ev, A2, c2', B2, d2⟩], by omega, by omega, by go_num, by simp [hls], by rw [← hls]; exact HR3, HB3⟩
        case measure => simp [intOf]; omega
      · have i4 : ¬ (k : Int) < (hn : Int) := by omega
        have i5 : decide ((k : Int) < (hn : Int)) = false := by simp; omega
        go_wp2_with fail
        refine (playEvent_any x.e 0 x.A x.c x.B x.d _ X1.out (by omega)).mono ?_
        rintro e w2 ⟨ev, A2, c2', B2, d2, rfl, hbd, ho1, ho2, hb2⟩
        have hown : EvM.own w2 w.heap.size ⟨ev, A2, c2', B2, d2⟩ := ⟨hbd, ho1.less hbl.out.size, ho2.less hbl.out.size⟩
        have hb3 := (Below.refl w2.heap.size w2).alloc (Nat.le_refl _) (.cells (EvM.cs ⟨ev, A2, c2', B2, d2⟩).toArray 60)
        have HO := Lib.hid (hown.later hb3)
        have HRW := Lib.hid ((hrow.out.later hb2).later hb3)
        have HBL := Lib.hid ((hbl.out.trans (hb2.mono hbl.out.size)).trans (hb3.mono (Nat.le_trans hbl.out.size hb2.size)))
        have HLN := Lib.hid (lies_new w2 ⟨ev, A2, c2', B2, d2⟩ 60)
        clear hbd ho1 ho2 hb2 hb3 hown hrow hbl c0 c1 c2 c3 c4 c5 c6 c7 c8 c9 c10 c11
        unfold Ev.val
        go_wp2_with (at_builtin; refine wpList_appE rfl (.tmp 29) (.tmp 36) rfl w.heap.size (.slice A1 k c1') ls ⟨ev, A2, c2', B2, d2⟩ rfl HRW.out _ 1 rfl HO.out HLN.out (by omega) HBL.out.size ?_; intro D dd w3 h3 g3; have HR3 := Lib.hid h3; have HB3 := Lib.hid (HBL.out.grown g3 HBL.out.size (fun g hg => (HRW.out.lt g hg).1)); clear h3 g3)
        go_roundw
        case rel => exact ⟨k + 1, ls ++ [⟨ev, A2, c2', B2, d2⟩], by omega, by omega, by go_num, by simp [hls], by rw [← hls]; exact HR3, HB3⟩
        case measure => simp [intOf]; omega
    · go_wp2_with fail
      all_goals (go_ret; exact ⟨_, ls, rfl, hrow.out, by omega, hbl.out⟩)
end Go.Proofs.Ytbjneoeiognahaa

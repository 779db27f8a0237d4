/-
  What the document's own Wrap and Reader (Number, Bytes, Byte) make: contracts over the program.
-/
import Derived.Test.YtbjneoeiognahaaRefTake
import Derived.Test.YtbjneoeiognahaaBase
import Derived.Deep.QuietTactic
import Derived.BigQuiet
import Derived.IntWalk
namespace Go.Proofs.Ytbjneoeiognahaa
open Go.RowKit

/-- Block p is a Reader of the document's own, of the bytes xs, at the place a. -/
abbrev Ref := RdrT 102

set_option maxRecDepth 10000 in
set_option maxHeartbeats 400000 in
theorem wrap_any (A : Option Addr) (n c : Nat) (xs : List Int) (w : World) (hn : xs.length = n) (hr : Rd .u8 w A xs) (hb : n ≤ 140737488351232) :
    Calls Try.prog 67 #[.slice A n c] w fun e w' => ∃ A' c', e = .returned (.slice A' ((putL n).length + n) c') ∧ Own .u8 5 w' w.heap.size (.slice A' ((putL n).length + n) c') (putL n ++ xs) ∧ Below w.heap.size w w' := by
  have hl := putL_len n
  have hput := refPut_own (n : Int) w
  obtain ⟨q, hq⟩ : ∃ q, putL (n : Int) = q := ⟨_, rfl⟩
  rw [hq] at hl hput ⊢
  have HP := Lib.hid hput
  clear hq hput
  go_enter Try.func67, Try.ntmps67
  go_wp2_with fail
  refine HP.out.mono ?_
  rintro e w1 ⟨P, cp, rfl, hp, hb1⟩
  go_wp2_with (at_builtin; refine wpList_app _ .u8 rfl (.tmp 5) (.tmp 6) 23 rfl 5 (.int .u8 0) 1 Try.underlying23 info_byte rfl w.heap.size (.slice P q.length cp) q rfl hp A n c rfl xs hn (hr.later hb1) (by unfold maxLen; omega) (by omega) hb1.size ?_; intro A' c' w' ho hg)
  go_ret
  exact ⟨A', c', rfl, ho, hb1.trans (grown_below hg hb1.size (fun g hg => (hp.lt g hg).1))⟩

section
variable {w : World} {p : Nat} {A : Option Addr} {c : Nat} {xs : List Int} {a : Nat} {bad : Bool}

set_option maxRecDepth 10000 in
theorem slice_from (A : Option Addr) (n c a : Nat) (h : a ≤ n) (W : World) : (Instr.sliceAt 23 (.slice A n c) (some (.int .i64 (a : Nat))) none none).run Try.prog W = .ok (.slice (if c = a then A else A.map (·.add a)) (n - a) (c - a)) W := by
  rw [run_sliceAt_slice _ _ _ _ _ _ Try.underlying23, run_slice_l (P := Try.prog) W 23 A n c Try.underlying23 .i64 (a : Int) (by omega) (by omega)]
  go_simp

set_option maxRecDepth 10000 in
/-- What the document's Take answers at a Reader's place, in a quiet region. -/
theorem take_at (h : Ref w p A c xs a bad) (A' : Option Addr) (hA' : (if c = a then A else A.map (·.add a)) = A') (n : Nat) (hn : xs.length = n) (tv : Int × Int × Bool) (ht : takeV (xs.drop a) = tv) (k : Nat) :
    Calls Try.prog 94 #[.slice A' (n - a) (c - a)] (w.drewN k) fun e w'' => e = .returned (.tuple #[.int .i64 tv.1, .int .i64 tv.2.1, .bool tv.2.2]) ∧ ∃ m, w'' = w.drewN m := by
  subst ht; subst hA'; subst hn
  exact quiet_eq (refTake_any _ (xs.length - a) (c - a) (xs.drop a) _ (by simp) ((h.own.rd.drop a c h.le h.own.cap).drewN _) (fun x hx => h.bytes x (List.mem_of_mem_drop hx)))

set_option maxRecDepth 10000 in
set_option maxHeartbeats 400000 in
theorem refNumber_any (h : Ref w p A c xs a bad) :
    Calls Try.prog 76 #[.pointer (some ⟨p, 0, none⟩)] w fun e w' =>
      e = .returned (.int .i64 (numT xs a bad).1) ∧ Ref w' p A c xs (a + (numT xs a bad).2.1.toNat) (!(numT xs a bad).2.2) ∧ w.grownBy w' (some p) := by
  have HR := Lib.hid h
  have c0 := h.c0
  have c1 := h.c1
  have c2 := h.c2
  have hreach := h.reach
  have hle := h.le
  have hcap := h.own.cap
  have f1 := h.fr (0 + 1)
  have f2 := h.fr (0 + 2)
  obtain ⟨n, hn⟩ : ∃ n, xs.length = n := ⟨_, rfl⟩
  have hsl := slice_from A n c a (by omega)
  obtain ⟨A', hA'⟩ : ∃ A', (if c = a then A else A.map (·.add a)) = A' := ⟨_, rfl⟩
  rw [hA'] at hsl
  have l1 : (0 : Int) ≤ (a : Int) := by omega
  cases bad with
  | true =>
    rw [show numT xs a true = (0, 0, false) from rfl]
    have HT := Lib.hid (take_at h A' hA' n hn _ rfl)
    clear h hA'
    rw [hn] at c0 hle hreach hcap
    clear hn
    go_enter Try.func76, Try.ntmps76
    go_wp2_with fail
    go_quiet ((go_at_call 94; exact HT.out _))
    go_wp2
    go_ret
    exact ⟨rfl, (HR.out.drewN nq).set2 true, grown_drewN (setCell_one (w.drewN nq) _ _ _)⟩
  | false =>
    rw [show numT xs a false = takeV (xs.drop a) from rfl]
    rcases takeV_cases (xs.drop a) with ht | ⟨m, s, ht, h1, h2, h3, h4⟩
    · rw [ht]
      have HT := Lib.hid (take_at h A' hA' n hn _ ht)
      clear h hA' ht
      rw [hn] at c0 hle hreach hcap
      clear hn
      go_enter Try.func76, Try.ntmps76
      go_wp2_with fail
      go_quiet ((go_at_call 94; exact HT.out _))
      go_wp2
      go_ret
      exact ⟨rfl, (HR.out.drewN nq).set2 true, grown_drewN (setCell_one (w.drewN nq) _ _ _)⟩
    · rw [ht]
      rw [List.length_drop] at h3
      have h5 : a + s ≤ xs.length := by omega
      have HT := Lib.hid (take_at h A' hA' n hn _ ht)
      clear h hA' ht
      rw [hn] at c0 hle hreach hcap h3
      clear hn
      go_enter Try.func76, Try.ntmps76
      go_wp2_with fail
      go_quiet ((go_at_call 94; exact HT.out _))
      go_wp2
      go_ret
      rw [Int.toNat_natCast]
      exact ⟨rfl, (HR.out.drewN nq).set1 (a + s) h5 ((a : Int) + (s : Int)) (by omega), grown_drewN (setCell_one (w.drewN nq) _ _ _)⟩

set_option maxRecDepth 10000 in
set_option maxHeartbeats 400000 in
theorem refByte_any (h : Ref w p A c xs a bad) :
    Calls Try.prog 74 #[.pointer (some ⟨p, 0, none⟩)] w fun e w' =>
      e = .returned (.int .u8 (oneT xs a bad).1) ∧ Ref w' p A c xs (oneT xs a bad).2.1 (oneT xs a bad).2.2 ∧ w.grownBy w' (some p) := by
  have HR := Lib.hid h
  have c0 := h.c0
  have c1 := h.c1
  have c2 := h.c2
  have hreach := h.reach
  have hle := h.le
  have hcap := h.own.cap
  have f1 := h.fr (0 + 1)
  have f2 := h.fr (0 + 2)
  unfold oneT
  cases bad with
  | true =>
    rw [if_pos (.inl rfl)]
    clear h
    go_enter Try.func74, Try.ntmps74
    go_wp2_with fail
    go_quiet (fail)
    go_wp2
    go_ret
    exact ⟨rfl, (HR.out.drewN nq).set2 true, grown_drewN (setCell_one (w.drewN nq) _ _ _)⟩
  | false =>
    by_cases h0 : xs.length - a = 0
    · rw [if_pos (.inr h0)]
      obtain ⟨n, hn⟩ : ∃ n, xs.length = n := ⟨_, rfl⟩
      rw [hn] at c0 hle hreach hcap h0
      have d1 : (n : Int) ≤ (a : Int) := by omega
      clear h hn
      go_enter Try.func74, Try.ntmps74
      go_wp2_with fail
      go_quiet (fail)
      go_wp2
      go_ret
      exact ⟨rfl, (HR.out.drewN nq).set2 true, grown_drewN (setCell_one (w.drewN nq) _ _ _)⟩
    · rw [if_neg (by simp; omega)]
      obtain ⟨g, hA, _, _, _, hcell, _⟩ := h.own.block (by omega)
      subst hA
      have ca := hcell a (by omega)
      clear hcell
      obtain ⟨x, hx⟩ : ∃ x, xs.getD a 0 = x := ⟨_, rfl⟩
      rw [hx] at ca ⊢
      have h5 : a + 1 ≤ xs.length := by omega
      have hne : g ≠ p := by
        have := h.own.rd
        have hg := own_not_row h.own h.ne h.row
        simpa [Value.ownBlock] using hg
      obtain ⟨n, hn⟩ : ∃ n, xs.length = n := ⟨_, rfl⟩
      rw [hn] at c0 hle hreach hcap h0
      have d1 : decide ((n : Int) ≤ (a : Int)) = false := by simp; omega
      have d2 : decide (n ≤ a) = false := by simp; omega
      have l1 : (0 : Int) ≤ (a : Int) := by omega
      have l2 : (a : Int) < (n : Int) := by omega
      clear h hx
      go_enter Try.func74, Try.ntmps74
      go_wp2_with fail
      go_quiet (fail)
      go_wp2_with fail
      obtain ⟨q, hq⟩ : ∃ q : Nat, a + 1 = q := ⟨_, rfl⟩
      have G := (HR.out.drewN nq).set1 (a + 1) h5 ((a : Int) + 1) (by omega)
      have hg := grown_drewN (setCell_one (w.drewN nq) p (0 + 1) (.int .i64 ((a : Int) + 1)))
      have ca' : ((w.drewN nq).setCell ⟨p, 0 + 1, none⟩ (.int .i64 ((a : Int) + 1))).cell? ⟨g, a, none⟩ = some (.int .u8 x) := by
        rw [World.cell?_of_block (heap_setCell_other _ _ _ _ hne)]
        exact ca
      simp only [Nat.zero_add] at G hg ca'
      obtain ⟨W1, hW1⟩ : ∃ W1, (w.drewN nq).setCell ⟨p, 1, none⟩ (.int .i64 ((a : Int) + 1)) = W1 := ⟨_, rfl⟩
      rw [hW1] at G hg ca' ⊢
      clear hW1 c0 c1 f1 f2 c2 ca HR d1 d2
      rw [show (a : Int) + 1 = (q : Int) by omega]
      have c0 := G.c0
      have c1 := G.c1
      rw [hn] at c0
      rw [hq] at c1
      have HG := Lib.hid G
      have HHG := Lib.hid hg
      have w1 : IntKind.i64.wrap ((q : Int) - 1) = (a : Int) := by rw [IntWalk.i64_in _ (by omega)]; omega
      have w2 : (q : Int) - 1 = (a : Int) := by omega
      clear G hg hq
      go_quiet (fail)
      go_wp2
      go_ret
      exact ⟨rfl, HG.out.drewN _, grown_then HHG.out (below_drewN' (Below.refl _ _) _)⟩

set_option maxRecDepth 10000 in
set_option maxHeartbeats 1000000 in
theorem refBytes_any (most : Int) (h : Ref w p A c xs a bad) :
    Calls Try.prog 75 #[.pointer (some ⟨p, 0, none⟩), .int .i64 most] w fun e w' =>
      ∃ A' c', e = .returned (.slice A' (bytT xs a bad most).1.length c') ∧ Own .u8 5 w' w.heap.size (.slice A' (bytT xs a bad most).1.length c') (bytT xs a bad most).1 ∧
        Ref w' p A c xs (bytT xs a bad most).2.1 (bytT xs a bad most).2.2 ∧ w.grownBy w' (some p) := by
  have HR := Lib.hid h
  have c0 := h.c0
  have c1 := h.c1
  have c2 := h.c2
  have hreach := h.reach
  have hle := h.le
  have hcap := h.own.cap
  have f1 := h.fr (0 + 1)
  have f2 := h.fr (0 + 2)
  obtain ⟨n, hn⟩ : ∃ n, xs.length = n := ⟨_, rfl⟩
  have hsl := slice_from A n c a (by omega)
  obtain ⟨A', hA'⟩ : ∃ A', (if c = a then A else A.map (·.add a)) = A' := ⟨_, rfl⟩
  rw [hA'] at hsl
  have l1 : (0 : Int) ≤ (a : Int) := by omega
  cases bad with
  | true =>
    rw [show bytT xs a true most = ([], a, true) from by simp [bytT, numT]]
    have HT := Lib.hid (take_at h A' hA' n hn _ rfl)
    clear h hA'
    rw [hn] at c0 hle hreach hcap
    clear hn
    go_enter Try.func75, Try.ntmps75
    go_wp2_with fail
    go_quiet ((go_at_call 94; exact HT.out _))
    go_wp2_with fail
    go_quiet (fail)
    go_wp2
    go_ret
    exact ⟨none, 0, rfl, Own.nil _ _ _ _, RdrT.set2 (HR.out.drewN _) true, grown_drewN (setCell_one (w.drewN _) _ _ _)⟩
  | false =>
    rcases bytT_cases (bad := false) most hle with ⟨ht, hb⟩ | ⟨m, s, ht, _, h1, h2, h3, h4, hb⟩
    · rw [hb]
      have HT := Lib.hid (take_at h A' hA' n hn _ ht)
      clear h hA' ht hb
      rw [hn] at c0 hle hreach hcap
      clear hn
      go_enter Try.func75, Try.ntmps75
      go_wp2_with fail
      go_quiet ((go_at_call 94; exact HT.out _))
      go_wp2_with fail
      go_quiet (fail)
      go_wp2
      go_ret
      exact ⟨none, 0, rfl, Own.nil _ _ _ _, RdrT.set2 (HR.out.drewN _) true, grown_drewN (setCell_one (w.drewN _) _ _ _)⟩
    · have HT := Lib.hid (take_at h A' hA' n hn _ ht)
      clear h hA' ht
      rcases hb with ⟨h5, hb⟩ | ⟨h5, h6, hb⟩ | ⟨h5, h6, hb⟩
      · rw [hb]
        rw [hn] at c0 hle hreach hcap h3
        clear hn hb
        go_enter Try.func75, Try.ntmps75
        go_wp2_with fail
        go_quiet ((go_at_call 94; exact HT.out _))
        go_wp2_with fail
        go_quiet (fail)
        go_wp2
        go_ret
        exact ⟨none, 0, rfl, Own.nil _ _ _ _, RdrT.set2 (HR.out.drewN _) true, grown_drewN (setCell_one (w.drewN _) _ _ _)⟩
      · rw [hb]
        rw [hn] at c0 hle hreach hcap h3 h6
        have d1 : decide ((m : Int) > most) = false := by simp; omega
        have d2 : decide (most < (m : Int)) = false := by simp; omega
        have h7 : (n : Int) - (a : Int) - (s : Int) < (m : Int) := by omega
        clear hn hb h6
        go_enter Try.func75, Try.ntmps75
        go_wp2_with fail
        go_quiet ((go_at_call 94; exact HT.out _))
        go_wp2_with fail
        go_quiet (fail)
        go_wp2
        go_ret
        exact ⟨none, 0, rfl, Own.nil _ _ _ _, RdrT.set2 (HR.out.drewN _) true, grown_drewN (setCell_one (w.drewN _) _ _ _)⟩
      · rw [hb]
        have d1 : decide ((m : Int) > most) = false := by simp; omega
        have d2 : decide (most < (m : Int)) = false := by simp; omega
        have d3 : decide ((m : Int) > (n : Int) - (a : Int) - (s : Int)) = false := by simp; omega
        have d4 : decide ((n : Int) - (a : Int) - (s : Int) < (m : Int)) = false := by simp; omega
        obtain ⟨l, hl'⟩ : ∃ l, a + s = l := ⟨_, rfl⟩
        obtain ⟨e, he⟩ : ∃ e, l + m = e := ⟨_, rfl⟩
        have hlen : ((xs.drop l).take m).length = m := by simp; omega
        rw [hl', he, hlen]
        have HLEN := Lib.hid hlen
        have HN := Lib.hid hn
        rw [hn] at c0 hle hreach hcap h3 h6
        clear hn hb hlen
        go_enter Try.func75, Try.ntmps75
        go_wp2_with fail
        go_quiet ((go_at_call 94; exact HT.out _))
        rename Nat => k1
        go_wp2_with fail
        go_quiet (fail)
        go_wp2_with fail
        rw [World.drewN_drewN]
        have G := HR.out.drewN (k1 + nq)
        obtain ⟨W1, hW1⟩ : ∃ W1, w.drewN (k1 + nq) = W1 := ⟨_, rfl⟩
        have HG0 := Lib.hid (show w.grownBy W1 (some p) by rw [← hW1]; exact grown_drewN (World.grownBy.refl _ _))
        rw [hW1] at G ⊢
        have c0' : W1.cell? ⟨p, 0, none⟩ = some (.slice A n c) := by rw [← HN.out]; exact G.c0
        have c1' := G.c1
        have f1' := G.fr (0 + 1)
        have hrd := (G.own.rd.drop l c (by rw [HN.out]; omega) (by rw [HN.out]; exact hcap)).take m
        obtain ⟨B', hB'⟩ : ∃ B', (if c = l then A else A.map (·.add l)) = B' := ⟨_, rfl⟩
        have hsl2 : ∀ W, (Instr.sliceAt 23 (.slice A n c) (some (.int .i64 (l : Nat))) (some (.int .i64 (e : Nat))) none).run Try.prog W = .ok (.slice B' m (c - l)) W := fun W => by
          rw [run_sliceAt_slice _ _ _ _ _ _ Try.underlying23, run_slice_lh (P := Try.prog) W 23 A n c Try.underlying23 .i64 .i64 (l : Int) (e : Int) (by omega) (by omega) (by omega)]
          go_simp
          omega
        rw [hB'] at hrd
        have HRD := Lib.hid hrd
        have HG := Lib.hid G
        have h61 : a + s + m ≤ xs.length := by rw [HN.out]; exact h6
        have w1 : (a : Int) + (s : Int) = (l : Int) := by omega
        have w2 : (l : Int) + (m : Int) = (e : Int) := by omega
        have w3 : IntKind.i64.wrap (l : Int) = (l : Int) := IntWalk.i64_in _ (by omega)
        have w4 : IntKind.i64.wrap (e : Int) = (e : Int) := IntWalk.i64_in _ (by omega)
        have HM := Lib.hid (show m ≤ 140737488355328 by omega)
        have HE := Lib.hid (show a + s + m = e by omega)
        clear hW1 c0 c1 c2 f1 f2 hsl HR HT hrd G hB' d1 d2 d3 d4
        refine still_tail 19 (by kernel_rfl) (by kernel_rfl) ?_
        intro W hW
        rw [show W1.cell? ⟨p, 0, none⟩ = W.cell? ⟨p, 0, none⟩ from by rw [hW]; rfl] at c0'
        rw [show W1.cell? ⟨p, 0 + 1, none⟩ = W.cell? ⟨p, 0 + 1, none⟩ from by rw [hW]; rfl] at c1'
        have HW := Lib.hid hW
        clear hW
        simp only [List.take_succ_cons, List.take_zero, List.drop_succ_cons, List.drop_zero]
        repeat still_step
        refine wpStill_nil ?_
        clear w1 w2 w3 w4
        go_wp2_with (at_builtin; refine wpList_app _ .u8 rfl (.const (.slice none 0 0)) (.tmp 73) 23 rfl 5 (.int .u8 0) 1 Try.underlying23 info_byte rfl W.heap.size (.slice none 0 0) [] rfl (Own.nil _ _ _ _) B' m (c - l) rfl ((xs.drop l).take m) HLEN.out (by rw [HW.out]; exact HRD.out.drew) (by have := HM.out; simp [maxLen]; omega) (by have := HM.out; simp; omega) (Nat.le_refl _) ?_; intro D cd w2 hd hg2; have hb2 : Below W1.heap.size W1 w2 := (show Below W1.heap.size W1 W by rw [HW.out]; exact (Below.refl _ _).drew).trans (grown_below hg2 (by rw [HW.out]; exact Nat.le_refl _) (by simp [Value.ownBlock])); have G2 := HG.out.later hb2; have c1'' := G2.c1; have f1'' := G2.fr (0 + 1); have HG2 := Lib.hid G2; have HB2 := Lib.hid hb2; clear G2 hb2 c1' c0' f1')
        simp only [List.length_nil, Nat.zero_add, List.nil_append] at hd ⊢
        go_ret
        have hgl := grown_then HG0.out HB2.out
        have hs := setCell_one w2 p (0 + 1) (.int .i64 ((a : Int) + ((s : Int) + (m : Int))))
        exact ⟨D, cd, rfl, (Own.rdr hd HG2.out hs).less (by rw [HW.out]; exact HG0.out.size), HG2.out.set1 e (by rw [HN.out]; omega) _ (by omega), hgl.trans hs⟩
end
end Go.Proofs.Ytbjneoeiognahaa

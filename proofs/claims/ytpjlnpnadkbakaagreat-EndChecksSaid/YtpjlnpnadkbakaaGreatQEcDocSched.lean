/-
  DocSched.
-/
import Derived.Test.YtpjlnpnadkbakaaGreatQEcSchedMath
import Derived.Test.YtpjlnpnadkbakaaGreatQEcDocIn
import Derived.Test.YtpjlnpnadkbakaaGreatQEcClamp
import Derived.Deep.QuietTactic
import Derived.BigQuiet
import Derived.Lib.AppendZerosOnto
namespace Go.Proofs.YtpjlnpnadkbakaaGreat
set_option maxRecDepth 10000
open Go.RowKit

abbrev tDSch : TypeId := 198
/-- Two numbers of a struct: the kind, what was picked last. -/
def scF (k l : Int) (i : Nat) : Value := if i = 0 then .int .i64 k else .int .i64 l
/-- Block b, of the type ty, is a Sched of the kind k, that picked l last. -/
def ScA (ty : TypeId) (w : World) (b : Nat) (k l : Int) : Prop := w.rowIs b ty 2 (scF k l)
section
variable {ty : TypeId} {w w' : World} {b : Nat} {k l : Int} {F : Nat → Prop}
theorem ScA.lt (h : ScA ty w b k l) : b < w.heap.size := World.rowIs.lt h
theorem ScA.kept (h : ScA ty w b k l) (ht : Trn w w' F) (hf : ¬ F b) : ScA ty w' b k l := ht.rowIs h hf
theorem ScA.later (h : ScA ty w b k l) (hb : Below w.heap.size w w') : ScA ty w' b k l := World.rowIs.of_block h (hb.block b (World.rowIs.lt h))
theorem ScA.c0 (h : ScA ty w b k l) : w.cell? ⟨b, 0, none⟩ = some (.int .i64 k) := World.rowIs.cell (i := 0) h (by omega)
theorem ScA.c1 (h : ScA ty w b k l) : w.cell? ⟨b, 0 + 1, none⟩ = some (.int .i64 l) := World.rowIs.cell (i := 1) h (by omega)
theorem ScA.fr (h : ScA ty w b k l) (i : Nat) : w.frozen? ⟨b, i, none⟩ = false := World.rowIs.frozen h i
theorem ScA.set1 (h : ScA ty w b k l) (m : Int) : ScA ty (w.setCell ⟨b, 0 + 1, none⟩ (.int .i64 m)) b k m := (World.rowIs.set h (0 + 1) _).congr fun i hi => by
  have : i = 0 ∨ i = 1 := by omega
  rcases this with rfl | rfl <;> simp [scF]
theorem ScA.new (ty : TypeId) (w : World) (k l : Int) : ScA ty (w.alloc (.cells #[.int .i64 k, .int .i64 l] ty)) w.heap.size k l := World.rowIs_alloc w _ _ _ (fun i hi => by
  have : i < 2 := hi
  match i, this with
  | 0, _ | 1, _ => rfl)
end
theorem wrap_atS {n m : Int} (h : n = m) (h1 : -9223372036854775808 ≤ m) (h2 : m ≤ 9223372036854775807) : wrap64 n = m := by subst h; unfold wrap64; omega
theorem info_intS : (Tryz.prog.info? 3).map (fun i => (i.zero, i.size, i.bytes)) = some (some (.int .i64 0), 1, 8) := by kernel_rfl
theorem Rd.newK (q : IntKind) (w : World) (xs : List Int) (t : TypeId) (fr : Nat × Nat) : Rd q (w.alloc (.cells (cel q xs).toArray t fr)) (some ⟨w.heap.size, 0, none⟩) xs := by
  refine .inr ⟨_, _, rfl, fun i hi => ?_⟩
  rw [Nat.zero_add, World.cell?_alloc_mark]
  simp [cel, List.getD, hi]
theorem Own.newK (q : IntKind) (w : World) (xs : List Int) (t : TypeId) (hl : xs.length ≤ maxLen) : Own q t (w.alloc (.cells (cel q xs).toArray t)) w.heap.size (.slice (some ⟨w.heap.size, 0, none⟩) xs.length xs.length) xs := by
  have := World.ownsRow_lit (base := w.heap.size) (e := t) (size := 1) w (cel q xs).toArray xs.length (Nat.le_refl _) hl (by simp [cel])
  simpa [Own, cel] using this

theorem newds_any (k : Int) (w : World) : Calls Tryz.prog 104 #[.int .i64 k] w fun e w' => e = .returned (.pointer (some ⟨w.heap.size, 0, none⟩)) ∧ ScA tDSch w' w.heap.size k (-1) ∧ Below w.heap.size w w' := by
  go_enter Tryz.func104, Tryz.ntmps104
  go_wp2
  go_ret
  exact ⟨rfl, ScA.new _ _ _ _, (Below.refl _ _).alloc (Nat.le_refl _) _⟩

/-- A Pick's answer. -/
def PickEnd (ty : TypeId) (w : World) (b : Nat) (k l : Int) (ms : List Int) (e : Ending) (w' : World) : Prop :=
  ∃ A' c' L l', e = .returned (.slice A' (List.length L) c') ∧ Own .i64 3 w' w.heap.size (.slice A' (List.length L) c') L ∧ IsPick k l ms L l' ∧ ScA ty w' b k l' ∧ SC w w' (fun j => j = b) (fun j => j = b)
section
variable {w : World} {b : Nat} {k l : Int}
/-- The answer of a turn: what was picked is stored, and stands in a row of its own. -/
theorem pick_round {ms : List Int} {wr : World} {N : Nat} {C : List Int} {q : Int} (_ : C.length = N) (hNN : ¬ NoneU ms) (hB : Below w.heap.size w wr) (hS : ScA tDSch wr b 2 l) (_ : True → True) (hF : ∃ p : Nat, q = (p : Int) ∧ RoundP ms l p) :
    PickEnd tDSch w b 2 l ms (.returned (.slice (some ⟨wr.heap.size, 0, none⟩) 1 1)) ((wr.setCell ⟨b, 0 + 1, none⟩ (.int .i64 q)).alloc (.cells #[.int .i64 q] 3)) := by
  obtain ⟨p, rfl, hp⟩ := hF
  have hg := Trn.of_grown (setCell_one wr b (0 + 1) (.int .i64 (p : Int)))
  have hz : (wr.setCell ⟨b, 0 + 1, none⟩ (.int .i64 (p : Int))).heap.size = wr.heap.size := by simp
  have ho := Own.newK .i64 (wr.setCell ⟨b, 0 + 1, none⟩ (.int .i64 (p : Int))) [(p : Int)] 3 (by simp [maxLen])
  rw [hz] at ho
  refine ⟨_, _, [(p : Int)], p, rfl, ho.less hB.size, .inr ⟨hNN, .inr (.inl ⟨rfl, p, hp, rfl, rfl⟩)⟩, (hS.set1 (p : Int)).later ((Below.refl _ _).alloc (Nat.le_refl _) _), ?_⟩
  exact (SC.of_below hB).trans (SC.trans (⟨hg.mono (fun j _ hj => (Option.some.inj hj).symm), fun j hj => .inl hj⟩ : SC wr _ (fun j => j = b) (fun j => j = b)) (SC.of_below ((Below.refl _ _).alloc (Nat.le_refl _) _)))
theorem pick_quick {ms : List Int} {wr : World} {p : Nat} (hNN : ¬ NoneU ms) (hB : Below w.heap.size w wr) (hS : ScA tDSch wr b k l) (h2 : k ≠ 2) (h3 : k ≠ 3) (hF : QuickP ms p) :
    PickEnd tDSch w b k l ms (.returned (.slice (some ⟨wr.heap.size, 0, none⟩) 1 1)) (wr.alloc (.cells #[.int .i64 (p : Int)] 3)) := by
  have ho := Own.newK .i64 wr [(p : Int)] 3 (by simp [maxLen])
  exact ⟨_, _, [(p : Int)], l, rfl, ho.less hB.size, .inr ⟨hNN, .inr (.inr ⟨h2, h3, p, hF, rfl, rfl⟩)⟩, hS.later ((Below.refl _ _).alloc (Nat.le_refl _) _), SC.of_below (hB.alloc hB.size _)⟩
theorem below_drS (w : World) (k : Nat) : Below w.heap.size w (w.drewN k) := ⟨rfl, rfl, rfl, Nat.le_refl _, fun _ _ => rfl⟩
set_option maxHeartbeats 4000000 in
theorem dspick_any (h : ScA tDSch w b k l) (A : Option Addr) (n c : Nat) (ms : List Int) (hm : ms.length = n) (hr : Rd .i64 w A ms) (hn : n ≤ 1048576) :
    Calls Tryz.prog 188 #[.pointer (some ⟨b, 0, none⟩), .slice A n c] w fun e w' => PickEnd tDSch w b k l ms e w' := by
  have HRD := Lib.hid (show ∀ (W : World), Below w.heap.size w W → ∀ i, i < n → ∃ a o, A = some ⟨a, o, none⟩ ∧ W.cell? ⟨a, o + i, none⟩ = some (.int .i64 (ms.getD i 0)) from fun W hw i hi => by
    obtain ⟨a, o, rfl, hc⟩ := (hr.later hw).some_ (by rw [hm]; omega)
    exact ⟨a, o, rfl, hc i (by omega)⟩)
  have H := Lib.hid h
  have HM := Lib.hid (And.intro hm hn)
  have HB0 : Hid (Own .i64 3 w w.heap.size (.slice none 0 0) (canF ms 0) ∧ Below w.heap.size w w) := Lib.hid ⟨Own.nil _ _ _ _, Below.refl _ _⟩
  clear h hm hr hn
  obtain ⟨Q, hQ⟩ : ∃ Q : Ending → World → Prop, (fun e w' => PickEnd tDSch w b k l ms e w') = Q := ⟨_, rfl⟩
  have HQ := Lib.hid (show ∀ e w', PickEnd tDSch w b k l ms e w' → Q e w' from fun e w' hp => by rw [← hQ]; exact hp)
  rw [hQ]
  clear hQ
  go_enter Tryz.func188, Tryz.ntmps188
  go_wp2
  go_loopw [15, 5] (fun iv cv wr => ∃ (i : Nat) (A1 : Option Addr) (c1 : Nat), i ≤ n ∧ iv = .int .i64 i ∧ cv = .slice A1 (canF ms i).length c1 ∧ Hid (Own .i64 3 wr w.heap.size (.slice A1 (canF ms i).length c1) (canF ms i) ∧ Below w.heap.size w wr)) (fun iv _ _ => n - (intOf iv).toNat)
  case atStart => exact ⟨0, none, 0, by omega, rfl, rfl, HB0⟩
  case round =>
    clear HB0
    obtain ⟨i, A1, c1, hi, rfl, rfl, hmid⟩ := hrel
    by_cases hin : i < n
    · obtain ⟨a, o, rfl, y0⟩ := HRD.out wr hmid.out.2 i hin
      obtain ⟨x, hx⟩ : ∃ x, ms.getD i 0 = x := ⟨_, rfl⟩
      rw [hx] at y0
      have HX := Lib.hid hx
      have HI := Lib.hid (And.intro hin (show i ≤ 1048576 by have := HM.out; omega))
      have i1 : (i : Int) < (n : Int) := by omega
      have i2 : (0 : Int) ≤ (i : Int) := by omega
      have HIW := Lib.hid (show wrap64 ((i : Int) + 1) = ((i + 1 : Nat) : Int) from wrap_atS (by omega) (by omega) (by have := HI.out; omega))
      have HL := Lib.hid (canF_len ms i)
      clear hx hi hin
      by_cases hu : x ≥ 0
      · have hcan : canF ms (i + 1) = canF ms i ++ [(i : Int)] := canF_yes (by rw [HX.out]; exact hu)
        obtain ⟨ln, hln⟩ : ∃ ln, (canF ms i).length = ln := ⟨_, rfl⟩
        have ho := hmid.out.1
        rw [hln] at ho ⊢
        obtain ⟨A2, c2, w2, hrun, ho2, hg2, -⟩ := run_append_f (P := Tryz.prog) (wr.alloc (.cells #[.int .i64 (i : Int)] 3)) .i64 49 49 3 (.int .i64 0) 8 Tryz.underlying49 info_intS rfl w.heap.size (.slice A1 ln c1) (canF ms i) (ho.alloc _) (some ⟨wr.heap.size, 0, none⟩) 1 1 [(i : Int)] rfl (Rd.newK .i64 wr [(i : Int)] 3 (0, 0)) (by have := HL.out; have := HI.out; unfold maxLen; omega) (by have := HL.out; have := HI.out; omega) (by have := hmid.out.2.size; simp; omega)
        rw [hln] at hrun ho2
        rw [← hcan] at ho2
        have hlen : (canF ms (i + 1)).length = ln + 1 := by rw [hcan, List.length_append, hln]; rfl
        have HNX : Hid (Own .i64 3 w2 w.heap.size (.slice A2 (canF ms (i + 1)).length c2) (canF ms (i + 1)) ∧ Below w.heap.size w w2) := Lib.hid ⟨by rw [hlen]; exact ho2, (hmid.out.2.alloc hmid.out.2.size _).trans ((Trn.of_grown hg2).below (by have := hmid.out.2.size; simp; omega) (fun g hg => (ho.lt g hg).1))⟩
        have HLN := Lib.hid hlen
        clear hcan hln ho ho2 hg2 hlen hmid HL
        go_wp2_with (at_builtin; refine Lib.wpList_append_run _ rfl _ _ _ _ rfl _ _ rfl rfl _ _ hrun ?_)
        clear hrun
        go_roundw
        case rel => exact ⟨i + 1, A2, c2, by have := HI.out; omega, by first | rfl | (rw [HIW.out]) | go_num, by rw [HLN.out], HNX⟩
        case measure => (try rw [HIW.out]); have := HI.out; simp [intOf]; omega
      · have hcan : canF ms (i + 1) = canF ms i := canF_no (by rw [HX.out]; omega)
        have HNX : Hid (Own .i64 3 wr w.heap.size (.slice A1 (canF ms (i + 1)).length c1) (canF ms (i + 1)) ∧ Below w.heap.size w wr) := Lib.hid (by rw [hcan]; exact hmid.out)
        have HLN := Lib.hid (show (canF ms (i + 1)).length = (canF ms i).length by rw [hcan])
        clear hcan hmid HL
        go_wp2
        go_roundw
        case rel => exact ⟨i + 1, A1, c1, by have := HI.out; omega, by first | rfl | (rw [HIW.out]) | go_num, by rw [HLN.out], HNX⟩
        case measure => (try rw [HIW.out]); have := HI.out; simp [intOf]; omega
    · have : i = n := by omega
      subst this
      have hcm : canF ms i = can ms := by unfold can; rw [HM.out.1]
      rw [hcm] at hmid ⊢
      obtain ⟨C, hC⟩ : ∃ C, can ms = C := ⟨_, rfl⟩
      rw [hC] at hmid ⊢
      have HC := Lib.hid hC
      have j1 : ¬ ((i : Int) < (i : Int)) := by omega
      obtain ⟨N, hN⟩ : ∃ N, C.length = N := ⟨_, rfl⟩
      rw [hN] at hmid ⊢
      have HN := Lib.hid hN
      have HNB := Lib.hid (show N ≤ 1048576 by rw [← HN.out, ← HC.out]; have := canF_len ms ms.length; have := HM.out; unfold can; omega)
      have hS := H.out.later hmid.out.2
      have c0 := hS.c0
      have HS := Lib.hid hS
      have HO := Lib.hid hmid.out.1
      have HB := Lib.hid hmid.out.2
      clear hcm hC hN hS hmid hi hin
      by_cases hN0 : N = 0
      · have HFIN := Lib.hid (show PickEnd tDSch w b k l ms (.returned (.slice A1 N c1)) wr from ⟨A1, c1, C, l, by rw [HN.out], by rw [HN.out]; exact HO.out, .inl ⟨can_none.2 (HC.out.trans (List.eq_nil_of_length_eq_zero (HN.out.trans hN0))), List.eq_nil_of_length_eq_zero (HN.out.trans hN0), rfl⟩, HS.out, SC.of_below HB.out⟩)
        subst hN0
        clear c0
        go_wp2
        exact HQ.out _ _ HFIN.out
      · have hN1 : ((N : Int) == 0) = false := by rw [beq_eq_false_iff_ne]; omega
        have hNN : ¬ NoneU ms := fun x => hN0 (by rw [← HN.out, ← HC.out, can_none.1 x]; rfl)
        by_cases hk3 : k = 3
        · have HFIN := Lib.hid (show PickEnd tDSch w b k l ms (.returned (.slice A1 N c1)) wr from ⟨A1, c1, C, l, by rw [HN.out], by rw [HN.out]; exact HO.out, .inr ⟨hNN, .inl ⟨hk3, HC.out.symm, rfl⟩⟩, HS.out, SC.of_below HB.out⟩)
          subst hk3
          clear hNN
          go_wp2
          exact HQ.out _ _ HFIN.out
        · obtain ⟨g, rfl, hg0, hg1, -, hcell, -⟩ := HO.out.block (by omega)
          have HCELL := Lib.hid (show ∀ j, j < N → wr.cell? ⟨g, j, none⟩ = some (.int .i64 (C.getD j 0)) from hcell)
          have HAT := Lib.hid (show ∀ j, j < N → ∃ p : Nat, C.getD j 0 = (p : Int) ∧ p < i ∧ 0 ≤ ms.getD p 0 from fun j hj => by
            rw [← HC.out]
            obtain ⟨p, h1, h2, h3⟩ := canF_at (ms := ms) (i := ms.length) (j := j) (by have := HN.out; rw [← HC.out] at this; unfold can at this; omega)
            exact ⟨p, h1, by rw [HM.out.1] at h2; exact h2, h3⟩)
          have HNU := Lib.hid hNN
          have y0 := hcell 0 (by omega)
          have HNP := Lib.hid (show 0 < N by omega)
          obtain ⟨p0, hp0⟩ : ∃ p, C.getD 0 0 = p := ⟨_, rfl⟩
          rw [hp0] at y0
          have HP0 := Lib.hid hp0
          have n0 : (0 : Int) < (N : Int) := by omega
          clear hcell hNN hp0 hN0 HO
          have hk3b : (k == 3) = false := by rw [beq_eq_false_iff_ne]; exact hk3
          have HK3 := Lib.hid hk3
          clear hk3
          by_cases hk2 : k = 2
          · subst hk2
            clear hk3b
            go_wp2_with fail
            go_loopw [48, 8] (fun jv bv wx => ∃ j : Nat, j ≤ N ∧ jv = .int .i64 j ∧ bv = .int .i64 p0 ∧ wr = wx ∧ Hid (∀ q, q < j → C.getD q 0 ≤ l)) (fun jv _ _ => N - (intOf jv).toNat)
            case atStart => exact ⟨0, by omega, rfl, rfl, rfl, Lib.hid (fun q hq => by omega)⟩
            case round =>
              obtain ⟨j, hj, rfl, rfl, rfl, hall⟩ := hrel
              by_cases hjN : j < N
              · have y1 := HCELL.out j hjN
                have c1 := HS.out.c1
                have f1 := HS.out.fr (0 + 1)
                obtain ⟨q, hq⟩ : ∃ q, C.getD j 0 = q := ⟨_, rfl⟩
                rw [hq] at y1
                have HQQ := Lib.hid hq
                have HJ := Lib.hid hjN
                have i1 : (j : Int) < (N : Int) := by omega
                have i2 : (0 : Int) ≤ (j : Int) := by omega
                have hNm := HAT.out j hjN
                have HJW := Lib.hid (show wrap64 ((j : Int) + 1) = ((j + 1 : Nat) : Int) from wrap_atS (by omega) (by omega) (by have := HNB.out; omega))
                clear hq hj hjN hNm
                by_cases hgt : q > l
                · have HF : Hid (∃ p : Nat, q = (p : Int) ∧ RoundP ms l p) := Lib.hid (by
                    have := round_found (ms := ms) (l := l) (j := j) (by rw [HC.out, HN.out]; exact HJ.out) (by rw [HC.out]; exact hall.out) (by rw [HC.out, HQQ.out]; exact hgt)
                    rw [HC.out, HQQ.out] at this
                    exact this)
                  have hs1 := ScA.set1 HS.out q
                  have HFIN := Lib.hid (pick_round HN.out HNU.out HB.out HS.out (fun x => x) HF.out)
                  clear hs1
                  go_wp2
                  exact HQ.out _ _ HFIN.out
                · have HNX : Hid (∀ r, r < j + 1 → C.getD r 0 ≤ l) := Lib.hid (fun r hr => by
                    by_cases e : r = j
                    · rw [e, HQQ.out]; omega
                    · exact hall.out r (by omega))
                  clear hall
                  go_wp2
                  go_roundw
                  case rel => exact ⟨j + 1, by have := HJ.out; omega, by first | rfl | (rw [HJW.out]) | go_num, by first | rfl | trivial, by first | rfl | trivial, HNX⟩
                  case measure => (try rw [HJW.out]); have := HJ.out; simp [intOf]; omega
              · have : j = N := by omega
                subst this
                have HF : Hid (∃ p : Nat, p0 = (p : Int) ∧ RoundP ms l p) := Lib.hid (by
                  have := round_wrap (ms := ms) (l := l) (by rw [HC.out, HN.out]; exact HNP.out) (by rw [HC.out, HN.out]; exact hall.out)
                  rw [HC.out, HP0.out] at this
                  exact this)
                have HFIN := Lib.hid (pick_round HN.out HNU.out HB.out HS.out (fun x => x) HF.out)
                have c1 := HS.out.c1
                have f1 := HS.out.fr (0 + 1)
                have i1 : ¬ ((j : Int) < (j : Int)) := by omega
                clear hj hjN hall
                go_wp2
                exact HQ.out _ _ HFIN.out
          · have hk2b : (k == 2) = false := by rw [beq_eq_false_iff_ne]; exact hk2
            have HK2 := Lib.hid hk2
            clear hk2
            obtain ⟨z0, hz0, hz1, hz2⟩ := HAT.out 0 HNP.out
            obtain ⟨a, o, rfl, -⟩ := HRD.out wr HB.out z0 hz1
            have HMS := Lib.hid (show ∀ (W : World), Below w.heap.size w W → ∀ p, p < i → W.cell? ⟨a, o + p, none⟩ = some (.int .i64 (ms.getD p 0)) from fun W hW p hp => by
              obtain ⟨a9, o9, hA9, y9⟩ := HRD.out W hW p hp
              obtain ⟨rfl, rfl⟩ : a = a9 ∧ o = o9 := by injection hA9 with hA9; injection hA9 with h1 h2; exact ⟨h1, h2⟩
              exact y9)
            clear hz0 hz1 hz2 HRD
            go_wp2_with fail
            go_loopw [68, 8] (fun jv bv wx => ∃ j B : Nat, j ≤ N ∧ B ≤ j ∧ B < N ∧ jv = .int .i64 j ∧ bv = .int .i64 (C.getD B 0) ∧ Hid (∀ r, r < j → ms.getD (C.getD B 0).toNat 0 ≤ ms.getD (C.getD r 0).toNat 0 ∧ (r < B → ms.getD (C.getD B 0).toNat 0 < ms.getD (C.getD r 0).toNat 0)) ∧ Hid (∃ q, wx = wr.drewN q)) (fun jv _ _ => N - (intOf jv).toNat)
            case atStart => exact ⟨0, 0, by omega, by omega, HNP.out, rfl, by rw [HP0.out], Lib.hid (fun r hr => by omega), Lib.hid ⟨0, rfl⟩⟩
            case round =>
              obtain ⟨j, B, hj, hBj, hBN, rfl, rfl, hall, hwd⟩ := hrel
              obtain ⟨q, rfl⟩ := hwd.out
              clear hwd
              have HBQ := Lib.hid (show Below w.heap.size w (wr.drewN q) from HB.out.trans ((below_drS wr q).mono HB.out.size))
              obtain ⟨pb, hpb, pb1, pb2⟩ := HAT.out B hBN
              rw [hpb] at hall ⊢
              have HBI := Lib.hid (And.intro hBj hBN)
              have HPB := Lib.hid (And.intro hpb pb1)
              by_cases hjN : j < N
              · obtain ⟨pj, hpj, pj1, pj2⟩ := HAT.out j hjN
                have y1 : (wr.drewN q).cell? ⟨g, j, none⟩ = some (.int .i64 (C.getD j 0)) := HCELL.out j hjN
                rw [hpj] at y1
                have y2 := HMS.out (wr.drewN q) HBQ.out pj pj1
                have y3 := HMS.out (wr.drewN q) HBQ.out pb pb1
                obtain ⟨mj, hmj⟩ : ∃ m, ms.getD pj 0 = m := ⟨_, rfl⟩
                obtain ⟨mb, hmb⟩ : ∃ m, ms.getD pb 0 = m := ⟨_, rfl⟩
                rw [hmj] at y2
                rw [hmb] at y3
                have HMJ := Lib.hid (show ms.getD (C.getD j 0).toNat 0 = mj by rw [hpj, Int.toNat_natCast]; exact hmj)
                have HMB := Lib.hid (show ms.getD ((pb : Int)).toNat 0 = mb by rw [Int.toNat_natCast]; exact hmb)
                have HPJ := Lib.hid hpj
                have HJ := Lib.hid hjN
                have i1 : (j : Int) < (N : Int) := by omega
                have i2 : (0 : Int) ≤ (j : Int) := by omega
                have p1 : (pj : Int) < (i : Int) := by omega
                have p2 : (0 : Int) ≤ (pj : Int) := by omega
                have p3 : (pb : Int) < (i : Int) := by omega
                have p4 : (0 : Int) ≤ (pb : Int) := by omega
                have HJW := Lib.hid (show wrap64 ((j : Int) + 1) = ((j + 1 : Nat) : Int) from wrap_atS (by omega) (by omega) (by have := HNB.out; omega))
                obtain ⟨WQ, hWQ⟩ : ∃ WQ, wr.drewN q = WQ := ⟨_, rfl⟩
                have HWQ := Lib.hid hWQ
                rw [hWQ] at y1 y2 y3 ⊢
                clear hWQ hj hBj hBN hpb pb1 pb2 hjN hpj pj1 pj2 hmj hmb HBQ
                by_cases hlt : mj < mb
                · have HNX : Hid (∀ r, r < j + 1 → ms.getD (C.getD j 0).toNat 0 ≤ ms.getD (C.getD r 0).toNat 0 ∧ (r < j → ms.getD (C.getD j 0).toNat 0 < ms.getD (C.getD r 0).toNat 0)) := Lib.hid (fun r hr => by
                    by_cases e : r = j
                    · subst e; exact ⟨Int.le_refl _, fun x => by omega⟩
                    · have := hall.out r (by omega)
                      rw [HMB.out] at this
                      rw [HMJ.out]
                      exact ⟨by omega, fun _ => by omega⟩)
                  clear hall
                  go_wp2_with fail
                  go_quiet (fail)
                  go_wp2
                  go_roundw
                  case rel => exact ⟨j + 1, j, by have := HJ.out; omega, by omega, HJ.out, by first | rfl | (rw [HJW.out]) | go_num, by rw [HPJ.out], HNX, Lib.hid ⟨_, by rw [← HWQ.out]; exact World.drewN_drewN _ _ _⟩⟩
                  case measure => (try rw [HJW.out]); have := HJ.out; simp [intOf]; omega
                · have HNX : Hid (∀ r, r < j + 1 → ms.getD (C.getD B 0).toNat 0 ≤ ms.getD (C.getD r 0).toNat 0 ∧ (r < B → ms.getD (C.getD B 0).toNat 0 < ms.getD (C.getD r 0).toNat 0)) := Lib.hid (fun r hr => by
                    rw [HPB.out.1]
                    by_cases e : r = j
                    · subst e; rw [HMB.out, HMJ.out]; exact ⟨by omega, fun x => by have := HBI.out; omega⟩
                    · exact hall.out r (by omega))
                  clear hall
                  go_wp2_with fail
                  go_quiet (fail)
                  go_wp2
                  go_roundw
                  case rel => exact ⟨j + 1, B, by have := HJ.out; omega, by have := HBI.out; omega, HBI.out.2, by first | rfl | (rw [HJW.out]) | go_num, by rw [HPB.out.1], HNX, Lib.hid ⟨_, by rw [← HWQ.out]; exact World.drewN_drewN _ _ _⟩⟩
                  case measure => (try rw [HJW.out]); have := HJ.out; simp [intOf]; omega
              · have : j = N := by omega
                subst this
                have HF : Hid (QuickP ms pb) := Lib.hid (by
                  have := quick_best (ms := ms) (B := B) (by rw [HC.out, HN.out]; exact HBI.out.2) (by
                    rw [HC.out, HN.out, HPB.out.1]
                    exact hall.out)
                  rw [HC.out, HPB.out.1] at this
                  obtain ⟨c9, e9, h9⟩ := this
                  have : pb = c9 := by omega
                  subst this
                  exact h9)
                have hSQ : ScA tDSch (wr.drewN q) b k l := HS.out
                have HFIN := Lib.hid (pick_quick HNU.out HBQ.out hSQ HK2.out HK3.out HF.out)
                have i1 : ¬ ((j : Int) < (j : Int)) := by omega
                obtain ⟨WQ, hWQ⟩ : ∃ WQ, wr.drewN q = WQ := ⟨_, rfl⟩
                rw [hWQ] at HFIN ⊢
                clear hj hBj hBN hall hSQ hpb pb1 pb2 HBQ hWQ
                go_wp2
                exact HQ.out _ _ HFIN.out
end
end Go.Proofs.YtpjlnpnadkbakaaGreat

/-
  What package span's New, Number, Bytes, Byte, At, Left, Bad make of a Reader: contracts over the program.
-/
import Derived.Test.YtbjneoeiognahaaVintTake
import Derived.Test.YtbjneoeiognahaaBase
import Derived.Deep.QuietTactic
import Derived.Deep.OwnRows
import Derived.BigQuiet
import Derived.IntWalk
namespace Go.Proofs.Ytbjneoeiognahaa
open Go.RowKit

/-- Block p is a span.Reader of the bytes xs, at the place a. -/
abbrev Rdr := RdrT 115

section
variable {w : World} {p : Nat} {A : Option Addr} {c : Nat} {xs : List Int} {a : Nat} {bad : Bool}
set_option maxRecDepth 10000 in
theorem at_any (h : Rdr w p A c xs a bad) :
    Calls Try.prog 72 #[.pointer (some ⟨p, 0, none⟩)] w fun e w' => e = .returned (.int .i64 (a : Nat)) ∧ w = w' := by
  have c1 := h.c1
  clear h
  go_enter Try.func72, Try.ntmps72
  go_wp2
  go_ret
  exact ⟨rfl, rfl⟩
set_option maxRecDepth 10000 in
theorem bad_any (h : Rdr w p A c xs a bad) :
    Calls Try.prog 92 #[.pointer (some ⟨p, 0, none⟩)] w fun e w' => e = .returned (.bool bad) ∧ w = w' := by
  have c1 := h.c2
  clear h
  go_enter Try.func92, Try.ntmps92
  go_wp2
  go_ret
  exact ⟨rfl, rfl⟩
set_option maxRecDepth 10000 in
theorem left_any (h : Rdr w p A c xs a bad) :
    Calls Try.prog 71 #[.pointer (some ⟨p, 0, none⟩)] w fun e w' => e = .returned (.int .i64 ((xs.length - a : Nat) : Int)) ∧ ∃ k, w' = w.drewN k := by
  have c0 := h.c0
  have c1 := h.c1
  have hle := h.le
  have hr := h.reach
  have hs : ((xs.length - a : Nat) : Int) = (xs.length : Int) - (a : Int) := by omega
  rw [hs]
  obtain ⟨n, hn⟩ : ∃ n, xs.length = n := ⟨_, rfl⟩
  rw [hn] at c0 hle hr ⊢
  clear h hs hn
  go_enter Try.func71, Try.ntmps71
  go_wp2_with fail
  go_quiet (fail)
  go_wp2
  go_ret
  exact ⟨rfl, _, rfl⟩

set_option maxRecDepth 10000 in
theorem number_any (h : Rdr w p A c xs a bad) :
    Calls Try.prog 99 #[.pointer (some ⟨p, 0, none⟩)] w fun e w' =>
      e = .returned (.tuple #[.int .i64 (numT xs a bad).1, .int .i64 (numT xs a bad).2.1, .bool (numT xs a bad).2.2]) ∧ ∃ k, w' = w.drewN k := by
  have c0 := h.c0
  have c1 := h.c1
  have c2 := h.c2
  have hle := h.le
  cases bad with
  | true =>
    clear h
    go_enter Try.func99, Try.ntmps99
    go_wp2
    go_ret3
    exact ⟨rfl, 0, rfl⟩
  | false =>
    have hcap := h.own.cap
    have hrd := h.own.rd.drop a c hle hcap
    have hb : ∀ x ∈ xs.drop a, 0 ≤ x ∧ x < 256 := fun x hx => h.bytes x (List.mem_of_mem_drop hx)
    have hl : (xs.drop a).length = xs.length - a := by simp
    have HRD := Lib.hid hrd
    have HB := Lib.hid hb
    have HL := Lib.hid hl
    have hreach := h.reach
    obtain ⟨n, hn⟩ : ∃ n, xs.length = n := ⟨_, rfl⟩
    rw [hn] at c0 hle hcap HL hreach
    have HT := Lib.hid (show numT xs a false = takeV (xs.drop a) from rfl)
    clear h hn hrd hb hl
    have l1 : (0 : Int) ≤ (a : Int) := by omega
    have l2 : (a : Int) ≤ (n : Int) := by omega
    have l3 : (n : Int) ≤ (c : Int) := by omega
    by_cases e : c = a
    · have he : (c = a) = True := by simp [e]
      rw [if_pos e] at HRD
      subst e
      have hnc : n = c := by omega
      subst hnc
      have hz : n - n = 0 := by omega
      rw [hz] at HL
      go_enter Try.func99, Try.ntmps99
      go_wp2_with fail
      go_quiet ((go_at_call 119; exact quiet_eq (take_any A 0 0 (xs.drop n) _ HL.out (Nat.le_refl _) (HRD.out.drewN _) HB.out)))
      go_wp2
      go_ret3
      rw [HT.out]
      exact ⟨rfl, _, rfl⟩
    · have he : (c = a) = False := by simp [e]
      rw [if_neg e] at HRD
      go_enter Try.func99, Try.ntmps99
      go_wp2_with fail
      go_quiet ((go_at_call 119; exact quiet_eq (take_any (Option.map (fun x => x.add a) A) (n - a) (c - a) (xs.drop a) _ HL.out (by omega) (HRD.out.drewN _) HB.out)))
      go_wp2
      go_ret3
      rw [HT.out]
      exact ⟨rfl, _, rfl⟩

set_option maxRecDepth 10000 in
set_option maxHeartbeats 400000 in
theorem numberX_any (h : Rdr w p A c xs a bad) :
    Calls Try.prog 90 #[.pointer (some ⟨p, 0, none⟩)] w fun e w' =>
      e = .returned (.int .i64 (numT xs a bad).1) ∧ Rdr w' p A c xs (a + (numT xs a bad).2.1.toNat) (!(numT xs a bad).2.2) ∧ w.grownBy w' (some p) := by
  have hn := number_any h
  have HR := Lib.hid h
  have hreach := h.reach
  rcases numT_cases (bad := bad) h.le with ht | ⟨n, s, ht, rfl, h1, h2, h3, h4⟩
  · rw [ht] at hn ⊢
    have HN := Lib.hid hn
    clear hn ht h
    go_enter Try.func90, Try.ntmps90
    go_wp2_with fail
    refine HN.out.mono ?_
    rintro e w' ⟨rfl, k, rfl⟩
    have f2 := (HR.out.drewN k).fr (0 + 2)
    have c2 := (HR.out.drewN k).c2
    have G := Lib.hid ((HR.out.drewN k).set2 true)
    go_wp2
    go_ret
    exact ⟨rfl, G.out, grown_drewN (setCell_one (w.drewN k) _ _ _)⟩
  · rw [ht] at hn ⊢
    have HN := Lib.hid hn
    clear hn ht h
    go_enter Try.func90, Try.ntmps90
    go_wp2_with fail
    refine HN.out.mono ?_
    rintro e w' ⟨rfl, k, rfl⟩
    have f2 := (HR.out.drewN k).fr (0 + 1)
    have c2 := (HR.out.drewN k).c1
    have G := Lib.hid ((HR.out.drewN k).set1 (a + s) h3 ((a : Int) + (s : Int)) (by omega))
    go_wp2
    go_ret
    rw [Int.toNat_natCast]
    exact ⟨rfl, G.out, grown_drewN (setCell_one (w.drewN k) _ _ _)⟩

set_option maxRecDepth 10000 in
set_option maxHeartbeats 400000 in
theorem byteX_any (h : Rdr w p A c xs a bad) :
    Calls Try.prog 88 #[.pointer (some ⟨p, 0, none⟩)] w fun e w' =>
      e = .returned (.int .u8 (oneT xs a bad).1) ∧ Rdr w' p A c xs (oneT xs a bad).2.1 (oneT xs a bad).2.2 ∧ w.grownBy w' (some p) := by
  have HR := Lib.hid h
  have hreach := h.reach
  have hle := h.le
  have c2 := h.c2
  unfold oneT
  cases bad with
  | true =>
    rw [if_pos (.inl rfl)]
    have f2 := h.fr (0 + 2)
    have G := Lib.hid (HR.out.set2 true)
    clear h
    go_enter Try.func88, Try.ntmps88
    go_wp2
    go_ret
    exact ⟨rfl, G.out, setCell_one _ _ _ _⟩
  | false =>
    have hl := left_any h
    by_cases h0 : xs.length - a = 0
    · rw [if_pos (.inr h0)]
      rw [h0] at hl
      have HL := Lib.hid hl
      clear h hl h0
      go_enter Try.func88, Try.ntmps88
      go_wp2_with fail
      refine HL.out.mono ?_
      rintro e w' ⟨rfl, k, rfl⟩
      have f2 := (HR.out.drewN k).fr (0 + 2)
      have c2' := (HR.out.drewN k).c2
      have G := Lib.hid ((HR.out.drewN k).set2 true)
      go_wp2
      go_ret
      exact ⟨rfl, G.out, grown_drewN (setCell_one (w.drewN k) _ _ _)⟩
    · rw [if_neg (by simp; omega)]
      obtain ⟨g, hA, _, _, _, hcell, _⟩ := h.own.block (by omega)
      subst hA
      have ca := hcell a (by omega)
      clear hcell
      obtain ⟨x, hx⟩ : ∃ x, xs.getD a 0 = x := ⟨_, rfl⟩
      rw [hx] at ca ⊢
      have c0 := h.c0
      have c1 := h.c1
      have hne : (((xs.length - a : Nat) : Int) == 0) = false := by rw [beq_eq_false_iff_ne]; omega
      have l1 : (0 : Int) ≤ (a : Int) := by omega
      have l2 : (a : Int) < (xs.length : Int) := by omega
      obtain ⟨n, hn⟩ : ∃ n, xs.length = n := ⟨_, rfl⟩
      rw [hn] at l2 c0 hle hreach hne h0 hl
      have HL := Lib.hid hl
      clear h hl hx
      go_enter Try.func88, Try.ntmps88
      go_wp2_with fail
      refine HL.out.mono ?_
      rintro e w' ⟨rfl, k, rfl⟩
      go_wp2_with fail
      go_quiet (fail)
      have f1 := HR.out.fr (0 + 1)
      go_wp2
      go_ret
      exact ⟨rfl, (HR.out.drewN (k + nq)).set1 (a + 1) (by omega) ((a : Int) + 1) (by omega), grown_drewN (setCell_one (w.drewN (k + nq)) _ _ _)⟩

set_option maxRecDepth 10000 in
set_option maxHeartbeats 400000 in
theorem bytesX_any (most : Int) (h : Rdr w p A c xs a bad) :
    Calls Try.prog 89 #[.pointer (some ⟨p, 0, none⟩), .int .i64 most] w fun e w' =>
      ∃ A' c', e = .returned (.slice A' (bytT xs a bad most).1.length c') ∧ Own .u8 5 w' w.heap.size (.slice A' (bytT xs a bad most).1.length c') (bytT xs a bad most).1 ∧
        Rdr w' p A c xs (bytT xs a bad most).2.1 (bytT xs a bad most).2.2 ∧ w.grownBy w' (some p) := by
  have hn := number_any h
  have hl := left_any h
  have HR := Lib.hid h
  have hreach := h.reach
  have hle := h.le
  rcases bytT_cases (bad := bad) most hle with ⟨ht, hb⟩ | ⟨n, s, ht, rfl, h1, h2, h3, h4, hb⟩
  · rw [ht] at hn
    rw [hb]
    have HN := Lib.hid hn
    clear hn hl ht hb h
    go_enter Try.func89, Try.ntmps89
    go_wp2_with fail
    refine HN.out.mono ?_
    rintro e w' ⟨rfl, k, rfl⟩
    have f2 := (HR.out.drewN k).fr (0 + 2)
    have c2 := (HR.out.drewN k).c2
    have G := Lib.hid ((HR.out.drewN k).set2 true)
    go_wp2
    go_ret
    exact ⟨none, 0, rfl, Own.nil _ _ _ _, G.out, grown_drewN (setCell_one (w.drewN k) _ _ _)⟩
  · rw [ht] at hn
    rcases hb with ⟨h5, hb⟩ | ⟨h5, h6, hb⟩ | ⟨h5, h6, hb⟩
    · rw [hb]
      have HN := Lib.hid hn
      clear hn hl ht hb h
      go_enter Try.func89, Try.ntmps89
      go_wp2_with fail
      refine HN.out.mono ?_
      rintro e w' ⟨rfl, k, rfl⟩
      have f2 := (HR.out.drewN k).fr (0 + 2)
      have c2 := (HR.out.drewN k).c2
      have G := Lib.hid ((HR.out.drewN k).set2 true)
      go_wp2
      go_ret
      exact ⟨none, 0, rfl, Own.nil _ _ _ _, G.out, grown_drewN (setCell_one (w.drewN k) _ _ _)⟩
    · rw [hb]
      have HN := Lib.hid hn
      have d1 : decide ((n : Int) > most) = false := by simp; omega
      have d2 : decide (most < (n : Int)) = false := by simp; omega
      obtain ⟨q, hq⟩ : ∃ q, xs.length - a = q := ⟨_, rfl⟩
      have hqb : q ≤ 140737488355328 := by omega
      rw [hq] at h6
      have HQ := Lib.hid hq
      clear hn hl ht hb h hq
      go_enter Try.func89, Try.ntmps89
      go_wp2_with fail
      refine HN.out.mono ?_
      rintro e w' ⟨rfl, k, rfl⟩
      go_wp2_with fail
      refine (left_any (HR.out.drewN k)).mono ?_
      rw [HQ.out]
      rintro e w' ⟨rfl, k2, rfl⟩
      rw [World.drewN_drewN]
      have f2 := (HR.out.drewN (k + k2)).fr (0 + 2)
      have c2 := (HR.out.drewN (k + k2)).c2
      have G := Lib.hid ((HR.out.drewN (k + k2)).set2 true)
      go_wp2
      go_ret
      exact ⟨none, 0, rfl, Own.nil _ _ _ _, G.out, grown_drewN (setCell_one (w.drewN (k + k2)) _ _ _)⟩
    · rw [hb]
      have HN := Lib.hid hn
      obtain ⟨l, hl'⟩ : ∃ l, a + s = l := ⟨_, rfl⟩
      obtain ⟨m, hm⟩ : ∃ m, l + n = m := ⟨_, rfl⟩
      have hlen : ((xs.drop l).take n).length = n := by simp; omega
      rw [hl', hm, hlen]
      have d1 : decide ((n : Int) > most) = false := by simp; omega
      have d2 : decide (most < (n : Int)) = false := by simp; omega
      obtain ⟨q, hq⟩ : ∃ q, xs.length - a = q := ⟨_, rfl⟩
      have hqb : q ≤ 140737488355328 := by omega
      have d3 : decide ((n : Int) > (q : Int) - (s : Int)) = false := by simp; omega
      have d4 : decide ((q : Int) - (s : Int) < (n : Int)) = false := by simp; omega
      have HQ := Lib.hid hq
      clear hn hl ht hb h hq
      go_enter Try.func89, Try.ntmps89
      go_wp2_with fail
      refine HN.out.mono ?_
      rintro e w' ⟨rfl, k, rfl⟩
      go_wp2_with fail
      refine (left_any (HR.out.drewN k)).mono ?_
      rw [HQ.out]
      rintro e w' ⟨rfl, k2, rfl⟩
      rw [World.drewN_drewN]
      have f1 := (HR.out.drewN (k + k2)).fr (0 + 1)
      have c1 := (HR.out.drewN (k + k2)).c1
      go_wp2_with fail
      have G := (HR.out.drewN (k + k2)).set1 (a + s + n) h6 ((a : Int) + (s : Int) + (n : Int)) (by omega)
      have hg := grown_drewN (setCell_one (w.drewN (k + k2)) p (0 + 1) (.int .i64 ((a : Int) + (s : Int) + (n : Int))))
      simp only [Nat.zero_add] at G hg
      obtain ⟨W1, hW1⟩ : ∃ W1, (w.drewN (k + k2)).setCell ⟨p, 1, none⟩ (.int .i64 ((a : Int) + (s : Int) + (n : Int))) = W1 := ⟨_, rfl⟩
      rw [hW1] at G hg ⊢
      clear hW1
      rw [hl', hm] at G h6
      rw [show (a : Int) + (s : Int) = (l : Int) by omega, show (l : Int) + (n : Int) = (m : Int) by omega]
      have hcap := G.own.cap
      have hrd := (G.own.rd.drop l c (by omega) hcap).take n
      have HG := Lib.hid G
      have HHG := Lib.hid hg
      have HLEN := Lib.hid hlen
      have HRD := Lib.hid hrd
      have hnone := Lib.hid (fun hA : A = none => G.own.none_len hA)
      clear c1 f1 HN HR d1 d2 d3 d4 HQ hle h1 h2 h3 h4 h5 hl' G hg hlen hrd
      have hmn := Lib.hid (show m - l = n by omega)
      obtain ⟨N, hN⟩ : ∃ N, xs.length = N := ⟨_, rfl⟩
      rw [hN] at hreach h6 hcap hnone
      have HNN := Lib.hid hN
      clear hN
      have j1 : (0 : Int) ≤ (l : Int) := by omega
      have j2 : (l : Int) ≤ (m : Int) := by omega
      have j3 : (m : Int) ≤ (c : Int) := by omega
      by_cases e : c = l
      · have he : (c = l) = True := by simp [e]
        rw [if_pos e] at HRD
        subst e
        refine still_tail 10 (by kernel_rfl) (by kernel_rfl) ?_
        intro W hW
        have c0 := HG.out.c0
        have c1 := HG.out.c1
        rw [HNN.out, show W1.cell? ⟨p, 0, none⟩ = W.cell? ⟨p, 0, none⟩ from by rw [hW]; rfl] at c0
        rw [show W1.cell? ⟨p, 0 + 1, none⟩ = W.cell? ⟨p, 0 + 1, none⟩ from by rw [hW]; rfl] at c1
        have HW := Lib.hid hW
        clear hW
        simp only [List.take_succ_cons, List.take_zero, List.drop_succ_cons, List.drop_zero]
        repeat still_step
        refine wpStill_nil ?_
        go_wp2_with fail
        refine (clone_any A (m - c) 0 ((xs.drop c).take n) W (by rw [HLEN.out, hmn.out]) (by rw [HW.out]; exact HRD.out.drew) (by omega) (fun _ => by omega)).mono ?_
        rw [hmn.out]
        rintro e' w' ⟨A', c', rfl, ho, hb⟩
        rw [HW.out] at ho hb
        have hb' : Below W1.heap.size W1 w' := ⟨hb.os, hb.tape, hb.output, hb.size, hb.block⟩
        go_wp2
        go_ret
        exact ⟨A', c', rfl, ho.less HHG.out.size, HG.out.later hb', grown_then HHG.out hb'⟩
      · have he : (c = l) = False := by simp [e]
        rw [if_neg e] at HRD
        refine still_tail 10 (by kernel_rfl) (by kernel_rfl) ?_
        intro W hW
        have c0 := HG.out.c0
        have c1 := HG.out.c1
        rw [HNN.out, show W1.cell? ⟨p, 0, none⟩ = W.cell? ⟨p, 0, none⟩ from by rw [hW]; rfl] at c0
        rw [show W1.cell? ⟨p, 0 + 1, none⟩ = W.cell? ⟨p, 0 + 1, none⟩ from by rw [hW]; rfl] at c1
        have HW := Lib.hid hW
        clear hW
        simp only [List.take_succ_cons, List.take_zero, List.drop_succ_cons, List.drop_zero]
        repeat still_step
        refine wpStill_nil ?_
        go_wp2_with fail
        refine (clone_any (Option.map (fun x => x.add l) A) (m - l) (c - l) ((xs.drop l).take n) W (by rw [HLEN.out, hmn.out]) (by rw [HW.out]; exact HRD.out.drew) (by omega) ?_).mono ?_
        · intro hA
          have := hnone.out (by simpa using hA)
          omega
        · rw [hmn.out]
          rintro e' w' ⟨A', c', rfl, ho, hb⟩
          rw [HW.out] at ho hb
          have hb' : Below W1.heap.size W1 w' := ⟨hb.os, hb.tape, hb.output, hb.size, hb.block⟩
          go_wp2
          go_ret
          exact ⟨A', c', rfl, ho.less HHG.out.size, HG.out.later hb', grown_then HHG.out hb'⟩

set_option maxRecDepth 10000 in
theorem new_any (A : Option Addr) (n c : Nat) (xs : List Int) (w : World) (hn : xs.length = n) (hr : Rd .u8 w A xs) (hb : n ≤ 140737488355328) (hnil : A = none → c = 0 ∧ n = 0) (hbytes : ∀ x ∈ xs, 0 ≤ x ∧ x < 256) :
    Calls Try.prog 70 #[.slice A n c] w fun e w' => ∃ p A' c', e = .returned (.pointer (some ⟨p, 0, none⟩)) ∧ Rdr w' p A' c' xs 0 false ∧ Below w.heap.size w w' ∧ w.heap.size ≤ p ∧ p < w'.heap.size := by
  subst hn
  go_enter Try.func70, Try.ntmps70
  go_wp2_with fail
  refine (clone_any A xs.length c xs w rfl hr hb hnil).mono ?_
  rintro e w1 ⟨A', c', rfl, ho, hbl⟩
  go_wp2
  go_ret
  refine ⟨_, A', c', rfl, ⟨by decide, ?_, (ho.less (Nat.zero_le _)).alloc _, Nat.zero_le _, hb, hbytes⟩, hbl.alloc hbl.size _, hbl.size, by simp⟩
  exact World.rowIs_alloc w1 _ _ _ (fun i hi => by
    have : i < 3 := hi
    match i, this with
    | 0, _ | 1, _ | 2, _ => rfl)
end

end Go.Proofs.Ytbjneoeiognahaa

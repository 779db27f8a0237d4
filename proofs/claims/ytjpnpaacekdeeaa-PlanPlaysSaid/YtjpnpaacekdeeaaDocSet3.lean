/-
  What Add of the document's own Set does, where the Set is a field of the document's Plan: contract over the program.
-/
import Derived.Test.YtjpnpaacekdeeaaDocSet2
import Derived.Deep.QuietTactic
namespace Go.Proofs.Ytjpnpaacekdeeaa
open Go.RowKit

/-- Midway through Add: L is what comes of it, rest what is not yet looked at, os what is laid. -/
structure AddMid (L : List (Int × Int)) (d : Bool) (F T : Int) (rest os : List (Int × Int)) : Prop where
  lt : F < T
  no : d = false → L = os ++ addS rest F T
  yes : d = true → L = os ++ rest ∧ ∀ q ∈ rest, T < q.1

section
variable {L : List (Int × Int)} {d : Bool} {F T : Int} {rest os : List (Int × Int)} {q : Int × Int}
theorem AddMid.ahead (h : AddMid L d F T (q :: rest) os) (hq : q.1 < q.2) (h1 : q.2 < F) : AddMid L d F T rest (os ++ [q]) := by
  have hl := h.lt
  cases d
  · refine ⟨hl, fun _ => ?_, fun e => by cases e⟩
    have := h.no rfl
    unfold addS at this
    rw [if_pos h1] at this
    rw [this]; simp
  · have := (h.yes rfl).2 q List.mem_cons_self
    omega
theorem AddMid.behind (h : AddMid L false F T (q :: rest) os) (hn : Norm (q :: rest)) (h1 : ¬ q.2 < F) (h2 : T < q.1) : AddMid L true F T rest (os ++ [(F, T)] ++ [q]) := by
  refine ⟨h.lt, fun e => (by cases e), fun _ => ?_⟩
  have := h.no rfl
  unfold addS at this
  rw [if_neg h1, if_pos h2] at this
  exact ⟨by rw [this]; simp, fun r hr => by have := hn.rest r hr; have := hn.head; omega⟩
theorem AddMid.on (h : AddMid L true F T (q :: rest) os) : AddMid L true F T rest (os ++ [q]) := by
  refine ⟨h.lt, fun e => (by cases e), fun _ => ?_⟩
  have := h.yes rfl
  exact ⟨by rw [this.1]; simp, fun r hr => this.2 r (List.mem_cons_of_mem _ hr)⟩
theorem AddMid.both (h : AddMid L d F T (q :: rest) os) (hq : q.1 < q.2) (h1 : ¬ q.2 < F) (h2 : ¬ T < q.1) : AddMid L d (min F q.1) (max T q.2) rest os := by
  have hl := h.lt
  cases d
  · refine ⟨by omega, fun _ => ?_, fun e => by cases e⟩
    have := h.no rfl
    unfold addS at this
    rw [if_neg h1, if_neg h2] at this
    exact this
  · have := (h.yes rfl).2 q List.mem_cons_self
    omega
end

set_option maxRecDepth 100000 in
set_option maxHeartbeats 2000000 in
theorem docadd_any (b : Nat) (v : Value) (s : Int) (ps : List (Int × Int)) (B : Nat) (f t : Int) (w : World) (h : DpAt w B b v s ps) :
    Calls Try.prog 38 #[.pointer (some ⟨b, 0 + 1, none⟩), .int .i64 f, .int .i64 t] w fun e w' => e = .returned (.tuple #[]) ∧ ∃ v', DpAt w' B b v' s (addN ps f t) ∧ SC w w' (Dft b v) (Dft b v') := by
  have hcl : addN ps f t = if max f 0 < min t 1099511627776 then addS ps (max f 0) (min t 1099511627776) else ps := rfl
  obtain ⟨F, hF⟩ : ∃ F, F = max f 0 := ⟨_, rfl⟩
  obtain ⟨T, hT⟩ : ∃ T, T = min t 1099511627776 := ⟨_, rfl⟩
  rw [← hF, ← hT] at hcl
  by_cases hlt : F < T
  · rw [if_pos hlt] at hcl
    have HCL := Lib.hid (docclip_any f t F T true w hF hT (decide_eq_true hlt))
    have hn1 := (addS_norm h.norm (f := F) (t := T) (by omega) hlt (by omega)).1
    rw [hcl]
    obtain ⟨L, hL⟩ : ∃ L, addS ps F T = L := ⟨_, rfl⟩
    rw [hL] at hn1 ⊢
    have HIN := Lib.hid (show AddMid L false F T (ps.drop 0) [] from ⟨hlt, fun _ => by rw [List.drop_zero, hL]; rfl, fun e => by cases e⟩)
    obtain ⟨A, c, hv⟩ := h.own.form
    have c1 := h.c1
    have hlen := h.norm.len
    obtain ⟨n, hn⟩ : ∃ n, ps.length = n := ⟨_, rfl⟩
    have HCELL := Lib.hid (show ∀ (W : World) k, Below w.heap.size w W → k < n → ∃ g, A = some ⟨g, 0, none⟩ ∧ W.cell? ⟨g, k * 2, none⟩ = some (.int .i64 (ps.getD k (0, 0)).1) ∧ W.cell? ⟨g, k * 2 + 1, none⟩ = some (.int .i64 (ps.getD k (0, 0)).2) from fun W k hb hk => by
      have h1 := (h.later hb).own
      rw [hv, hn] at h1
      obtain ⟨g, rfl, _⟩ := h1.at (by omega)
      exact ⟨g, rfl, h1.cells k hk⟩)
    have HPUT := Lib.hid (fun (w1 : World) (v' : Value) (hb : Below w.heap.size w w1) (ho : OwnP tDR w1 w.heap.size v' L) => h.put hb ho hn1)
    have HFR := Lib.hid (show ∀ (W : World), Below w.heap.size w W → W.frozen? ⟨b, 0 + 1, none⟩ = false ∧ W.cell? ⟨b, 0 + 1, none⟩ = some v from fun W hb => ⟨(h.later hb).fr _, (h.later hb).c1⟩)
    have HAT := Lib.hid (show ∀ k, k < n → (ps.getD k (0, 0)).1 < (ps.getD k (0, 0)).2 ∧ Norm (ps.getD k (0, 0) :: ps.drop (k + 1)) ∧ ps.drop k = ps.getD k (0, 0) :: ps.drop (k + 1) from fun k hk => by
      have e := drop_next ps k (by omega)
      exact ⟨(h.norm.at k (by omega)).2.1, by rw [← e]; exact h.norm.drop k, e⟩)
    have HEND := Lib.hid (show ps.drop n = [] by rw [← hn, List.drop_length])
    have HSZ := Lib.hid h.size
    subst hv
    rw [hn] at c1 hlen HFR
    have HNN := Lib.hid hlen
    clear h hcl hF hT hlt hn1 hn hL hlen
    go_enter Try.func38, Try.ntmps38
    go_wp2_with fail
    refine HCL.out.mono ?_
    rintro e w1 ⟨rfl, rfl⟩
    go_wp2
    go_loopw [1, 2, 7, 8, 25] (fun Fv Tv ov dv iv wr => ∃ (i : Nat) (F' T' : Int) (d : Bool) (A' : Option Addr) (c' m : Nat) (os : List (Int × Int)), i ≤ n ∧ iv = .int .i64 i ∧ Fv = .int .i64 F' ∧ Tv = .int .i64 T' ∧ dv = .bool d ∧ ov = .slice A' m c' ∧ Hid (os.length = m ∧ m ≤ 2 * i) ∧ Hid (AddMid L d F' T' (ps.drop i) os) ∧ Hid (OwnP tDR wr w.heap.size (.slice A' m c') os) ∧ Hid (Below w.heap.size w wr)) (fun _ _ _ _ iv _ => n - (intOf iv).toNat)
    case atStart => exact ⟨0, F, T, false, none, 0, 0, [], by omega, rfl, rfl, rfl, rfl, rfl, Lib.hid ⟨rfl, by omega⟩, HIN, Lib.hid (OwnP.nil tDR w w.heap.size), Lib.hid (Below.refl _ _)⟩
    case round =>
      obtain ⟨i, F', T', d, A', c', m, os, hi, rfl, rfl, rfl, rfl, rfl, hm, hmid, ho, hb⟩ := hrel
      by_cases hin : i < n
      · obtain ⟨g, rfl, y1, y2⟩ := HCELL.out wr i hb.out hin
        obtain ⟨hq, hnrm, hdr⟩ := HAT.out i hin
        have hmid' := hmid.out
        rw [hdr] at hmid'
        obtain ⟨⟨x, y⟩, hxy⟩ : ∃ q, ps.getD i (0, 0) = q := ⟨_, rfl⟩
        rw [hxy] at y1 y2 hq hnrm hmid'
        simp only [] at y1 y2 hq
        have hbsz : w.heap.size ≤ wr.heap.size := hb.out.size
        have ho1 : OwnP tDR (wr.alloc (.cells #[.int .i64 x, .int .i64 y] tDR)) w.heap.size (.slice A' m c') os := ho.out.alloc _
        have hb1 : Below w.heap.size w (wr.alloc (.cells #[.int .i64 x, .int .i64 y] tDR)) := hb.out.alloc hbsz _
        have bx0 : (wr.alloc (.cells #[.int .i64 x, .int .i64 y] tDR)).cell? ⟨wr.heap.size, 0, none⟩ = some (.int .i64 x) := by go_simp
        have bx1 : (wr.alloc (.cells #[.int .i64 x, .int .i64 y] tDR)).cell? ⟨wr.heap.size, 1, none⟩ = some (.int .i64 y) := by go_simp
        have hnb : (Value.slice A' m c').ownBlock ≠ some wr.heap.size := fun e => by have := (ho.out.lt _ e).2; omega
        have HSZ1 := Lib.hid (show (wr.alloc (.cells #[.int .i64 x, .int .i64 y] tDR)).heap.size = wr.heap.size + 1 from World.size_alloc _ _)
        have i1 : (i : Int) < (n : Int) := by omega
        have i2 : (0 : Int) ≤ (i : Int) := by omega
        have HNX := Lib.hid (show i + 1 ≤ n by omega)
        have HIW := Lib.hid (show wrap64 ((i : Int) + 1) = ((i + 1 : Nat) : Int) from wrap_at (by omega) (by have := HNN.out; omega) (by have := HNN.out; omega))
        have HB1 := Lib.hid hb1
        have HO1 := Lib.hid ho1
        have HNB := Lib.hid hnb
        have HBX0 := Lib.hid bx0
        have HBX1 := Lib.hid bx1
        have HBS := Lib.hid hbsz
        have HI := Lib.hid hin
        have HMID := Lib.hid hmid'
        have HQ := Lib.hid hq
        have HNRM := Lib.hid hnrm
        have HM := hm
        have HRM := Lib.hid (show m ≤ 2199023255550 by have := hm.out.2; have := HNN.out; omega)
        clear hb1 ho1 hnb hbsz ho hm hxy hi hin bx0 bx1 hmid hmid' hq hnrm hdr
        by_cases hx : y < F'
        · obtain ⟨A2, c2, w2, hr1, ho2, hb2, _⟩ := app_one HO1.out m HM.out.1 (by have := HRM.out; omega) (by rw [HSZ1.out]; have := HBS.out; omega) x y
          rw [HSZ1.out] at hr1
          have HO2 := Lib.hid ho2
          have HB2 := Lib.hid (HB1.out.trans hb2)
          have HD := Lib.hid (HMID.out.ahead HQ.out hx)
          have HL := Lib.hid (show (os ++ [(x, y)]).length = m + 1 ∧ m + 1 ≤ 2 * (i + 1) from ⟨by rw [List.length_append, HM.out.1]; rfl, by have := HM.out.2; omega⟩)
          clear ho2 hb2
          go_wp2_with (at_builtin; refine Lib.wpList_append_run _ rfl _ _ _ _ rfl _ _ rfl rfl _ _ hr1 ?_)
          clear hr1
          go_roundw
          case rel => exact ⟨i + 1, F', T', d, A2, c2, m + 1, _, HNX.out, by rw [HIW.out], rfl, rfl, rfl, rfl, HL, HD, HO2, HB2⟩
          case measure => rw [HIW.out]; have := HI.out; simp [intOf]; omega
        · by_cases hy : T' < x
          · have hgy : x > T' := hy
            cases d
            · obtain ⟨A2, c2, w2, hr1, ho2, hb2, hk2⟩ := app_one HO1.out m HM.out.1 (by have := HRM.out; omega) (by rw [HSZ1.out]; have := HBS.out; omega) F' T'
              rw [HSZ1.out] at hr1
              have z0 : w2.cell? ⟨wr.heap.size, 0, none⟩ = some (.int .i64 x) := (World.cell?_of_block (hk2 wr.heap.size (by rw [HSZ1.out]; exact Nat.lt_succ_self _) HNB.out)).trans HBX0.out
              have z1 : w2.cell? ⟨wr.heap.size, 1, none⟩ = some (.int .i64 y) := (World.cell?_of_block (hk2 wr.heap.size (by rw [HSZ1.out]; exact Nat.lt_succ_self _) HNB.out)).trans HBX1.out
              have HB2 := Lib.hid (HB1.out.trans hb2)
              obtain ⟨A3, c3, w3, hr2, ho3, hb3, _⟩ := app_one ho2 (m + 1) (by rw [List.length_append, HM.out.1]; rfl) (by have := HRM.out; omega) HB2.out.size x y
              have HO3 := Lib.hid ho3
              have HB3 := Lib.hid (HB2.out.trans hb3)
              have HD := Lib.hid (HMID.out.behind HNRM.out hx hy)
              have HL := Lib.hid (show (os ++ [(F', T')] ++ [(x, y)]).length = m + 1 + 1 ∧ m + 1 + 1 ≤ 2 * (i + 1) from ⟨by rw [List.length_append, List.length_append, HM.out.1]; rfl, by have := HM.out.2; omega⟩)
              clear ho2 hb2 hk2 ho3 hb3
              go_wp2_with (at_builtin; first | refine Lib.wpList_append_run _ rfl (.tmp 53) (.tmp 57) _ _ rfl _ _ rfl rfl _ _ hr1 ?_ | refine Lib.wpList_append_run _ rfl (.tmp 59) (.tmp 61) _ _ rfl _ _ rfl rfl _ _ hr2 ?_)
              clear hr1 hr2
              go_roundw
              case rel => exact ⟨i + 1, F', T', true, A3, c3, m + 1 + 1, _, HNX.out, by rw [HIW.out], rfl, rfl, rfl, rfl, HL, HD, HO3, HB3⟩
              case measure => rw [HIW.out]; have := HI.out; simp [intOf]; omega
            · obtain ⟨A2, c2, w2, hr1, ho2, hb2, _⟩ := app_one HO1.out m HM.out.1 (by have := HRM.out; omega) (by rw [HSZ1.out]; have := HBS.out; omega) x y
              rw [HSZ1.out] at hr1
              have HO2 := Lib.hid ho2
              have HB2 := Lib.hid (HB1.out.trans hb2)
              have HD := Lib.hid HMID.out.on
              have HL := Lib.hid (show (os ++ [(x, y)]).length = m + 1 ∧ m + 1 ≤ 2 * (i + 1) from ⟨by rw [List.length_append, HM.out.1]; rfl, by have := HM.out.2; omega⟩)
              clear ho2 hb2
              go_wp2_with (at_builtin; refine Lib.wpList_append_run _ rfl _ _ _ _ rfl _ _ rfl rfl _ _ hr1 ?_)
              clear hr1
              go_roundw
              case rel => exact ⟨i + 1, F', T', true, A2, c2, m + 1, _, HNX.out, by rw [HIW.out], rfl, rfl, rfl, rfl, HL, HD, HO2, HB2⟩
              case measure => rw [HIW.out]; have := HI.out; simp [intOf]; omega
          · have hgy : ¬ (x > T') := hy
            have HD := Lib.hid (HMID.out.both HQ.out hx hy)
            have hm1 := run_min2 F' x _ rfl
            have hm2 := run_max2 T' y _ rfl
            have HL := Lib.hid (show os.length = m ∧ m ≤ 2 * (i + 1) from ⟨HM.out.1, by have := HM.out.2; omega⟩)
            have z0 := HBX0.out
            have z1 := HBX1.out
            obtain ⟨p1, hp1⟩ : ∃ z, min F' x = z := ⟨_, rfl⟩
            obtain ⟨p2, hp2⟩ : ∃ z, max T' y = z := ⟨_, rfl⟩
            rw [hp1] at hm1
            rw [hp2] at hm2
            rw [show min F' (x, y).1 = p1 from hp1, show max T' (x, y).2 = p2 from hp2] at HD
            clear hp1 hp2
            go_wp2_with fail
            go_quiet (fail)
            go_wp2
            go_roundw
            case rel => exact ⟨i + 1, p1, p2, d, A', c', m, os, HNX.out, by rw [HIW.out], rfl, rfl, rfl, rfl, HL, HD, Lib.hid (HO1.out.drewN _), Lib.hid (below_drewN' HB1.out _)⟩
            case measure => rw [HIW.out]; have := HI.out; simp [intOf]; omega
      · have : i = n := by omega
        subst this
        obtain ⟨q1, q2⟩ := HFR.out wr hb.out
        have j1 : ¬ ((i : Int) < (i : Int)) := by omega
        have hmid' := hmid.out
        rw [HEND.out] at hmid'
        have hrm : m ≤ 2199023255552 := by have := hm.out.2; have := HNN.out; omega
        have hle : w.heap.size ≤ wr.heap.size := hb.out.size
        cases d
        · have hl := hmid'.no rfl
          obtain ⟨A2, c2, w2, hr1, ho2, hb2, _⟩ := app_one ho.out m hm.out.1 (by omega) hle F' T'
          have hb3 := hb.out.trans hb2
          obtain ⟨q3, q4⟩ := HFR.out w2 hb3
          have HP := Lib.hid (HPUT.out w2 _ hb3 (by rw [hl]; exact ho2))
          clear ho2 hb2 hb3 hl hmid' hmid hm ho hi hin hrm hle q1 q2
          go_wp2_with (at_builtin; refine Lib.wpList_append_run _ rfl _ _ _ _ rfl _ _ rfl rfl _ _ hr1 ?_)
          go_end0
          exact ⟨rfl, _, HP.out.1, HP.out.2⟩
        · have hl := (hmid'.yes rfl).1
          rw [List.append_nil] at hl
          have HP := Lib.hid (HPUT.out wr _ hb.out (by rw [hl]; exact ho.out))
          clear hl hmid' hmid hm ho hi hin hrm hle
          go_wp2
          go_end0
          exact ⟨rfl, _, HP.out.1, HP.out.2⟩
  · rw [if_neg hlt] at hcl
    have HCL := Lib.hid (docclip_any f t F T false w hF hT (decide_eq_false hlt))
    rw [hcl]
    have H := Lib.hid h
    clear h hcl hF hT hlt
    go_enter Try.func38, Try.ntmps38
    go_wp2_with fail
    refine HCL.out.mono ?_
    rintro e w1 ⟨rfl, rfl⟩
    go_wp2
    refine bodyPost_ret (results_none rfl _ _ _) rfl ?_
    exact ⟨rfl, v, H.out, SC.refl _ _⟩
end Go.Proofs.Ytjpnpaacekdeeaa

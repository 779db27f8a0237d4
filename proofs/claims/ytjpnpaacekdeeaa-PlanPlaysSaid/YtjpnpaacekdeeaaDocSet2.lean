/-
  What Cut and Add of the document's own Set do, where the Set is a field of the document's Plan: contracts over the program.
-/
import Derived.Test.YtjpnpaacekdeeaaDocSet
import Derived.Test.YtjpnpaacekdeeaaPlanSmall
namespace Go.Proofs.Ytjpnpaacekdeeaa
open Go.RowKit

theorem cutS_app (ps qs : List (Int × Int)) (f t : Int) : cutS (ps ++ qs) f t = cutS ps f t ++ cutS qs f t := by simp [cutS]
theorem take_next (ps : List (Int × Int)) (i : Nat) (hi : i < ps.length) : ps.take (i + 1) = ps.take i ++ [ps.getD i (0, 0)] := by
  rw [List.take_add_one]
  simp [List.getD, hi]
theorem drop_next (ps : List (Int × Int)) (i : Nat) (hi : i < ps.length) : ps.drop i = ps.getD i (0, 0) :: ps.drop (i + 1) := by
  rw [List.drop_eq_getElem_cons hi]
  simp [List.getD, hi]
/-- A Cut whose places are clipped cuts the same. -/
theorem cutN_clip {ps : List (Int × Int)} (h : Norm ps) (f t : Int) : cutN ps f t = if max f 0 < min t 1099511627776 then cutS ps (max f 0) (min t 1099511627776) else ps := by
  have h1 := cutN_norm h f t
  have h2 := cutN_norm h (max f 0) (min t 1099511627776)
  have e : cutN ps (max f 0) (min t 1099511627776) = if max f 0 < min t 1099511627776 then cutS ps (max f 0) (min t 1099511627776) else ps := rfl
  rw [← e]
  refine Norm.ext h1.1 h2.1 fun k => ?_
  rw [h1.2, h2.2]
  constructor
  · rintro ⟨h3, h4⟩
    exact ⟨h3, by omega⟩
  · rintro ⟨⟨q, hq, h5, h6⟩, h4⟩
    have := h.each q hq
    exact ⟨⟨q, hq, h5, h6⟩, by omega⟩

set_option maxRecDepth 100000 in
set_option maxHeartbeats 2000000 in
theorem doccut_any (b : Nat) (v : Value) (s : Int) (ps : List (Int × Int)) (B : Nat) (f t : Int) (w : World) (h : DpAt w B b v s ps) :
    Calls Try.prog 39 #[.pointer (some ⟨b, 0 + 1, none⟩), .int .i64 f, .int .i64 t] w fun e w' => e = .returned (.tuple #[]) ∧ ∃ v', DpAt w' B b v' s (cutN ps f t) ∧ SC w w' (Dft b v) (Dft b v') := by
  have hcl := cutN_clip h.norm f t
  obtain ⟨F, hF⟩ : ∃ F, F = max f 0 := ⟨_, rfl⟩
  obtain ⟨T, hT⟩ : ∃ T, T = min t 1099511627776 := ⟨_, rfl⟩
  rw [← hF, ← hT] at hcl
  by_cases hlt : F < T
  · rw [if_pos hlt] at hcl
    have HCL := Lib.hid (docclip_any f t F T true w hF hT (decide_eq_true hlt))
    have hn1 := (cutS_norm h.norm hlt).1
    rw [hcl]
    have HN1 := Lib.hid hn1
    obtain ⟨A, c, hv⟩ := h.own.form
    have c1 := h.c1
    have hlen := h.norm.len
    obtain ⟨n, hn⟩ : ∃ n, ps.length = n := ⟨_, rfl⟩
    have HCELL := Lib.hid (show ∀ (W : World) k, Below w.heap.size w W → k < n → ∃ g, A = some ⟨g, 0, none⟩ ∧ W.cell? ⟨g, k * 2, none⟩ = some (.int .i64 (ps.getD k (0, 0)).1) ∧ W.cell? ⟨g, k * 2 + 1, none⟩ = some (.int .i64 (ps.getD k (0, 0)).2) from fun W k hb hk => by
      have h1 := (h.later hb).own
      rw [hv, hn] at h1
      obtain ⟨g, rfl, _⟩ := h1.at (by omega)
      exact ⟨g, rfl, h1.cells k hk⟩)
    have HPUT := Lib.hid (fun (w1 : World) (v' : Value) (hb : Below w.heap.size w w1) (ho : OwnP tDR w1 w.heap.size v' (cutS ps F T)) => h.put hb ho hn1)
    have HFR := Lib.hid (show ∀ (W : World), Below w.heap.size w W → W.frozen? ⟨b, 0 + 1, none⟩ = false ∧ W.cell? ⟨b, 0 + 1, none⟩ = some v from fun W hb => ⟨(h.later hb).fr _, (h.later hb).c1⟩)
    have HST := Lib.hid (show ∀ k, k < n → cutS (ps.take (k + 1)) F T = cutS (ps.take k) F T ++ ((if (ps.getD k (0, 0)).1 < F then [((ps.getD k (0, 0)).1, min (ps.getD k (0, 0)).2 F)] else []) ++ (if T < (ps.getD k (0, 0)).2 then [(max (ps.getD k (0, 0)).1 T, (ps.getD k (0, 0)).2)] else [])) from fun k hk => by
      rw [take_next ps k (by omega), cutS_app]
      congr 1
      simp [cutS, cutO])
    have HLEN := Lib.hid (show ∀ k, k ≤ n → (cutS (ps.take k) F T).length ≤ 2 * k from fun k => by
      induction k with
      | zero => intro _; simp [cutS]
      | succ k ih =>
        intro hk
        have := ih (by omega)
        rw [HST.out k (by omega), List.length_append, List.length_append]
        split <;> split <;> simp <;> omega)
    have HEND := Lib.hid (show ps.take n = ps by rw [← hn, List.take_length])
    have HSZ := Lib.hid h.size
    subst hv
    rw [hn] at c1 hlen HFR
    clear h hcl hF hT hlt hn1 hn
    go_enter Try.func39, Try.ntmps39
    go_wp2_with fail
    refine HCL.out.mono ?_
    rintro e w1 ⟨rfl, rfl⟩
    go_wp2
    go_loopw [7, 24] (fun ov iv wr => ∃ (i : Nat) (A' : Option Addr) (c' m : Nat), i ≤ n ∧ iv = .int .i64 i ∧ ov = .slice A' m c' ∧ Hid ((cutS (ps.take i) F T).length = m) ∧ Hid (OwnP tDR wr w.heap.size (.slice A' m c') (cutS (ps.take i) F T)) ∧ Hid (Below w.heap.size w wr)) (fun _ iv _ => n - (intOf iv).toNat)
    case atStart => exact ⟨0, none, 0, 0, by omega, rfl, rfl, Lib.hid (by simp [cutS]), Lib.hid (by simpa [cutS] using OwnP.nil tDR w w.heap.size), Lib.hid (Below.refl _ _)⟩
    case round =>
      obtain ⟨i, A', c', m, hi, rfl, rfl, hm, ho, hb⟩ := hrel
      by_cases hin : i < n
      · obtain ⟨g, rfl, y1, y2⟩ := HCELL.out wr i hb.out hin
        have hst := HST.out i hin
        have hll := HLEN.out i (by omega)
        rw [hm.out] at hll
        obtain ⟨⟨x, y⟩, hxy⟩ : ∃ q, ps.getD i (0, 0) = q := ⟨_, rfl⟩
        rw [hxy] at y1 y2 hst
        simp only [] at y1 y2 hst
        have hbsz : w.heap.size ≤ wr.heap.size := hb.out.size
        have ho1 : OwnP tDR (wr.alloc (.cells #[.int .i64 x, .int .i64 y] tDR)) w.heap.size (.slice A' m c') (cutS (ps.take i) F T) := ho.out.alloc _
        have hb1 : Below w.heap.size w (wr.alloc (.cells #[.int .i64 x, .int .i64 y] tDR)) := hb.out.alloc hbsz _
        have bx0 : (wr.alloc (.cells #[.int .i64 x, .int .i64 y] tDR)).cell? ⟨wr.heap.size, 0, none⟩ = some (.int .i64 x) := by go_simp
        have bx1 : (wr.alloc (.cells #[.int .i64 x, .int .i64 y] tDR)).cell? ⟨wr.heap.size, 1, none⟩ = some (.int .i64 y) := by go_simp
        have hnb : (Value.slice A' m c').ownBlock ≠ some wr.heap.size := fun e => by have := (ho.out.lt _ e).2; omega
        have hsz1 : (wr.alloc (.cells #[.int .i64 x, .int .i64 y] tDR)).heap.size = wr.heap.size + 1 := World.size_alloc _ _
        have i1 : (i : Int) < (n : Int) := by omega
        have i2 : (0 : Int) ≤ (i : Int) := by omega
        have hm' := hm.out
        have hm1 := run_min2 y F _ rfl
        have hm2 := run_max2 x T _ rfl
        obtain ⟨p1, hp1⟩ : ∃ z, min y F = z := ⟨_, rfl⟩
        obtain ⟨p2, hp2⟩ : ∃ z, max x T = z := ⟨_, rfl⟩
        rw [hp1] at hm1 hst
        rw [hp2] at hm2 hst
        obtain ⟨C0, hC0⟩ : ∃ C, cutS (ps.take i) F T = C := ⟨_, rfl⟩
        rw [hC0] at hst ho1 hm'
        have HST2 := Lib.hid hst
        have HM2 := Lib.hid hm'
        have HNX := Lib.hid (show i + 1 ≤ n by omega)
        have HIW := Lib.hid (show wrap64 ((i : Int) + 1) = ((i + 1 : Nat) : Int) from wrap_at (by omega) (by omega) (by omega))
        have HB1 := Lib.hid hb1
        have HO1 := Lib.hid ho1
        have HNB := Lib.hid hnb
        have HSZ1 := Lib.hid hsz1
        have HBX0 := Lib.hid bx0
        have HBX1 := Lib.hid bx1
        have HLL := Lib.hid hll
        have HBS := Lib.hid hbsz
        have HI := Lib.hid hin
        have HNN := Lib.hid hlen
        clear hst hm' hb1 ho1 hnb hsz1 hbsz ho hm hp1 hp2 hC0 hxy hll hi hin bx0 bx1 hlen
        by_cases hx : x < F
        · obtain ⟨A2, c2, w2, hr1, ho2, hb2, hk2⟩ := app_one HO1.out m HM2.out (by have := HLL.out; have := HI.out; have := HNN.out; omega) (by rw [HSZ1.out]; have := HBS.out; omega) x p1
          rw [HSZ1.out] at hr1
          have z0 : w2.cell? ⟨wr.heap.size, 0, none⟩ = some (.int .i64 x) := (World.cell?_of_block (hk2 wr.heap.size (by rw [HSZ1.out]; exact Nat.lt_succ_self _) HNB.out)).trans HBX0.out
          have z1 : w2.cell? ⟨wr.heap.size, 1, none⟩ = some (.int .i64 y) := (World.cell?_of_block (hk2 wr.heap.size (by rw [HSZ1.out]; exact Nat.lt_succ_self _) HNB.out)).trans HBX1.out
          have HO2 := Lib.hid ho2
          have HB2 := Lib.hid (HB1.out.trans hb2)
          clear ho2 hb2 hk2
          by_cases hy : T < y
          · have hgy : y > T := hy
            obtain ⟨A3, c3, w3, hr2, ho3, hb3, _⟩ := app_one HO2.out (m + 1) (by rw [List.length_append, HM2.out]; rfl) (by have := HLL.out; have := HI.out; have := HNN.out; omega) HB2.out.size p2 y
            have hE : cutS (ps.take (i + 1)) F T = C0 ++ [(x, p1)] ++ [(p2, y)] := by rw [HST2.out, if_pos hx, if_pos hy, List.append_assoc]
            have HL := Lib.hid (show (cutS (ps.take (i + 1)) F T).length = m + 1 + 1 by rw [hE, List.length_append, List.length_append, HM2.out]; rfl)
            have HOE := Lib.hid (show OwnP tDR w3 w.heap.size (.slice A3 (m + 1 + 1) c3) (cutS (ps.take (i + 1)) F T) by rw [hE]; exact ho3)
            clear hE
            have HB3 := Lib.hid (HB2.out.trans hb3)
            clear ho3 hb3
            go_wp2_with (at_builtin; first | refine Lib.wpList_append_run _ rfl (.tmp 32) (.tmp 40) _ _ rfl _ _ rfl rfl _ _ hr1 ?_ | refine Lib.wpList_append_run _ rfl (.tmp 46) (.tmp 54) _ _ rfl _ _ rfl rfl _ _ hr2 ?_)
            clear hr1 hr2
            go_roundw
            case rel => exact ⟨i + 1, A3, c3, m + 1 + 1, HNX.out, by rw [HIW.out], rfl, HL, HOE, HB3⟩
            case measure => rw [HIW.out]; have := HI.out; simp [intOf]; omega
          · have hgy : ¬ (y > T) := hy
            have hE : cutS (ps.take (i + 1)) F T = C0 ++ [(x, p1)] := by rw [HST2.out, if_pos hx, if_neg hy, List.append_nil]
            have HL := Lib.hid (show (cutS (ps.take (i + 1)) F T).length = m + 1 by rw [hE, List.length_append, HM2.out]; rfl)
            have HOE := Lib.hid (show OwnP tDR w2 w.heap.size (.slice A2 (m + 1) c2) (cutS (ps.take (i + 1)) F T) by rw [hE]; exact HO2.out)
            clear hE
            go_wp2_with (at_builtin; refine Lib.wpList_append_run _ rfl _ _ _ _ rfl _ _ rfl rfl _ _ hr1 ?_)
            clear hr1
            go_roundw
            case rel => exact ⟨i + 1, A2, c2, m + 1, HNX.out, by rw [HIW.out], rfl, HL, HOE, HB2⟩
            case measure => rw [HIW.out]; have := HI.out; simp [intOf]; omega
        · by_cases hy : T < y
          · have hgy : y > T := hy
            obtain ⟨A3, c3, w3, hr2, ho3, hb3, _⟩ := app_one HO1.out m HM2.out (by have := HLL.out; have := HI.out; have := HNN.out; omega) (by rw [HSZ1.out]; have := HBS.out; omega) p2 y
            rw [HSZ1.out] at hr2
            have hE : cutS (ps.take (i + 1)) F T = C0 ++ [(p2, y)] := by rw [HST2.out, if_neg hx, if_pos hy, List.nil_append]
            have HL := Lib.hid (show (cutS (ps.take (i + 1)) F T).length = m + 1 by rw [hE, List.length_append, HM2.out]; rfl)
            have HOE := Lib.hid (show OwnP tDR w3 w.heap.size (.slice A3 (m + 1) c3) (cutS (ps.take (i + 1)) F T) by rw [hE]; exact ho3)
            clear hE
            have HB3 := Lib.hid (HB1.out.trans hb3)
            clear ho3 hb3
            go_wp2_with (at_builtin; refine Lib.wpList_append_run _ rfl _ _ _ _ rfl _ _ rfl rfl _ _ hr2 ?_)
            clear hr2
            go_roundw
            case rel => exact ⟨i + 1, A3, c3, m + 1, HNX.out, by rw [HIW.out], rfl, HL, HOE, HB3⟩
            case measure => rw [HIW.out]; have := HI.out; simp [intOf]; omega
          · have hgy : ¬ (y > T) := hy
            have hE : cutS (ps.take (i + 1)) F T = C0 := by rw [HST2.out, if_neg hx, if_neg hy, List.append_nil, List.append_nil]
            have HL := Lib.hid (show (cutS (ps.take (i + 1)) F T).length = m by rw [hE]; exact HM2.out)
            have HOE := Lib.hid (show OwnP tDR (wr.alloc (.cells #[.int .i64 x, .int .i64 y] tDR)) w.heap.size (.slice A' m c') (cutS (ps.take (i + 1)) F T) by rw [hE]; exact HO1.out)
            clear hE
            have z0 := HBX0.out
            have z1 := HBX1.out
            go_wp2
            go_roundw
            case rel => exact ⟨i + 1, A', c', m, HNX.out, by rw [HIW.out], rfl, HL, HOE, HB1⟩
            case measure => rw [HIW.out]; have := HI.out; simp [intOf]; omega
      · have : i = n := by omega
        subst this
        have ho' := ho.out
        rw [HEND.out] at ho'
        obtain ⟨q1, q2⟩ := HFR.out wr hb.out
        have HP := Lib.hid (HPUT.out wr _ hb.out ho')
        have j1 : ¬ ((i : Int) < (i : Int)) := by omega
        clear ho' ho hm hi hin
        go_wp2
        go_end0
        exact ⟨rfl, _, HP.out.1, HP.out.2⟩
  · rw [if_neg hlt] at hcl
    have HCL := Lib.hid (docclip_any f t F T false w hF hT (decide_eq_false hlt))
    rw [hcl]
    have H := Lib.hid h
    clear h hcl hF hT hlt
    go_enter Try.func39, Try.ntmps39
    go_wp2_with fail
    refine HCL.out.mono ?_
    rintro e w1 ⟨rfl, rfl⟩
    go_wp2
    refine bodyPost_ret (results_none rfl _ _ _) rfl ?_
    exact ⟨rfl, v, H.out, SC.refl _ _⟩
end Go.Proofs.Ytjpnpaacekdeeaa

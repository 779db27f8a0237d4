/-
  Replace2 · ReplaceAny.
-/
import Derived.Test.YtpjlnpnadkbakaaGreatQBSearch
import Derived.Deep.QuietTactic
namespace Go.Proofs.YtpjlnpnadkbakaaGreat
set_option maxRecDepth 10000
open Go.RowKit
set_option maxHeartbeats 400000 in
set_option maxRecDepth 100000 in
theorem replace_ins (v : Value) (i : Nat) (u : Value) (n : Nat) (Q : Ending → World → Prop) (A0 : Option Addr) (c0 : Nat) (w : World) (hv : v = .slice A0 n c0) (hi : i ≤ n) (hnc : n ≤ c0)
    (hQ : ∀ e w', Q e w' → ∃ v', e = .returned v')
    (h : Calls Tryz.prog 266 #[v, .int .i64 i, u] w Q) : Calls Tryz.prog 233 #[v, .int .i64 i, .int .i64 i, u] w Q := by
  subst hv
  by_cases hci : c0 = i
  · subst hci
    obtain rfl : n = c0 := by omega
    go_enter Tryz.func233, Tryz.ntmps233
    go_wp2_with fail
    refine h.mono ?_
    intro e w' hq
    obtain ⟨v', rfl⟩ := hQ e w' hq
    go_wp2
    exact hq
  · have hin : (i : Int) ≤ (n : Int) := by omega
    have hic : (i : Int) ≤ (c0 : Int) := by omega
    have h0 : (0 : Int) ≤ (i : Int) := by omega
    go_enter Tryz.func233, Tryz.ntmps233
    go_wp2_with fail
    refine h.mono ?_
    intro e w' hq
    obtain ⟨v', rfl⟩ := hQ e w' hq
    go_wp2
    exact hq
set_option maxHeartbeats 400000 in
set_option maxRecDepth 100000 in
theorem replace_end0 (A0 : Option Addr) (c0 i n m mc : Nat) (v' : Value) (A : Option Addr) (w w' : World) (hi : i < n) (hnc : n ≤ c0) (him : n ≤ i + m) (A' : Option Addr) (c' : Nat) (hv' : v' = .slice A' (i + m) c')
    (hr : (Builtin.append_ #[140, 140] 140 #[.slice A0 i c0, .slice A m mc]).run Tryz.prog w = .ok v' w') :
    Calls Tryz.prog 233 #[.slice A0 n c0, .int .i64 i, .int .i64 n, .slice A m mc] w fun e w'' => e = .returned v' ∧ w'' = w' := by
  subst hv'
  have h0 : (0 : Int) ≤ (i : Int) := by omega
  have h1 : ¬ ((i : Int) = (n : Int)) := by omega
  have h2 : (i : Int) ≤ (n : Int) := by omega
  have h3 : (n : Int) ≤ (c0 : Int) := by omega
  have h4 : (i : Int) ≤ (c0 : Int) := by omega
  have h5 : ¬ (((i + m : Nat) : Int) < (n : Int)) := by omega
  have h6 : ¬ ((i : Int) + (m : Int) < (n : Int)) := by omega
  go_enter Tryz.func233, Tryz.ntmps233
  go_wp2_with (at_builtin; refine wpList_append_r rfl _ _ 140 140 rfl _ _ rfl rfl hr ?_)
  all_goals go_ret
  all_goals exact ⟨rfl, rfl⟩
set_option maxHeartbeats 400000 in
set_option maxRecDepth 100000 in
theorem replace_end1 (g c i n m mc : Nat) (A : Option Addr) (w w1 w2 : World) (hi : i < n) (hnc : n ≤ c) (him : i + m < n)
    (hr1 : (Builtin.append_ #[140, 140] 140 #[.slice (some ⟨g, 0, none⟩) i c, .slice A m mc]).run Tryz.prog w = .ok (.slice (some ⟨g, 0, none⟩) (i + m) c) w1)
    (hr2 : ∀ ty, (Builtin.clear_ #[140] ty #[.slice (some ⟨g, (i + m) * 2, none⟩) (n - (i + m)) (c - (i + m))]).run Tryz.prog w1 = .ok (.tuple #[]) w2) :
    Calls Tryz.prog 233 #[.slice (some ⟨g, 0, none⟩) n c, .int .i64 i, .int .i64 n, .slice A m mc] w fun e w'' => e = .returned (.slice (some ⟨g, 0, none⟩) (i + m) c) ∧ w'' = w2 := by
  have h0 : (0 : Int) ≤ (i : Int) := by omega
  have h1 : ¬ ((i : Int) = (n : Int)) := by omega
  have h2 : (i : Int) ≤ (n : Int) := by omega
  have h3 : (n : Int) ≤ (c : Int) := by omega
  have h4 : (i : Int) ≤ (c : Int) := by omega
  have h5 : ¬ (c = i) := by omega
  have h6 : (i : Int) + (m : Int) < (n : Int) := by omega
  have h7 : (0 : Int) ≤ (i : Int) + (m : Int) := by omega
  have h8 : ¬ (c = i + m) := by omega
  have h9 : i + m ≤ n := by omega
  have h10 : ((i : Int) + (m : Int)).toNat = i + m := by omega
  have h11 : (i : Int) + (m : Int) ≤ (n : Int) := by omega
  go_enter Tryz.func233, Tryz.ntmps233
  go_wp2_with (at_builtin; refine wpList_append_r rfl _ _ 140 140 rfl _ _ rfl rfl hr1 ?_)
  all_goals go_ret
  all_goals exact ⟨rfl, rfl⟩
set_option maxHeartbeats 400000 in
set_option maxRecDepth 100000 in
theorem replace_easy (g c i j n m mc T : Nat) (cur : List Value) (ps qs : List (Int × Int)) (A : Option Addr) (B : Nat) (w : World) (hg : w.heap[g]? = some (.cells cur.toArray 143 (0, 0))) (hn : ps.length = n) (hcl : cur.length = c * 2) (hct : cur.take (n * 2) = prs ps) (hBg : B ≤ g) (hnc : n ≤ c) (hcm : c ≤ maxLen)
    (hq : Src w A m qs g) (hij : i < j) (hjn : j < n) (him : i + m ≤ j) (hT : T = i + m + (n - j)) :
    Calls Tryz.prog 233 #[.slice (some ⟨g, 0, none⟩) n c, .int .i64 i, .int .i64 j, .slice A m mc] w fun e w' => e = .returned (.slice (some ⟨g, 0, none⟩) T c) ∧ OwnP 143 w' B (.slice (some ⟨g, 0, none⟩) T c) (ps.take i ++ qs ++ ps.drop j) ∧ w.grownBy w' (some g) := by
  obtain ⟨L, hL⟩ : ∃ L, L = ps.take i ++ qs ++ ps.drop j := ⟨_, rfl⟩
  rw [← hL]
  have HLL := Lib.hid hL
  clear hL
  have hc2 := hcm
  unfold maxLen at hc2
  have h0 : (0 : Int) ≤ (i : Int) := by omega
  have h1 : ¬ ((i : Int) = (j : Int)) := by omega
  have h2 : (i : Int) ≤ (j : Int) := by omega
  have h3 : (j : Int) ≤ (c : Int) := by omega
  have h4 : (i : Int) ≤ (c : Int) := by omega
  have h5 : ¬ (c = i) := by omega
  have h6 : ¬ ((j : Int) = (n : Int)) := by omega
  have h7 : (j : Int) ≤ (n : Int) := by omega
  have h8 : j ≤ n := by omega
  have h9 : (0 : Int) ≤ (j : Int) := by omega
  have h10 : ¬ (c = j) := by omega
  have hw1 : IntKind.i64.wrap ((i : Int) + (m : Int)) = (i : Int) + (m : Int) := by rw [IntKind.wrap_i64]; omega
  have hw2 : IntKind.i64.wrap ((i : Int) + (m : Int) + ((n : Int) - (j : Int))) = (i : Int) + (m : Int) + ((n : Int) - (j : Int)) := by rw [IntKind.wrap_i64]; omega
  have hw3 : IntKind.i64.wrap ((i : Int) + (m : Int) + ((n - j : Nat) : Int)) = (i : Int) + (m : Int) + ((n - j : Nat) : Int) := by rw [IntKind.wrap_i64]; omega
  go_enter Tryz.func233, Tryz.ntmps233
  go_wp2_with fail
  go_quiet (fail)
  rw [show (i : Int) + (m : Int) + ((n - j : Nat) : Int) = (T : Int) by omega]
  obtain ⟨W, hW⟩ : ∃ W, W = w.drewN nq := ⟨_, rfl⟩
  have hgW : W.heap[g]? = some (.cells cur.toArray 143 (0, 0)) := by rw [hW]; exact hg
  have hqW : Src W A m qs g := by rw [hW]; exact hq.drewN nq
  have HBACK := Lib.hid (show ∀ w' r, W.grownBy w' r → w.grownBy w' r from fun w' r h => by rw [hW] at h; exact grown_drewN' h)
  rw [← hW]
  clear hW hg hq hw2 hw3
  have hql := hqW.len
  have hdl : (prs (ps.drop j)).length = (n - j) * 2 := by rw [prs_len, List.length_drop, hn]
  have hqll : (prs qs).length = m * 2 := by rw [prs_len, hql]
  obtain ⟨w1, hr1, hg1, hgb1, _⟩ := run_copy2 (P := Tryz.prog) W 140 140 143 Tryz.underlying140 size_range (some ⟨g, i * 2, none⟩) A (T - i) (c - i) m mc m (by simp only [Nat.min_def]; split <;> omega) g (i * 2) cur 143 hgW (prs qs) hqll (hqW.pos _) (by rw [hqll, hcl]; omega) (prs_one _)
  have hl1 : (splice cur (i * 2) (prs qs)).length = c * 2 := by rw [length_splice _ _ _ (by rw [hqll, hcl]; omega), hcl]
  have hsr := src_of hg1 (o := j * 2) (cs := prs (ps.drop j)) (by rw [splice_behind _ _ _ _ (by rw [hcl]; omega) (by rw [hqll]; omega)]; exact row_drop hn hct j)
  have hfin := easy_take cur ps qs i m j n (row_take hct i (by omega)) hql hn (by rw [hcl]; omega)
  have hlen : (ps.take i ++ qs ++ ps.drop j).length = T := by simp; omega
  rw [← HLL.out] at hfin hlen
  rw [← hT] at hfin
  have HG1 := Lib.hid hg1
  have HGB1 := Lib.hid hgb1
  have HSR := Lib.hid hsr
  have HL1 := Lib.hid hl1
  have HDL := Lib.hid hdl
  have HFIN := Lib.hid hfin
  have HLEN := Lib.hid hlen
  have HT := Lib.hid hT
  have k1 : (T : Int) ≤ (c : Int) := by omega
  have k2 : ¬ ((c : Int) < (T : Int)) := by omega
  have k3 : (i : Int) + (m : Int) ≤ (j : Int) := by omega
  have k4 : (i : Int) ≤ (T : Int) := by omega
  have k5 : (0 : Int) ≤ (T : Int) := by omega
  have k6 : (0 : Int) ≤ (i : Int) + (m : Int) := by omega
  have k7 : ((i : Int) + (m : Int)).toNat = i + m := by omega
  have k8 : ¬ (c = i + m) := by omega
  have k9 : (i : Int) + (m : Int) ≤ (T : Int) := by omega
  have k10 : i + m ≤ T := by omega
  have k11 : i ≤ T := by omega
  have k12 : (T : Int) ≤ (n : Int) := by omega
  have k13 : T ≤ n := by omega
  have mixed : Tryz.prog.follows .mixedOrders = true := by kernel_rfl
  clear hdl hqll hg1 hgb1 hl1 hsr hfin hlen hT hql hqW hgW hn hcl hct
  go_wp2
  go_region_law (refine step_copy2 rfl (.tmp 103) (.tmp 106) 140 140 rfl 143 Tryz.underlying140 size_range (some ⟨g, (i + m) * 2, none⟩) (some ⟨g, j * 2, none⟩) (T - (i + m)) (c - (i + m)) (n - j) (c - j) (by simp [Act.eval, Act.put]) (by simp [Act.eval, Act.put]) (n - j) (by have := HT.out; simp only [Nat.min_def]; split <;> omega) g ((i + m) * 2) (splice cur (i * 2) (prs qs)) 143 HG1.out (prs (ps.drop j)) HDL.out (fun _ => ⟨rfl, _, rfl, HSR.out⟩) (by rw [HDL.out, HL1.out]; omega) (prs_one _) ?_; intro w2 hg2 hb2 hs2)
  have hl2 : (splice (splice cur (i * 2) (prs qs)) ((i + m) * 2) (prs (ps.drop j))).length = c * 2 := by rw [length_splice _ _ _ (by rw [HDL.out, HL1.out]; omega), HL1.out]
  have HL2 := Lib.hid hl2
  have fin : ∀ (w3 : World) (Z : List Value), Z.length = (n - T) * 2 → w3.heap[g]? = some (.cells (splice (splice (splice cur (i * 2) (prs qs)) ((i + m) * 2) (prs (ps.drop j))) (T * 2) Z).toArray 143 (0, 0)) → w2.grownBy w3 (some g) → OwnP 143 w3 B (.slice (some ⟨g, 0, none⟩) T c) L ∧ w.grownBy w3 (some g) := by
    intro w3 Z hZ hg3 hgb3
    refine ⟨OwnP.of hBg hg3 HLEN.out (by omega) hcm (by rw [length_splice _ _ _ (by rw [HL2.out, hZ]; omega), HL2.out]) ?_, HBACK.out _ _ ((HGB1.out.trans (grown_drP hb2.out)).trans hgb3)⟩
    rw [splice_ahead _ _ _ _ (by rw [HL2.out]; omega) (Nat.le_refl _)]
    exact HFIN.out
  have FIN := Lib.hid fin
  by_cases hcT : c = T
  · obtain ⟨w3, Z, hr3, hZ, hg3, hgb3, _⟩ := run_clear2 (P := Tryz.prog) w2 140 143 _ Tryz.underlying140 Tryz.zeroValue143 rfl (some ⟨g, 0, none⟩) (n - T) (c - T) g (T * 2) _ 143 hg2.out (fun h => by omega) (by rw [HL2.out]; omega)
    have H := Lib.hid (FIN.out w3 Z hZ hg3 hgb3)
    clear hZ hg3 hgb3 fin hl2
    subst hcT
    rw [show n - c = 0 by omega, Nat.sub_self] at hr3
    go_wp2
    go_ret
    exact ⟨rfl, H.out⟩
  · obtain ⟨w3, Z, hr3, hZ, hg3, hgb3, _⟩ := run_clear2 (P := Tryz.prog) w2 140 143 _ Tryz.underlying140 Tryz.zeroValue143 rfl (some ⟨g, T * 2, none⟩) (n - T) (c - T) g (T * 2) _ 143 hg2.out (fun _ => rfl) (by rw [HL2.out]; omega)
    have H := Lib.hid (FIN.out w3 Z hZ hg3 hgb3)
    clear hZ hg3 hgb3 fin hl2
    go_wp2
    go_ret
    exact ⟨rfl, H.out⟩
set_option maxHeartbeats 400000 in
set_option maxRecDepth 100000 in
theorem replace_shift (g c i j n m mc T gb : Nat) (cur : List Value) (ps qs : List (Int × Int)) (B : Nat) (w : World) (hg : w.heap[g]? = some (.cells cur.toArray 143 (0, 0))) (hn : ps.length = n) (hcl : cur.length = c * 2) (hct : cur.take (n * 2) = prs ps) (hBg : B ≤ g) (hnc : n ≤ c) (hcm : c ≤ maxLen)
    (hqo : OwnP 143 w B (.slice (some ⟨gb, 0, none⟩) m mc) qs) (hne : gb ≠ g) (hij : i < j) (hjn : j < n) (him : j < i + m) (hT : T = i + m + (n - j)) (hTc : T ≤ c) :
    Calls Tryz.prog 233 #[.slice (some ⟨g, 0, none⟩) n c, .int .i64 i, .int .i64 j, .slice (some ⟨gb, 0, none⟩) m mc] w fun e w' => e = .returned (.slice (some ⟨g, 0, none⟩) T c) ∧ OwnP 143 w' B (.slice (some ⟨g, 0, none⟩) T c) (ps.take i ++ qs ++ ps.drop j) ∧ w.grownBy w' (some g) := by
  have hq : Src w (some ⟨gb, 0, none⟩) m qs g := hqo.toSrc g (fun x hx => by simp [Value.ownBlock] at hx; omega)
  have hov0 : ∀ k lb cb, (callFunc 267 #[.slice (some ⟨g, (i + m) * 2, none⟩) lb cb, .slice (some ⟨gb, 0, none⟩) m mc]).run Tryz.prog (w.drewN k) = .ok (.value (.bool false)) (w.drewN k) := by
    intro k lb cb
    obtain ⟨_, cub, hgb, hcb, _, _, h1, _⟩ := hqo.heap
    exact overlaps_apart2 (w.drewN k) g gb _ m mc lb cb cur cub hne hg hgb (by omega)
  obtain ⟨L, hL⟩ : ∃ L, L = ps.take i ++ qs ++ ps.drop j := ⟨_, rfl⟩
  rw [← hL]
  have HLL := Lib.hid hL
  clear hL
  have hc2 := hcm
  unfold maxLen at hc2
  have h0 : (0 : Int) ≤ (i : Int) := by omega
  have h1 : ¬ ((i : Int) = (j : Int)) := by omega
  have h2 : (i : Int) ≤ (j : Int) := by omega
  have h3 : (j : Int) ≤ (c : Int) := by omega
  have h4 : (i : Int) ≤ (c : Int) := by omega
  have h5 : ¬ (c = i) := by omega
  have h6 : ¬ ((j : Int) = (n : Int)) := by omega
  have h7 : (j : Int) ≤ (n : Int) := by omega
  have h8 : j ≤ n := by omega
  have h9 : (0 : Int) ≤ (j : Int) := by omega
  have h10 : ¬ (c = j) := by omega
  have hw1 : IntKind.i64.wrap ((i : Int) + (m : Int)) = (i : Int) + (m : Int) := by rw [IntKind.wrap_i64]; omega
  have hw2 : IntKind.i64.wrap ((i : Int) + (m : Int) + ((n : Int) - (j : Int))) = (i : Int) + (m : Int) + ((n : Int) - (j : Int)) := by rw [IntKind.wrap_i64]; omega
  have hw3 : IntKind.i64.wrap ((i : Int) + (m : Int) + ((n - j : Nat) : Int)) = (i : Int) + (m : Int) + ((n - j : Nat) : Int) := by rw [IntKind.wrap_i64]; omega
  go_enter Tryz.func233, Tryz.ntmps233
  go_wp2_with fail
  go_quiet (fail)
  rw [show (i : Int) + (m : Int) + ((n - j : Nat) : Int) = (T : Int) by omega]
  obtain ⟨W, hW⟩ : ∃ W, W = w.drewN nq := ⟨_, rfl⟩
  have hgW : W.heap[g]? = some (.cells cur.toArray 143 (0, 0)) := by rw [hW]; exact hg
  have hqW : Src W (some ⟨gb, 0, none⟩) m qs g := by rw [hW]; exact hq.drewN nq
  have HBACK := Lib.hid (show ∀ w' r, W.grownBy w' r → w.grownBy w' r from fun w' r h => by rw [hW] at h; exact grown_drewN' h)
  have hov : ∀ lb cb, (callFunc 267 #[.slice (some ⟨g, (i + m) * 2, none⟩) lb cb, .slice (some ⟨gb, 0, none⟩) m mc]).run Tryz.prog W = .ok (.value (.bool false)) W := by rw [hW]; exact hov0 nq
  rw [← hW]
  clear hW hg hq hqo hov0 hw2 hw3
  have hql := hqW.len
  have hdl : (prs (ps.drop j)).length = (n - j) * 2 := by rw [prs_len, List.length_drop, hn]
  have hqll : (prs qs).length = m * 2 := by rw [prs_len, hql]
  have hsr := src_of hgW (row_drop hn hct j)
  have hfin := shift_take cur ps qs i m j n (row_take hct i (by omega)) hql hn (by rw [hcl]; omega)
  have hlen : (ps.take i ++ qs ++ ps.drop j).length = T := by simp; omega
  rw [← HLL.out] at hfin hlen
  rw [← hT] at hfin
  have HG := Lib.hid hgW
  have HQ := Lib.hid hqW
  have HQL := Lib.hid hqll
  have HSR := Lib.hid hsr
  have HCL := Lib.hid hcl
  have HDL := Lib.hid hdl
  have HFIN := Lib.hid hfin
  have HLEN := Lib.hid hlen
  have HT := Lib.hid hT
  have k1 : (T : Int) ≤ (c : Int) := by omega
  have k2 : ¬ ((c : Int) < (T : Int)) := by omega
  have k3 : ¬ ((i : Int) + (m : Int) ≤ (j : Int)) := by omega
  have k4 : (i : Int) ≤ (T : Int) := by omega
  have k5 : (0 : Int) ≤ (T : Int) := by omega
  have k6 : (0 : Int) ≤ (i : Int) + (m : Int) := by omega
  have k7 : ((i : Int) + (m : Int)).toNat = i + m := by omega
  have k8 : ¬ (c = i + m) := by omega
  have k9 : (i : Int) + (m : Int) ≤ (T : Int) := by omega
  have k10 : i + m ≤ T := by omega
  have k11 : i ≤ T := by omega
  have mixed : Tryz.prog.follows .mixedOrders = true := by kernel_rfl
  clear hdl hqll hsr hfin hlen hT hql hqW hgW hn hcl hct
  go_wp2_with (simp only [hov])
  go_region_law (refine step_copy2 rfl (.tmp 126) (.tmp 129) 140 140 rfl 143 Tryz.underlying140 size_range (some ⟨g, (i + m) * 2, none⟩) (some ⟨g, j * 2, none⟩) (T - (i + m)) (c - (i + m)) (n - j) (c - j) (by simp [Act.eval, Act.put]) (by simp [Act.eval, Act.put]) (n - j) (by have := HT.out; simp only [Nat.min_def]; split <;> omega) g ((i + m) * 2) cur 143 HG.out (prs (ps.drop j)) HDL.out (fun _ => ⟨rfl, _, rfl, HSR.out⟩) (by have := HT.out; rw [HDL.out, HCL.out]; omega) (prs_one _) ?_; intro w1 hg1 hb1 hs1)
  have hl1 : (splice cur ((i + m) * 2) (prs (ps.drop j))).length = c * 2 := by have := HT.out; rw [length_splice _ _ _ (by rw [HDL.out, HCL.out]; omega), HCL.out]
  have hq1 := HQ.out.grown (grown_drP hb1.out)
  obtain ⟨w2, hr2, hg2, hgb2, _⟩ := run_copy2 (P := Tryz.prog) w1 140 140 143 Tryz.underlying140 size_range (some ⟨g, i * 2, none⟩) (some ⟨gb, 0, none⟩) (T - i) (c - i) m mc m (by have := HT.out; simp only [Nat.min_def]; split <;> omega) g (i * 2) _ 143 hg1.out (prs qs) HQL.out (hq1.pos _) (by have := HT.out; rw [HQL.out, hl1]; omega) (prs_one _)
  have hl2 : (splice (splice cur ((i + m) * 2) (prs (ps.drop j))) (i * 2) (prs qs)).length = c * 2 := by have := HT.out; rw [length_splice _ _ _ (by rw [HQL.out, hl1]; omega), hl1]
  have H := Lib.hid (show OwnP 143 w2 B (.slice (some ⟨g, 0, none⟩) T c) L ∧ w.grownBy w2 (some g) from ⟨OwnP.of hBg hg2 HLEN.out hTc hcm hl2 HFIN.out, HBACK.out _ _ ((grown_drP hb1.out).trans hgb2)⟩)
  clear hl1 hl2 hq1 hg2 hgb2
  go_wp2
  go_ret
  exact ⟨rfl, H.out⟩
set_option maxHeartbeats 400000 in
set_option maxRecDepth 100000 in
theorem replace_grow (g c i j n m mc T : Nat) (cur : List Value) (ps qs : List (Int × Int)) (A : Option Addr) (B : Nat) (w : World) (hg : w.heap[g]? = some (.cells cur.toArray 143 (0, 0))) (hn : ps.length = n) (hcl : cur.length = c * 2) (hct : cur.take (n * 2) = prs ps) (hB : B ≤ w.heap.size) (hnc : n ≤ c) (hcm : c ≤ maxLen)
    (hq : Src w A m qs w.heap.size) (hij : i < j) (hjn : j < n) (hT : T = i + m + (n - j)) (hTc : c < T) (hb : T * 16 ≤ 140737488355328) :
    Calls Tryz.prog 233 #[.slice (some ⟨g, 0, none⟩) n c, .int .i64 i, .int .i64 j, .slice A m mc] w fun e w' => ∃ C, e = .returned (.slice (some ⟨w.heap.size, 0, none⟩) T C) ∧ OwnP 143 w' B (.slice (some ⟨w.heap.size, 0, none⟩) T C) (ps.take i ++ qs ++ ps.drop j) ∧ ∀ r, w.grownBy w' r := by
  have hglt : g < w.heap.size := by
    rcases Nat.lt_or_ge g w.heap.size with h | h
    · exact h
    · rw [Array.getElem?_eq_none h] at hg; cases hg
  obtain ⟨L, hL⟩ : ∃ L, L = ps.take i ++ qs ++ ps.drop j := ⟨_, rfl⟩
  rw [← hL]
  have HLL := Lib.hid hL
  clear hL
  have hc2 := hcm
  unfold maxLen at hc2
  obtain ⟨N, hN⟩ : ∃ N, w.heap.size = N := ⟨_, rfl⟩
  rw [hN] at hq hglt hB ⊢
  have HN := Lib.hid hN
  clear hN
  have h0 : (0 : Int) ≤ (i : Int) := by omega
  have h1 : ¬ ((i : Int) = (j : Int)) := by omega
  have h2 : (i : Int) ≤ (j : Int) := by omega
  have h3 : (j : Int) ≤ (c : Int) := by omega
  have h4 : (i : Int) ≤ (c : Int) := by omega
  have h5 : ¬ (c = i) := by omega
  have h6 : ¬ ((j : Int) = (n : Int)) := by omega
  have h7 : (j : Int) ≤ (n : Int) := by omega
  have h8 : j ≤ n := by omega
  have h9 : (0 : Int) ≤ (j : Int) := by omega
  have h10 : ¬ (c = j) := by omega
  have hw1 : IntKind.i64.wrap ((i : Int) + (m : Int)) = (i : Int) + (m : Int) := by rw [IntKind.wrap_i64]; omega
  have hw2 : IntKind.i64.wrap ((i : Int) + (m : Int) + ((n : Int) - (j : Int))) = (i : Int) + (m : Int) + ((n : Int) - (j : Int)) := by rw [IntKind.wrap_i64]; omega
  have hw3 : IntKind.i64.wrap ((i : Int) + (m : Int) + ((n - j : Nat) : Int)) = (i : Int) + (m : Int) + ((n - j : Nat) : Int) := by rw [IntKind.wrap_i64]; omega
  go_enter Tryz.func233, Tryz.ntmps233
  go_wp2_with fail
  go_quiet (fail)
  rw [show (i : Int) + (m : Int) + ((n - j : Nat) : Int) = (T : Int) by omega]
  obtain ⟨W, hW⟩ : ∃ W, W = w.drewN nq := ⟨_, rfl⟩
  have hgW : W.heap[g]? = some (.cells cur.toArray 143 (0, 0)) := by rw [hW]; exact hg
  have hqW : Src W A m qs N := by rw [hW]; exact hq.drewN nq
  have hNW : W.heap.size = N := by rw [hW]; exact HN.out
  have HBACK := Lib.hid (show ∀ w' r, W.grownBy w' r → w.grownBy w' r from fun w' r h => by rw [hW] at h; exact grown_drewN' h)
  rw [← hW]
  clear hW hg hq hw2 hw3
  have hql := hqW.len
  have htl : (prs (ps.take i)).length = i * 2 := by rw [prs_len, List.length_take]; omega
  have hdl : (prs (ps.drop j)).length = (n - j) * 2 := by rw [prs_len, List.length_drop, hn]
  have hqll : (prs qs).length = m * 2 := by rw [prs_len, hql]
  have hrt := row_take hct i (by omega)
  obtain ⟨C, cur1, w1, hr1, hg1, hcl1, hct1, hC1, hC2, hgb1, hsz1⟩ := run_grow2 (P := Tryz.prog) W 140 3 140 143 _ Tryz.underlying140 Tryz.underlying3 info_range rfl g i c (T - i) (prs (ps.take i)) htl
    (fun k v hj => by
      have := src_of hgW (o := 0) (cs := prs (ps.take i)) (by rw [htl, List.drop_zero]; exact hrt) k v hj
      rw [Addr.add_lit, Nat.zero_add] at this; exact this) (by omega) (by omega) (by rw [show i + (T - i) = T by omega]; exact hb) (some ⟨g, 0, none⟩) (fun _ => rfl)
  rw [show i + (T - i) = T by omega, hNW] at hr1
  rw [show i + (T - i) = T by omega] at hC1
  rw [show ((T - i : Nat) : Int) = (T : Int) - (i : Int) by omega] at hr1
  rw [hNW] at hg1 hsz1
  have hq1 := hqW.grown (grown_none (r := some N) hgb1)
  obtain ⟨w2, hr2, hg2, hgb2, hsz2⟩ := run_copy2 (P := Tryz.prog) w1 140 140 143 Tryz.underlying140 size_range (some ⟨N, i * 2, none⟩) A (T - i) (C - i) m mc m (by simp only [Nat.min_def]; split <;> omega) N (i * 2) cur1 143 hg1 (prs qs) hqll (hq1.pos _) (by rw [hqll, hcl1]; omega) (prs_one _)
  have hl2 : (splice cur1 (i * 2) (prs qs)).length = C * 2 := by rw [length_splice _ _ _ (by rw [hqll, hcl1]; omega), hcl1]
  have hgo : w2.heap[g]? = some (.cells cur.toArray 143 (0, 0)) := by
    rw [hgb2.block g (by have := hgb1.size; omega) (by simp; omega), hgb1.block g (by omega) (by simp)]; exact hgW
  have hfin := easy_take cur1 ps qs i m j n hct1 hql hn (by rw [hcl1]; omega)
  have hlen : (ps.take i ++ qs ++ ps.drop j).length = T := by simp; omega
  rw [← HLL.out] at hfin hlen
  rw [← hT] at hfin
  have hc3 := hC2
  unfold maxLen at hc3
  have HB := Lib.hid hB
  have HG2 := Lib.hid hg2
  have HSR := Lib.hid (src_of hgo (row_drop hn hct j))
  have HL2 := Lib.hid hl2
  have HDL := Lib.hid hdl
  have HFIN := Lib.hid hfin
  have HLEN := Lib.hid hlen
  have hgnew := fun r => grown_new (r := r) hgb1 (by rw [hNW]; exact hgb2)
  have HGB := Lib.hid hgnew
  have HSZ := Lib.hid (show N < w2.heap.size by omega)
  have HNW := Lib.hid hNW
  have HT := Lib.hid hT
  have k1 : (c : Int) < (T : Int) := by omega
  have k4 : (i : Int) ≤ (T : Int) := by omega
  have k5 : (0 : Int) ≤ (T : Int) := by omega
  have k6 : (0 : Int) ≤ (i : Int) + (m : Int) := by omega
  have k7 : ((i : Int) + (m : Int)).toNat = i + m := by omega
  have k8 : ¬ (C = i + m) := by omega
  have k9 : (i : Int) + (m : Int) ≤ (T : Int) := by omega
  have k10 : i + m ≤ T := by omega
  have k11 : i ≤ T := by omega
  have k12 : ¬ (C = i) := by omega
  have mixed : Tryz.prog.follows .mixedOrders = true := by kernel_rfl
  clear hgW hn hcl hct hqW hdl hqll hfin hlen hql hcl1 hct1 hgb1 hgb2 hg1 hg2 hgo hl2 hrt htl hq1 hsz1 hsz2 hB hb hglt hC2 hgnew hNW hT
  go_wp2_with (at_builtin; refine wpList_append_r rfl (.tmp 63) (.tmp 66) 140 3 rfl _ _ rfl rfl hr1 ?_)
  go_region_law (refine step_copy2 rfl (.tmp 78) (.tmp 81) 140 140 rfl 143 Tryz.underlying140 size_range (some ⟨N, (i + m) * 2, none⟩) (some ⟨g, j * 2, none⟩) (T - (i + m)) (C - (i + m)) (n - j) (c - j) (by simp [Act.eval, Act.put]) (by simp [Act.eval, Act.put]) (n - j) (by have := HT.out; simp only [Nat.min_def]; split <;> omega) N ((i + m) * 2) (splice cur1 (i * 2) (prs qs)) 143 HG2.out (prs (ps.drop j)) HDL.out (fun _ => ⟨rfl, _, rfl, HSR.out⟩) (by have := HT.out; rw [HDL.out, HL2.out]; omega) (prs_one _) ?_; intro w3 hg3 hb3' hs3)
  go_wp2
  go_ret
  refine ⟨C, rfl, OwnP.of HB.out hg3.out HLEN.out hC1 (by unfold maxLen; omega) ?_ HFIN.out, fun r => HBACK.out _ _ ?_⟩
  · have := HT.out
    rw [length_splice _ _ _ (by rw [HDL.out, HL2.out]; omega), HL2.out]
  · have h3 := hb3'.out
    have h2 := HGB.out (some N)
    have h4 := h2.trans (grown_drP h3)
    exact ⟨h4.os, h4.tape, h4.output, h4.size, fun k hk _ => h4.block k hk (by have := HNW.out; simp; omega)⟩
end Go.Proofs.YtpjlnpnadkbakaaGreat
namespace Go.Proofs.YtpjlnpnadkbakaaGreat
set_option maxRecDepth 10000
open Go.RowKit
def Left (w : World) (B : Nat) (ob : Option Nat) (ls : List (Int × Int)) (e : Ending) (w' : World) : Prop :=
  ∃ v', e = .returned v' ∧ OwnP 143 w' B v' ls ∧ w.grownBy w' ob ∧ ∀ g, v'.ownBlock = some g → ob = some g ∨ w.heap.size ≤ g
theorem insert_any (v u : Value) (ps qs : List (Int × Int)) (B i n m : Nat) (w : World) (ob : Option Nat) (h : OwnP 143 w B v ps) (hob : v.ownBlock = ob) (hu : OwnP 143 w B u qs) (hn : ps.length = n) (hm : qs.length = m) (hin : i ≤ n) (h0 : 0 < m) (hne : ∀ g, u.ownBlock = some g → ob ≠ some g) (hb : (n + m) * 16 ≤ 140737488355328) (hB : B ≤ w.heap.size) :
    Calls Tryz.prog 266 #[v, .int .i64 i, u] w (Left w B ob (ps.take i ++ qs ++ ps.drop i)) := by
  obtain ⟨A, mc, rfl⟩ := hu.form
  rw [hm] at hu ⊢
  by_cases hi : i = n
  · subst hi
    have := insert_end v ps qs B m mc A ob w h hob (by rw [hm] at *; exact hu) h0 (by rw [hn]; exact hb) hB
    rw [hn] at this
    rw [← hn, List.take_length, List.drop_length, List.append_nil, hn]
    exact this
  · rcases h.parts with ⟨_, rfl⟩ | ⟨g, c, cur, rfl, hBg, hg, hnc, hcm, hcl, hct⟩
    · simp at hn; omega
    · rw [hn] at hnc hct ⊢
      obtain ⟨gb, rfl, _⟩ := hu.at h0
      have hng : gb ≠ g := fun e => hne gb rfl (by rw [← hob, e]; rfl)
      have hgl := (h.lt g rfl).2
      by_cases hroom : n + m ≤ c
      · refine (insert_shift g c cur ps qs B i n m mc gb w hg hn hcl hct hBg hcm hu hng h0 (by omega) hroom).mono ?_
        rintro e w' ⟨rfl, h1, h2⟩
        exact ⟨_, rfl, h1, by rw [← hob]; exact h2, fun x hx => .inl (by rw [← hob]; exact hx)⟩
      · refine (insert_grow g c cur ps qs B i n m mc _ w hg hn hcl hct hnc (hu.toSrc _ fun x hx => by have := (hu.lt x hx).2; omega) h0 (by omega) (by omega) hb hB).mono ?_
        rintro e w' ⟨C, rfl, h1, h2⟩
        exact ⟨_, rfl, h1, h2 _, fun x hx => .inr (by simp [Value.ownBlock] at hx; omega)⟩
theorem replace_any (v u : Value) (ps qs : List (Int × Int)) (B i j n m : Nat) (w : World) (ob : Option Nat) (h : OwnP 143 w B v ps) (hob : v.ownBlock = ob) (hu : OwnP 143 w B u qs) (hn : ps.length = n) (hm : qs.length = m) (hij : i ≤ j) (hjn : j ≤ n) (h0 : i < j ∨ 0 < m) (hne : ∀ g, u.ownBlock = some g → ob ≠ some g) (hb : (n + m) * 16 ≤ 140737488355328) (hB : B ≤ w.heap.size) :
    Calls Tryz.prog 233 #[v, .int .i64 i, .int .i64 j, u] w (Left w B ob (ps.take i ++ qs ++ ps.drop j)) := by
  by_cases hi : i = j
  · subst hi
    have hI := insert_any v u ps qs B i n m w ob h hob hu hn hm hjn (by omega) hne hb hB
    obtain ⟨A0, c0, hv⟩ := h.form
    have hc := (show OwnP 143 w B (.slice A0 ps.length c0) ps by rw [← hv]; exact h).cap
    rw [hn] at hv hc
    exact replace_ins v i u n _ A0 c0 w hv hjn hc.1 (by rintro e w' ⟨v', rfl, _⟩; exact ⟨v', rfl⟩) hI
  · obtain ⟨A, mc, rfl⟩ := hu.form
    rw [hm] at hu hne ⊢
    have hql := hu.len
    rcases h.parts with ⟨_, rfl⟩ | ⟨g, c, cur, rfl, hBg, hg, hnc, hcm, hcl, hct⟩
    · simp at hn; omega
    · rw [hn] at hnc hct h ⊢
      have hgl := (h.lt g rfl).2
      have hob' : ob = some g := hob.symm
      have hsg : Src w A m qs g := hu.toSrc g fun x hx e => hne x hx (by rw [hob', e])
      have hsN : Src w A m qs w.heap.size := hu.toSrc _ fun x hx => by have := (hu.lt x hx).2; omega
      by_cases hj : j = n
      · subst hj
        rw [show ps.drop j = [] from List.drop_eq_nil_of_le (by omega), List.append_nil]
        have hcut := h.cut i (by omega)
        have hcl' : (ps.take i).length = i := by rw [List.length_take]; omega
        by_cases him : i + m < j
        · obtain ⟨w1, hr1, ho1, hg1⟩ := run_app2_fits (P := Tryz.prog) w 140 140 143 _ Tryz.underlying140 info_range B g i c (ps.take i) hcut A m mc qs hql (fun hp => (hsg.pos A hp).2) (by omega)
          obtain ⟨_, cur1, hgc, hl1, ht1, _⟩ := ho1.heap
          obtain ⟨w2, Z, hr2, hZ, hg2, hgb2, _⟩ := run_clear2 (P := Tryz.prog) w1 140 143 _ Tryz.underlying140 Tryz.zeroValue143 rfl (some ⟨g, (i + m) * 2, none⟩) (j - (i + m)) (c - (i + m)) g ((i + m) * 2) cur1 143 hgc (fun _ => rfl) (by rw [hl1]; omega)
          refine (replace_end1 g c i j m mc A w w1 w2 (by omega) hnc him hr1 hr2).mono ?_
          rintro e w' ⟨rfl, rfl⟩
          refine ⟨_, rfl, OwnP.of hBg hg2 ho1.len (by omega) hcm (by rw [length_splice _ _ _ (by rw [hl1, hZ]; omega), hl1]) (by rw [splice_ahead _ _ _ _ (by rw [hl1]; omega) (Nat.le_refl _)]; exact ht1), by rw [hob']; exact hg1.trans hgb2, fun x hx => .inl (by rw [hob']; exact hx)⟩
        · obtain ⟨A', c', w1, hr1, ho1, hg1, hf1⟩ := run_app2 (P := Tryz.prog) w 140 140 143 _ Tryz.underlying140 info_range rfl B (.slice (some ⟨g, 0, none⟩) i c) (ps.take i) hcut A m mc qs hql (fun hp => (hsg.pos A hp).2) (by rw [hcl']; omega) hB
          rw [hcl'] at hr1 ho1 hf1
          refine (replace_end0 _ c i j m mc _ A w w1 (by omega) hnc (by omega) A' c' rfl hr1).mono ?_
          rintro e w' ⟨rfl, rfl⟩
          exact ⟨_, rfl, ho1, by rw [hob']; exact hg1, fun x hx => by rw [hob']; exact hf1 x hx⟩
      · by_cases him : i + m ≤ j
        · refine (replace_easy g c i j n m mc _ cur ps qs A B w hg hn hcl hct hBg hnc hcm hsg (by omega) (by omega) him rfl).mono ?_
          rintro e w' ⟨rfl, h1, h2⟩
          exact ⟨_, rfl, h1, by rw [hob']; exact h2, fun x hx => .inl (by rw [hob']; exact hx)⟩
        · by_cases hroom : i + m + (n - j) ≤ c
          · obtain ⟨gb, rfl, _⟩ := hu.at (by omega)
            refine (replace_shift g c i j n m mc _ gb cur ps qs B w hg hn hcl hct hBg hnc hcm hu (fun e => hne gb rfl (by rw [hob', e])) (by omega) (by omega) (by omega) rfl hroom).mono ?_
            rintro e w' ⟨rfl, h1, h2⟩
            exact ⟨_, rfl, h1, by rw [hob']; exact h2, fun x hx => .inl (by rw [hob']; exact hx)⟩
          · refine (replace_grow g c i j n m mc _ cur ps qs A B w hg hn hcl hct hB hnc hcm hsN (by omega) (by omega) rfl (by omega) (by omega)).mono ?_
            rintro e w' ⟨C, rfl, h1, h2⟩
            exact ⟨_, rfl, h1, h2 _, fun x hx => .inr (by simp [Value.ownBlock] at hx; omega)⟩
end Go.Proofs.YtpjlnpnadkbakaaGreat

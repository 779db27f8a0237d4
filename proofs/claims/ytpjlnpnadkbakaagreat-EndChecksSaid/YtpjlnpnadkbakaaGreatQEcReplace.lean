/-
  Replace.
-/
import Derived.Test.YtpjlnpnadkbakaaGreatRows
import Derived.Test.YtpjlnpnadkbakaaGreatQEcPair
import Derived.Handy
import Derived.Deep.RegionLaw
import Derived.Lib.Walk
import Derived.WalkLawsBesides
namespace Go.Proofs.YtpjlnpnadkbakaaGreat
set_option maxRecDepth 10000
open Go.RowKit

section
variable {P : Program}
theorem wp_copy2 {w : World} {o : Oper} {a : Act} {K : Act → World → Prop} {Q : Exit → Act → World → Prop} (d s : Operand) (dT sT : TypeId)
    (ho : o.op = .call { callee := .builtin .copy, args := #[d, s], argTypes := #[dT, sT] }) (elem : TypeId) (hu : P.underlying dT = some (.slice elem)) (hs2 : (P.info? elem).map (·.size) = some 2)
    (dp sp : Option Addr) (dLen dCap sLen sCap : Nat) (hd : a.eval d = .slice dp dLen dCap) (hs : a.eval s = .slice sp sLen sCap) (k : Nat) (hk : Nat.min sLen dLen = k)
    (g off : Nat) (cur : List Value) (t : TypeId) (hg : w.heap[g]? = some (.cells cur.toArray t (0, 0))) (cs : List Value) (hn : cs.length = k * 2)
    (hpos : 0 < k → dp = some ⟨g, off, none⟩ ∧ ∃ ad, sp = some ad ∧ ∀ j v, cs[j]? = some v → w.cell? (ad.add j) = some v) (hfit : off + cs.length ≤ cur.length) (h1 : ∀ v ∈ cs, v.oneCell' = true)
    (h : ∀ w', Hid (w'.heap[g]? = some (.cells (splice cur off cs).toArray t (0, 0))) → Hid (w.grownBy w' (some g)) → Hid (w'.heap.size = w.heap.size) → K (a.put o.dst (goInt k)) w') : o.wp P a w K Q := by
  obtain ⟨w', hr, h2, h3, h4⟩ := run_copy2 (P := P) w dT sT elem hu hs2 dp sp dLen dCap sLen sCap k hk g off cur t hg cs hn hpos hfit h1
  unfold Oper.wp execOp
  simp only [ho, resolve, invoke, builtin, Sem.run_bind, Sem.run_pure, Result.andThen_ok, List.map_toArray, List.map_cons, List.map_nil, hd, hs, hr]
  exact h w' h2 h3 h4
theorem wpList_copy2 {w : World} {ops : Array Oper} {rest : List Oper} {o : Oper} {a : Act} {Q : Exit → Act → World → Prop} (hgd : o.guard = none) (d s : Operand) (dT sT : TypeId)
    (ho : o.op = .call { callee := .builtin .copy, args := #[d, s], argTypes := #[dT, sT] }) (elem : TypeId) (hu : P.underlying dT = some (.slice elem)) (hs2 : (P.info? elem).map (·.size) = some 2)
    (dp sp : Option Addr) (dLen dCap sLen sCap : Nat) (hd : a.eval d = .slice dp dLen dCap) (hs : a.eval s = .slice sp sLen sCap) (k : Nat) (hk : Nat.min sLen dLen = k)
    (g off : Nat) (cur : List Value) (t : TypeId) (hg : w.heap[g]? = some (.cells cur.toArray t (0, 0))) (cs : List Value) (hn : cs.length = k * 2)
    (hpos : 0 < k → dp = some ⟨g, off, none⟩ ∧ ∃ ad, sp = some ad ∧ ∀ j v, cs[j]? = some v → w.cell? (ad.add j) = some v) (hfit : off + cs.length ≤ cur.length) (h1 : ∀ v ∈ cs, v.oneCell' = true)
    (h : ∀ w', Hid (w'.heap[g]? = some (.cells (splice cur off cs).toArray t (0, 0))) → Hid (w.grownBy w' (some g)) → Hid (w'.heap.size = w.heap.size) → wpList P ops Q rest (a.put o.dst (goInt k)) w') : wpList P ops Q (o :: rest) a w :=
  wpList_plain hgd fun _ hK => wp_copy2 d s dT sT ho elem hu hs2 dp sp dLen dCap sLen sCap hd hs k hk g off cur t hg cs hn hpos hfit h1 fun w' h2 h3 h4 => hK _ _ (h w' h2 h3 h4)
theorem step_copy2 {ops : Array Oper} {o : Oper} {a : Act} {w : World} {K : Act → World → Prop} {Q : Exit → Act → World → Prop} {E : Prop} (hgd : o.guard = none) (d s : Operand) (dT sT : TypeId)
    (ho : o.op = .call { callee := .builtin .copy, args := #[d, s], argTypes := #[dT, sT] }) (elem : TypeId) (hu : P.underlying dT = some (.slice elem)) (hs2 : (P.info? elem).map (·.size) = some 2)
    (dp sp : Option Addr) (dLen dCap sLen sCap : Nat) (hd : a.eval d = .slice dp dLen dCap) (hs : a.eval s = .slice sp sLen sCap) (k : Nat) (hk : Nat.min sLen dLen = k)
    (g off : Nat) (cur : List Value) (t : TypeId) (hg : w.heap[g]? = some (.cells cur.toArray t (0, 0))) (cs : List Value) (hn : cs.length = k * 2)
    (hpos : 0 < k → dp = some ⟨g, off, none⟩ ∧ ∃ ad, sp = some ad ∧ ∀ j v, cs[j]? = some v → w.cell? (ad.add j) = some v) (hfit : off + cs.length ≤ cur.length) (h1 : ∀ v ∈ cs, v.oneCell' = true)
    (h : ∀ w', Hid (w'.heap[g]? = some (.cells (splice cur off cs).toArray t (0, 0))) → Hid (w.grownBy w' (some g)) → Hid (w'.heap.size = w.heap.size) → K (a.put o.dst (goInt k)) w') :
    if Region.wanted o (yielded ops a.tmps) = true then Oper.wp P o a w K Q else E := by
  have hw : Region.wanted o (yielded ops a.tmps) = true := by simp [Region.wanted, hgd]
  rw [if_pos hw]
  exact wp_copy2 d s dT sT ho elem hu hs2 dp sp dLen dCap sLen sCap hd hs k hk g off cur t hg cs hn hpos hfit h1 h
theorem wpList_append_r {w : World} {ops : Array Oper} {rest : List Oper} {o : Oper} {a : Act} {Q : Exit → Act → World → Prop} (hgd : o.guard = none) (d s : Operand) (t t' : TypeId)
    (ho : o.op = .call { callee := .builtin .append, args := #[d, s], argTypes := #[t, t'] }) (v u : Value) (hd : a.eval d = v) (hs : a.eval s = u) {v' : Value} {w' : World}
    (hr : (Builtin.append_ #[t, t'] o.type #[v, u]).run P w = .ok v' w') (h : wpList P ops Q rest (a.put o.dst v') w') : wpList P ops Q (o :: rest) a w := by
  refine wpList_plain hgd fun _ hK => ?_
  unfold Oper.wp execOp
  simp only [ho, resolve, invoke, builtin, Sem.run_bind, Sem.run_pure, Result.andThen_ok, List.map_toArray, List.map_cons, List.map_nil, hd, hs, hr]
  exact hK _ _ h
theorem wpList_clear2 {w : World} {ops : Array Oper} {rest : List Oper} {o : Oper} {a : Act} {Q : Exit → Act → World → Prop} (hgd : o.guard = none) (d : Operand) (t : TypeId)
    (ho : o.op = .call { callee := .builtin .clear, args := #[d], argTypes := #[t] }) (e : TypeId) (z : Value) (ht : P.underlying t = some (.slice e)) (hv : ∀ w, (zeroValue e).run P w = .ok z w) (hz : z.cells = #[.int .i64 0, .int .i64 0])
    (dp : Option Addr) (n c : Nat) (hd : a.eval d = .slice dp n c) (g off : Nat) (cur : List Value) (t' : TypeId) (hg : w.heap[g]? = some (.cells cur.toArray t' (0, 0))) (hpos : 0 < n → dp = some ⟨g, off, none⟩) (hfit : off + n * 2 ≤ cur.length)
    (h : ∀ w' Z, Hid (Z.length = n * 2) → Hid (w'.heap[g]? = some (.cells (splice cur off Z).toArray t' (0, 0))) → Hid (w.grownBy w' (some g)) → Hid (w'.heap.size = w.heap.size) → wpList P ops Q rest (a.put o.dst (.tuple #[])) w') :
    wpList P ops Q (o :: rest) a w := by
  refine wpList_plain hgd fun _ hK => ?_
  obtain ⟨w', Z, hr, h0, h2, h3, h4⟩ := run_clear2 (P := P) w t e z ht hv hz dp n c g off cur t' hg hpos hfit
  unfold Oper.wp execOp
  simp only [ho, resolve, invoke, builtin, Sem.run_bind, Sem.run_pure, Result.andThen_ok, List.map_toArray, List.map_cons, List.map_nil, hd, hr]
  exact hK _ _ (h w' Z h0 h2 h3 h4)
end

theorem splice_drop {α : Type} (L : List α) (o : Nat) (cs : List α) (ho : o ≤ L.length) : (splice L o cs).drop o = cs ++ L.drop (o + cs.length) := by
  unfold splice
  have := List.drop_length_add_append (l₁ := L.take o) (l₂ := cs ++ L.drop (o + cs.length)) (i := 0)
  rw [List.length_take, Nat.min_eq_left ho, Nat.add_zero] at this
  simpa using this
/-- First what goes in, then what stands behind. -/
theorem easy_take (cur : List Value) (ps qs : List (Int × Int)) (i m j n : Nat) (hti : cur.take (i * 2) = prs (ps.take i)) (hm : qs.length = m) (hn : ps.length = n) (hl : (i + m + (n - j)) * 2 ≤ cur.length) :
    (splice (splice cur (i * 2) (prs qs)) ((i + m) * 2) (prs (ps.drop j))).take ((i + m + (n - j)) * 2) = prs (ps.take i ++ qs ++ ps.drop j) := by
  have l1 : (prs qs).length = m * 2 := by rw [prs_len, hm]
  have l2 : (prs (ps.drop j)).length = (n - j) * 2 := by rw [prs_len, List.length_drop, hn]
  have l3 : (splice cur (i * 2) (prs qs)).length = cur.length := length_splice _ _ _ (by rw [l1]; omega)
  rw [show (i + m + (n - j)) * 2 = (i + m) * 2 + (prs (ps.drop j)).length + 0 by rw [l2]; omega, splice_take _ _ _ _ (by rw [l3]; omega), show (i + m) * 2 = i * 2 + (prs qs).length + 0 by rw [l1]; omega, splice_take _ _ _ _ (by omega), hti]
  simp [prs_app]
/-- First what stands behind, then what goes in. -/
theorem shift_take (cur : List Value) (ps qs : List (Int × Int)) (i m j n : Nat) (hti : cur.take (i * 2) = prs (ps.take i)) (hm : qs.length = m) (hn : ps.length = n) (hl : (i + m + (n - j)) * 2 ≤ cur.length) :
    (splice (splice cur ((i + m) * 2) (prs (ps.drop j))) (i * 2) (prs qs)).take ((i + m + (n - j)) * 2) = prs (ps.take i ++ qs ++ ps.drop j) := by
  have l1 : (prs qs).length = m * 2 := by rw [prs_len, hm]
  have l2 : (prs (ps.drop j)).length = (n - j) * 2 := by rw [prs_len, List.length_drop, hn]
  have l3 : (splice cur ((i + m) * 2) (prs (ps.drop j))).length = cur.length := length_splice _ _ _ (by rw [l2]; omega)
  rw [show (i + m + (n - j)) * 2 = i * 2 + (prs qs).length + (prs (ps.drop j)).length by rw [l1, l2]; omega, splice_take _ _ _ _ (by rw [l3]; omega), splice_ahead _ _ _ _ (by omega) (by omega), hti,
    show i * 2 + (prs qs).length = (i + m) * 2 by rw [l1]; omega, splice_drop _ _ _ (by omega), List.take_left, prs_app, prs_app]
/-- What reads at a place of a row that is known whole. -/
theorem src_of {w : World} {g o : Nat} {cur : List Value} {t : TypeId} (hg : w.heap[g]? = some (.cells cur.toArray t (0, 0))) {cs : List Value} (h : (cur.drop o).take cs.length = cs) : ∀ j v, cs[j]? = some v → w.cell? ((⟨g, o, none⟩ : Addr).add j) = some v := by
  intro j v hj
  have hl : j < cs.length := (List.getElem?_eq_some_iff.1 hj).1
  rw [Addr.add_lit, cell_of_row w g (o + j) cur.toArray t (0, 0) hg]
  rw [← h, List.getElem?_take, if_pos hl, List.getElem?_drop] at hj
  simpa using hj
theorem row_drop {cur : List Value} {ps : List (Int × Int)} {n : Nat} (hn : ps.length = n) (h : cur.take (n * 2) = prs ps) (j : Nat) : (cur.drop (j * 2)).take (prs (ps.drop j)).length = prs (ps.drop j) := by
  rw [prs_len, List.length_drop, hn, ← prs_drop, ← h, List.drop_take]
  congr 1
  omega
theorem row_take {cur : List Value} {ps : List (Int × Int)} {n : Nat} (h : cur.take (n * 2) = prs ps) (i : Nat) (hi : i ≤ n) : cur.take (i * 2) = prs (ps.take i) := by
  rw [← prs_take, ← h, List.take_take]
  congr 1
  omega

theorem info_range : (Tryz.prog.info? 143).map (fun i => (i.zero, i.size, i.bytes)) = some (some (.agg #[.int .i64 0, .int .i64 0]), 2, 16) := by kernel_rfl
theorem size_range : (Tryz.prog.info? 143).map (·.size) = some 2 := by kernel_rfl

set_option maxHeartbeats 1000000 in
/-- Insert, at the end. -/
theorem insert_end (v : Value) (ps qs : List (Int × Int)) (B m mc : Nat) (A : Option Addr) (ob : Option Nat) (w : World) (h : OwnP 143 w B v ps) (hob : v.ownBlock = ob) (hq : OwnP 143 w B (.slice A m mc) qs) (hm : 0 < m)
    (hb : (ps.length + m) * 16 ≤ 140737488355328) (hB : B ≤ w.heap.size) :
    Calls Tryz.prog 266 #[v, .int .i64 ps.length, .slice A m mc] w fun e w' => ∃ v', e = .returned v' ∧ OwnP 143 w' B v' (ps ++ qs) ∧ w.grownBy w' ob ∧
      (∀ g, v'.ownBlock = some g → ob = some g ∨ w.heap.size ≤ g) := by
  obtain ⟨A0, c0, hv⟩ := h.form
  have hap := run_app2 (P := Tryz.prog) w 140 140 143 _ Tryz.underlying140 info_range rfl B v ps h A m mc qs hq.len (fun _ => by
    obtain ⟨g, rfl, _⟩ := hq.at hm
    exact ⟨_, rfl, by simpa using hq.src 0⟩) hb hB
  obtain ⟨A', c', w', hrun, h2, h3, h4⟩ := hap
  rw [hob] at h3 h4
  clear hob
  subst hv
  have hc := h.cap
  have hc2 := hc.2
  have hc1 := hc.1
  unfold maxLen at hc2
  obtain ⟨n, hn⟩ : ∃ n, ps.length = n := ⟨_, rfl⟩
  rw [hn] at hrun h2 h4 hc1
  have H2 := Lib.hid h2
  have H3 := Lib.hid h3
  have H4 := Lib.hid h4
  rw [hn]
  have hm0 : ¬ ((m : Int) = 0) := by omega
  clear hn h hq h2 h3 h4 hb hc
  go_enter Tryz.func266, Tryz.ntmps266
  go_wp2_with (at_builtin; refine wpList_append_r rfl _ _ 140 140 rfl _ _ rfl rfl hrun ?_)
  all_goals go_ret
  all_goals exact ⟨_, rfl, H2.out, H3.out, H4.out⟩

set_option maxRecDepth 100000 in
theorem overlaps_apart (w : World) (g gb o m mc lb cb : Nat) (cur cub : List Value) (hne : gb ≠ g) (hg : w.heap[g]? = some (.cells cur.toArray 143 (0, 0))) (hgb : w.heap[gb]? = some (.cells cub.toArray 143 (0, 0))) (hcur : 0 < cur.length) :
    (callFunc 267 #[.slice (some ⟨gb, 0, none⟩) m mc, .slice (some ⟨g, o, none⟩) lb cb]).run Tryz.prog w = .ok (.value (.bool false)) w := by
  have hz : ∀ w, (Go.sizeOf 143).run Tryz.prog w = .ok 2 w := by
    intro w
    obtain ⟨i, hi, _, h2, _⟩ := info_parts info_range
    simp [sizeOf, typeInfo, hi, h2]
  have he := run_callFunc_extern (P := Tryz.prog) Tryz.func267 (by kernel_rfl) (by kernel_rfl) (by kernel_rfl) (e := Extern.SlicesOverlaps.overlaps #[140, 140] #[4]) (by kernel_rfl) #[.slice (some ⟨gb, 0, none⟩) m mc, .slice (some ⟨g, o, none⟩) lb cb] w
  rw [he,
    Lib.run_overlaps_apart w 140 4 143 Tryz.underlying140 2 hz ⟨gb, 0, none⟩ ⟨g, o, none⟩ m mc lb cb hne 143 143 cub.length cur.length
      (by simp [World.shape?, hgb]) (by simp [World.shape?, hg]) (by omega) (by simp [World.frozen?, hgb]) (by simp [World.frozen?, hgb])]
  rfl

set_option maxRecDepth 100000 in
theorem overlaps_apart2 (w : World) (g gb o m mc lb cb : Nat) (cur cub : List Value) (hne : gb ≠ g) (hg : w.heap[g]? = some (.cells cur.toArray 143 (0, 0))) (hgb : w.heap[gb]? = some (.cells cub.toArray 143 (0, 0))) (hcub : 0 < cub.length) :
    (callFunc 267 #[.slice (some ⟨g, o, none⟩) lb cb, .slice (some ⟨gb, 0, none⟩) m mc]).run Tryz.prog w = .ok (.value (.bool false)) w := by
  have hz : ∀ w, (Go.sizeOf 143).run Tryz.prog w = .ok 2 w := by
    intro w
    obtain ⟨i, hi, _, h2, _⟩ := info_parts info_range
    simp [sizeOf, typeInfo, hi, h2]
  have he := run_callFunc_extern (P := Tryz.prog) Tryz.func267 (by kernel_rfl) (by kernel_rfl) (by kernel_rfl) (e := Extern.SlicesOverlaps.overlaps #[140, 140] #[4]) (by kernel_rfl) #[.slice (some ⟨g, o, none⟩) lb cb, .slice (some ⟨gb, 0, none⟩) m mc] w
  rw [he,
    Lib.run_overlaps_apart w 140 4 143 Tryz.underlying140 2 hz ⟨g, o, none⟩ ⟨gb, 0, none⟩ lb cb m mc (Ne.symm hne) 143 143 cur.length cub.length
      (by simp [World.shape?, hg]) (by simp [World.shape?, hgb]) (by omega) (by simp [World.frozen?, hg]) (by simp [World.frozen?, hg])]
  rfl

set_option maxHeartbeats 200000 in
/-- Insert, where there is room. -/
theorem insert_shift (g c : Nat) (cur : List Value) (ps qs : List (Int × Int)) (B i n m mc gb : Nat) (w : World) (hg : w.heap[g]? = some (.cells cur.toArray 143 (0, 0))) (hn : ps.length = n) (hcl : cur.length = c * 2) (hct : cur.take (n * 2) = prs ps) (hBg : B ≤ g) (hcm : c ≤ maxLen)
    (hq : OwnP 143 w B (.slice (some ⟨gb, 0, none⟩) m mc) qs) (hne : gb ≠ g) (hm : 0 < m) (hi : i < n) (hroom : n + m ≤ c) :
    Calls Tryz.prog 266 #[.slice (some ⟨g, 0, none⟩) n c, .int .i64 i, .slice (some ⟨gb, 0, none⟩) m mc] w fun e w' => e = .returned (.slice (some ⟨g, 0, none⟩) (n + m) c) ∧
      OwnP 143 w' B (.slice (some ⟨g, 0, none⟩) (n + m) c) (ps.take i ++ qs ++ ps.drop i) ∧ w.grownBy w' (some g) := by
  have hov : ∀ lb cb, (callFunc 267 #[.slice (some ⟨gb, 0, none⟩) m mc, .slice (some ⟨g, (i + m) * 2, none⟩) lb cb]).run Tryz.prog w = .ok (.value (.bool false)) w := by
    intro lb cb
    obtain ⟨_, cub, hgb, _⟩ := hq.heap
    exact overlaps_apart w g gb _ m mc lb cb cur cub hne hg hgb (by omega)
  have hc2 := hcm
  unfold maxLen at hc2
  have hql := hq.len
  have hdl : (prs (ps.drop i)).length = (n - i) * 2 := by rw [prs_len, List.length_drop, hn]
  have hqll : (prs qs).length = m * 2 := by rw [prs_len, hql]
  have hsr := src_of hg (row_drop hn hct i)
  have hqs : ∀ j v, (prs qs)[j]? = some v → w.cell? ((⟨gb, 0, none⟩ : Addr).add j) = some v := by simpa using hq.src 0
  have hfin := shift_take cur ps qs i m i n (row_take hct i (by omega)) hql hn (by rw [hcl]; omega)
  have hlen : (ps.take i ++ qs ++ ps.drop i).length = n + m := by simp; omega
  have HG := Lib.hid hg
  have HCL := Lib.hid hcl
  have HDL := Lib.hid hdl
  have HQL := Lib.hid hqll
  have HSR := Lib.hid hsr
  have HQS := Lib.hid hqs
  have HFIN := Lib.hid hfin
  have HLEN := Lib.hid hlen
  have hm0 : ¬ ((m : Int) = 0) := by omega
  have hz2 : ¬ ((i : Int) = (n : Int)) := by omega
  have hw1 : IntKind.i64.wrap ((i : Int) + (m : Int)) = (i : Int) + (m : Int) := by rw [IntKind.wrap_i64]; omega
  have hb1 : (0 : Int) ≤ (i : Int) + (m : Int) := by omega
  have htn : ((i : Int) + (m : Int)).toNat = i + m := by omega
  have hb2 : ¬ (c = i + m) := by omega
  have hb3 : (i : Int) ≤ (n : Int) + (m : Int) := by omega
  have hb4 : ¬ (c = i) := by omega
  have hin : i ≤ n := by omega
  have mixed : Tryz.prog.follows .mixedOrders = true := by kernel_rfl
  clear hg hn hcl hct hq hdl hqll hsr hqs hfin hlen hql
  go_enter Tryz.func266, Tryz.ntmps266
  go_wp2_with (simp only [hov])
  go_region_law (refine step_copy2 rfl (.tmp 73) (.tmp 76) 140 140 rfl 143 Tryz.underlying140 size_range (some ⟨g, (i + m) * 2, none⟩) (some ⟨g, i * 2, none⟩) (n + m - (i + m)) (c - (i + m)) (n + m - i) (c - i) (by simp [Act.eval, Act.put]) (by simp [Act.eval, Act.put]) (n - i) (by simp only [Nat.min_def]; split <;> omega) g ((i + m) * 2) cur 143 HG.out (prs (ps.drop i)) HDL.out (fun _ => ⟨rfl, _, rfl, HSR.out⟩) (by rw [HDL.out, HCL.out]; omega) (prs_one _) ?_; intro w1 hg1 hb1' hs1)
  obtain ⟨w2, hr2, hg2, hb2', hs2⟩ := run_copy2 (P := Tryz.prog) w1 140 140 143 Tryz.underlying140 size_range (some ⟨g, i * 2, none⟩) (some ⟨gb, 0, none⟩) (n + m - i) (c - i) m mc m (by simp only [Nat.min_def]; split <;> omega) g (i * 2) _ 143 hg1.out (prs qs) HQL.out
    (fun _ => ⟨rfl, _, rfl, fun j v hj => by have := HQS.out j v hj; rw [Addr.add_lit] at this ⊢; exact hb1'.out.cell this (by simpa using hne)⟩) (by rw [HQL.out, length_splice _ _ _ (by rw [HDL.out, HCL.out]; omega), HCL.out]; omega) (prs_one _)
  have HG2 := Lib.hid hg2
  have HB2 := Lib.hid hb2'
  clear hg2 hb2' hs2 hs1
  go_wp2
  go_ret
  refine ⟨rfl, OwnP.of hBg HG2.out HLEN.out hroom hcm ?_ ?_, grown_drP (hb1'.out.trans HB2.out)⟩
  · rw [length_splice _ _ _ (by rw [HQL.out, length_splice _ _ _ (by rw [HDL.out, HCL.out]; omega), HCL.out]; omega), length_splice _ _ _ (by rw [HDL.out, HCL.out]; omega), HCL.out]
  · rw [show n + m = i + m + (n - i) by omega]
    exact HFIN.out

set_option maxHeartbeats 400000 in
/-- Insert, where there is no room. -/
theorem insert_grow (g c : Nat) (cur : List Value) (ps qs : List (Int × Int)) (B i n m mc : Nat) (A : Option Addr) (w : World) (hg : w.heap[g]? = some (.cells cur.toArray 143 (0, 0))) (hn : ps.length = n) (hcl : cur.length = c * 2) (hct : cur.take (n * 2) = prs ps) (hnc : n ≤ c)
    (hq : Src w A m qs w.heap.size) (hm : 0 < m) (hi : i < n) (hroom : c < n + m) (hb : (n + m) * 16 ≤ 140737488355328) (hB : B ≤ w.heap.size) :
    Calls Tryz.prog 266 #[.slice (some ⟨g, 0, none⟩) n c, .int .i64 i, .slice A m mc] w fun e w' => ∃ C, e = .returned (.slice (some ⟨w.heap.size, 0, none⟩) (n + m) C) ∧
      OwnP 143 w' B (.slice (some ⟨w.heap.size, 0, none⟩) (n + m) C) (ps.take i ++ qs ++ ps.drop i) ∧ ∀ r, w.grownBy w' r := by
  have hglt : g < w.heap.size := by
    rcases Nat.lt_or_ge g w.heap.size with h | h
    · exact h
    · rw [Array.getElem?_eq_none h] at hg; cases hg
  have hql := hq.len
  have htl : (prs (ps.take i)).length = i * 2 := by rw [prs_len, List.length_take]; omega
  have hdl : (prs (ps.drop i)).length = (n - i) * 2 := by rw [prs_len, List.length_drop, hn]
  have hqll : (prs qs).length = m * 2 := by rw [prs_len, hql]
  have hrt := row_take hct i (by omega)
  obtain ⟨C, cur1, w1, hr1, hg1, hcl1, hct1, hC1, hC2, hgb1, hsz1⟩ := run_grow2 (P := Tryz.prog) w 140 3 140 143 _ Tryz.underlying140 Tryz.underlying3 info_range rfl g i c (n + m - i) (prs (ps.take i)) htl
    (fun j v hj => by
      have := src_of hg (o := 0) (cs := prs (ps.take i)) (by rw [htl, List.drop_zero]; exact hrt) j v hj
      rw [Addr.add_lit, Nat.zero_add] at this; exact this) (by omega) (by omega) (by rw [show i + (n + m - i) = n + m by omega]; exact hb) (some ⟨g, 0, none⟩) (fun _ => rfl)
  rw [show i + (n + m - i) = n + m by omega] at hr1 hC1
  rw [show ((n + m - i : Nat) : Int) = (n : Int) + (m : Int) - (i : Int) by omega] at hr1
  have hq1 := hq.grown (grown_none (r := some w.heap.size) hgb1)
  obtain ⟨w2, hr2, hg2, hgb2, hsz2⟩ := run_copy2 (P := Tryz.prog) w1 140 140 143 Tryz.underlying140 size_range (some ⟨w.heap.size, i * 2, none⟩) A (n + m - i) (C - i) m mc m (by simp only [Nat.min_def]; split <;> omega) w.heap.size (i * 2) cur1 143 hg1 (prs qs) hqll (hq1.pos _) (by rw [hqll, hcl1]; omega) (prs_one _)
  have hl2 : (splice cur1 (i * 2) (prs qs)).length = C * 2 := by rw [length_splice _ _ _ (by rw [hqll, hcl1]; omega), hcl1]
  have hgo : w2.heap[g]? = some (.cells cur.toArray 143 (0, 0)) := by
    rw [hgb2.block g (by have := hgb1.size; omega) (by simp; omega), hgb1.block g hglt (by simp)]; exact hg
  have hfin := easy_take cur1 ps qs i m i n hct1 hql hn (by rw [hcl1]; omega)
  have hlen : (ps.take i ++ qs ++ ps.drop i).length = n + m := by simp; omega
  obtain ⟨L, hL⟩ : ∃ L, L = ps.take i ++ qs ++ ps.drop i := ⟨_, rfl⟩
  rw [← hL] at hfin hlen ⊢
  clear hL
  have hc2 := hC2
  unfold maxLen at hc2
  have HB := Lib.hid hB
  have HG2 := Lib.hid hg2
  have HGO := Lib.hid hgo
  have HSR := Lib.hid (src_of hgo (row_drop hn hct i))
  have HL2 := Lib.hid hl2
  have HDL := Lib.hid hdl
  have HFIN := Lib.hid hfin
  have HLEN := Lib.hid hlen
  have HGB := Lib.hid (fun r => grown_new (r := r) hgb1 hgb2)
  have HSZ := Lib.hid (show w.heap.size < w2.heap.size by omega)
  obtain ⟨N, hN⟩ : ∃ N, w.heap.size = N := ⟨_, rfl⟩
  rw [hN] at hr1 hr2 HG2 HSZ HB
  have HN := Lib.hid hN
  have hm0 : ¬ ((m : Int) = 0) := by omega
  have hz2 : ¬ ((i : Int) = (n : Int)) := by omega
  have hz3 : (c : Int) < (n : Int) + (m : Int) := by omega
  have hw1 : IntKind.i64.wrap ((i : Int) + (m : Int)) = (i : Int) + (m : Int) := by rw [IntKind.wrap_i64]; omega
  have hb1 : (0 : Int) ≤ (i : Int) + (m : Int) := by omega
  have htn : ((i : Int) + (m : Int)).toNat = i + m := by omega
  have hb2 : ¬ (C = i + m) := by omega
  have hb3 : (i : Int) ≤ (n : Int) + (m : Int) := by omega
  have hb4 : ¬ (C = i) := by omega
  have hb5 : ¬ (c = i) := by omega
  have hin : i ≤ n := by omega
  have mixed : Tryz.prog.follows .mixedOrders = true := by kernel_rfl
  rw [hN]
  clear hg hn hcl hct hq hdl hqll hfin hlen hql hcl1 hct1 hgb1 hgb2 hg1 hg2 hgo hl2 hrt htl hq1 hsz1 hsz2 hB hb hN hglt hC2
  go_enter Tryz.func266, Tryz.ntmps266
  go_wp2_with (at_builtin; refine wpList_append_r rfl (.tmp 34) (.tmp 39) 140 3 rfl _ _ rfl rfl hr1 ?_)
  go_region_law (refine step_copy2 rfl (.tmp 50) (.tmp 53) 140 140 rfl 143 Tryz.underlying140 size_range (some ⟨N, (i + m) * 2, none⟩) (some ⟨g, i * 2, none⟩) (n + m - (i + m)) (C - (i + m)) (n - i) (c - i) (by simp [Act.eval, Act.put]) (by simp [Act.eval, Act.put]) (n - i) (by simp only [Nat.min_def]; split <;> omega) N ((i + m) * 2) (splice cur1 (i * 2) (prs qs)) 143 HG2.out (prs (ps.drop i)) HDL.out (fun _ => ⟨rfl, _, rfl, HSR.out⟩) (by rw [HDL.out, HL2.out]; omega) (prs_one _) ?_; intro w3 hg3 hb3' hs3)
  go_wp2
  go_ret
  refine ⟨C, rfl, OwnP.of HB.out hg3.out HLEN.out hC1 (by unfold maxLen; omega) ?_ ?_, fun r => ?_⟩
  · rw [length_splice _ _ _ (by rw [HDL.out, HL2.out]; omega), HL2.out]
  · rw [show n + m = i + m + (n - i) by omega]
    exact HFIN.out
  · have h3 := hb3'.out
    have h2 := HGB.out (some N)
    rw [← HN.out] at h2 h3
    have h4 := h2.trans (grown_drP h3)
    exact ⟨h4.os, h4.tape, h4.output, h4.size, fun k hk _ => h4.block k hk (by simp; omega)⟩
end Go.Proofs.YtpjlnpnadkbakaaGreat

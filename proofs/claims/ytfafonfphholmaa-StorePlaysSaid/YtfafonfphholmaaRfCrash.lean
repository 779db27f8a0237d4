/-
  The document's store: Crash. A contract over the program.
-/
import Derived.Test.YtfafonfphholmaaRfCut
import Derived.Test.YtfafonfphholmaaRfRows
import Derived.Test.YtfafonfphholmaaStCrash
namespace Go.Proofs.Ytfafonfphholmaa
open Go.RowKit

/-- What the loop has laid: a new row of new blocks. -/
structure RM (w W : World) (v : Value) (M : List RE) : Prop where
  row : W.ownsRow w.heap.size 53 4 v M.length (rcs M)
  each : ∀ e ∈ M, Own .u8 5 W w.heap.size e.v e.k.xs
  len : ∀ e ∈ M, e.k.xs.length ≤ 1099511627776 ∧ e.k.s ≤ e.k.xs.length
/-- What Crash leaves. -/
def RcEnd (w : World) (B p : Nat) (F : Nat → Prop) (s : St) (e : Ending) (w' : World) : Prop := ∃ F', e = .returned (.tuple #[]) ∧ RefIs w' B p s F' ∧ SC w w' F F'

section
variable {w w' W W' : World} {B p : Nat} {v lv : Value} {L M : List RE} {de ar : Bool} {nn : Int} {s : St} {F : Nat → Prop}
theorem RM.kept (h : RM w W v M) (ht : Trn W W' F) (hv : ∀ g, v.ownBlock = some g → ¬ F g) (he : ∀ e ∈ M, ∀ g, e.v.ownBlock = some g → ¬ F g) : RM w W' v M := ⟨ht.rows h.row hv, fun e hx => ht.own (h.each e hx) (he e hx), h.len⟩
theorem RM.later (h : RM w W v M) (hb : Below W.heap.size W W') : RM w W' v M := h.kept (F := fun _ => False) (Trn.of_below hb) (fun _ _ h => h) (fun _ _ _ _ h => h)
theorem crashB_n (keep : Int) (bs : List Blk) : ((crashB keep bs).map (·.n)).Sublist (bs.map (·.n)) := by
  unfold crashB
  rw [List.map_map]
  have h1 : (fun x : Blk => x.n) ∘ Blk.settle = fun x : Blk => x.n := by funext k; rfl
  rw [h1]
  have h2 : ((bs.map fun k => k.tear keep).filter fun k => !k.lost).Sublist (bs.map fun k => k.tear keep) := List.filter_sublist
  have h3 := h2.map (fun x : Blk => x.n)
  rw [List.map_map] at h3
  exact h3
theorem crashB_snoc (keep : Int) (bs : List Blk) (k : Blk) : crashB keep (bs ++ [k]) = crashB keep bs ++ if (k.tear keep).lost then [] else [(k.tear keep).settle] := by
  unfold crashB
  rw [List.map_append, List.filter_append, List.map_append]
  congr 1
  cases h : (k.tear keep).lost <;> simp [h]
theorem pw_sub {l m : List Int} (h : l.Sublist m) (hm : m.Pairwise (· < ·)) : l.Pairwise (· < ·) := hm.sublist h

theorem rc_end (h : RefAt w B p lv L s.de s.fu nn) (hk : L.map (·.k) = s.bs) (keep : Int) (wr : World) (hb : Below w.heap.size w wr) (hB : B ≤ w.heap.size) (hM : RM w wr v M) (hm : M.map (·.k) = crashB keep s.bs) :
    RcEnd w B p (RFoot p lv L) (s.crash keep) (.returned (.tuple #[])) (((wr.setCell ⟨p, 0, none⟩ v).setCell ⟨p, 0 + 1, none⟩ (.bool false)).setCell ⟨p, 0 + 2, none⟩ (.bool false)) := by
  have h1 := h.later hb
  have hrow : wr.ownsRow B 53 4 v M.length (rcs M) := by
    refine ⟨hM.row.1, ?_⟩
    rcases hM.row.2 with h2 | ⟨g, cap, cur, hv, hg, r⟩
    · exact .inl h2
    · exact .inr ⟨g, cap, cur, hv, Nat.le_trans hB hg, r⟩
  have hsub := crashB_n keep s.bs
  rw [← hm, ← hk, List.map_map, List.map_map] at hsub
  have hrise : M.Pairwise (fun x y => x.k.n < y.k.n) := by
    have h3 : (L.map ((fun x : Blk => x.n) ∘ fun x : RE => x.k)).Pairwise (· < ·) := by rw [List.pairwise_map]; exact h.rise
    have h4 := pw_sub hsub h3
    rw [List.pairwise_map] at h4
    exact h4
  have hlen : M.length ≤ 1048576 := by
    have := hsub.length_le
    rw [List.length_map, List.length_map] at this
    exact Nat.le_trans this h.many
  have h5 := h1.setL v M hrow (fun e he => ⟨(hM.each e he).less hB, hM.len e he⟩) hrise hlen
  have h6 := h5.set (0 + 1) (.bool false) false s.fu nn h.nn1 h.nn2 h.fuse (fun j hj => by
    have : j = 0 ∨ j = 1 ∨ j = 2 ∨ j = 3 := by omega
    rcases this with rfl | rfl | rfl | rfl <;> simp [refF])
  have h7 := h6.set (0 + 2) (.bool false) false false nn h.nn1 h.nn2 (fun e => by cases e) (fun j hj => by
    have : j = 0 ∨ j = 1 ∨ j = 2 ∨ j = 3 := by omega
    rcases this with rfl | rfl | rfl | rfl <;> simp [refF])
  refine ⟨_, rfl, ⟨v, M, nn, h7, hm, rfl, fun e => by cases e⟩, ⟨(Trn.of_below (F := fun _ => False) hb).trans (trn2 (trn2 (trn_set wr p 0 v) (trn_set _ p (0 + 1) _)) (trn_set _ p (0 + 2) _)) (fun _ h => h.elim) (fun k _ hk => .inl hk), fun k hk => ?_⟩⟩
  rcases hk with h9 | h9 | ⟨e, he, h9⟩
  · exact .inl (.inl h9)
  · exact .inr (World.ownsRow.lt hM.row k h9).1
  · exact .inr ((hM.each e he).lt k h9).1

set_option maxRecDepth 10000 in
set_option maxHeartbeats 2000000 in
theorem rfcrash_any (h : RefIs w B p s F) (keep : Int) : Calls Try.prog 19 #[.pointer (some ⟨p, 0, none⟩), .int .i64 keep] w (RcEnd w B p F (s.crash keep)) := by
  obtain ⟨lv, L, nn, h, hk, rfl, hf⟩ := h
  have s0 := h.r0
  have s1 := h.r1
  have s2 := h.r2
  have f0 := h.fr 0
  have f1 := h.fr (0 + 1)
  have f2 := h.fr (0 + 2)
  have hmany := h.many
  have hpl := h.row.lt
  have hBw : B ≤ w.heap.size := by have := h.gep; omega
  have hend := fun v M wr hb hM hm => rc_end (v := v) (M := M) h hk keep wr hb hBw hM hm
  obtain ⟨Ks, hKs⟩ : ∃ Ks, s.bs = Ks := ⟨_, rfl⟩
  rw [hKs] at hend hk
  rcases h.form with ⟨rfl, rfl⟩ | ⟨g, c, hv, hlc, hcm, hB, hg, hcells, hfr⟩
  · have hM0 : RM w w (.slice none 0 0) [] := ⟨World.ownsRow_nil _ _ _ _, by simp, by simp⟩
    have HE := Lib.hid (hend _ _ w (Below.refl _ _) hM0 (by rw [← hk]; rfl))
    clear h hk hf hend hM0 hKs
    go_enter Try.func19, Try.ntmps19
    go_wp2
    go_loopw [4, 13] (fun vo vi wr => vo = .slice none 0 0 ∧ vi = .int .i64 0 ∧ wr = w) (fun _ _ _ => 0)
    case atStart => exact ⟨rfl, rfl, rfl⟩
    case round =>
      obtain ⟨rfl, rfl, rfl⟩ := hrel
      go_wp2
      go_end0
      exact HE.out
  · have HC := Lib.hid hcells
    have HEND := Lib.hid hend
    have HK := Lib.hid hk
    have H := Lib.hid h
    have HV := Lib.hid hv
    rw [hv] at s0
    obtain ⟨m, hml⟩ : ∃ m, L.length = m := ⟨_, rfl⟩
    rw [hml] at s0 hlc hmany
    have HML := Lib.hid hml
    have hcm2 : c ≤ 9223372036854775807 := by unfold maxLen at hcm; exact hcm
    clear h hk hf hend hcells hfr hv hml hcm hKs
    go_enter Try.func19, Try.ntmps19
    go_wp2
    go_loopw [4, 13] (fun vo vi wr => ∃ (k : Nat) (A : Option Addr) (d ml : Nat) (M : List RE), k ≤ m ∧ vi = .int .i64 k ∧ vo = .slice A ml d ∧ Hid (M.length = ml) ∧ ml ≤ k ∧ Hid (RM w wr (.slice A ml d) M) ∧ Hid (M.map (·.k) = crashB keep (Ks.take k)) ∧ Hid (Below w.heap.size w wr)) (fun _ vi _ => m - (intOf vi).toNat)
    case atStart => exact ⟨0, none, 0, 0, [], by omega, rfl, rfl, Lib.hid rfl, by omega, Lib.hid ⟨World.ownsRow_nil _ _ _ _, by simp, by simp⟩, Lib.hid rfl, Lib.hid (Below.refl _ _)⟩
    case round =>
      obtain ⟨k, A, d, ml, M, hkm, rfl, rfl, hMl, hmk, hRM, hMk, hbl⟩ := hrel
      by_cases hlt : k < m
      · obtain ⟨x, hx⟩ : ∃ x, L[k]? = some x := ⟨L[k]'(by rw [HML.out]; exact hlt), List.getElem?_eq_getElem _⟩
        obtain ⟨c0, c1, c2, c3⟩ := HC.out k x hx
        have hmem := List.mem_of_getElem? hx
        have hxe := ((H.out.later hbl.out).each x hmem)
        have hxl0 := H.out.len x hmem
        have hxs0 := H.out.sle x hmem
        have hcap := hxe.cap
        have hkx : Ks.take (k + 1) = Ks.take k ++ [x.k] := by rw [List.take_add_one, ← HK.out, List.getElem?_map, hx]; rfl
        have hsn := crashB_snoc keep (Ks.take k) x.k
        rw [← hkx] at hsn
        have d0 := cell_later hbl.out c0
        have d1 := cell_later hbl.out c1
        have d2 := cell_later hbl.out c2
        have d3 := cell_later hbl.out c3
        have i1 : (k : Int) < (m : Int) := by omega
        have i2 : (0 : Int) ≤ (k : Int) := by omega
        clear c0 c1 c2 c3 hkx
        obtain ⟨y, hy⟩ : ∃ y, x.k.n = y := ⟨_, rfl⟩
        obtain ⟨xl, hxl⟩ : ∃ y, x.k.xs.length = y := ⟨_, rfl⟩
        obtain ⟨xf, hxf⟩ : ∃ y, x.k.f = y := ⟨_, rfl⟩
        obtain ⟨xk, hxk⟩ : ∃ y, x.k.s = y := ⟨_, rfl⟩
        obtain ⟨K, hK⟩ : ∃ K, (min (max keep 0) ((xl : Int) - xk)).toNat = K := ⟨_, rfl⟩
        unfold RE.v at d1
        rw [hy] at d0
        rw [hxl] at d1 hxl0 hxs0 hcap
        rw [hxk] at d2 hxs0
        rw [hxf] at d3
        have hkp : x.k.kept keep = xk + K := by unfold Blk.kept; rw [hxl, hxk, hK]
        have m1 := run_max2 keep 0 _ rfl
        have m2 := run_min2 (max keep 0) ((xl : Int) - xk) K (by omega)
        obtain ⟨T, hT⟩ : ∃ T, xk + K = T := ⟨_, rfl⟩
        rw [hT] at hkp
        have hTl : T ≤ xl := by omega
        have i3 : IntKind.i64.wrap ((xk : Int) + (K : Int)) = (T : Int) := by rw [IntKind.wrap_i64]; omega
        have htl : (x.k.xs.take T).length = T := by rw [List.length_take, hxl]; omega
        have hlost : (x.k.tear keep).lost = (decide (T = 0) && !xf) := by unfold Blk.lost Blk.tear; rw [hkp, hxf]; simp [htl]
        have hset : (x.k.tear keep).settle = ⟨y, x.k.xs.take T, T, true⟩ := by unfold Blk.settle Blk.tear; rw [hkp, htl, hy]
        obtain ⟨Mx, hMx⟩ : ∃ Mx, max keep 0 = Mx := ⟨_, rfl⟩
        rw [hMx] at m1 m2
        rw [hlost, hset] at hsn
        have HXE := Lib.hid hxe
        have HSN := Lib.hid hsn
        have HTL := Lib.hid htl
        have HXL := Lib.hid hxl
        have hba := (Below.refl wr.heap.size wr).alloc (Nat.le_refl _) (.cells #[.int .i64 y, .slice x.A xl x.c, .int .i64 (xk : Nat), .bool xf] 53)
        have HBA := Lib.hid hba
        clear hx hmem hxe hsn hy hxl hxf hxk hK hT hMx hlost hset htl hkp hba
        by_cases hlo : T = 0 ∧ xf = false
        · obtain ⟨rfl, rfl⟩ := hlo
          go_wp2_with fail
          go_roundw
          case rel =>
            refine ⟨k + 1, A, d, ml, M, by omega, by go_num, rfl, hMl, by omega, Lib.hid (hRM.out.later HBA.out), Lib.hid ?_, Lib.hid (hbl.out.trans (HBA.out.mono hbl.out.size))⟩
            rw [HSN.out, hMk.out]
            simp
          case measure => simp [intOf]; omega
        · by_cases hT0 : T = 0
          · subst hT0
            have hxt : xf = true := by cases xf <;> simp_all
            subst hxt
            clear hlo
            have q0 : (wr.alloc (.cells #[.int .i64 y, .slice x.A xl x.c, .int .i64 (xk : Nat), .bool true] 53)).cell? ⟨wr.heap.size, 0, none⟩ = some (.int .i64 y) := by go_simp
            have q1 : (wr.alloc (.cells #[.int .i64 y, .slice x.A xl x.c, .int .i64 (xk : Nat), .bool true] 53)).cell? ⟨wr.heap.size, 0 + 1, none⟩ = some (.slice x.A xl x.c) := by go_simp
            obtain ⟨wa, hwa⟩ : ∃ wa, wr.alloc (.cells #[.int .i64 y, .slice x.A xl x.c, .int .i64 (xk : Nat), .bool true] 53) = wa := ⟨_, rfl⟩
            rw [hwa] at q0 q1
            have hbA := HBA.out
            rw [hwa] at hbA
            have hbwa := hbl.out.trans (hbA.mono hbl.out.size)
            have hRa := hRM.out.later hbA
            have hxa := HXE.out.later hbA
            obtain ⟨A1, k1, w3, hrun1, o1, g1, n1⟩ := run_app_f (P := Try.prog) wa.drew .u8 29 29 5 (.int .u8 0) 1 Try.underlying29 info_byte rfl w.heap.size (.slice none 0 0) [] (Own.nil _ _ _ _) x.A 0 x.c (x.k.xs.take 0) HTL.out (hxa.rd.take 0) (by simp; try (unfold maxLen; omega)) (by simp; try omega) hbwa.size
            simp only [List.length_nil, Nat.zero_add, List.nil_append] at hrun1 o1 n1
            have hb3 : Below wa.heap.size wa w3 := ⟨g1.os, g1.tape, g1.output, g1.size, fun k hk => g1.block k hk (by simp [Value.ownBlock])⟩
            have hR3 := hRa.later hb3
            have hb4 := (Below.refl w3.heap.size w3).alloc (Nat.le_refl _) (.cells #[.int .i64 y, .slice A1 0 k1, .int .i64 0, .bool true] 53)
            have hR4 := hR3.later hb4
            have ho4 := o1.later hb4
            have hve : (RE.mk ⟨y, x.k.xs.take 0, 0, true⟩ A1 k1).v = .slice A1 0 k1 := by unfold RE.v; rw [HTL.out]
            have hsrc : ∀ j u, (rcs [RE.mk ⟨y, x.k.xs.take 0, 0, true⟩ A1 k1])[j]? = some u → (w3.alloc (.cells #[.int .i64 y, .slice A1 0 k1, .int .i64 0, .bool true] 53)).cell? ((⟨w3.heap.size, 0, none⟩ : Addr).add j) = some u := by
              intro j u hu
              have hj : j < 4 := by have := (List.getElem?_eq_some_iff.1 hu).1; rw [rcs_len] at this; simpa using this
              have hcs : rcs [RE.mk ⟨y, x.k.xs.take 0, 0, true⟩ A1 k1] = [.int .i64 y, .slice A1 0 k1, .int .i64 0, .bool true] := by unfold rcs RE.cs; rw [List.flatMap_cons, hve]; rfl
              rw [hcs] at hu
              rw [Addr.add_lit]
              rcases (show j = 0 ∨ j = 1 ∨ j = 2 ∨ j = 3 by omega) with rfl | rfl | rfl | rfl
              all_goals (simp at hu; subst hu; go_simp)
            obtain ⟨w4, hw4⟩ : ∃ w4, w3.alloc (.cells #[.int .i64 y, .slice A1 0 k1, .int .i64 0, .bool true] 53) = w4 := ⟨_, rfl⟩
            rw [hw4] at hb4 hR4 ho4 hsrc
            have hb34 := hb3.trans (hb4.mono hb3.size)
            have hbw4 := hbwa.trans (hb34.mono hbwa.size)
            have hrow4 := hR4.row
            rw [hMl.out] at hrow4
            obtain ⟨q3, hq3⟩ : ∃ q, w3.heap.size = q := ⟨_, rfl⟩
            rw [hq3] at hsrc
            obtain ⟨A2, k2, w5, hrun2, own2, g2, _⟩ := run_appR (w := w4) 26 w.heap.size (.slice A ml d) M [RE.mk ⟨y, x.k.xs.take 0, 0, true⟩ A1 k1] hR4.row (some ⟨q3, 0, none⟩) 1 1 rfl (fun _ => ⟨_, rfl, hsrc⟩) (by rw [hMl.out]; omega) hbw4.size
            rw [hMl.out] at hrun2 own2
            have hlt5 := World.ownsRow.lt hRM.out.row
            have hbw5 := hbw4.grown g2 hbw4.size (fun g hg => (hlt5 g hg).1)
            have hR5 : RM w w5 (.slice A2 (ml + 1) k2) (M ++ [RE.mk ⟨y, x.k.xs.take 0, 0, true⟩ A1 k1]) := by
              have ht := Trn.of_grown g2
              refine ⟨by rw [List.length_append, hMl.out]; exact own2, fun e he => ?_, fun e he => ?_⟩
              · rcases List.mem_append.1 he with h | h
                · exact ht.own (hR4.each e h) (fun g hg e1 => rows_ne hR4.row (own_row (hR4.each e h)) (by decide) g e1 hg)
                · rw [List.mem_singleton] at h
                  subst h
                  rw [hve]
                  exact ht.own ho4 (fun g hg e1 => rows_ne hR4.row (own_row ho4) (by decide) g e1 hg)
              · rcases List.mem_append.1 he with h | h
                · exact hR4.len e h
                · rw [List.mem_singleton] at h
                  subst h
                  have h9 : (x.k.xs.take 0).length = 0 := HTL.out
                  exact ⟨by show (x.k.xs.take 0).length ≤ _; omega, by show 0 ≤ (x.k.xs.take 0).length; omega⟩
            have r0 := cell_later hb3 q0
            have r1 := cell_later hb3 q1
            have v0 := cell_later hb34 q0
            have v1 := cell_later hb34 q1
            have z0 := g2.cell v0 (by intro e1; have := (hlt5 _ e1.symm).2; simp only at this; omega)
            have z1 := g2.cell v1 (by intro e1; have := (hlt5 _ e1.symm).2; simp only at this; omega)
            have HR5 := Lib.hid hR5
            have HB5 := Lib.hid hbw5
            have HM5 : Hid ((M ++ [RE.mk ⟨y, x.k.xs.take 0, 0, true⟩ A1 k1]).map (·.k) = crashB keep (Ks.take (k + 1))) := Lib.hid (by rw [List.map_append, HSN.out, hMk.out]; simp)
            have i5 : 0 ≤ x.c := by omega
            have i6 : (0 : Int) ≤ (x.c : Int) := by omega
            obtain ⟨q, hq⟩ : ∃ q, wr.heap.size = q := ⟨_, rfl⟩
            rw [hq] at q0 q1 r0 r1 v0 v1 z0 z1
            clear hbA hbwa hRa hxa o1 g1 n1 hb3 hR3 hb4 hR4 ho4 hve hsrc hb34 hbw4 hrow4 own2 g2 hlt5 hbw5 hR5
            have HWA := Lib.hid hwa
            have HQ := Lib.hid hq
            clear hwa hq
            go_wp2_with fail
            rw [HWA.out, HQ.out]
            refine wp_region_held_drew (S := fun wi => wi.cell? ⟨q, 0, none⟩ = some (.int .i64 y) ∧ wi.cell? ⟨q, 0 + 1, none⟩ = some (.slice x.A xl x.c)) (by kernel_rfl) ⟨q0, q1⟩ ?_
            intro hHeld
            refine wpAnyH_take (i := 0) (v := ?_) rfl (by kernel_rfl) (by kernel_rfl) (by kernel_rfl) (fun _ _ _ h => h) (Or.inl ⟨by rfl, ?_⟩) (by assumption) ?_
            rotate_left
            · intro w hSw
              (try dsimp only at hSw)
              go_simp
              try (with_reducible rfl)
            try simp only [Act.put, List.getElem_toArray, List.getElem_cons_zero, List.setIfInBounds_toArray, List.set_cons_zero, List.set_cons_succ]
            refine wpAnyH_take (i := 1) (v := ?_) rfl (by kernel_rfl) (by kernel_rfl) (by kernel_rfl) (fun _ _ _ h => h) (Or.inl ⟨by rfl, ?_⟩) (by assumption) ?_
            rotate_left
            · intro w hSw
              (try dsimp only at hSw)
              go_simp
              try (with_reducible rfl)
            try simp only [Act.put, List.getElem_toArray, List.getElem_cons_zero, List.getElem_cons_succ, List.setIfInBounds_toArray, List.set_cons_zero, List.set_cons_succ]
            refine wpAnyH_take (i := 2) (v := ?_) rfl (by kernel_rfl) (by kernel_rfl) (by kernel_rfl) (fun _ _ _ h => h) (Or.inl ⟨by rfl, ?_⟩) (by assumption) ?_
            rotate_left
            · intro w hSw
              (try dsimp only at hSw)
              go_simp
              try (with_reducible rfl)
            try simp only [Act.put, List.getElem_toArray, List.getElem_cons_zero, List.getElem_cons_succ, List.setIfInBounds_toArray, List.set_cons_zero, List.set_cons_succ]
            refine wpAnyH_take (i := 3) (v := ?_) rfl (by kernel_rfl) (by kernel_rfl) (by kernel_rfl) (fun _ _ _ h => h) (Or.inl ⟨by rfl, ?_⟩) (by assumption) ?_
            rotate_left
            · intro w hSw
              (try dsimp only at hSw)
              go_simp
              try (with_reducible rfl)
            try simp only [Act.put, List.getElem_toArray, List.getElem_cons_zero, List.getElem_cons_succ, List.setIfInBounds_toArray, List.set_cons_zero, List.set_cons_succ]
            refine wpAnyH_take (i := 4) (v := ?_) rfl (by kernel_rfl) (by kernel_rfl) (by kernel_rfl) (fun _ _ _ h => h) (Or.inl ⟨by rfl, ?_⟩) (by assumption) ?_
            rotate_left
            · intro w hSw
              (try dsimp only at hSw)
              go_simp
              try (with_reducible rfl)
            try simp only [Act.put, List.getElem_toArray, List.getElem_cons_zero, List.getElem_cons_succ, List.setIfInBounds_toArray, List.set_cons_zero, List.set_cons_succ]
            refine wpAnyH_take (i := 5) (v := ?_) rfl (by kernel_rfl) (by kernel_rfl) (by kernel_rfl) (fun _ _ _ h => h) (Or.inl ⟨by rfl, ?_⟩) (by assumption) ?_
            rotate_left
            · intro w hSw
              (try dsimp only at hSw)
              go_simp
              try (with_reducible rfl)
            try simp only [Act.put, List.getElem_toArray, List.getElem_cons_zero, List.getElem_cons_succ, List.setIfInBounds_toArray, List.set_cons_zero, List.set_cons_succ]
            refine wpAnyH_take (i := 6) (v := ?_) rfl (by kernel_rfl) (by kernel_rfl) (by kernel_rfl) (fun _ _ _ h => h) (Or.inl ⟨by rfl, ?_⟩) (by assumption) ?_
            rotate_left
            · intro w hSw
              (try dsimp only at hSw)
              go_simp
              try (with_reducible rfl)
            try simp only [Act.put, List.getElem_toArray, List.getElem_cons_zero, List.getElem_cons_succ, List.setIfInBounds_toArray, List.set_cons_zero, List.set_cons_succ]
            refine wpAnyH_take (i := 8) (v := ?_) rfl (by kernel_rfl) (by kernel_rfl) (by kernel_rfl) (fun _ _ _ h => h) (Or.inl ⟨by rfl, ?_⟩) (by assumption) ?_
            rotate_left
            · intro w hSw
              (try dsimp only at hSw)
              go_simp
              try (with_reducible rfl)
            try simp only [Act.put, List.getElem_toArray, List.getElem_cons_zero, List.getElem_cons_succ, List.setIfInBounds_toArray, List.set_cons_zero, List.set_cons_succ]
            refine wpAnyH_ready (rs := [7]) (by kernel_rfl) (by simp) ?_
            refine AllReadyH.cons rfl (fun K hK => ?_) AllReadyH.nil
            refine step_app_r (by rfl) (.const (.slice none 0 0)) (.tmp 42) 29 rfl _ _ _ rfl rfl hrun1 ?_
            refine hK.out _ _ ⟨r0, r1⟩ (fun hHeld2 => ?_)
            clear hK K hHeld
            have hHeld := hHeld2
            clear hHeld2
            try simp only [Act.put, List.getElem_toArray, List.getElem_cons_zero, List.getElem_cons_succ, List.setIfInBounds_toArray, List.set_cons_zero, List.set_cons_succ]
            refine wpAnyH_take (i := 9) (v := ?_) rfl (by kernel_rfl) (by kernel_rfl) (by kernel_rfl) (fun _ _ _ h => h) (Or.inl ⟨by rfl, ?_⟩) (by assumption) ?_
            rotate_left
            · intro w hSw
              (try dsimp only at hSw)
              go_simp
              try (with_reducible rfl)
            try simp only [Act.put, List.getElem_toArray, List.getElem_cons_zero, List.getElem_cons_succ, List.setIfInBounds_toArray, List.set_cons_zero, List.set_cons_succ]
            refine wpAnyH_ready (rs := [10]) (by kernel_rfl) (by simp) ?_
            refine AllReadyH.cons rfl (fun K hK => ?_) AllReadyH.nil
            go_simp
            try rw [hw4]
            try rw [hq3]
            refine hK.out _ _ ⟨v0, v1⟩ (fun hHeld2 => ?_)
            clear hK K hHeld
            have hHeld := hHeld2
            clear hHeld2
            try simp only [Act.put, List.getElem_toArray, List.getElem_cons_zero, List.getElem_cons_succ, List.setIfInBounds_toArray, List.set_cons_zero, List.set_cons_succ]
            refine wpAnyH_ready (rs := [11]) (by kernel_rfl) (by simp) ?_
            refine AllReadyH.cons rfl (fun K hK => ?_) AllReadyH.nil
            refine step_app_r (by rfl) (.tmp 36) (.tmp 46) 26 rfl _ _ _ rfl rfl hrun2 ?_
            refine hK.out _ _ ⟨z0, z1⟩ (fun hHeld2 => ?_)
            clear hK K hHeld
            have hHeld := hHeld2
            clear hHeld2
            try simp only [Act.put, List.getElem_toArray, List.getElem_cons_zero, List.getElem_cons_succ, List.setIfInBounds_toArray, List.set_cons_zero, List.set_cons_succ]
            refine wpAnyH_ready (rs := [12]) (by kernel_rfl) (by simp) ?_
            refine AllReadyH.cons rfl (fun K hK => ?_) AllReadyH.nil
            go_simp
            refine hK.out _ _ ⟨z0, z1⟩ (fun hHeld2 => ?_)
            clear hK K hHeld
            have hHeld := hHeld2
            clear hHeld2
            try simp only [Act.put, List.getElem_toArray, List.getElem_cons_zero, List.getElem_cons_succ, List.setIfInBounds_toArray, List.set_cons_zero, List.set_cons_succ]
            refine wpAnyH_done (by kernel_rfl) ?_ _
            go_wp2_with fail
            go_roundw
            case rel => exact ⟨k + 1, A2, k2, ml + 1, _, by omega, by go_num, rfl, Lib.hid (by rw [List.length_append, hMl.out]; rfl), by omega, HR5, HM5, HB5⟩
            case measure => simp [intOf]; omega
          · have hT1 : ¬ (T : Int) = 0 := by omega
            clear hlo
            have q0 : (wr.alloc (.cells #[.int .i64 y, .slice x.A xl x.c, .int .i64 (xk : Nat), .bool xf] 53)).cell? ⟨wr.heap.size, 0, none⟩ = some (.int .i64 y) := by go_simp
            have q1 : (wr.alloc (.cells #[.int .i64 y, .slice x.A xl x.c, .int .i64 (xk : Nat), .bool xf] 53)).cell? ⟨wr.heap.size, 0 + 1, none⟩ = some (.slice x.A xl x.c) := by go_simp
            obtain ⟨wa, hwa⟩ : ∃ wa, wr.alloc (.cells #[.int .i64 y, .slice x.A xl x.c, .int .i64 (xk : Nat), .bool xf] 53) = wa := ⟨_, rfl⟩
            rw [hwa] at q0 q1
            have hbA := HBA.out
            rw [hwa] at hbA
            have hbwa := hbl.out.trans (hbA.mono hbl.out.size)
            have hRa := hRM.out.later hbA
            have hxa := HXE.out.later hbA
            obtain ⟨A1, k1, w3, hrun1, o1, g1, n1⟩ := run_app_f (P := Try.prog) wa.drew .u8 29 29 5 (.int .u8 0) 1 Try.underlying29 info_byte rfl w.heap.size (.slice none 0 0) [] (Own.nil _ _ _ _) x.A T x.c (x.k.xs.take T) HTL.out (hxa.rd.take T) (by simp; try (unfold maxLen; omega)) (by simp; try omega) hbwa.size
            simp only [List.length_nil, Nat.zero_add, List.nil_append] at hrun1 o1 n1
            have hb3 : Below wa.heap.size wa w3 := ⟨g1.os, g1.tape, g1.output, g1.size, fun k hk => g1.block k hk (by simp [Value.ownBlock])⟩
            have hR3 := hRa.later hb3
            have hb4 := (Below.refl w3.heap.size w3).alloc (Nat.le_refl _) (.cells #[.int .i64 y, .slice A1 T k1, .int .i64 (T : Nat), .bool true] 53)
            have hR4 := hR3.later hb4
            have ho4 := o1.later hb4
            have hve : (RE.mk ⟨y, x.k.xs.take T, T, true⟩ A1 k1).v = .slice A1 T k1 := by unfold RE.v; rw [HTL.out]
            have hsrc : ∀ j u, (rcs [RE.mk ⟨y, x.k.xs.take T, T, true⟩ A1 k1])[j]? = some u → (w3.alloc (.cells #[.int .i64 y, .slice A1 T k1, .int .i64 (T : Nat), .bool true] 53)).cell? ((⟨w3.heap.size, 0, none⟩ : Addr).add j) = some u := by
              intro j u hu
              have hj : j < 4 := by have := (List.getElem?_eq_some_iff.1 hu).1; rw [rcs_len] at this; simpa using this
              have hcs : rcs [RE.mk ⟨y, x.k.xs.take T, T, true⟩ A1 k1] = [.int .i64 y, .slice A1 T k1, .int .i64 (T : Nat), .bool true] := by unfold rcs RE.cs; rw [List.flatMap_cons, hve]; rfl
              rw [hcs] at hu
              rw [Addr.add_lit]
              rcases (show j = 0 ∨ j = 1 ∨ j = 2 ∨ j = 3 by omega) with rfl | rfl | rfl | rfl
              all_goals (simp at hu; subst hu; go_simp)
            obtain ⟨w4, hw4⟩ : ∃ w4, w3.alloc (.cells #[.int .i64 y, .slice A1 T k1, .int .i64 (T : Nat), .bool true] 53) = w4 := ⟨_, rfl⟩
            rw [hw4] at hb4 hR4 ho4 hsrc
            have hb34 := hb3.trans (hb4.mono hb3.size)
            have hbw4 := hbwa.trans (hb34.mono hbwa.size)
            have hrow4 := hR4.row
            rw [hMl.out] at hrow4
            obtain ⟨q3, hq3⟩ : ∃ q, w3.heap.size = q := ⟨_, rfl⟩
            rw [hq3] at hsrc
            obtain ⟨A2, k2, w5, hrun2, own2, g2, _⟩ := run_appR (w := w4) 26 w.heap.size (.slice A ml d) M [RE.mk ⟨y, x.k.xs.take T, T, true⟩ A1 k1] hR4.row (some ⟨q3, 0, none⟩) 1 1 rfl (fun _ => ⟨_, rfl, hsrc⟩) (by rw [hMl.out]; omega) hbw4.size
            rw [hMl.out] at hrun2 own2
            have hlt5 := World.ownsRow.lt hRM.out.row
            have hbw5 := hbw4.grown g2 hbw4.size (fun g hg => (hlt5 g hg).1)
            have hR5 : RM w w5 (.slice A2 (ml + 1) k2) (M ++ [RE.mk ⟨y, x.k.xs.take T, T, true⟩ A1 k1]) := by
              have ht := Trn.of_grown g2
              refine ⟨by rw [List.length_append, hMl.out]; exact own2, fun e he => ?_, fun e he => ?_⟩
              · rcases List.mem_append.1 he with h | h
                · exact ht.own (hR4.each e h) (fun g hg e1 => rows_ne hR4.row (own_row (hR4.each e h)) (by decide) g e1 hg)
                · rw [List.mem_singleton] at h
                  subst h
                  rw [hve]
                  exact ht.own ho4 (fun g hg e1 => rows_ne hR4.row (own_row ho4) (by decide) g e1 hg)
              · rcases List.mem_append.1 he with h | h
                · exact hR4.len e h
                · rw [List.mem_singleton] at h
                  subst h
                  have h9 : (x.k.xs.take T).length = T := HTL.out
                  exact ⟨by show (x.k.xs.take T).length ≤ _; omega, by show T ≤ (x.k.xs.take T).length; omega⟩
            have r0 := cell_later hb3 q0
            have r1 := cell_later hb3 q1
            have v0 := cell_later hb34 q0
            have v1 := cell_later hb34 q1
            have z0 := g2.cell v0 (by intro e1; have := (hlt5 _ e1.symm).2; simp only at this; omega)
            have z1 := g2.cell v1 (by intro e1; have := (hlt5 _ e1.symm).2; simp only at this; omega)
            have HR5 := Lib.hid hR5
            have HB5 := Lib.hid hbw5
            have HM5 : Hid ((M ++ [RE.mk ⟨y, x.k.xs.take T, T, true⟩ A1 k1]).map (·.k) = crashB keep (Ks.take (k + 1))) := Lib.hid (by rw [List.map_append, HSN.out, hMk.out]; simp [hT0])
            have i5 : T ≤ x.c := by omega
            have i6 : ((T : Nat) : Int) ≤ (x.c : Int) := by omega
            obtain ⟨q, hq⟩ : ∃ q, wr.heap.size = q := ⟨_, rfl⟩
            rw [hq] at q0 q1 r0 r1 v0 v1 z0 z1
            clear hbA hbwa hRa hxa o1 g1 n1 hb3 hR3 hb4 hR4 ho4 hve hsrc hb34 hbw4 hrow4 own2 g2 hlt5 hbw5 hR5
            have HWA := Lib.hid hwa
            have HQ := Lib.hid hq
            clear hwa hq
            go_wp2_with fail
            rw [HWA.out, HQ.out]
            refine wp_region_held_drew (S := fun wi => wi.cell? ⟨q, 0, none⟩ = some (.int .i64 y) ∧ wi.cell? ⟨q, 0 + 1, none⟩ = some (.slice x.A xl x.c)) (by kernel_rfl) ⟨q0, q1⟩ ?_
            intro hHeld
            refine wpAnyH_take (i := 0) (v := ?_) rfl (by kernel_rfl) (by kernel_rfl) (by kernel_rfl) (fun _ _ _ h => h) (Or.inl ⟨by rfl, ?_⟩) (by assumption) ?_
            rotate_left
            · intro w hSw
              (try dsimp only at hSw)
              go_simp
              try (with_reducible rfl)
            try simp only [Act.put, List.getElem_toArray, List.getElem_cons_zero, List.setIfInBounds_toArray, List.set_cons_zero, List.set_cons_succ]
            refine wpAnyH_take (i := 1) (v := ?_) rfl (by kernel_rfl) (by kernel_rfl) (by kernel_rfl) (fun _ _ _ h => h) (Or.inl ⟨by rfl, ?_⟩) (by assumption) ?_
            rotate_left
            · intro w hSw
              (try dsimp only at hSw)
              go_simp
              try (with_reducible rfl)
            try simp only [Act.put, List.getElem_toArray, List.getElem_cons_zero, List.getElem_cons_succ, List.setIfInBounds_toArray, List.set_cons_zero, List.set_cons_succ]
            refine wpAnyH_take (i := 2) (v := ?_) rfl (by kernel_rfl) (by kernel_rfl) (by kernel_rfl) (fun _ _ _ h => h) (Or.inl ⟨by rfl, ?_⟩) (by assumption) ?_
            rotate_left
            · intro w hSw
              (try dsimp only at hSw)
              go_simp
              try (with_reducible rfl)
            try simp only [Act.put, List.getElem_toArray, List.getElem_cons_zero, List.getElem_cons_succ, List.setIfInBounds_toArray, List.set_cons_zero, List.set_cons_succ]
            refine wpAnyH_take (i := 3) (v := ?_) rfl (by kernel_rfl) (by kernel_rfl) (by kernel_rfl) (fun _ _ _ h => h) (Or.inl ⟨by rfl, ?_⟩) (by assumption) ?_
            rotate_left
            · intro w hSw
              (try dsimp only at hSw)
              go_simp
              try (with_reducible rfl)
            try simp only [Act.put, List.getElem_toArray, List.getElem_cons_zero, List.getElem_cons_succ, List.setIfInBounds_toArray, List.set_cons_zero, List.set_cons_succ]
            refine wpAnyH_take (i := 4) (v := ?_) rfl (by kernel_rfl) (by kernel_rfl) (by kernel_rfl) (fun _ _ _ h => h) (Or.inl ⟨by rfl, ?_⟩) (by assumption) ?_
            rotate_left
            · intro w hSw
              (try dsimp only at hSw)
              go_simp
              try (with_reducible rfl)
            try simp only [Act.put, List.getElem_toArray, List.getElem_cons_zero, List.getElem_cons_succ, List.setIfInBounds_toArray, List.set_cons_zero, List.set_cons_succ]
            refine wpAnyH_take (i := 5) (v := ?_) rfl (by kernel_rfl) (by kernel_rfl) (by kernel_rfl) (fun _ _ _ h => h) (Or.inl ⟨by rfl, ?_⟩) (by assumption) ?_
            rotate_left
            · intro w hSw
              (try dsimp only at hSw)
              go_simp
              try (with_reducible rfl)
            try simp only [Act.put, List.getElem_toArray, List.getElem_cons_zero, List.getElem_cons_succ, List.setIfInBounds_toArray, List.set_cons_zero, List.set_cons_succ]
            refine wpAnyH_take (i := 6) (v := ?_) rfl (by kernel_rfl) (by kernel_rfl) (by kernel_rfl) (fun _ _ _ h => h) (Or.inl ⟨by rfl, ?_⟩) (by assumption) ?_
            rotate_left
            · intro w hSw
              (try dsimp only at hSw)
              go_simp
              try (with_reducible rfl)
            try simp only [Act.put, List.getElem_toArray, List.getElem_cons_zero, List.getElem_cons_succ, List.setIfInBounds_toArray, List.set_cons_zero, List.set_cons_succ]
            refine wpAnyH_take (i := 8) (v := ?_) rfl (by kernel_rfl) (by kernel_rfl) (by kernel_rfl) (fun _ _ _ h => h) (Or.inl ⟨by rfl, ?_⟩) (by assumption) ?_
            rotate_left
            · intro w hSw
              (try dsimp only at hSw)
              go_simp
              try (with_reducible rfl)
            try simp only [Act.put, List.getElem_toArray, List.getElem_cons_zero, List.getElem_cons_succ, List.setIfInBounds_toArray, List.set_cons_zero, List.set_cons_succ]
            refine wpAnyH_ready (rs := [7]) (by kernel_rfl) (by simp) ?_
            refine AllReadyH.cons rfl (fun K hK => ?_) AllReadyH.nil
            refine step_app_r (by rfl) (.const (.slice none 0 0)) (.tmp 42) 29 rfl _ _ _ rfl rfl hrun1 ?_
            refine hK.out _ _ ⟨r0, r1⟩ (fun hHeld2 => ?_)
            clear hK K hHeld
            have hHeld := hHeld2
            clear hHeld2
            try simp only [Act.put, List.getElem_toArray, List.getElem_cons_zero, List.getElem_cons_succ, List.setIfInBounds_toArray, List.set_cons_zero, List.set_cons_succ]
            refine wpAnyH_take (i := 9) (v := ?_) rfl (by kernel_rfl) (by kernel_rfl) (by kernel_rfl) (fun _ _ _ h => h) (Or.inl ⟨by rfl, ?_⟩) (by assumption) ?_
            rotate_left
            · intro w hSw
              (try dsimp only at hSw)
              go_simp
              try (with_reducible rfl)
            try simp only [Act.put, List.getElem_toArray, List.getElem_cons_zero, List.getElem_cons_succ, List.setIfInBounds_toArray, List.set_cons_zero, List.set_cons_succ]
            refine wpAnyH_ready (rs := [10]) (by kernel_rfl) (by simp) ?_
            refine AllReadyH.cons rfl (fun K hK => ?_) AllReadyH.nil
            go_simp
            try rw [hw4]
            try rw [hq3]
            refine hK.out _ _ ⟨v0, v1⟩ (fun hHeld2 => ?_)
            clear hK K hHeld
            have hHeld := hHeld2
            clear hHeld2
            try simp only [Act.put, List.getElem_toArray, List.getElem_cons_zero, List.getElem_cons_succ, List.setIfInBounds_toArray, List.set_cons_zero, List.set_cons_succ]
            refine wpAnyH_ready (rs := [11]) (by kernel_rfl) (by simp) ?_
            refine AllReadyH.cons rfl (fun K hK => ?_) AllReadyH.nil
            refine step_app_r (by rfl) (.tmp 36) (.tmp 46) 26 rfl _ _ _ rfl rfl hrun2 ?_
            refine hK.out _ _ ⟨z0, z1⟩ (fun hHeld2 => ?_)
            clear hK K hHeld
            have hHeld := hHeld2
            clear hHeld2
            try simp only [Act.put, List.getElem_toArray, List.getElem_cons_zero, List.getElem_cons_succ, List.setIfInBounds_toArray, List.set_cons_zero, List.set_cons_succ]
            refine wpAnyH_ready (rs := [12]) (by kernel_rfl) (by simp) ?_
            refine AllReadyH.cons rfl (fun K hK => ?_) AllReadyH.nil
            go_simp
            refine hK.out _ _ ⟨z0, z1⟩ (fun hHeld2 => ?_)
            clear hK K hHeld
            have hHeld := hHeld2
            clear hHeld2
            try simp only [Act.put, List.getElem_toArray, List.getElem_cons_zero, List.getElem_cons_succ, List.setIfInBounds_toArray, List.set_cons_zero, List.set_cons_succ]
            refine wpAnyH_done (by kernel_rfl) ?_ _
            go_wp2_with fail
            go_roundw
            case rel => exact ⟨k + 1, A2, k2, ml + 1, _, by omega, by go_num, rfl, Lib.hid (by rw [List.length_append, hMl.out]; rfl), by omega, HR5, HM5, HB5⟩
            case measure => simp [intOf]; omega
      · have hkm2 : k = m := by omega
        subst hkm2
        have hRMo := hRM.out
        have e0 := cell_later hbl.out s0
        have e1 := cell_later hbl.out s1
        have e2 := cell_later hbl.out s2
        have g0 : wr.frozen? ⟨p, 0, none⟩ = false := by rw [World.frozen?_of_block (hbl.out.block p hpl)]; exact f0
        have g1 : wr.frozen? ⟨p, 0 + 1, none⟩ = false := by rw [World.frozen?_of_block (hbl.out.block p hpl)]; exact f1
        have g2 : wr.frozen? ⟨p, 0 + 2, none⟩ = false := by rw [World.frozen?_of_block (hbl.out.block p hpl)]; exact f2
        have HF := Lib.hid (HEND.out _ M wr hbl.out hRMo (by rw [hMk.out, List.take_of_length_le (by rw [← HK.out, List.length_map, HML.out]; exact Nat.le_refl _)]))
        clear hRMo s0 s1 s2 f0 f1 f2
        go_wp2
        go_end0
        exact HF.out
end
end Go.Proofs.Ytfafonfphholmaa

/-
  What the calls of package path do: contracts over the program.
-/
import Derived.Test.YtpjlnpnadkbakaaGreatQBFlight4
import Derived.Test.YtpjlnpnadkbakaaGreatQBFlight2
import Derived.Test.YtpjlnpnadkbakaaGreatQBFresh
import Derived.Lib.AppendZerosOnto
import Derived.Test.YtpjlnpnadkbakaaGreatQBMem
namespace Go.Proofs.YtpjlnpnadkbakaaGreat
set_option maxRecDepth 10000
open Go.RowKit
theorem PaAt.new {w : World} {B pg pw pf : Nat} {f m : Int} (hg : Gu w pg (Gs.new f)) (hw : Wi w pw (Wn.new m)) (hf : FlA tFl tOutP w B pf (.slice none 0 0) []) (hB : B ≤ w.heap.size) (h1 : B ≤ pg) (h2 : B ≤ pw) :
    PaAt (w.alloc (.cells #[.bool false, .bool false, .bool false, .int .i64 0, .pointer (some ⟨pg, 0, none⟩), .pointer (some ⟨pw, 0, none⟩), .pointer (some ⟨pf, 0, none⟩)] tPa)) B w.heap.size pg pw pf (.slice none 0 0) (Pa.new f m) := by
  have hb := (Below.refl w.heap.size w).alloc (Nat.le_refl _) (.cells #[.bool false, .bool false, .bool false, .int .i64 0, .pointer (some ⟨pg, 0, none⟩), .pointer (some ⟨pw, 0, none⟩), .pointer (some ⟨pf, 0, none⟩)] tPa)
  refine ⟨World.rowIs_alloc w _ _ _ (fun i hi => ?_), hg.later hb, hw.later hb, hf.later hb, hB, h1, h2⟩
  have : i < 7 := hi
  match i, this with
  | 0, _ | 1, _ | 2, _ | 3, _ | 4, _ | 5, _ | 6, _ => rfl
theorem newpa_any (x0 x1 x2 x3 m f x6 : Int) (w : World) : Calls Tryz.prog 93 #[.agg #[.int .i64 x0, .int .i64 x1, .int .i64 x2, .int .i64 x3, .int .i64 m, .int .i64 f, .int .i64 x6]] w fun e w' =>
    ∃ p pg pw pf, e = .returned (.pointer (some ⟨p, 0, none⟩)) ∧ PaAt w' w.heap.size p pg pw pf (.slice none 0 0) (Pa.new f m) ∧ Below w.heap.size w w' := by
  obtain ⟨w0, hw0⟩ : ∃ w0, w.alloc (.cells #[.int .i64 x0, .int .i64 x1, .int .i64 x2, .int .i64 x3, .int .i64 m, .int .i64 f, .int .i64 x6] 26) = w0 := ⟨_, rfl⟩
  have hb0 : Below w.heap.size w w0 := by rw [← hw0]; exact (Below.refl _ _).alloc (Nat.le_refl _) _
  have hz0 : w0.heap.size = w.heap.size + 1 := by rw [← hw0]; simp
  have c4 : w0.cell? ⟨w.heap.size, 4, none⟩ = some (.int .i64 m) := by rw [← hw0, World.cell?_alloc_at _ _ _ _ rfl]; rfl
  have c5 : w0.cell? ⟨w.heap.size, 5, none⟩ = some (.int .i64 f) := by rw [← hw0, World.cell?_alloc_at _ _ _ _ rfl]; rfl
  have HG := Lib.hid (newgu_any f w0.drew)
  have HB0 := Lib.hid hb0
  obtain ⟨b, hb⟩ : ∃ b, w.heap.size = b := ⟨_, rfl⟩
  rw [hb] at hb0 c4 c5 HB0 hz0
  have HZ := Lib.hid hz0
  rw [hb]
  have S0W := Lib.hid (show w0.drew.cell? ⟨b, 4, none⟩ = some (.int .i64 m) ∧ w0.drew.cell? ⟨b, 5, none⟩ = some (.int .i64 f) from ⟨c4, c5⟩)
  have HBB := Lib.hid hb
  clear hb0 hz0 c4 c5
  go_enter Tryz.func93, Tryz.ntmps93
  go_wp2_with fail
  clear hw0 hb
  refine wp_region_held_drew (S := fun wi => wi.cell? ⟨b, 4, none⟩ = some (.int .i64 m) ∧ wi.cell? ⟨b, 5, none⟩ = some (.int .i64 f)) (by kernel_rfl) S0W.out ?_
  intro hHeld
  refine tkH 0 ?_
  refine tkH 1 ?_
  refine tkH 3 ?_
  refine tkH 4 ?_
  refine wpAnyH_ready (rs := [2]) (by kernel_rfl) (by simp) ?_
  refine AllReadyH.cons rfl (fun K hK => ?_) AllReadyH.nil
  go_simp
  refine HG.out.mono ?_
  rintro e w1 ⟨rfl, hg, hb1, hz1⟩
  have HG1 := Lib.hid hg
  have HB1 := Lib.hid (HB0.out.trans ((show Below w0.heap.size w0 w1 from ⟨hb1.os, hb1.tape, hb1.output, hb1.size, hb1.block⟩).mono (by have := HZ.out; omega)))
  have HZ1 := Lib.hid (show w1.heap.size = b + 2 by have := HZ.out; simp at hz1; omega)
  have S1 := Lib.hid (show w1.cell? ⟨b, 4, none⟩ = some (.int .i64 m) ∧ w1.cell? ⟨b, 5, none⟩ = some (.int .i64 f) from ⟨cell_later hb1 S0W.out.1, cell_later hb1 S0W.out.2⟩)
  have HW := Lib.hid (newwi_any m w1)
  obtain ⟨pg, hpg⟩ : ∃ pg, w0.drew.heap.size = pg := ⟨_, rfl⟩
  rw [hpg] at HG1 ⊢
  have HPG := Lib.hid (show b ≤ pg by have := HZ.out; simp at hpg; omega)
  clear hg hb1 hz1 hpg HG
  try go_wp2_with fail
  refine hK.out _ _ S1.out (fun hHeld2 => ?_)
  clear hK K hHeld
  have hHeld := hHeld2
  clear hHeld2
  try simp only [Act.put, List.getElem_toArray, List.getElem_cons_zero, List.getElem_cons_succ, List.setIfInBounds_toArray, List.set_cons_zero, List.set_cons_succ]
  refine wpAnyH_ready (rs := [5]) (by kernel_rfl) (by simp) ?_
  refine AllReadyH.cons rfl (fun K hK => ?_) AllReadyH.nil
  go_simp
  refine HW.out.mono ?_
  rintro e w2 ⟨rfl, hw, hb2, -⟩
  have S2 := Lib.hid (show w2.cell? ⟨b, 4, none⟩ = some (.int .i64 m) ∧ w2.cell? ⟨b, 5, none⟩ = some (.int .i64 f) from ⟨cell_later hb2 S1.out.1, cell_later hb2 S1.out.2⟩)
  have HB2 := Lib.hid (HB1.out.trans (hb2.mono (by have := HZ1.out; omega)))
  have HZ2 := Lib.hid (show b ≤ w2.heap.size by have := hb2.size; have := HZ1.out; omega)
  have HG2 := Lib.hid (HG1.out.later hb2)
  have HW2 := Lib.hid hw
  have HF := Lib.hid (newfl_any w2)
  obtain ⟨pw, hpw⟩ : ∃ pw, w1.heap.size = pw := ⟨_, rfl⟩
  rw [hpw] at HW2 ⊢
  have HPW := Lib.hid (show b ≤ pw by have := HZ1.out; omega)
  clear hw hb2 hpw HW HG1
  try go_wp2_with fail
  refine hK.out _ _ S2.out (fun hHeld2 => ?_)
  clear hK K hHeld
  have hHeld := hHeld2
  clear hHeld2
  try simp only [Act.put, List.getElem_toArray, List.getElem_cons_zero, List.getElem_cons_succ, List.setIfInBounds_toArray, List.set_cons_zero, List.set_cons_succ]
  refine wpAnyH_ready (rs := [6]) (by kernel_rfl) (by simp) ?_
  refine AllReadyH.cons rfl (fun K hK => ?_) AllReadyH.nil
  go_simp
  refine HF.out.mono ?_
  rintro e w3 ⟨rfl, hf, hb3, -⟩
  have S3 := Lib.hid (show w3.cell? ⟨b, 4, none⟩ = some (.int .i64 m) ∧ w3.cell? ⟨b, 5, none⟩ = some (.int .i64 f) from ⟨cell_later hb3 S2.out.1, cell_later hb3 S2.out.2⟩)
  have HB3 := Lib.hid (HB2.out.trans (hb3.mono HZ2.out))
  have HZ3 := Lib.hid (show b ≤ w3.heap.size by have := hb3.size; have := HZ2.out; omega)
  have hf2 := hf.less HZ2.out
  obtain ⟨pf, hpf⟩ : ∃ pf, w2.heap.size = pf := ⟨_, rfl⟩
  rw [hpf] at hf2 ⊢
  have HNEW := Lib.hid (PaAt.new (B := b) (HG2.out.later hb3) (HW2.out.later hb3) hf2 HZ3.out HPG.out HPW.out)
  have HBN := Lib.hid (HB3.out.alloc HZ3.out (.cells #[.bool false, .bool false, .bool false, .int .i64 0, .pointer (some ⟨pg, 0, none⟩), .pointer (some ⟨pw, 0, none⟩), .pointer (some ⟨pf, 0, none⟩)] tPa))
  have S4 := Lib.hid (show (w3.alloc (.cells #[.bool false, .bool false, .bool false, .int .i64 0, .pointer (some ⟨pg, 0, none⟩), .pointer (some ⟨pw, 0, none⟩), .pointer (some ⟨pf, 0, none⟩)] tPa)).cell? ⟨b, 4, none⟩ = some (.int .i64 m) ∧ (w3.alloc (.cells #[.bool false, .bool false, .bool false, .int .i64 0, .pointer (some ⟨pg, 0, none⟩), .pointer (some ⟨pw, 0, none⟩), .pointer (some ⟨pf, 0, none⟩)] tPa)).cell? ⟨b, 5, none⟩ = some (.int .i64 f) from ⟨cell_later ((Below.refl _ _).alloc (Nat.le_refl _) _) S3.out.1, cell_later ((Below.refl _ _).alloc (Nat.le_refl _) _) S3.out.2⟩)
  clear hf hb3 hf2 hpf HF HG2 HW2
  try go_wp2_with fail
  refine hK.out _ _ S3.out (fun hHeld2 => ?_)
  clear hK K hHeld
  have hHeld := hHeld2
  clear hHeld2
  try simp only [Act.put, List.getElem_toArray, List.getElem_cons_zero, List.getElem_cons_succ, List.setIfInBounds_toArray, List.set_cons_zero, List.set_cons_succ]
  refine tkH 7 ?_
  refine wpAnyH_ready (rs := [8]) (by kernel_rfl) (by simp) ?_
  refine AllReadyH.cons rfl (fun K hK => ?_) AllReadyH.nil
  go_simp
  refine hK.out _ _ S4.out (fun hHeld2 => ?_)
  clear hK K hHeld
  have hHeld := hHeld2
  clear hHeld2
  try simp only [Act.put, List.getElem_toArray, List.getElem_cons_zero, List.getElem_cons_succ, List.setIfInBounds_toArray, List.set_cons_zero, List.set_cons_succ]
  refine tkH 9 ?_
  refine wpAnyH_done (by kernel_rfl) ?_ _
  go_wp2
  go_ret
  exact ⟨_, _, _, _, rfl, HNEW.out, HBN.out⟩
section
variable {w : World} {B p pg pw pf : Nat} {v : Value} {P : Pa}
theorem paisup_any (h : PaAt w B p pg pw pf v P) : Calls Tryz.prog 96 #[.pointer (some ⟨p, 0, none⟩)] w fun e w' => e = .returned (.bool P.up) ∧ ∃ k, w' = w.drewN k := by
  have c := h.c0
  clear h
  go_enter Tryz.func96, Tryz.ntmps96
  go_wp2
  go_ret
  exact ⟨rfl, 0, rfl⟩
theorem pajoined_any (h : PaAt w B p pg pw pf v P) : Calls Tryz.prog 148 #[.pointer (some ⟨p, 0, none⟩)] w fun e w' => e = .returned (.bool P.jo) ∧ ∃ k, w' = w.drewN k := by
  have c := h.c1
  clear h
  go_enter Tryz.func148, Tryz.ntmps148
  go_wp2
  go_ret
  exact ⟨rfl, 0, rfl⟩
theorem pabehind_any (h : PaAt w B p pg pw pf v P) : Calls Tryz.prog 222 #[.pointer (some ⟨p, 0, none⟩)] w fun e w' => e = .returned (.bool P.be) ∧ ∃ k, w' = w.drewN k := by
  have c := h.c2
  clear h
  go_enter Tryz.func222, Tryz.ntmps222
  go_wp2
  go_ret
  exact ⟨rfl, 0, rfl⟩
theorem pasent_any (h : PaAt w B p pg pw pf v P) : Calls Tryz.prog 147 #[.pointer (some ⟨p, 0, none⟩)] w fun e w' => e = .returned (.int .i64 P.sent) ∧ ∃ k, w' = w.drewN k := by
  have c := h.c3
  clear h
  go_enter Tryz.func147, Tryz.ntmps147
  go_wp2
  go_ret
  exact ⟨rfl, 0, rfl⟩
theorem palen_any (h : PaAt w B p pg pw pf v P) : Calls Tryz.prog 165 #[.pointer (some ⟨p, 0, none⟩)] w fun e w' => e = .returned (.int .i64 (P.fl.length : Int)) ∧ ∃ k, w' = w.drewN k := by
  have c := h.c6
  have HL := Lib.hid (fllen_any h.fl)
  clear h
  go_enter Tryz.func165, Tryz.ntmps165
  go_wp2_with fail
  refine HL.out.mono ?_
  rintro e w1 ⟨rfl, rfl⟩
  go_wp2
  go_ret
  exact ⟨rfl, 0, rfl⟩
theorem pamean_any (h : PaAt w B p pg pw pf v P) : Calls Tryz.prog 223 #[.pointer (some ⟨p, 0, none⟩)] w fun e w' => e = .returned (.int .i64 P.g.mean) ∧ ∃ k, w' = w.drewN k := by
  have c := h.c4
  have HL := Lib.hid (gumean_any h.g)
  clear h
  go_enter Tryz.func223, Tryz.ntmps223
  go_wp2_with fail
  refine HL.out.mono ?_
  rintro e w1 ⟨rfl, rfl⟩
  go_wp2
  go_ret
  exact ⟨rfl, 0, rfl⟩
theorem paup_any (h : PaAt w B p pg pw pf v P) : Calls Tryz.prog 95 #[.pointer (some ⟨p, 0, none⟩)] w fun e w' => e = .returned (.bool (!P.up)) ∧ PaAt w' B p pg pw pf v (P.setUp true) ∧ SC w w' (Pat p pg pw pf v) (Pat p pg pw pf v) := by
  have c := h.c0
  have fr := h.fr 0
  have HN := Lib.hid (h.poke (P' := P.setUp true) 0 (.bool true) (fun j hj => by
    have : j = 0 ∨ j = 1 ∨ j = 2 ∨ j = 3 ∨ j = 4 ∨ j = 5 ∨ j = 6 := by omega
    rcases this with rfl | rfl | rfl | rfl | rfl | rfl | rfl <;> rfl) rfl rfl rfl)
  obtain ⟨u, hu⟩ : ∃ u, P.up = u := ⟨_, rfl⟩
  rw [hu] at c ⊢
  clear hu h
  cases u
  all_goals go_enter Tryz.func95, Tryz.ntmps95
  all_goals go_wp2
  all_goals go_ret
  all_goals exact ⟨rfl, HN.out.1, HN.out.2⟩
theorem pajoin_any (h : PaAt w B p pg pw pf v P) : Calls Tryz.prog 70 #[.pointer (some ⟨p, 0, none⟩)] w fun e w' => e = .returned (.bool (!P.jo)) ∧ PaAt w' B p pg pw pf v (P.setJo true) ∧ SC w w' (Pat p pg pw pf v) (Pat p pg pw pf v) := by
  have c := h.c1
  have fr := h.fr (0 + 1)
  have HN := Lib.hid (h.poke (P' := P.setJo true) (0 + 1) (.bool true) (fun j hj => by
    have : j = 0 ∨ j = 1 ∨ j = 2 ∨ j = 3 ∨ j = 4 ∨ j = 5 ∨ j = 6 := by omega
    rcases this with rfl | rfl | rfl | rfl | rfl | rfl | rfl <;> rfl) rfl rfl rfl)
  obtain ⟨u, hu⟩ : ∃ u, P.jo = u := ⟨_, rfl⟩
  rw [hu] at c ⊢
  clear hu h
  cases u
  all_goals go_enter Tryz.func70, Tryz.ntmps70
  all_goals go_wp2
  all_goals go_ret
  all_goals exact ⟨rfl, HN.out.1, HN.out.2⟩
theorem paleft_any (h : PaAt w B p pg pw pf v P) (r : Bool) (hr : decide (P.sent ≤ 65535) = r) : Calls Tryz.prog 230 #[.pointer (some ⟨p, 0, none⟩)] w fun e w' => e = .returned (.bool r) ∧ w = w' := by
  have c3 := h.c3
  clear h
  obtain ⟨s, hs'⟩ : ∃ s, P.sent = s := ⟨_, rfl⟩
  rw [hs'] at c3 hr
  clear hs'
  cases r
  · have q1 : ¬ s ≤ 65535 := of_decide_eq_false hr
    go_enter Tryz.func230, Tryz.ntmps230
    go_wp2
    go_ret
    exact ⟨rfl, rfl⟩
  · have q1 : s ≤ 65535 := of_decide_eq_true hr
    go_enter Tryz.func230, Tryz.ntmps230
    go_wp2
    go_ret
    exact ⟨rfl, rfl⟩
theorem panumber_no (h : PaAt w B p pg pw pf v P) (hs : 65535 < P.sent) : Calls Tryz.prog 149 #[.pointer (some ⟨p, 0, none⟩)] w fun e w' => e = .returned (.tuple #[.int .i64 0, .bool false]) ∧ ∃ k, w' = w.drewN k := by
  have HL := Lib.hid (paleft_any h false (decide_eq_false (by omega)))
  clear h hs
  go_enter Tryz.func149, Tryz.ntmps149
  go_wp2_with fail
  refine HL.out.mono ?_
  rintro e w1 ⟨rfl, rfl⟩
  go_wp2
  go_ret2
  exact ⟨rfl, 0, rfl⟩
theorem panumber_yes (h : PaAt w B p pg pw pf v P) (h0 : 0 ≤ P.sent) (hs : P.sent ≤ 65535) : Calls Tryz.prog 149 #[.pointer (some ⟨p, 0, none⟩)] w fun e w' => e = .returned (.tuple #[.int .i64 P.sent, .bool true]) ∧ PaAt w' B p pg pw pf v P.num ∧ SC w w' (Pat p pg pw pf v) (Pat p pg pw pf v) := by
  have c3 := h.c3
  have f3 := h.fr (0 + 3)
  have HN := Lib.hid (h.poke (P' := P.num) (0 + 3) (.int .i64 (P.sent + 1)) (fun j hj => by
    have : j = 0 ∨ j = 1 ∨ j = 2 ∨ j = 3 ∨ j = 4 ∨ j = 5 ∨ j = 6 := by omega
    rcases this with rfl | rfl | rfl | rfl | rfl | rfl | rfl <;> rfl) rfl rfl rfl)
  have HL := Lib.hid (paleft_any h true (decide_eq_true hs))
  clear h
  obtain ⟨s, hs'⟩ : ∃ s, P.sent = s := ⟨_, rfl⟩
  rw [hs'] at c3 hs h0 HN ⊢
  clear hs'
  go_enter Tryz.func149, Tryz.ntmps149
  go_wp2_with fail
  refine HL.out.mono ?_
  rintro e w1 ⟨rfl, rfl⟩
  go_wp2
  go_ret2
  exact ⟨rfl, HN.out.1, HN.out.2⟩
set_option maxHeartbeats 1000000 in
theorem pausable_any (h : PaAt w B p pg pw pf v P) (_ : P.ok) : Calls Tryz.prog 217 #[.pointer (some ⟨p, 0, none⟩)] w fun e w' => e = .returned (.bool P.usable) ∧ ∃ k, w' = w.drewN k := by
  have c0 := h.c0
  have c1 := h.c1
  have c3 := h.c3
  have c5 := h.c5
  have c6 := h.c6
  have HL := Lib.hid (fun k => fllen_any (h.drewN k).fl)
  have HR := Lib.hid (fun k => wiroom_any (P.fl.length : Int) (h.drewN k).wn)
  have HF := Lib.hid (fun k => paleft_any (h.drewN k) _ rfl)
  have hu : P.usable = (P.up && P.jo && decide ((P.fl.length : Int) < P.wn.size) && decide (P.sent ≤ 65535)) := rfl
  rw [hu]
  clear hu h
  obtain ⟨n, hn⟩ : ∃ n, P.fl.length = n := ⟨_, rfl⟩
  obtain ⟨z, hz⟩ : ∃ z, P.wn.size = z := ⟨_, rfl⟩
  obtain ⟨s, hs⟩ : ∃ s, P.sent = s := ⟨_, rfl⟩
  obtain ⟨u, hu⟩ : ∃ u, P.up = u := ⟨_, rfl⟩
  obtain ⟨j, hj⟩ : ∃ j, P.jo = j := ⟨_, rfl⟩
  rw [hn] at HL HR ⊢
  rw [hz] at HR ⊢
  rw [hs] at HF ⊢
  clear c3
  rw [hu] at c0 ⊢
  rw [hj] at c1 ⊢
  clear hn hz hs hu hj
  have go : ∀ r, (u && j && decide ((n : Int) < z) && decide (s ≤ 65535)) = r → Calls Tryz.prog 217 #[.pointer (some ⟨p, 0, none⟩)] w fun e w' => e = .returned (.bool r) ∧ ∃ k, w' = w.drewN k := by
    intro r hr
    cases u
    · obtain rfl : r = false := by rw [← hr]; simp
      clear hr
      go_enter Tryz.func217, Tryz.ntmps217
      go_wp2_with fail
      go_quiet (fail)
      go_wp2
      go_ret
      exact ⟨rfl, _, rfl⟩
    cases j
    · obtain rfl : r = false := by rw [← hr]; simp
      clear hr
      go_enter Tryz.func217, Tryz.ntmps217
      go_wp2_with fail
      go_quiet (fail)
      go_wp2
      go_ret
      exact ⟨rfl, _, rfl⟩
    by_cases a : (n : Int) < z
    · have a1 : decide ((n : Int) < z) = true := decide_eq_true a
      rw [a1] at HR
      by_cases d : s ≤ 65535
      · have d1 : decide (s ≤ 65535) = true := decide_eq_true d
        rw [d1] at HF
        obtain rfl : r = true := by rw [← hr, a1, d1]; rfl
        clear hr
        go_enter Tryz.func217, Tryz.ntmps217
        go_wp2_with fail
        go_quiet ((first | (go_at_call 206; exact quiet_eq (HL.out _)) | (go_at_call 256; exact quiet_eq (HR.out _)) | (go_at_call 230; exact quiet_eq (HF.out _))))
        go_wp2
        go_ret
        exact ⟨rfl, _, rfl⟩
      · have d1 : decide (s ≤ 65535) = false := decide_eq_false d
        rw [d1] at HF
        obtain rfl : r = false := by rw [← hr, a1, d1]; rfl
        clear hr
        go_enter Tryz.func217, Tryz.ntmps217
        go_wp2_with fail
        go_quiet ((first | (go_at_call 206; exact quiet_eq (HL.out _)) | (go_at_call 256; exact quiet_eq (HR.out _)) | (go_at_call 230; exact quiet_eq (HF.out _))))
        go_wp2
        go_ret
        exact ⟨rfl, _, rfl⟩
    · have a1 : decide ((n : Int) < z) = false := decide_eq_false a
      rw [a1] at HR
      obtain rfl : r = false := by rw [← hr, a1]; rfl
      clear hr
      go_enter Tryz.func217, Tryz.ntmps217
      go_wp2_with fail
      go_quiet ((first | (go_at_call 206; exact quiet_eq (HL.out _)) | (go_at_call 256; exact quiet_eq (HR.out _)) | (go_at_call 230; exact quiet_eq (HF.out _))))
      go_wp2
      go_ret
      exact ⟨rfl, _, rfl⟩
  exact go _ rfl
set_option maxHeartbeats 1000000 in
theorem paout_no (h : PaAt w B p pg pw pf v P) (hok : P.ok) (x y z u : Int) (i : Nat) (hi : FirstQ P.fl x i) : Calls Tryz.prog 225 #[.pointer (some ⟨p, 0, none⟩), .agg #[.int .i64 x, .int .i64 y, .int .i64 z, .int .i64 u]] w fun e w' => e = .returned (.bool false) ∧ Below w.heap.size w w' := by
  obtain ⟨w0, hw0⟩ : ∃ w0, w.alloc (.cells #[.int .i64 x, .int .i64 y, .int .i64 z, .int .i64 u] tOutP) = w0 := ⟨_, rfl⟩
  obtain ⟨b, hb⟩ : ∃ b, w.heap.size = b := ⟨_, rfl⟩
  have hbl : Below w.heap.size w w0 := by rw [← hw0]; exact (Below.refl _ _).alloc (Nat.le_refl _) _
  have hx : Bx w0 b ⟨x, y, z, u⟩ := by rw [← hw0, ← hb]; exact Bx.new _ _ _ _ _ _
  have h0 := (h.later hbl).drewN 1
  have HADD := Lib.hid (fladd_no h0.fl x y z u i hi (by have := hok.n; omega))
  have H0 := Lib.hid h0
  have HB := Lib.hid (show Below w.heap.size w (w0.drewN 1) from ⟨hbl.os, hbl.tape, hbl.output, hbl.size, hbl.block⟩)
  have HX := Lib.hid (show Bx (w0.drewN 1) b ⟨x, y, z, u⟩ from hx)
  have HPF := Lib.hid (show ¬ Fft pf v b from fun e => by have := (h.fl.foot_lt b e).2; omega)
  have S0 := Lib.hid (show w0.drew.cell? ⟨p, 6, none⟩ = some (.pointer (some ⟨pf, 0, none⟩)) ∧ Bx w0.drew b ⟨x, y, z, u⟩ from ⟨h0.c6, hx⟩)
  clear h hbl hx h0
  go_enter Tryz.func225, Tryz.ntmps225
  go_wp2_with fail
  refine wp_region_held_drew (S := fun wi => wi.cell? ⟨p, 6, none⟩ = some (.pointer (some ⟨pf, 0, none⟩)) ∧ Bx wi b ⟨x, y, z, u⟩) (by kernel_rfl) S0.out ?_
  intro hHeld
  clear hw0 hb
  refine tkH 0 ?_
  refine tkH 1 ?_
  refine tkH 2 ?_
  refine wpAnyH_take (i := 3) (v := ?_) rfl (by kernel_rfl) (by kernel_rfl) (by kernel_rfl) (fun _ _ _ h => h) (Or.inl ⟨by rfl, ?_⟩) (by assumption) ?_
  rotate_left
  · intro w hSw
    (try dsimp only at hSw)
    obtain ⟨c6, b0, b1, b2, b3⟩ := hSw
    (try dsimp only at b0 b1 b2 b3)
    go_simp
    try (with_reducible rfl)
  try simp only [Act.put, List.getElem_toArray, List.getElem_cons_zero, List.getElem_cons_succ, List.setIfInBounds_toArray, List.set_cons_zero, List.set_cons_succ]
  refine wpAnyH_take (i := 4) (v := ?_) rfl (by kernel_rfl) (by kernel_rfl) (by kernel_rfl) (fun _ _ _ h => h) (Or.inl ⟨by rfl, ?_⟩) (by assumption) ?_
  rotate_left
  · intro w hSw
    (try dsimp only at hSw)
    obtain ⟨c6, b0, b1, b2, b3⟩ := hSw
    (try dsimp only at b0 b1 b2 b3)
    go_simp
    try (with_reducible rfl)
  try simp only [Act.put, List.getElem_toArray, List.getElem_cons_zero, List.getElem_cons_succ, List.setIfInBounds_toArray, List.set_cons_zero, List.set_cons_succ]
  refine wpAnyH_ready (rs := [5]) (by kernel_rfl) (by simp) ?_
  refine AllReadyH.cons rfl (fun K hK => ?_) AllReadyH.nil
  go_simp
  refine HADD.out.mono ?_
  rintro e w1 ⟨rfl, hb1⟩
  have HFIN := Lib.hid (HB.out.trans (hb1.mono HB.out.size))
  have S1 := Lib.hid (And.intro (H0.out.later hb1).c6 (HX.out.later hb1))
  clear hb1
  refine hK.out _ _ S1.out (fun hHeld2 => ?_)
  clear hK K hHeld S0 HADD
  have hHeld := hHeld2
  clear hHeld2
  try simp only [Act.put, List.getElem_toArray, List.getElem_cons_zero, List.getElem_cons_succ, List.setIfInBounds_toArray, List.set_cons_zero, List.set_cons_succ]
  refine tkH 6 ?_
  refine wpAnyH_done (by kernel_rfl) ?_ _
  clear hHeld S1
  go_wp2
  go_ret
  exact ⟨rfl, HFIN.out⟩
set_option maxHeartbeats 1000000 in
theorem paout_yes (h : PaAt w B p pg pw pf v P) (hok : P.ok) (x y z u : Int) (hno : NoneQ P.fl x) : Calls Tryz.prog 225 #[.pointer (some ⟨p, 0, none⟩), .agg #[.int .i64 x, .int .i64 y, .int .i64 z, .int .i64 u]] w fun e w' => e = .returned (.bool true) ∧ ∃ v', PaAt w' B p pg pw pf v' (P.out ⟨x, y, z, u⟩) ∧ SC w w' (Pat p pg pw pf v) (Pat p pg pw pf v') := by
  obtain ⟨w0, hw0⟩ : ∃ w0, w.alloc (.cells #[.int .i64 x, .int .i64 y, .int .i64 z, .int .i64 u] tOutP) = w0 := ⟨_, rfl⟩
  obtain ⟨b, hb⟩ : ∃ b, w.heap.size = b := ⟨_, rfl⟩
  have hbl : Below w.heap.size w w0 := by rw [← hw0]; exact (Below.refl _ _).alloc (Nat.le_refl _) _
  have hx : Bx w0 b ⟨x, y, z, u⟩ := by rw [← hw0, ← hb]; exact Bx.new _ _ _ _ _ _
  have h0 := (h.later hbl).drewN 1
  have HADD := Lib.hid (fladd_yes h0.fl x y z u hno (by have := hok.n; omega))
  have H0 := Lib.hid h0
  have HB := Lib.hid (show Below w.heap.size w (w0.drewN 1) from ⟨hbl.os, hbl.tape, hbl.output, hbl.size, hbl.block⟩)
  have HX := Lib.hid (show Bx (w0.drewN 1) b ⟨x, y, z, u⟩ from hx)
  have HPF := Lib.hid (show ¬ Fft pf v b from fun e => by have := (h.fl.foot_lt b e).2; omega)
  have S0 := Lib.hid (show w0.drew.cell? ⟨p, 6, none⟩ = some (.pointer (some ⟨pf, 0, none⟩)) ∧ Bx w0.drew b ⟨x, y, z, u⟩ from ⟨h0.c6, hx⟩)
  clear h hbl hx h0
  go_enter Tryz.func225, Tryz.ntmps225
  go_wp2_with fail
  refine wp_region_held_drew (S := fun wi => wi.cell? ⟨p, 6, none⟩ = some (.pointer (some ⟨pf, 0, none⟩)) ∧ Bx wi b ⟨x, y, z, u⟩) (by kernel_rfl) S0.out ?_
  intro hHeld
  clear hw0 hb
  refine tkH 0 ?_
  refine tkH 1 ?_
  refine tkH 2 ?_
  refine wpAnyH_take (i := 3) (v := ?_) rfl (by kernel_rfl) (by kernel_rfl) (by kernel_rfl) (fun _ _ _ h => h) (Or.inl ⟨by rfl, ?_⟩) (by assumption) ?_
  rotate_left
  · intro w hSw
    (try dsimp only at hSw)
    obtain ⟨c6, b0, b1, b2, b3⟩ := hSw
    (try dsimp only at b0 b1 b2 b3)
    go_simp
    try (with_reducible rfl)
  try simp only [Act.put, List.getElem_toArray, List.getElem_cons_zero, List.getElem_cons_succ, List.setIfInBounds_toArray, List.set_cons_zero, List.set_cons_succ]
  refine wpAnyH_take (i := 4) (v := ?_) rfl (by kernel_rfl) (by kernel_rfl) (by kernel_rfl) (fun _ _ _ h => h) (Or.inl ⟨by rfl, ?_⟩) (by assumption) ?_
  rotate_left
  · intro w hSw
    (try dsimp only at hSw)
    obtain ⟨c6, b0, b1, b2, b3⟩ := hSw
    (try dsimp only at b0 b1 b2 b3)
    go_simp
    try (with_reducible rfl)
  try simp only [Act.put, List.getElem_toArray, List.getElem_cons_zero, List.getElem_cons_succ, List.setIfInBounds_toArray, List.set_cons_zero, List.set_cons_succ]
  refine wpAnyH_ready (rs := [5]) (by kernel_rfl) (by simp) ?_
  refine AllReadyH.cons rfl (fun K hK => ?_) AllReadyH.nil
  go_simp
  refine HADD.out.mono ?_
  rintro e w1 ⟨rfl, v', hf, hs⟩
  obtain ⟨h1, h2⟩ := H0.out.turnF hf hs
  have HFIN := Lib.hid (And.intro h1 ((SC.of_below HB.out).trans h2))
  have S1 := Lib.hid (And.intro h1.c6 (HX.out.of_block (hs.trn.block b HX.out.lt HPF.out)))
  clear hf hs h1 h2
  refine hK.out _ _ S1.out (fun hHeld2 => ?_)
  clear hK K hHeld S0 HADD
  have hHeld := hHeld2
  clear hHeld2
  try simp only [Act.put, List.getElem_toArray, List.getElem_cons_zero, List.getElem_cons_succ, List.setIfInBounds_toArray, List.set_cons_zero, List.set_cons_succ]
  refine tkH 6 ?_
  refine wpAnyH_done (by kernel_rfl) ?_ _
  clear hHeld S1
  go_wp2
  go_ret
  exact ⟨rfl, _, HFIN.out.1, HFIN.out.2⟩
theorem paless_any (a b : Int) (h1 : -1099511627776 ≤ a ∧ a ≤ 1099511627776) (h2 : -1099511627776 ≤ b ∧ b ≤ 1099511627776) (w : World) : Calls Tryz.prog 158 #[.int .i64 a, .int .i64 b] w fun e w' => e = .returned (.int .i64 (a - b)) ∧ w = w' := by
  have hw : wrap64 (a - b) = a - b := IntWalk.wrap64_in _ (by constructor <;> omega)
  obtain ⟨n, hn⟩ : ∃ n, a - b = n := ⟨_, rfl⟩
  rw [hn] at hw ⊢
  have hw' : wrap64 (a - b) = n := by rw [hn]; exact hw
  by_cases c1 : b > 0
  · have c2 : ¬ n > a := by omega
    have c3 : ¬ b < 0 := by omega
    clear hn h1 h2 hw
    go_enter Tryz.func158, Tryz.ntmps158
    go_wp2
    go_ret
    exact ⟨rfl, rfl⟩
  · by_cases c3 : b < 0
    · have c2 : ¬ n < a := by omega
      clear hn h1 h2 hw
      go_enter Tryz.func158, Tryz.ntmps158
      go_wp2
      go_ret
      exact ⟨rfl, rfl⟩
    · clear hn h1 h2 hw
      go_enter Tryz.func158, Tryz.ntmps158
      go_wp2
      go_ret
      exact ⟨rfl, rfl⟩
set_option maxHeartbeats 1000000 in
theorem paacked_no (h : PaAt w B p pg pw pf v P) (hok : P.ok) (x now : Int) (hno : NoneQ P.fl x) :
    Calls Tryz.prog 75 #[.pointer (some ⟨p, 0, none⟩), .int .i64 x, .int .i64 now] w fun e w' => e = .returned (.bool false) ∧ Below w.heap.size w w' := by
  have HT := Lib.hid (fltake_no h.fl x hno (by have := hok.n; omega))
  have c6 := h.c6
  clear h
  go_enter Tryz.func75, Tryz.ntmps75
  go_wp2_with fail
  refine HT.out.mono ?_
  rintro e w1 ⟨rfl, hb⟩
  have HB := Lib.hid (hb.alloc hb.size (.cells #[.int .i64 0, .int .i64 0, .int .i64 0, .int .i64 0] tOutP))
  clear hb HT c6
  go_wp2
  go_ret
  exact ⟨rfl, HB.out⟩
set_option maxHeartbeats 2000000 in
theorem paacked_yes (h : PaAt w B p pg pw pf v P) (hok : P.ok) (x now : Int) (i0 : Nat) (hi0 : FirstQ P.fl x i0) (h1 : -1099511627776 ≤ now ∧ now ≤ 1099511627776) (h2 : -1099511627776 ≤ (P.fl.getD i0 qz).a ∧ (P.fl.getD i0 qz).a ≤ 1099511627776) :
    Calls Tryz.prog 75 #[.pointer (some ⟨p, 0, none⟩), .int .i64 x, .int .i64 now] w fun e w' => e = .returned (.bool true) ∧ ∃ v', PaAt w' B p pg pw pf v' (P.acked i0 now) ∧ SC w w' (Pat p pg pw pf v) (Pat p pg pw pf v') := by
  obtain ⟨q, hq⟩ : ∃ q, P.fl.getD i0 qz = q := ⟨_, rfl⟩
  have HT := Lib.hid (fltake_yes h.fl x i0 hi0 q hq (by have := hok.n; omega))
  have HE := Lib.hid (show (((((P.setFl (goneQ P.fl i0)).setG (P.g.sample (now - q.a))).setW P.wn.ack).setBe false) : Pa) = P.acked i0 now by unfold Pa.acked; rw [hq]; rfl)
  rw [hq] at h2
  have HLS := Lib.hid (fun w => paless_any now q.a h1 h2 w)
  have H := Lib.hid h
  have HOK := Lib.hid hok
  have c6 := h.c6
  clear h hq h1 h2 hi0 hok
  obtain ⟨qn, qf, qt, qa⟩ := q
  simp only at HT HE HLS
  go_enter Tryz.func75, Tryz.ntmps75
  go_wp2_with fail
  refine HT.out.mono ?_
  rintro e w1 ⟨rfl, v1, hf1, hs1⟩
  obtain ⟨hd1, hsc1⟩ := H.out.turnF hf1 hs1
  have hb2 := (Below.refl w1.heap.size w1).alloc (Nat.le_refl _) (.cells #[.int .i64 qn, .int .i64 qf, .int .i64 qt, .int .i64 qa] tOutP)
  have hd2 := hd1.later hb2
  have HS2 := Lib.hid (hsc1.trans (SC.of_below hb2))
  have hx2 := row4_cells (row4_new w1 tOutP ⟨qn, qf, qt, qa⟩)
  have HPG := Lib.hid (World.rowIs.lt hd1.g)
  have HX2 := Lib.hid hx2
  have HD2 := Lib.hid hd2
  clear HT hf1 hs1 hd1 hsc1 hb2 hd2 hx2 H c6
  go_wp2_with fail
  obtain ⟨w2, hw2⟩ : ∃ w2, w1.alloc (.cells #[.int .i64 qn, .int .i64 qf, .int .i64 qt, .int .i64 qa] tOutP) = w2 := ⟨_, rfl⟩
  obtain ⟨b2, hb2⟩ : ∃ b, w1.heap.size = b := ⟨_, rfl⟩
  rw [hw2] at HD2 HS2 HX2
  rw [hb2] at HX2 HPG
  have HG := Lib.hid (gusample_any (now - qa) (HD2.out.drewN 1).g HOK.out.g)
  have S2 := Lib.hid (show w2.drew.cell? ⟨p, 4, none⟩ = some (.pointer (some ⟨pg, 0, none⟩)) ∧ w2.drew.cell? ⟨b2, 3, none⟩ = some (.int .i64 qa) from ⟨(HD2.out.drewN 1).c4, HX2.out.2.2.2⟩)
  refine wp_region_held_drew (S := fun wi => wi.cell? ⟨p, 4, none⟩ = some (.pointer (some ⟨pg, 0, none⟩)) ∧ wi.cell? ⟨b2, 3, none⟩ = some (.int .i64 qa)) (by kernel_rfl) (by rw [hw2]; exact S2.out) ?_
  intro hHeld
  rw [hw2, hb2] at *
  clear hw2 hb2
  refine tkH 0 ?_
  refine tkH 1 ?_
  refine tkH 2 ?_
  refine tkH 3 ?_
  refine tkH 4 ?_
  refine tkH 5 ?_
  refine tkH 6 ?_
  refine wpAnyH_ready (rs := [7]) (by kernel_rfl) (by simp) ?_
  refine AllReadyH.cons rfl (fun K hK => ?_) AllReadyH.nil
  go_simp
  refine (HLS.out _).mono ?_
  rintro e w2' ⟨rfl, rfl⟩
  refine hK.out _ _ S2.out (fun hHeld2 => ?_)
  clear hK K hHeld HLS
  have hHeld := hHeld2
  clear hHeld2
  try simp only [Act.put, List.getElem_toArray, List.getElem_cons_zero, List.getElem_cons_succ, List.setIfInBounds_toArray, List.set_cons_zero, List.set_cons_succ]
  refine wpAnyH_ready (rs := [8]) (by kernel_rfl) (by simp) ?_
  refine AllReadyH.cons rfl (fun K hK => ?_) AllReadyH.nil
  go_simp
  refine HG.out.mono ?_
  rintro e w3 ⟨rfl, hg, hgr⟩
  obtain ⟨hd3, hs3⟩ := (HD2.out.drewN 1).turnG hg hgr
  have hc3 := (HX2.out.of_block (w' := w3) (hgr.block b2 HX2.out.lt (fun e => by have := HPG.out; have := Option.some.inj e; omega))).2.2.2
  have S3 := Lib.hid (show w3.cell? ⟨p, 4, none⟩ = some (.pointer (some ⟨pg, 0, none⟩)) ∧ w3.cell? ⟨b2, 3, none⟩ = some (.int .i64 qa) from ⟨hd3.c4, hc3⟩)
  refine hK.out _ _ S3.out (fun hHeld2 => ?_)
  clear hK K hHeld
  have hHeld := hHeld2
  clear hHeld2
  try simp only [Act.put, List.getElem_toArray, List.getElem_cons_zero, List.getElem_cons_succ, List.setIfInBounds_toArray, List.set_cons_zero, List.set_cons_succ]
  refine wpAnyH_done (by kernel_rfl) ?_ _
  have HD3 := Lib.hid hd3
  have HS3 := Lib.hid (HS2.out.trans ((SC.of_below (Below.mono ⟨rfl, rfl, rfl, Nat.le_refl _, fun _ _ => rfl⟩ (Nat.le_refl _)) : SC w2 (w2.drewN 1) _ _).trans hs3))
  have c5 := hd3.c5
  have HA := Lib.hid (wiack_any hd3.wn HOK.out.w)
  clear hHeld S3 S2 hd3 hs3 hg hgr hc3 HG HX2 HPG HD2 HS2
  go_wp2_with fail
  refine HA.out.mono ?_
  rintro e w4 ⟨rfl, hw, hgr⟩
  obtain ⟨hd4, hs4⟩ := HD3.out.turnW hw hgr
  have c2 := hd4.c2
  have f2 := hd4.fr (0 + 2)
  have hp := hd4.poke (P' := P.acked i0 now) (0 + 2) (.bool false) (fun j hj => by
    have : j = 0 ∨ j = 1 ∨ j = 2 ∨ j = 3 ∨ j = 4 ∨ j = 5 ∨ j = 6 := by omega
    rw [← HE.out]
    rcases this with rfl | rfl | rfl | rfl | rfl | rfl | rfl <;> rfl) (by rw [← HE.out]; rfl) (by rw [← HE.out]; rfl) (by rw [← HE.out]; rfl)
  have HFIN := Lib.hid (And.intro hp.1 (HS3.out.trans (hs4.trans hp.2)))
  clear hw hgr hd4 hs4 hp HA c5 HD3 HS3 HE HOK
  go_wp2
  go_ret
  exact ⟨rfl, _, HFIN.out.1, HFIN.out.2⟩
set_option maxHeartbeats 2000000 in
theorem palate_any (h : PaAt w B p pg pw pf v P) (hok : P.ok) (now : Int) (h1 : -1099511627776 ≤ now ∧ now ≤ 1099511627776) :
    Calls Tryz.prog 84 #[.pointer (some ⟨p, 0, none⟩), .int .i64 now] w fun e w' => ∃ A' m c', e = .returned (.slice A' m c') ∧ OwnQ tOutP w' w.heap.size (.slice A' m c') (P.lates now) ∧ ∃ v', PaAt w' B p pg pw pf v' (P.lateN now) ∧ SC w w' (Pat p pg pw pf v) (Pat p pg pw pf v') ∧ ∀ g, (Value.slice A' m c').ownBlock = some g → ¬ Pat p pg pw pf v' g := by
  have hwi := Gs.wait_in hok.g
  have HT := Lib.hid (fun (k : Nat) => fllate_ap ((h.drewN k).fl) now P.g.wait (now - P.g.wait) h1 (by omega) rfl (by have := hok.n; omega))
  have HG := Lib.hid (guwait_any (h.drewN 1).g hok.g)
  have H := Lib.hid h
  have HOK := Lib.hid hok
  have S0 := Lib.hid (show ∀ k, (w.drewN k).cell? ⟨p, 4, none⟩ = some (.pointer (some ⟨pg, 0, none⟩)) ∧ (w.drewN k).cell? ⟨p, 6, none⟩ = some (.pointer (some ⟨pf, 0, none⟩)) from fun k => ⟨(h.drewN k).c4, (h.drewN k).c6⟩)
  clear h hok hwi h1
  go_enter Tryz.func84, Tryz.ntmps84
  go_wp2_with fail
  refine wp_region_held_drew (S := fun wi => wi.cell? ⟨p, 4, none⟩ = some (.pointer (some ⟨pg, 0, none⟩)) ∧ wi.cell? ⟨p, 6, none⟩ = some (.pointer (some ⟨pf, 0, none⟩))) (by kernel_rfl) (S0.out 1) ?_
  intro hHeld
  refine tkH 0 ?_
  refine tkH 1 ?_
  refine tkH 2 ?_
  refine tkH 3 ?_
  refine tkH 4 ?_
  refine tkH 5 ?_
  refine tkH 6 ?_
  refine tkH 7 ?_
  refine tkH 8 ?_
  refine wpAnyH_ready (rs := [9]) (by kernel_rfl) (by simp) ?_
  refine AllReadyH.cons rfl (fun K hK => ?_) AllReadyH.nil
  go_simp
  refine HG.out.mono ?_
  rintro e w1 ⟨rfl, k, rfl⟩
  rw [World.drewN_drewN]
  refine hK.out _ _ (S0.out _) (fun hHeld2 => ?_)
  clear hK K hHeld
  have hHeld := hHeld2
  clear hHeld2
  try simp only [Act.put, List.getElem_toArray, List.getElem_cons_zero, List.getElem_cons_succ, List.setIfInBounds_toArray, List.set_cons_zero, List.set_cons_succ]
  refine wpAnyH_ready (rs := [10]) (by kernel_rfl) (by simp) ?_
  refine AllReadyH.cons rfl (fun K hK => ?_) AllReadyH.nil
  go_simp
  refine (HT.out _).mono ?_
  rintro e w2 ⟨A', m, c', rfl, ho, v2, hf, hs, hap⟩
  obtain ⟨hd2, hs2⟩ := (H.out.drewN (1 + k)).turnF hf hs
  have hm : (P.lates now).length = m := ho.len
  have ho0 : OwnQ tOutP w2 w.heap.size (.slice A' m c') (P.lates now) := ho
  have HAP := Lib.hid (show ∀ g, (Value.slice A' m c').ownBlock = some g → ¬ Pat p pg pw pf v2 g from fun g hg hp => by
    have hge := (ho0.lt g hg).1
    rcases hp with e | e | e | e
    · have := H.out.lt; omega
    · have := World.rowIs.lt H.out.g; omega
    · have := World.rowIs.lt H.out.wn; omega
    · exact hap g hg e)
  have HS2 := Lib.hid ((SC.of_below (Below.mono ⟨rfl, rfl, rfl, Nat.le_refl _, fun _ _ => rfl⟩ (Nat.le_refl _)) : SC w (w.drewN (1 + k)) _ _).trans hs2)
  have S2 := Lib.hid (And.intro hd2.c4 hd2.c6)
  have HD2 := Lib.hid hd2
  have HO := Lib.hid ho0
  have HM := Lib.hid hm
  clear hf hs hd2 hs2 hm ho ho0 hap
  refine hK.out _ _ S2.out (fun hHeld2 => ?_)
  clear hK K hHeld
  have hHeld := hHeld2
  clear hHeld2
  try simp only [Act.put, List.getElem_toArray, List.getElem_cons_zero, List.getElem_cons_succ, List.setIfInBounds_toArray, List.set_cons_zero, List.set_cons_succ]
  refine tkH 11 ?_
  refine wpAnyH_done (by kernel_rfl) ?_ _
  clear hHeld S2 S0 HT HG
  have c4 := HD2.out.c4
  by_cases hm0 : m = 0
  · have he := Pa.lateN_no (P := P) (now := now) (HM.out.trans hm0)
    have HFIN := Lib.hid (show OwnQ tOutP w2 w.heap.size (.slice A' m c') (P.lates now) ∧ PaAt w2 B p pg pw pf v2 (P.lateN now) from ⟨HO.out, by rw [← he]; exact HD2.out⟩)
    have i1 : ¬ ((m : Int) > 0) := by omega
    clear he hm0 HO HD2 HM
    go_wp2
    go_ret
    exact ⟨_, _, _, rfl, HFIN.out.1, _, HFIN.out.2, HS2.out, HAP.out⟩
  · have he := Pa.lateN_yes (P := P) (now := now) (fun e => hm0 (HM.out.symm.trans e))
    have i1 : (m : Int) > 0 := by omega
    have HE := Lib.hid he
    have HA := Lib.hid (gulate_any HD2.out.g HOK.out.g)
    clear he hm0
    go_wp2_with fail
    refine HA.out.mono ?_
    rintro e w3 ⟨rfl, hg, hgr⟩
    obtain ⟨hd3, hs3⟩ := HD2.out.turnG hg hgr
    have HO3 := Lib.hid (show OwnQ tOutP w3 w.heap.size (.slice A' m c') (P.lates now) from HO.out.trn (Trn.of_grown hgr) (fun g hg e => HO.out.not_row HD2.out.g (by decide) (hg.trans e.symm)))
    have c5 := hd3.c5
    have HW := Lib.hid (wiloss_any hd3.wn HOK.out.w)
    have HD3 := Lib.hid hd3
    have HS3 := Lib.hid (HS2.out.trans hs3)
    clear hg hgr hd3 hs3 HA HO HD2 HS2 c4
    go_wp2_with fail
    refine HW.out.mono ?_
    rintro e w4 ⟨rfl, hw, hgr⟩
    obtain ⟨hd4, hs4⟩ := HD3.out.turnW hw hgr
    have HO4 := Lib.hid (show OwnQ tOutP w4 w.heap.size (.slice A' m c') (P.lates now) from HO3.out.trn (Trn.of_grown hgr) (fun g hg e => HO3.out.not_row HD3.out.wn (by decide) (hg.trans e.symm)))
    have c2 := hd4.c2
    have f2 := hd4.fr (0 + 2)
    have hp := hd4.poke (P' := P.lateN now) (0 + 2) (.bool true) (fun j hj => by
      have : j = 0 ∨ j = 1 ∨ j = 2 ∨ j = 3 ∨ j = 4 ∨ j = 5 ∨ j = 6 := by omega
      rw [← HE.out]
      rcases this with rfl | rfl | rfl | rfl | rfl | rfl | rfl <;> rfl) (by rw [← HE.out]; rfl) (by rw [← HE.out]; rfl) (by rw [← HE.out]; rfl)
    have HO5 := Lib.hid (HO4.out.kept (setCell_one w4 p (0 + 2) (.bool true)) (.inr (HO4.out.not_row hd4.row (by decide))))
    have HFIN := Lib.hid (And.intro hp.1 (HS3.out.trans (hs4.trans hp.2)))
    clear hw hgr hd4 hs4 hp HW c5 HD3 HS3 HE HOK HO3 HO4
    go_wp2
    go_ret
    exact ⟨_, _, _, rfl, HO5.out, _, HFIN.out.1, HFIN.out.2, HAP.out⟩
theorem padown_any (h : PaAt w B p pg pw pf v P) (hok : P.ok) : Calls Tryz.prog 97 #[.pointer (some ⟨p, 0, none⟩)] w fun e w' => ∃ A' m c', e = .returned (.slice A' m c') ∧ OwnQ tOutP w' w.heap.size (.slice A' m c') (if P.up then P.fl else []) ∧ ∃ v', PaAt w' B p pg pw pf v' (if P.up then P.down else P) ∧ SC w w' (Pat p pg pw pf v) (Pat p pg pw pf v') := by
  have c0 := h.c0
  have f0 := h.fr 0
  obtain ⟨u, hu⟩ : ∃ u, P.up = u := ⟨_, rfl⟩
  rw [hu] at c0 ⊢
  cases u
  · have HFIN := Lib.hid h
    clear h hu f0
    go_enter Tryz.func97, Tryz.ntmps97
    go_wp2
    go_ret
    exact ⟨_, _, _, rfl, OwnQ.nil _ _ _, _, HFIN.out, SC.refl _ _⟩
  · obtain ⟨h1, hs1⟩ := h.poke (P' := P.setUp false) 0 (.bool false) (fun j hj => by
      have : j = 0 ∨ j = 1 ∨ j = 2 ∨ j = 3 ∨ j = 4 ∨ j = 5 ∨ j = 6 := by omega
      rcases this with rfl | rfl | rfl | rfl | rfl | rfl | rfl <;> rfl) rfl rfl rfl
    have hd := fldrop_any h1.fl (by have := hok.n; show P.fl.length ≤ 1099511627776; omega)
    have c6 := h1.c6
    obtain ⟨w1, hw1⟩ : ∃ w1, w.setCell ⟨p, 0, none⟩ (.bool false) = w1 := ⟨_, rfl⟩
    rw [hw1] at h1 hs1 hd c6
    have HZ := Lib.hid (show w.heap.size = w1.heap.size by rw [← hw1]; simp)
    have H1 := Lib.hid h1
    have HS := Lib.hid hs1
    have HD := Lib.hid hd
    clear h h1 hs1 hd hu
    go_enter Tryz.func97, Tryz.ntmps97
    go_wp2_with fail
    refine HD.out.mono ?_
    rintro e w2 ⟨A', c', rfl, ho, hf, hs⟩
    obtain ⟨h2, hs2⟩ := H1.out.turnF hf hs
    have HFIN := Lib.hid (And.intro h2 (HS.out.trans hs2))
    have HO := Lib.hid (show OwnQ tOutP w2 w.heap.size (.slice A' (P.setUp false).fl.length c') P.fl by rw [HZ.out]; exact ho)
    clear ho hf hs h2 hs2 HD c6
    go_wp2
    go_ret
    exact ⟨_, _, _, rfl, HO.out, _, HFIN.out.1, HFIN.out.2⟩
end
end Go.Proofs.YtpjlnpnadkbakaaGreat

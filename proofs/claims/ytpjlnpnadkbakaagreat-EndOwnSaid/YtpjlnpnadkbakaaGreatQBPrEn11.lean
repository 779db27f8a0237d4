/-
  What takes of the developers' End answers: a contract over the program.
-/
import Derived.Test.YtpjlnpnadkbakaaGreatQBPrEn10
import Derived.Test.YtpjlnpnadkbakaaGreatQBPktP
import Derived.Test.YtpjlnpnadkbakaaGreatQBMem
namespace Go.Proofs.YtpjlnpnadkbakaaGreat
set_option maxRecDepth 10000
open Go.RowKit
set_option maxHeartbeats 4000000 in
theorem eetakes_no {w : World} {L : Lab} {K b : Nat} {s : EeS} {E : En} (h : EE w L K b s E) (_ : E.ok) (k nu ofn fr : Int) (da : List Int) (fin : Bool) (se li : Int) (A : Option Addr) (c : Nat) (pa : Int) (ho : Pkt.ok ⟨k, pa, nu, ofn, fr, da, fin, se, li⟩ = false) (hp : PktAt w ⟨k, pa, nu, ofn, fr, da, fin, se, li⟩ A c) :
    Calls Tryz.prog 69 #[.pointer (some ⟨b, 0, none⟩), .agg #[.int .i64 k, .int .i64 pa, .int .i64 nu, .int .i64 ofn, .int .i64 fr, .slice A da.length c, .bool fin, .int .i64 se, .int .i64 li]] w fun e w' => e = .returned (.bool false) ∧ Below w.heap.size w w' := by
  obtain ⟨w0, hw0⟩ : ∃ w0, w.alloc (.cells #[.int .i64 k, .int .i64 pa, .int .i64 nu, .int .i64 ofn, .int .i64 fr, .slice A da.length c, .bool fin, .int .i64 se, .int .i64 li] 32) = w0 := ⟨_, rfl⟩
  have hr0 : w0.rangeAt w.heap.size 0 (Pkt.cs ⟨k, pa, nu, ofn, fr, da, fin, se, li⟩ A c) := by rw [← hw0]; exact Pkt.range w ⟨k, pa, nu, ofn, fr, da, fin, se, li⟩ A c _
  have hb0 : Below w.heap.size w w0 := by rw [← hw0]; exact (Below.refl _ _).alloc (Nat.le_refl _) _
  have hz0 : w0.heap.size = w.heap.size + 1 := by rw [← hw0]; simp
  obtain ⟨W, hW⟩ : ∃ W, w0.drew = W := ⟨_, rfl⟩
  have hbW : Below w.heap.size w W := by rw [← hW]; exact hb0.drew
  have hzW : W.heap.size = w.heap.size + 1 := by rw [← hW]; exact hz0
  have hrW : W.rangeAt w.heap.size 0 (Pkt.cs ⟨k, pa, nu, ofn, fr, da, fin, se, li⟩ A c) := by rw [← hW]; exact hr0
  have hck := checkP_any ⟨k, pa, nu, ofn, fr, da, fin, se, li⟩ A c W (hp.later hbW)
  rw [ho] at hck
  have hh := h.grow hbW 0
  have HV := Lib.hid (show (Pkt.cs ⟨k, pa, nu, ofn, fr, da, fin, se, li⟩ A c).toArray = #[.int .i64 k, .int .i64 pa, .int .i64 nu, .int .i64 ofn, .int .i64 fr, .slice A da.length c, .bool fin, .int .i64 se, .int .i64 li] from rfl)
  obtain ⟨b0, hb0'⟩ : ∃ b0, w.heap.size = b0 := ⟨_, rfl⟩
  rw [hb0'] at hrW hzW hr0
  have z1 : W.cell? ⟨b0, 0 + 1, none⟩ = some (.int .i64 pa) := hrW 1 _ rfl
  have S0 := Lib.hid (show W.rangeAt b0 0 (Pkt.cs ⟨k, pa, nu, ofn, fr, da, fin, se, li⟩ A c) ∧ W.cell? ⟨b0, 0 + 1, none⟩ = some (.int .i64 pa) from ⟨hrW, z1⟩)
  clear hh
  have HCK := Lib.hid (show Calls Tryz.prog 146 #[.agg #[.int .i64 k, .int .i64 pa, .int .i64 nu, .int .i64 ofn, .int .i64 fr, .slice A da.length c, .bool fin, .int .i64 se, .int .i64 li]] W fun e w' => e = .returned (.int .i64 1) ∧ Below W.heap.size W w' from hck)
  have HBW := Lib.hid (And.intro hbW (And.intro hzW hb0'))
  clear hck hbW hzW hr0 hb0 hz0 hrW z1 h hp ho
  go_enter Tryz.func69, Tryz.ntmps69
  go_wp2_with fail
  try rw [hb0']
  refine wp_region_held_drew (S := fun wi => wi.rangeAt b0 0 (Pkt.cs ⟨k, pa, nu, ofn, fr, da, fin, se, li⟩ A c) ∧ wi.cell? ⟨b0, 0 + 1, none⟩ = some (.int .i64 pa)) (by kernel_rfl) (by rw [hW]; exact S0.out) ?_
  intro hHeld
  rw [hW] at hHeld ⊢
  clear hw0 hW hb0'
  refine wpAnyH_take (i := 0) (v := .agg (Pkt.cs ⟨k, pa, nu, ofn, fr, da, fin, se, li⟩ A c).toArray) rfl (by kernel_rfl) (by kernel_rfl) (by kernel_rfl) (fun _ _ _ h => h) (yieldsIf_load_mid (by rfl) 32 (.tmp 3) rfl _ _ rfl (Pkt.cs ⟨k, pa, nu, ofn, fr, da, fin, se, li⟩ A c) _ (fun w2 h2 => h2.1) Tryz.underlying32 rfl (by kernel_rfl)) (by assumption) ?_
  try simp only [Act.put, List.getElem_toArray, List.getElem_cons_zero, List.setIfInBounds_toArray, List.set_cons_zero, List.set_cons_succ]
  rw [HV.out]
  refine wpAnyH_ready (rs := [1]) (by kernel_rfl) (by simp) ?_
  refine AllReadyH.cons rfl (fun K2 hK2 => ?_) AllReadyH.nil
  go_simp
  refine HCK.out.mono ?_
  rintro e w1 ⟨rfl, hb1⟩
  obtain ⟨hbW, hzW, hb0'⟩ := HBW.out
  have S1 := Lib.hid (show w1.rangeAt b0 0 (Pkt.cs ⟨k, pa, nu, ofn, fr, da, fin, se, li⟩ A c) ∧ w1.cell? ⟨b0, 0 + 1, none⟩ = some (.int .i64 pa) from ⟨rangeAt_later S0.out.1 hb1 (by omega), cell_later hb1 S0.out.2⟩)
  have HB1 := Lib.hid (And.intro hb1 (hbW.trans (hb1.mono hbW.size)))
  clear hb1 hbW hzW hb0' HCK S0 HBW
  try go_wp2_with fail
  refine hK2.out _ _ S1.out (fun hHeld2 => ?_)
  clear hK2 K2 hHeld
  have hHeld := hHeld2
  clear hHeld2
  try simp only [Act.put, List.getElem_toArray, List.getElem_cons_zero, List.getElem_cons_succ, List.setIfInBounds_toArray, List.set_cons_zero, List.set_cons_succ]
  refine tkH 2 ?_
  refine tkH 3 ?_
  refine wpAnyH_take (i := 4) (v := undef) rfl (by kernel_rfl) (by kernel_rfl) (by kernel_rfl) (fun _ _ _ h => h) (Or.inr ⟨by rfl, rfl⟩) (by assumption) ?_
  try simp only [Act.put, List.getElem_toArray, List.getElem_cons_zero, List.getElem_cons_succ, List.setIfInBounds_toArray, List.set_cons_zero, List.set_cons_succ]
  refine wpAnyH_take (i := 5) (v := undef) rfl (by kernel_rfl) (by kernel_rfl) (by kernel_rfl) (fun _ _ _ h => h) (Or.inr ⟨by rfl, rfl⟩) (by assumption) ?_
  try simp only [Act.put, List.getElem_toArray, List.getElem_cons_zero, List.getElem_cons_succ, List.setIfInBounds_toArray, List.set_cons_zero, List.set_cons_succ]
  refine wpAnyH_take (i := 6) (v := undef) rfl (by kernel_rfl) (by kernel_rfl) (by kernel_rfl) (fun _ _ _ h => h) (Or.inr ⟨by rfl, rfl⟩) (by assumption) ?_
  try simp only [Act.put, List.getElem_toArray, List.getElem_cons_zero, List.getElem_cons_succ, List.setIfInBounds_toArray, List.set_cons_zero, List.set_cons_succ]
  refine wpAnyH_take (i := 7) (v := undef) rfl (by kernel_rfl) (by kernel_rfl) (by kernel_rfl) (fun _ _ _ h => h) (Or.inr ⟨by rfl, rfl⟩) (by assumption) ?_
  try simp only [Act.put, List.getElem_toArray, List.getElem_cons_zero, List.getElem_cons_succ, List.setIfInBounds_toArray, List.set_cons_zero, List.set_cons_succ]
  refine wpAnyH_take (i := 8) (v := undef) rfl (by kernel_rfl) (by kernel_rfl) (by kernel_rfl) (fun _ _ _ h => h) (Or.inr ⟨by rfl, rfl⟩) (by assumption) ?_
  try simp only [Act.put, List.getElem_toArray, List.getElem_cons_zero, List.getElem_cons_succ, List.setIfInBounds_toArray, List.set_cons_zero, List.set_cons_succ]
  refine tkH 9 ?_
  refine tkH 10 ?_
  refine wpAnyH_take (i := 11) (v := undef) rfl (by kernel_rfl) (by kernel_rfl) (by kernel_rfl) (fun _ _ _ h => h) (Or.inr ⟨by rfl, rfl⟩) (by assumption) ?_
  try simp only [Act.put, List.getElem_toArray, List.getElem_cons_zero, List.getElem_cons_succ, List.setIfInBounds_toArray, List.set_cons_zero, List.set_cons_succ]
  refine wpAnyH_take (i := 12) (v := undef) rfl (by kernel_rfl) (by kernel_rfl) (by kernel_rfl) (fun _ _ _ h => h) (Or.inr ⟨by rfl, rfl⟩) (by assumption) ?_
  try simp only [Act.put, List.getElem_toArray, List.getElem_cons_zero, List.getElem_cons_succ, List.setIfInBounds_toArray, List.set_cons_zero, List.set_cons_succ]
  refine wpAnyH_take (i := 13) (v := undef) rfl (by kernel_rfl) (by kernel_rfl) (by kernel_rfl) (fun _ _ _ h => h) (Or.inr ⟨by rfl, rfl⟩) (by assumption) ?_
  try simp only [Act.put, List.getElem_toArray, List.getElem_cons_zero, List.getElem_cons_succ, List.setIfInBounds_toArray, List.set_cons_zero, List.set_cons_succ]
  refine wpAnyH_take (i := 14) (v := undef) rfl (by kernel_rfl) (by kernel_rfl) (by kernel_rfl) (fun _ _ _ h => h) (Or.inr ⟨by rfl, rfl⟩) (by assumption) ?_
  try simp only [Act.put, List.getElem_toArray, List.getElem_cons_zero, List.getElem_cons_succ, List.setIfInBounds_toArray, List.set_cons_zero, List.set_cons_succ]
  refine wpAnyH_take (i := 15) (v := undef) rfl (by kernel_rfl) (by kernel_rfl) (by kernel_rfl) (fun _ _ _ h => h) (Or.inr ⟨by rfl, rfl⟩) (by assumption) ?_
  try simp only [Act.put, List.getElem_toArray, List.getElem_cons_zero, List.getElem_cons_succ, List.setIfInBounds_toArray, List.set_cons_zero, List.set_cons_succ]
  refine wpAnyH_take (i := 16) (v := undef) rfl (by kernel_rfl) (by kernel_rfl) (by kernel_rfl) (fun _ _ _ h => h) (Or.inr ⟨by rfl, rfl⟩) (by assumption) ?_
  try simp only [Act.put, List.getElem_toArray, List.getElem_cons_zero, List.getElem_cons_succ, List.setIfInBounds_toArray, List.set_cons_zero, List.set_cons_succ]
  refine wpAnyH_take (i := 17) (v := undef) rfl (by kernel_rfl) (by kernel_rfl) (by kernel_rfl) (fun _ _ _ h => h) (Or.inr ⟨by rfl, rfl⟩) (by assumption) ?_
  try simp only [Act.put, List.getElem_toArray, List.getElem_cons_zero, List.getElem_cons_succ, List.setIfInBounds_toArray, List.set_cons_zero, List.set_cons_succ]
  refine wpAnyH_take (i := 18) (v := undef) rfl (by kernel_rfl) (by kernel_rfl) (by kernel_rfl) (fun _ _ _ h => h) (Or.inr ⟨by rfl, rfl⟩) (by assumption) ?_
  try simp only [Act.put, List.getElem_toArray, List.getElem_cons_zero, List.getElem_cons_succ, List.setIfInBounds_toArray, List.set_cons_zero, List.set_cons_succ]
  refine wpAnyH_take (i := 19) (v := undef) rfl (by kernel_rfl) (by kernel_rfl) (by kernel_rfl) (fun _ _ _ h => h) (Or.inr ⟨by rfl, rfl⟩) (by assumption) ?_
  try simp only [Act.put, List.getElem_toArray, List.getElem_cons_zero, List.getElem_cons_succ, List.setIfInBounds_toArray, List.set_cons_zero, List.set_cons_succ]
  refine wpAnyH_take (i := 20) (v := undef) rfl (by kernel_rfl) (by kernel_rfl) (by kernel_rfl) (fun _ _ _ h => h) (Or.inr ⟨by rfl, rfl⟩) (by assumption) ?_
  try simp only [Act.put, List.getElem_toArray, List.getElem_cons_zero, List.getElem_cons_succ, List.setIfInBounds_toArray, List.set_cons_zero, List.set_cons_succ]
  refine tkH 21 ?_
  refine wpAnyH_done (by kernel_rfl) ?_ _
  clear hHeld
  go_wp2
  go_ret
  exact ⟨rfl, HB1.out.2⟩
set_option maxHeartbeats 4000000 in
theorem eetakes_out {w : World} {L : Lab} {K b : Nat} {s : EeS} {E : En} (h : EE w L K b s E) (hE : E.ok) (k nu ofn fr : Int) (da : List Int) (fin : Bool) (se li : Int) (A : Option Addr) (c : Nat) (pa : Int) (ho : Pkt.ok ⟨k, pa, nu, ofn, fr, da, fin, se, li⟩ = true) (hl : (E.ps.length : Int) ≤ pa) (hp : PktAt w ⟨k, pa, nu, ofn, fr, da, fin, se, li⟩ A c) :
    Calls Tryz.prog 69 #[.pointer (some ⟨b, 0, none⟩), .agg #[.int .i64 k, .int .i64 pa, .int .i64 nu, .int .i64 ofn, .int .i64 fr, .slice A da.length c, .bool fin, .int .i64 se, .int .i64 li]] w fun e w' => e = .returned (.bool false) ∧ Below w.heap.size w w' := by
  obtain ⟨w0, hw0⟩ : ∃ w0, w.alloc (.cells #[.int .i64 k, .int .i64 pa, .int .i64 nu, .int .i64 ofn, .int .i64 fr, .slice A da.length c, .bool fin, .int .i64 se, .int .i64 li] 32) = w0 := ⟨_, rfl⟩
  have hr0 : w0.rangeAt w.heap.size 0 (Pkt.cs ⟨k, pa, nu, ofn, fr, da, fin, se, li⟩ A c) := by rw [← hw0]; exact Pkt.range w ⟨k, pa, nu, ofn, fr, da, fin, se, li⟩ A c _
  have hb0 : Below w.heap.size w w0 := by rw [← hw0]; exact (Below.refl _ _).alloc (Nat.le_refl _) _
  have hz0 : w0.heap.size = w.heap.size + 1 := by rw [← hw0]; simp
  obtain ⟨W, hW⟩ : ∃ W, w0.drew = W := ⟨_, rfl⟩
  have hbW : Below w.heap.size w W := by rw [← hW]; exact hb0.drew
  have hzW : W.heap.size = w.heap.size + 1 := by rw [← hW]; exact hz0
  have hrW : W.rangeAt w.heap.size 0 (Pkt.cs ⟨k, pa, nu, ofn, fr, da, fin, se, li⟩ A c) := by rw [← hW]; exact hr0
  have hck := checkP_any ⟨k, pa, nu, ofn, fr, da, fin, se, li⟩ A c W (hp.later hbW)
  rw [ho] at hck
  have hh := h.grow hbW 0
  have HV := Lib.hid (show (Pkt.cs ⟨k, pa, nu, ofn, fr, da, fin, se, li⟩ A c).toArray = #[.int .i64 k, .int .i64 pa, .int .i64 nu, .int .i64 ofn, .int .i64 fr, .slice A da.length c, .bool fin, .int .i64 se, .int .i64 li] from rfl)
  obtain ⟨b0, hb0'⟩ : ∃ b0, w.heap.size = b0 := ⟨_, rfl⟩
  rw [hb0'] at hrW hzW hr0
  have z1 : W.cell? ⟨b0, 0 + 1, none⟩ = some (.int .i64 pa) := hrW 1 _ rfl
  have HHAS := Lib.hid (show ∀ w1, Below W.heap.size W w1 → Calls Tryz.prog 94 #[.pointer (some ⟨b, 0, none⟩), .int .i64 pa] w1 fun e w' => e = .returned (.bool false) ∧ w1 = w' from fun w1 hb1 => by rw [← En.there_no (.inr hl)]; exact eehas_any (hh.grow hb1 0) hE pa)
  have S0 := Lib.hid (show W.rangeAt b0 0 (Pkt.cs ⟨k, pa, nu, ofn, fr, da, fin, se, li⟩ A c) ∧ W.cell? ⟨b0, 0 + 1, none⟩ = some (.int .i64 pa) from ⟨hrW, z1⟩)
  clear hl hh
  have HCK := Lib.hid (show Calls Tryz.prog 146 #[.agg #[.int .i64 k, .int .i64 pa, .int .i64 nu, .int .i64 ofn, .int .i64 fr, .slice A da.length c, .bool fin, .int .i64 se, .int .i64 li]] W fun e w' => e = .returned (.int .i64 0) ∧ Below W.heap.size W w' from hck)
  have HBW := Lib.hid (And.intro hbW (And.intro hzW hb0'))
  clear hck hbW hzW hr0 hb0 hz0 hrW z1 h hE hp ho
  go_enter Tryz.func69, Tryz.ntmps69
  go_wp2_with fail
  try rw [hb0']
  refine wp_region_held_drew (S := fun wi => wi.rangeAt b0 0 (Pkt.cs ⟨k, pa, nu, ofn, fr, da, fin, se, li⟩ A c) ∧ wi.cell? ⟨b0, 0 + 1, none⟩ = some (.int .i64 pa)) (by kernel_rfl) (by rw [hW]; exact S0.out) ?_
  intro hHeld
  rw [hW] at hHeld ⊢
  clear hw0 hW hb0'
  refine wpAnyH_take (i := 0) (v := .agg (Pkt.cs ⟨k, pa, nu, ofn, fr, da, fin, se, li⟩ A c).toArray) rfl (by kernel_rfl) (by kernel_rfl) (by kernel_rfl) (fun _ _ _ h => h) (yieldsIf_load_mid (by rfl) 32 (.tmp 3) rfl _ _ rfl (Pkt.cs ⟨k, pa, nu, ofn, fr, da, fin, se, li⟩ A c) _ (fun w2 h2 => h2.1) Tryz.underlying32 rfl (by kernel_rfl)) (by assumption) ?_
  try simp only [Act.put, List.getElem_toArray, List.getElem_cons_zero, List.setIfInBounds_toArray, List.set_cons_zero, List.set_cons_succ]
  rw [HV.out]
  refine wpAnyH_ready (rs := [1]) (by kernel_rfl) (by simp) ?_
  refine AllReadyH.cons rfl (fun K2 hK2 => ?_) AllReadyH.nil
  go_simp
  refine HCK.out.mono ?_
  rintro e w1 ⟨rfl, hb1⟩
  obtain ⟨hbW, hzW, hb0'⟩ := HBW.out
  have S1 := Lib.hid (show w1.rangeAt b0 0 (Pkt.cs ⟨k, pa, nu, ofn, fr, da, fin, se, li⟩ A c) ∧ w1.cell? ⟨b0, 0 + 1, none⟩ = some (.int .i64 pa) from ⟨rangeAt_later S0.out.1 hb1 (by omega), cell_later hb1 S0.out.2⟩)
  have HB1 := Lib.hid (And.intro hb1 (hbW.trans (hb1.mono hbW.size)))
  clear hb1 hbW hzW hb0' HCK S0 HBW
  try go_wp2_with fail
  refine hK2.out _ _ S1.out (fun hHeld2 => ?_)
  clear hK2 K2 hHeld
  have hHeld := hHeld2
  clear hHeld2
  try simp only [Act.put, List.getElem_toArray, List.getElem_cons_zero, List.getElem_cons_succ, List.setIfInBounds_toArray, List.set_cons_zero, List.set_cons_succ]
  refine tkH 2 ?_
  refine tkH 3 ?_
  refine tkH 4 ?_
  refine tkH 5 ?_
  refine tkH 6 ?_
  refine wpAnyH_ready (rs := [7]) (by kernel_rfl) (by simp) ?_
  refine AllReadyH.cons rfl (fun K2 hK2 => ?_) AllReadyH.nil
  go_simp
  refine (HHAS.out w1 HB1.out.1).mono ?_
  rintro e w2 ⟨rfl, rfl⟩
  try go_wp2_with fail
  refine hK2.out _ _ S1.out (fun hHeld2 => ?_)
  clear hK2 K2 hHeld
  have hHeld := hHeld2
  clear hHeld2
  try simp only [Act.put, List.getElem_toArray, List.getElem_cons_zero, List.getElem_cons_succ, List.setIfInBounds_toArray, List.set_cons_zero, List.set_cons_succ]
  refine tkH 8 ?_
  refine tkH 9 ?_
  refine tkH 10 ?_
  refine wpAnyH_take (i := 11) (v := undef) rfl (by kernel_rfl) (by kernel_rfl) (by kernel_rfl) (fun _ _ _ h => h) (Or.inr ⟨by rfl, rfl⟩) (by assumption) ?_
  try simp only [Act.put, List.getElem_toArray, List.getElem_cons_zero, List.getElem_cons_succ, List.setIfInBounds_toArray, List.set_cons_zero, List.set_cons_succ]
  refine wpAnyH_take (i := 12) (v := undef) rfl (by kernel_rfl) (by kernel_rfl) (by kernel_rfl) (fun _ _ _ h => h) (Or.inr ⟨by rfl, rfl⟩) (by assumption) ?_
  try simp only [Act.put, List.getElem_toArray, List.getElem_cons_zero, List.getElem_cons_succ, List.setIfInBounds_toArray, List.set_cons_zero, List.set_cons_succ]
  refine wpAnyH_take (i := 13) (v := undef) rfl (by kernel_rfl) (by kernel_rfl) (by kernel_rfl) (fun _ _ _ h => h) (Or.inr ⟨by rfl, rfl⟩) (by assumption) ?_
  try simp only [Act.put, List.getElem_toArray, List.getElem_cons_zero, List.getElem_cons_succ, List.setIfInBounds_toArray, List.set_cons_zero, List.set_cons_succ]
  refine wpAnyH_take (i := 14) (v := undef) rfl (by kernel_rfl) (by kernel_rfl) (by kernel_rfl) (fun _ _ _ h => h) (Or.inr ⟨by rfl, rfl⟩) (by assumption) ?_
  try simp only [Act.put, List.getElem_toArray, List.getElem_cons_zero, List.getElem_cons_succ, List.setIfInBounds_toArray, List.set_cons_zero, List.set_cons_succ]
  refine wpAnyH_take (i := 15) (v := undef) rfl (by kernel_rfl) (by kernel_rfl) (by kernel_rfl) (fun _ _ _ h => h) (Or.inr ⟨by rfl, rfl⟩) (by assumption) ?_
  try simp only [Act.put, List.getElem_toArray, List.getElem_cons_zero, List.getElem_cons_succ, List.setIfInBounds_toArray, List.set_cons_zero, List.set_cons_succ]
  refine wpAnyH_take (i := 16) (v := undef) rfl (by kernel_rfl) (by kernel_rfl) (by kernel_rfl) (fun _ _ _ h => h) (Or.inr ⟨by rfl, rfl⟩) (by assumption) ?_
  try simp only [Act.put, List.getElem_toArray, List.getElem_cons_zero, List.getElem_cons_succ, List.setIfInBounds_toArray, List.set_cons_zero, List.set_cons_succ]
  refine wpAnyH_take (i := 17) (v := undef) rfl (by kernel_rfl) (by kernel_rfl) (by kernel_rfl) (fun _ _ _ h => h) (Or.inr ⟨by rfl, rfl⟩) (by assumption) ?_
  try simp only [Act.put, List.getElem_toArray, List.getElem_cons_zero, List.getElem_cons_succ, List.setIfInBounds_toArray, List.set_cons_zero, List.set_cons_succ]
  refine wpAnyH_take (i := 18) (v := undef) rfl (by kernel_rfl) (by kernel_rfl) (by kernel_rfl) (fun _ _ _ h => h) (Or.inr ⟨by rfl, rfl⟩) (by assumption) ?_
  try simp only [Act.put, List.getElem_toArray, List.getElem_cons_zero, List.getElem_cons_succ, List.setIfInBounds_toArray, List.set_cons_zero, List.set_cons_succ]
  refine wpAnyH_take (i := 19) (v := undef) rfl (by kernel_rfl) (by kernel_rfl) (by kernel_rfl) (fun _ _ _ h => h) (Or.inr ⟨by rfl, rfl⟩) (by assumption) ?_
  try simp only [Act.put, List.getElem_toArray, List.getElem_cons_zero, List.getElem_cons_succ, List.setIfInBounds_toArray, List.set_cons_zero, List.set_cons_succ]
  refine wpAnyH_take (i := 20) (v := undef) rfl (by kernel_rfl) (by kernel_rfl) (by kernel_rfl) (fun _ _ _ h => h) (Or.inr ⟨by rfl, rfl⟩) (by assumption) ?_
  try simp only [Act.put, List.getElem_toArray, List.getElem_cons_zero, List.getElem_cons_succ, List.setIfInBounds_toArray, List.set_cons_zero, List.set_cons_succ]
  refine tkH 21 ?_
  refine wpAnyH_done (by kernel_rfl) ?_ _
  clear hHeld
  go_wp2
  go_ret
  exact ⟨rfl, HB1.out.2⟩
set_option maxHeartbeats 4000000 in
theorem eetakes_down {w : World} {L : Lab} {K b : Nat} {s : EeS} {E : En} (h : EE w L K b s E) (hE : E.ok) (k nu ofn fr : Int) (da : List Int) (fin : Bool) (se li : Int) (A : Option Addr) (c : Nat) (i : Nat) (hi : i < E.ps.length) (ho : Pkt.ok ⟨k, (i : Int), nu, ofn, fr, da, fin, se, li⟩ = true) (hu : (E.pa i).up = false) (hp : PktAt w ⟨k, (i : Int), nu, ofn, fr, da, fin, se, li⟩ A c) :
    Calls Tryz.prog 69 #[.pointer (some ⟨b, 0, none⟩), .agg #[.int .i64 k, .int .i64 (i : Int), .int .i64 nu, .int .i64 ofn, .int .i64 fr, .slice A da.length c, .bool fin, .int .i64 se, .int .i64 li]] w fun e w' => e = .returned (.bool false) ∧ Below w.heap.size w w' := by
  obtain ⟨w0, hw0⟩ : ∃ w0, w.alloc (.cells #[.int .i64 k, .int .i64 (i : Int), .int .i64 nu, .int .i64 ofn, .int .i64 fr, .slice A da.length c, .bool fin, .int .i64 se, .int .i64 li] 32) = w0 := ⟨_, rfl⟩
  have hr0 : w0.rangeAt w.heap.size 0 (Pkt.cs ⟨k, (i : Int), nu, ofn, fr, da, fin, se, li⟩ A c) := by rw [← hw0]; exact Pkt.range w ⟨k, (i : Int), nu, ofn, fr, da, fin, se, li⟩ A c _
  have hb0 : Below w.heap.size w w0 := by rw [← hw0]; exact (Below.refl _ _).alloc (Nat.le_refl _) _
  have hz0 : w0.heap.size = w.heap.size + 1 := by rw [← hw0]; simp
  obtain ⟨W, hW⟩ : ∃ W, w0.drew = W := ⟨_, rfl⟩
  have hbW : Below w.heap.size w W := by rw [← hW]; exact hb0.drew
  have hzW : W.heap.size = w.heap.size + 1 := by rw [← hW]; exact hz0
  have hrW : W.rangeAt w.heap.size 0 (Pkt.cs ⟨k, (i : Int), nu, ofn, fr, da, fin, se, li⟩ A c) := by rw [← hW]; exact hr0
  have hck := checkP_any ⟨k, (i : Int), nu, ofn, fr, da, fin, se, li⟩ A c W (hp.later hbW)
  rw [ho] at hck
  have hh := h.grow hbW 0
  have HV := Lib.hid (show (Pkt.cs ⟨k, (i : Int), nu, ofn, fr, da, fin, se, li⟩ A c).toArray = #[.int .i64 k, .int .i64 (i : Int), .int .i64 nu, .int .i64 ofn, .int .i64 fr, .slice A da.length c, .bool fin, .int .i64 se, .int .i64 li] from rfl)
  obtain ⟨b0, hb0'⟩ : ∃ b0, w.heap.size = b0 := ⟨_, rfl⟩
  rw [hb0'] at hrW hzW hr0
  have z1 : W.cell? ⟨b0, 0 + 1, none⟩ = some (.int .i64 (i : Int)) := hrW 1 _ rfl
  obtain ⟨n, hn⟩ : ∃ n, E.ps.length = n := ⟨_, rfl⟩
  obtain ⟨g, cp, hpv, c10, hg, _, _⟩ := hh.look hn (i := i) (by omega)
  have y := hg i (by omega)
  obtain ⟨q, hq⟩ := hh
  obtain ⟨pb, hpb⟩ : ∃ pb, s.pb.getD i 0 = pb := ⟨_, rfl⟩
  rw [hpb] at y
  have HPU := Lib.hid (show ∀ w1, Below W.heap.size W w1 → PaAt w1 0 pb (s.pg i) (s.pw i) (s.pf i) (q.fv i) (E.pa i) from fun w1 hb1 => by rw [← hpb]; exact (hq.pth i hi).later hb1)
  have HHAS := Lib.hid (show ∀ w1, Below W.heap.size W w1 → Calls Tryz.prog 94 #[.pointer (some ⟨b, 0, none⟩), .int .i64 (i : Int)] w1 fun e w' => e = .returned (.bool true) ∧ w1 = w' from fun w1 hb1 => by rw [← En.there_yes hi]; exact eehas_any (EE.grow ⟨q, hq⟩ hb1 0) hE (i : Int))
  have hsd := hE.side
  have HC7 := Lib.hid (show ∀ w1, Below W.heap.size W w1 → w1.cell? ⟨b, 0 + 7, none⟩ = some (.int .i64 E.side) ∧ w1.cell? ⟨b, 0 + 14, none⟩ = some (.pointer (some ⟨s.pl, 0, none⟩)) ∧ PlanAt w1 0 s.pl s.plq q.lv E.pl from fun w1 hb1 => ⟨cell_later hb1 (hq.cell 7 (by omega)), cell_later hb1 (hq.cell 14 (by omega)), hq.p.pln.later hb1⟩)
  have i1 : (i : Int) < (n : Int) := by omega
  have i2 : (0 : Int) ≤ (i : Int) := by omega
  have S0 := Lib.hid (show W.rangeAt b0 0 (Pkt.cs ⟨k, (i : Int), nu, ofn, fr, da, fin, se, li⟩ A c) ∧ W.cell? ⟨b0, 0 + 1, none⟩ = some (.int .i64 (i : Int)) ∧ W.cell? ⟨b, 0 + 10, none⟩ = some (.slice (some ⟨g, 0, none⟩) n cp) ∧ W.cell? ⟨g, i, none⟩ = some (.pointer (some ⟨pb, 0, none⟩)) from ⟨hrW, z1, c10, y⟩)
  have HU := Lib.hid hu
  clear hpv hg hq hpb hn hi hu c10 y
  have HCK := Lib.hid (show Calls Tryz.prog 146 #[.agg #[.int .i64 k, .int .i64 (i : Int), .int .i64 nu, .int .i64 ofn, .int .i64 fr, .slice A da.length c, .bool fin, .int .i64 se, .int .i64 li]] W fun e w' => e = .returned (.int .i64 0) ∧ Below W.heap.size W w' from hck)
  have HBW := Lib.hid (And.intro hbW (And.intro hzW hb0'))
  clear hck hbW hzW hr0 hb0 hz0 hrW z1 h hE hp ho
  go_enter Tryz.func69, Tryz.ntmps69
  go_wp2_with fail
  try rw [hb0']
  refine wp_region_held_drew (S := fun wi => wi.rangeAt b0 0 (Pkt.cs ⟨k, (i : Int), nu, ofn, fr, da, fin, se, li⟩ A c) ∧ wi.cell? ⟨b0, 0 + 1, none⟩ = some (.int .i64 (i : Int)) ∧ wi.cell? ⟨b, 0 + 10, none⟩ = some (.slice (some ⟨g, 0, none⟩) n cp) ∧ wi.cell? ⟨g, i, none⟩ = some (.pointer (some ⟨pb, 0, none⟩))) (by kernel_rfl) (by rw [hW]; exact S0.out) ?_
  intro hHeld
  rw [hW] at hHeld ⊢
  clear hw0 hW hb0'
  refine wpAnyH_take (i := 0) (v := .agg (Pkt.cs ⟨k, (i : Int), nu, ofn, fr, da, fin, se, li⟩ A c).toArray) rfl (by kernel_rfl) (by kernel_rfl) (by kernel_rfl) (fun _ _ _ h => h) (yieldsIf_load_mid (by rfl) 32 (.tmp 3) rfl _ _ rfl (Pkt.cs ⟨k, (i : Int), nu, ofn, fr, da, fin, se, li⟩ A c) _ (fun w2 h2 => h2.1) Tryz.underlying32 rfl (by kernel_rfl)) (by assumption) ?_
  try simp only [Act.put, List.getElem_toArray, List.getElem_cons_zero, List.setIfInBounds_toArray, List.set_cons_zero, List.set_cons_succ]
  rw [HV.out]
  refine wpAnyH_ready (rs := [1]) (by kernel_rfl) (by simp) ?_
  refine AllReadyH.cons rfl (fun K2 hK2 => ?_) AllReadyH.nil
  go_simp
  refine HCK.out.mono ?_
  rintro e w1 ⟨rfl, hb1⟩
  obtain ⟨hbW, hzW, hb0'⟩ := HBW.out
  have S1 := Lib.hid (show w1.rangeAt b0 0 (Pkt.cs ⟨k, (i : Int), nu, ofn, fr, da, fin, se, li⟩ A c) ∧ w1.cell? ⟨b0, 0 + 1, none⟩ = some (.int .i64 (i : Int)) ∧ w1.cell? ⟨b, 0 + 10, none⟩ = some (.slice (some ⟨g, 0, none⟩) n cp) ∧ w1.cell? ⟨g, i, none⟩ = some (.pointer (some ⟨pb, 0, none⟩)) from ⟨rangeAt_later S0.out.1 hb1 (by omega), cell_later hb1 S0.out.2.1, cell_later hb1 S0.out.2.2.1, cell_later hb1 S0.out.2.2.2⟩)
  have HB1 := Lib.hid (And.intro hb1 (hbW.trans (hb1.mono hbW.size)))
  clear hb1 hbW hzW hb0' HCK S0 HBW
  try go_wp2_with fail
  refine hK2.out _ _ S1.out (fun hHeld2 => ?_)
  clear hK2 K2 hHeld
  have hHeld := hHeld2
  clear hHeld2
  try simp only [Act.put, List.getElem_toArray, List.getElem_cons_zero, List.getElem_cons_succ, List.setIfInBounds_toArray, List.set_cons_zero, List.set_cons_succ]
  refine tkH 2 ?_
  refine tkH 3 ?_
  refine tkH 4 ?_
  refine tkH 5 ?_
  refine tkH 6 ?_
  refine wpAnyH_ready (rs := [7]) (by kernel_rfl) (by simp) ?_
  refine AllReadyH.cons rfl (fun K2 hK2 => ?_) AllReadyH.nil
  go_simp
  refine (HHAS.out w1 HB1.out.1).mono ?_
  rintro e w2 ⟨rfl, rfl⟩
  try go_wp2_with fail
  refine hK2.out _ _ S1.out (fun hHeld2 => ?_)
  clear hK2 K2 hHeld
  have hHeld := hHeld2
  clear hHeld2
  try simp only [Act.put, List.getElem_toArray, List.getElem_cons_zero, List.getElem_cons_succ, List.setIfInBounds_toArray, List.set_cons_zero, List.set_cons_succ]
  refine tkH 8 ?_
  refine tkH 9 ?_
  refine tkH 10 ?_
  refine tkH 11 ?_
  refine tkH 12 ?_
  refine tkH 13 ?_
  refine tkH 14 ?_
  refine tkH 15 ?_
  refine tkH 16 ?_
  refine tkH 17 ?_
  refine tkH 18 ?_
  refine wpAnyH_ready (rs := [19]) (by kernel_rfl) (by simp) ?_
  refine AllReadyH.cons rfl (fun K2 hK2 => ?_) AllReadyH.nil
  go_simp
  refine (paisup_any (HPU.out w1 HB1.out.1)).mono ?_
  rintro e w2 ⟨rfl, k5, rfl⟩
  rw [HU.out]
  try go_wp2_with fail
  have S2 := Lib.hid (show (w1.drewN k5).rangeAt b0 0 (Pkt.cs ⟨k, (i : Int), nu, ofn, fr, da, fin, se, li⟩ A c) ∧ (w1.drewN k5).cell? ⟨b0, 0 + 1, none⟩ = some (.int .i64 (i : Int)) ∧ (w1.drewN k5).cell? ⟨b, 0 + 10, none⟩ = some (.slice (some ⟨g, 0, none⟩) n cp) ∧ (w1.drewN k5).cell? ⟨g, i, none⟩ = some (.pointer (some ⟨pb, 0, none⟩)) from S1.out)
  have HB2 := Lib.hid (show Below W.heap.size W (w1.drewN k5) ∧ Below w.heap.size w (w1.drewN k5) from ⟨below_drewN' HB1.out.1 k5, below_drewN' HB1.out.2 k5⟩)
  obtain ⟨w2, hw2⟩ : ∃ w2, w1.drewN k5 = w2 := ⟨_, rfl⟩
  rw [hw2] at S2 HB2 ⊢
  clear hw2 S1 HB1 HHAS
  refine hK2.out _ _ S2.out (fun hHeld2 => ?_)
  clear hK2 K2 hHeld
  have hHeld := hHeld2
  clear hHeld2
  try simp only [Act.put, List.getElem_toArray, List.getElem_cons_zero, List.getElem_cons_succ, List.setIfInBounds_toArray, List.set_cons_zero, List.set_cons_succ]
  refine tkH 20 ?_
  refine tkH 21 ?_
  refine wpAnyH_done (by kernel_rfl) ?_ _
  clear hHeld
  go_wp2
  go_ret
  exact ⟨rfl, HB2.out.2⟩
set_option maxHeartbeats 4000000 in
theorem eetakes_up1 {w : World} {L : Lab} {K b : Nat} {s : EeS} {E : En} (h : EE w L K b s E) (hE : E.ok) (nu ofn fr : Int) (da : List Int) (fin : Bool) (se li : Int) (A : Option Addr) (c : Nat) (i : Nat) (hi : i < E.ps.length) (ho : Pkt.ok ⟨1, (i : Int), nu, ofn, fr, da, fin, se, li⟩ = true) (hu : (E.pa i).up = true) (hp : PktAt w ⟨1, (i : Int), nu, ofn, fr, da, fin, se, li⟩ A c) :
    Calls Tryz.prog 69 #[.pointer (some ⟨b, 0, none⟩), .agg #[.int .i64 1, .int .i64 (i : Int), .int .i64 nu, .int .i64 ofn, .int .i64 fr, .slice A da.length c, .bool fin, .int .i64 se, .int .i64 li]] w fun e w' => e = .returned (.bool (E.mayK ⟨1, (i : Int), nu, ofn, fr, da, fin, se, li⟩ i)) ∧ Below w.heap.size w w' := by
  obtain ⟨w0, hw0⟩ : ∃ w0, w.alloc (.cells #[.int .i64 1, .int .i64 (i : Int), .int .i64 nu, .int .i64 ofn, .int .i64 fr, .slice A da.length c, .bool fin, .int .i64 se, .int .i64 li] 32) = w0 := ⟨_, rfl⟩
  have hr0 : w0.rangeAt w.heap.size 0 (Pkt.cs ⟨1, (i : Int), nu, ofn, fr, da, fin, se, li⟩ A c) := by rw [← hw0]; exact Pkt.range w ⟨1, (i : Int), nu, ofn, fr, da, fin, se, li⟩ A c _
  have hb0 : Below w.heap.size w w0 := by rw [← hw0]; exact (Below.refl _ _).alloc (Nat.le_refl _) _
  have hz0 : w0.heap.size = w.heap.size + 1 := by rw [← hw0]; simp
  obtain ⟨W, hW⟩ : ∃ W, w0.drew = W := ⟨_, rfl⟩
  have hbW : Below w.heap.size w W := by rw [← hW]; exact hb0.drew
  have hzW : W.heap.size = w.heap.size + 1 := by rw [← hW]; exact hz0
  have hrW : W.rangeAt w.heap.size 0 (Pkt.cs ⟨1, (i : Int), nu, ofn, fr, da, fin, se, li⟩ A c) := by rw [← hW]; exact hr0
  have hck := checkP_any ⟨1, (i : Int), nu, ofn, fr, da, fin, se, li⟩ A c W (hp.later hbW)
  rw [ho] at hck
  have hh := h.grow hbW 0
  have HV := Lib.hid (show (Pkt.cs ⟨1, (i : Int), nu, ofn, fr, da, fin, se, li⟩ A c).toArray = #[.int .i64 1, .int .i64 (i : Int), .int .i64 nu, .int .i64 ofn, .int .i64 fr, .slice A da.length c, .bool fin, .int .i64 se, .int .i64 li] from rfl)
  obtain ⟨b0, hb0'⟩ : ∃ b0, w.heap.size = b0 := ⟨_, rfl⟩
  rw [hb0'] at hrW hzW hr0
  have z1 : W.cell? ⟨b0, 0 + 1, none⟩ = some (.int .i64 (i : Int)) := hrW 1 _ rfl
  obtain ⟨n, hn⟩ : ∃ n, E.ps.length = n := ⟨_, rfl⟩
  obtain ⟨g, cp, hpv, c10, hg, _, _⟩ := hh.look hn (i := i) (by omega)
  have y := hg i (by omega)
  obtain ⟨q, hq⟩ := hh
  obtain ⟨pb, hpb⟩ : ∃ pb, s.pb.getD i 0 = pb := ⟨_, rfl⟩
  rw [hpb] at y
  have HPU := Lib.hid (show ∀ w1, Below W.heap.size W w1 → PaAt w1 0 pb (s.pg i) (s.pw i) (s.pf i) (q.fv i) (E.pa i) from fun w1 hb1 => by rw [← hpb]; exact (hq.pth i hi).later hb1)
  have HHAS := Lib.hid (show ∀ w1, Below W.heap.size W w1 → Calls Tryz.prog 94 #[.pointer (some ⟨b, 0, none⟩), .int .i64 (i : Int)] w1 fun e w' => e = .returned (.bool true) ∧ w1 = w' from fun w1 hb1 => by rw [← En.there_yes hi]; exact eehas_any (EE.grow ⟨q, hq⟩ hb1 0) hE (i : Int))
  have hsd := hE.side
  have HC7 := Lib.hid (show ∀ w1, Below W.heap.size W w1 → w1.cell? ⟨b, 0 + 7, none⟩ = some (.int .i64 E.side) ∧ w1.cell? ⟨b, 0 + 14, none⟩ = some (.pointer (some ⟨s.pl, 0, none⟩)) ∧ PlanAt w1 0 s.pl s.plq q.lv E.pl from fun w1 hb1 => ⟨cell_later hb1 (hq.cell 7 (by omega)), cell_later hb1 (hq.cell 14 (by omega)), hq.p.pln.later hb1⟩)
  have i1 : (i : Int) < (n : Int) := by omega
  have i2 : (0 : Int) ≤ (i : Int) := by omega
  have S0 := Lib.hid (show W.rangeAt b0 0 (Pkt.cs ⟨1, (i : Int), nu, ofn, fr, da, fin, se, li⟩ A c) ∧ W.cell? ⟨b0, 0 + 1, none⟩ = some (.int .i64 (i : Int)) ∧ W.cell? ⟨b, 0 + 10, none⟩ = some (.slice (some ⟨g, 0, none⟩) n cp) ∧ W.cell? ⟨g, i, none⟩ = some (.pointer (some ⟨pb, 0, none⟩)) from ⟨hrW, z1, c10, y⟩)
  have HU := Lib.hid hu
  clear hpv hg hq hpb hn hi hu c10 y
  have HCK := Lib.hid (show Calls Tryz.prog 146 #[.agg #[.int .i64 1, .int .i64 (i : Int), .int .i64 nu, .int .i64 ofn, .int .i64 fr, .slice A da.length c, .bool fin, .int .i64 se, .int .i64 li]] W fun e w' => e = .returned (.int .i64 0) ∧ Below W.heap.size W w' from hck)
  have HBW := Lib.hid (And.intro hbW (And.intro hzW hb0'))
  clear hck hbW hzW hr0 hb0 hz0 hrW z1 h hE hp ho
  go_enter Tryz.func69, Tryz.ntmps69
  go_wp2_with fail
  try rw [hb0']
  refine wp_region_held_drew (S := fun wi => wi.rangeAt b0 0 (Pkt.cs ⟨1, (i : Int), nu, ofn, fr, da, fin, se, li⟩ A c) ∧ wi.cell? ⟨b0, 0 + 1, none⟩ = some (.int .i64 (i : Int)) ∧ wi.cell? ⟨b, 0 + 10, none⟩ = some (.slice (some ⟨g, 0, none⟩) n cp) ∧ wi.cell? ⟨g, i, none⟩ = some (.pointer (some ⟨pb, 0, none⟩))) (by kernel_rfl) (by rw [hW]; exact S0.out) ?_
  intro hHeld
  rw [hW] at hHeld ⊢
  clear hw0 hW hb0'
  refine wpAnyH_take (i := 0) (v := .agg (Pkt.cs ⟨1, (i : Int), nu, ofn, fr, da, fin, se, li⟩ A c).toArray) rfl (by kernel_rfl) (by kernel_rfl) (by kernel_rfl) (fun _ _ _ h => h) (yieldsIf_load_mid (by rfl) 32 (.tmp 3) rfl _ _ rfl (Pkt.cs ⟨1, (i : Int), nu, ofn, fr, da, fin, se, li⟩ A c) _ (fun w2 h2 => h2.1) Tryz.underlying32 rfl (by kernel_rfl)) (by assumption) ?_
  try simp only [Act.put, List.getElem_toArray, List.getElem_cons_zero, List.setIfInBounds_toArray, List.set_cons_zero, List.set_cons_succ]
  rw [HV.out]
  refine wpAnyH_ready (rs := [1]) (by kernel_rfl) (by simp) ?_
  refine AllReadyH.cons rfl (fun K2 hK2 => ?_) AllReadyH.nil
  go_simp
  refine HCK.out.mono ?_
  rintro e w1 ⟨rfl, hb1⟩
  obtain ⟨hbW, hzW, hb0'⟩ := HBW.out
  have S1 := Lib.hid (show w1.rangeAt b0 0 (Pkt.cs ⟨1, (i : Int), nu, ofn, fr, da, fin, se, li⟩ A c) ∧ w1.cell? ⟨b0, 0 + 1, none⟩ = some (.int .i64 (i : Int)) ∧ w1.cell? ⟨b, 0 + 10, none⟩ = some (.slice (some ⟨g, 0, none⟩) n cp) ∧ w1.cell? ⟨g, i, none⟩ = some (.pointer (some ⟨pb, 0, none⟩)) from ⟨rangeAt_later S0.out.1 hb1 (by omega), cell_later hb1 S0.out.2.1, cell_later hb1 S0.out.2.2.1, cell_later hb1 S0.out.2.2.2⟩)
  have HB1 := Lib.hid (And.intro hb1 (hbW.trans (hb1.mono hbW.size)))
  clear hb1 hbW hzW hb0' HCK S0 HBW
  try go_wp2_with fail
  refine hK2.out _ _ S1.out (fun hHeld2 => ?_)
  clear hK2 K2 hHeld
  have hHeld := hHeld2
  clear hHeld2
  try simp only [Act.put, List.getElem_toArray, List.getElem_cons_zero, List.getElem_cons_succ, List.setIfInBounds_toArray, List.set_cons_zero, List.set_cons_succ]
  refine tkH 2 ?_
  refine tkH 3 ?_
  refine tkH 4 ?_
  refine tkH 5 ?_
  refine tkH 6 ?_
  refine wpAnyH_ready (rs := [7]) (by kernel_rfl) (by simp) ?_
  refine AllReadyH.cons rfl (fun K2 hK2 => ?_) AllReadyH.nil
  go_simp
  refine (HHAS.out w1 HB1.out.1).mono ?_
  rintro e w2 ⟨rfl, rfl⟩
  try go_wp2_with fail
  refine hK2.out _ _ S1.out (fun hHeld2 => ?_)
  clear hK2 K2 hHeld
  have hHeld := hHeld2
  clear hHeld2
  try simp only [Act.put, List.getElem_toArray, List.getElem_cons_zero, List.getElem_cons_succ, List.setIfInBounds_toArray, List.set_cons_zero, List.set_cons_succ]
  refine tkH 8 ?_
  refine tkH 9 ?_
  refine tkH 10 ?_
  refine tkH 11 ?_
  refine tkH 12 ?_
  refine tkH 13 ?_
  refine tkH 14 ?_
  refine tkH 15 ?_
  refine tkH 16 ?_
  refine tkH 17 ?_
  refine tkH 18 ?_
  refine wpAnyH_ready (rs := [19]) (by kernel_rfl) (by simp) ?_
  refine AllReadyH.cons rfl (fun K2 hK2 => ?_) AllReadyH.nil
  go_simp
  refine (paisup_any (HPU.out w1 HB1.out.1)).mono ?_
  rintro e w2 ⟨rfl, k5, rfl⟩
  rw [HU.out]
  try go_wp2_with fail
  have S2 := Lib.hid (show (w1.drewN k5).rangeAt b0 0 (Pkt.cs ⟨1, (i : Int), nu, ofn, fr, da, fin, se, li⟩ A c) ∧ (w1.drewN k5).cell? ⟨b0, 0 + 1, none⟩ = some (.int .i64 (i : Int)) ∧ (w1.drewN k5).cell? ⟨b, 0 + 10, none⟩ = some (.slice (some ⟨g, 0, none⟩) n cp) ∧ (w1.drewN k5).cell? ⟨g, i, none⟩ = some (.pointer (some ⟨pb, 0, none⟩)) from S1.out)
  have HB2 := Lib.hid (show Below W.heap.size W (w1.drewN k5) ∧ Below w.heap.size w (w1.drewN k5) from ⟨below_drewN' HB1.out.1 k5, below_drewN' HB1.out.2 k5⟩)
  obtain ⟨w2, hw2⟩ : ∃ w2, w1.drewN k5 = w2 := ⟨_, rfl⟩
  rw [hw2] at S2 HB2 ⊢
  clear hw2 S1 HB1 HHAS
  refine hK2.out _ _ S2.out (fun hHeld2 => ?_)
  clear hK2 K2 hHeld
  have hHeld := hHeld2
  clear hHeld2
  try simp only [Act.put, List.getElem_toArray, List.getElem_cons_zero, List.getElem_cons_succ, List.setIfInBounds_toArray, List.set_cons_zero, List.set_cons_succ]
  refine tkH 20 ?_
  refine tkH 21 ?_
  refine wpAnyH_done (by kernel_rfl) ?_ _
  clear hHeld
  go_wp2_with fail
  refine wp_region_held_drew (S := fun wi => wi.rangeAt b0 0 (Pkt.cs ⟨1, (i : Int), nu, ofn, fr, da, fin, se, li⟩ A c) ∧ wi.cell? ⟨b0, 0 + 1, none⟩ = some (.int .i64 (i : Int)) ∧ wi.cell? ⟨b, 0 + 10, none⟩ = some (.slice (some ⟨g, 0, none⟩) n cp) ∧ wi.cell? ⟨g, i, none⟩ = some (.pointer (some ⟨pb, 0, none⟩))) (by kernel_rfl) S2.out ?_
  intro hHeld
  refine tkH 0 ?_
  refine tkH 1 ?_
  refine tkH 2 ?_
  refine tkH 3 ?_
  refine tkH 4 ?_
  refine tkH 5 ?_
  refine tkH 6 ?_
  refine tkH 7 ?_
  refine tkH 8 ?_
  refine wpAnyH_done (by kernel_rfl) ?_ _
  clear hHeld
  have HB3 := Lib.hid (show Below W.heap.size W w2.drew ∧ Below w.heap.size w w2.drew from ⟨HB2.out.1.drew, HB2.out.2.drew⟩)
  obtain ⟨w3, hw3⟩ : ∃ w3, w2.drew = w3 := ⟨_, rfl⟩
  have S3 := Lib.hid (show w3.rangeAt b0 0 (Pkt.cs ⟨1, (i : Int), nu, ofn, fr, da, fin, se, li⟩ A c) ∧ w3.cell? ⟨b0, 0 + 1, none⟩ = some (.int .i64 (i : Int)) ∧ w3.cell? ⟨b, 0 + 10, none⟩ = some (.slice (some ⟨g, 0, none⟩) n cp) ∧ w3.cell? ⟨g, i, none⟩ = some (.pointer (some ⟨pb, 0, none⟩)) by rw [← hw3]; exact S2.out)
  rw [hw3] at HB3 ⊢
  clear hw3 S2 HB2
  obtain ⟨c7, c14, hpl⟩ := HC7.out w3 HB3.out.1
  have HPA := Lib.hid (HPU.out w3 HB3.out.1)
  have HPL := Lib.hid hpl
  have hcs := S3.out.1
  have x0 : w3.cell? ⟨b0, 0, none⟩ = some (.int .i64 1) := hcs 0 _ rfl
  have x3 : w3.cell? ⟨b0, 0 + 3, none⟩ = some (.int .i64 ofn) := hcs 3 _ rfl
  have x7 : w3.cell? ⟨b0, 0 + 7, none⟩ = some (.int .i64 se) := hcs 7 _ rfl
  have HMK := Lib.hid (show En.mayK E ⟨1, (i : Int), nu, ofn, fr, da, fin, se, li⟩ i = decide (E.side = 1) from rfl)
  obtain ⟨sd, hsd'⟩ : ∃ x, E.side = x := ⟨_, rfl⟩
  rw [hsd'] at hsd c7
  try rw [hsd'] at HMK
  clear hpl hcs hsd' HC7 HPU S3
  clear x3 x7 c14 HPL HPA
  rcases hsd with rfl | rfl
  · go_wp2
    go_ret
    exact ⟨by rw [HMK.out]; first | rfl | simp, HB3.out.2⟩
  · go_wp2
    go_ret
    exact ⟨by rw [HMK.out]; first | rfl | simp, HB3.out.2⟩
set_option maxHeartbeats 4000000 in
theorem eetakes_up2 {w : World} {L : Lab} {K b : Nat} {s : EeS} {E : En} (h : EE w L K b s E) (hE : E.ok) (nu ofn fr : Int) (da : List Int) (fin : Bool) (se li : Int) (A : Option Addr) (c : Nat) (i : Nat) (hi : i < E.ps.length) (ho : Pkt.ok ⟨2, (i : Int), nu, ofn, fr, da, fin, se, li⟩ = true) (hu : (E.pa i).up = true) (hp : PktAt w ⟨2, (i : Int), nu, ofn, fr, da, fin, se, li⟩ A c) :
    Calls Tryz.prog 69 #[.pointer (some ⟨b, 0, none⟩), .agg #[.int .i64 2, .int .i64 (i : Int), .int .i64 nu, .int .i64 ofn, .int .i64 fr, .slice A da.length c, .bool fin, .int .i64 se, .int .i64 li]] w fun e w' => e = .returned (.bool (E.mayK ⟨2, (i : Int), nu, ofn, fr, da, fin, se, li⟩ i)) ∧ Below w.heap.size w w' := by
  obtain ⟨w0, hw0⟩ : ∃ w0, w.alloc (.cells #[.int .i64 2, .int .i64 (i : Int), .int .i64 nu, .int .i64 ofn, .int .i64 fr, .slice A da.length c, .bool fin, .int .i64 se, .int .i64 li] 32) = w0 := ⟨_, rfl⟩
  have hr0 : w0.rangeAt w.heap.size 0 (Pkt.cs ⟨2, (i : Int), nu, ofn, fr, da, fin, se, li⟩ A c) := by rw [← hw0]; exact Pkt.range w ⟨2, (i : Int), nu, ofn, fr, da, fin, se, li⟩ A c _
  have hb0 : Below w.heap.size w w0 := by rw [← hw0]; exact (Below.refl _ _).alloc (Nat.le_refl _) _
  have hz0 : w0.heap.size = w.heap.size + 1 := by rw [← hw0]; simp
  obtain ⟨W, hW⟩ : ∃ W, w0.drew = W := ⟨_, rfl⟩
  have hbW : Below w.heap.size w W := by rw [← hW]; exact hb0.drew
  have hzW : W.heap.size = w.heap.size + 1 := by rw [← hW]; exact hz0
  have hrW : W.rangeAt w.heap.size 0 (Pkt.cs ⟨2, (i : Int), nu, ofn, fr, da, fin, se, li⟩ A c) := by rw [← hW]; exact hr0
  have hck := checkP_any ⟨2, (i : Int), nu, ofn, fr, da, fin, se, li⟩ A c W (hp.later hbW)
  rw [ho] at hck
  have hh := h.grow hbW 0
  have HV := Lib.hid (show (Pkt.cs ⟨2, (i : Int), nu, ofn, fr, da, fin, se, li⟩ A c).toArray = #[.int .i64 2, .int .i64 (i : Int), .int .i64 nu, .int .i64 ofn, .int .i64 fr, .slice A da.length c, .bool fin, .int .i64 se, .int .i64 li] from rfl)
  obtain ⟨b0, hb0'⟩ : ∃ b0, w.heap.size = b0 := ⟨_, rfl⟩
  rw [hb0'] at hrW hzW hr0
  have z1 : W.cell? ⟨b0, 0 + 1, none⟩ = some (.int .i64 (i : Int)) := hrW 1 _ rfl
  obtain ⟨n, hn⟩ : ∃ n, E.ps.length = n := ⟨_, rfl⟩
  obtain ⟨g, cp, hpv, c10, hg, _, _⟩ := hh.look hn (i := i) (by omega)
  have y := hg i (by omega)
  obtain ⟨q, hq⟩ := hh
  obtain ⟨pb, hpb⟩ : ∃ pb, s.pb.getD i 0 = pb := ⟨_, rfl⟩
  rw [hpb] at y
  have HPU := Lib.hid (show ∀ w1, Below W.heap.size W w1 → PaAt w1 0 pb (s.pg i) (s.pw i) (s.pf i) (q.fv i) (E.pa i) from fun w1 hb1 => by rw [← hpb]; exact (hq.pth i hi).later hb1)
  have HHAS := Lib.hid (show ∀ w1, Below W.heap.size W w1 → Calls Tryz.prog 94 #[.pointer (some ⟨b, 0, none⟩), .int .i64 (i : Int)] w1 fun e w' => e = .returned (.bool true) ∧ w1 = w' from fun w1 hb1 => by rw [← En.there_yes hi]; exact eehas_any (EE.grow ⟨q, hq⟩ hb1 0) hE (i : Int))
  have hsd := hE.side
  have HC7 := Lib.hid (show ∀ w1, Below W.heap.size W w1 → w1.cell? ⟨b, 0 + 7, none⟩ = some (.int .i64 E.side) ∧ w1.cell? ⟨b, 0 + 14, none⟩ = some (.pointer (some ⟨s.pl, 0, none⟩)) ∧ PlanAt w1 0 s.pl s.plq q.lv E.pl from fun w1 hb1 => ⟨cell_later hb1 (hq.cell 7 (by omega)), cell_later hb1 (hq.cell 14 (by omega)), hq.p.pln.later hb1⟩)
  have i1 : (i : Int) < (n : Int) := by omega
  have i2 : (0 : Int) ≤ (i : Int) := by omega
  have S0 := Lib.hid (show W.rangeAt b0 0 (Pkt.cs ⟨2, (i : Int), nu, ofn, fr, da, fin, se, li⟩ A c) ∧ W.cell? ⟨b0, 0 + 1, none⟩ = some (.int .i64 (i : Int)) ∧ W.cell? ⟨b, 0 + 10, none⟩ = some (.slice (some ⟨g, 0, none⟩) n cp) ∧ W.cell? ⟨g, i, none⟩ = some (.pointer (some ⟨pb, 0, none⟩)) from ⟨hrW, z1, c10, y⟩)
  have HU := Lib.hid hu
  clear hpv hg hq hpb hn hi hu c10 y
  have HCK := Lib.hid (show Calls Tryz.prog 146 #[.agg #[.int .i64 2, .int .i64 (i : Int), .int .i64 nu, .int .i64 ofn, .int .i64 fr, .slice A da.length c, .bool fin, .int .i64 se, .int .i64 li]] W fun e w' => e = .returned (.int .i64 0) ∧ Below W.heap.size W w' from hck)
  have HBW := Lib.hid (And.intro hbW (And.intro hzW hb0'))
  clear hck hbW hzW hr0 hb0 hz0 hrW z1 h hE hp ho
  go_enter Tryz.func69, Tryz.ntmps69
  go_wp2_with fail
  try rw [hb0']
  refine wp_region_held_drew (S := fun wi => wi.rangeAt b0 0 (Pkt.cs ⟨2, (i : Int), nu, ofn, fr, da, fin, se, li⟩ A c) ∧ wi.cell? ⟨b0, 0 + 1, none⟩ = some (.int .i64 (i : Int)) ∧ wi.cell? ⟨b, 0 + 10, none⟩ = some (.slice (some ⟨g, 0, none⟩) n cp) ∧ wi.cell? ⟨g, i, none⟩ = some (.pointer (some ⟨pb, 0, none⟩))) (by kernel_rfl) (by rw [hW]; exact S0.out) ?_
  intro hHeld
  rw [hW] at hHeld ⊢
  clear hw0 hW hb0'
  refine wpAnyH_take (i := 0) (v := .agg (Pkt.cs ⟨2, (i : Int), nu, ofn, fr, da, fin, se, li⟩ A c).toArray) rfl (by kernel_rfl) (by kernel_rfl) (by kernel_rfl) (fun _ _ _ h => h) (yieldsIf_load_mid (by rfl) 32 (.tmp 3) rfl _ _ rfl (Pkt.cs ⟨2, (i : Int), nu, ofn, fr, da, fin, se, li⟩ A c) _ (fun w2 h2 => h2.1) Tryz.underlying32 rfl (by kernel_rfl)) (by assumption) ?_
  try simp only [Act.put, List.getElem_toArray, List.getElem_cons_zero, List.setIfInBounds_toArray, List.set_cons_zero, List.set_cons_succ]
  rw [HV.out]
  refine wpAnyH_ready (rs := [1]) (by kernel_rfl) (by simp) ?_
  refine AllReadyH.cons rfl (fun K2 hK2 => ?_) AllReadyH.nil
  go_simp
  refine HCK.out.mono ?_
  rintro e w1 ⟨rfl, hb1⟩
  obtain ⟨hbW, hzW, hb0'⟩ := HBW.out
  have S1 := Lib.hid (show w1.rangeAt b0 0 (Pkt.cs ⟨2, (i : Int), nu, ofn, fr, da, fin, se, li⟩ A c) ∧ w1.cell? ⟨b0, 0 + 1, none⟩ = some (.int .i64 (i : Int)) ∧ w1.cell? ⟨b, 0 + 10, none⟩ = some (.slice (some ⟨g, 0, none⟩) n cp) ∧ w1.cell? ⟨g, i, none⟩ = some (.pointer (some ⟨pb, 0, none⟩)) from ⟨rangeAt_later S0.out.1 hb1 (by omega), cell_later hb1 S0.out.2.1, cell_later hb1 S0.out.2.2.1, cell_later hb1 S0.out.2.2.2⟩)
  have HB1 := Lib.hid (And.intro hb1 (hbW.trans (hb1.mono hbW.size)))
  clear hb1 hbW hzW hb0' HCK S0 HBW
  try go_wp2_with fail
  refine hK2.out _ _ S1.out (fun hHeld2 => ?_)
  clear hK2 K2 hHeld
  have hHeld := hHeld2
  clear hHeld2
  try simp only [Act.put, List.getElem_toArray, List.getElem_cons_zero, List.getElem_cons_succ, List.setIfInBounds_toArray, List.set_cons_zero, List.set_cons_succ]
  refine tkH 2 ?_
  refine tkH 3 ?_
  refine tkH 4 ?_
  refine tkH 5 ?_
  refine tkH 6 ?_
  refine wpAnyH_ready (rs := [7]) (by kernel_rfl) (by simp) ?_
  refine AllReadyH.cons rfl (fun K2 hK2 => ?_) AllReadyH.nil
  go_simp
  refine (HHAS.out w1 HB1.out.1).mono ?_
  rintro e w2 ⟨rfl, rfl⟩
  try go_wp2_with fail
  refine hK2.out _ _ S1.out (fun hHeld2 => ?_)
  clear hK2 K2 hHeld
  have hHeld := hHeld2
  clear hHeld2
  try simp only [Act.put, List.getElem_toArray, List.getElem_cons_zero, List.getElem_cons_succ, List.setIfInBounds_toArray, List.set_cons_zero, List.set_cons_succ]
  refine tkH 8 ?_
  refine tkH 9 ?_
  refine tkH 10 ?_
  refine tkH 11 ?_
  refine tkH 12 ?_
  refine tkH 13 ?_
  refine tkH 14 ?_
  refine tkH 15 ?_
  refine tkH 16 ?_
  refine tkH 17 ?_
  refine tkH 18 ?_
  refine wpAnyH_ready (rs := [19]) (by kernel_rfl) (by simp) ?_
  refine AllReadyH.cons rfl (fun K2 hK2 => ?_) AllReadyH.nil
  go_simp
  refine (paisup_any (HPU.out w1 HB1.out.1)).mono ?_
  rintro e w2 ⟨rfl, k5, rfl⟩
  rw [HU.out]
  try go_wp2_with fail
  have S2 := Lib.hid (show (w1.drewN k5).rangeAt b0 0 (Pkt.cs ⟨2, (i : Int), nu, ofn, fr, da, fin, se, li⟩ A c) ∧ (w1.drewN k5).cell? ⟨b0, 0 + 1, none⟩ = some (.int .i64 (i : Int)) ∧ (w1.drewN k5).cell? ⟨b, 0 + 10, none⟩ = some (.slice (some ⟨g, 0, none⟩) n cp) ∧ (w1.drewN k5).cell? ⟨g, i, none⟩ = some (.pointer (some ⟨pb, 0, none⟩)) from S1.out)
  have HB2 := Lib.hid (show Below W.heap.size W (w1.drewN k5) ∧ Below w.heap.size w (w1.drewN k5) from ⟨below_drewN' HB1.out.1 k5, below_drewN' HB1.out.2 k5⟩)
  obtain ⟨w2, hw2⟩ : ∃ w2, w1.drewN k5 = w2 := ⟨_, rfl⟩
  rw [hw2] at S2 HB2 ⊢
  clear hw2 S1 HB1 HHAS
  refine hK2.out _ _ S2.out (fun hHeld2 => ?_)
  clear hK2 K2 hHeld
  have hHeld := hHeld2
  clear hHeld2
  try simp only [Act.put, List.getElem_toArray, List.getElem_cons_zero, List.getElem_cons_succ, List.setIfInBounds_toArray, List.set_cons_zero, List.set_cons_succ]
  refine tkH 20 ?_
  refine tkH 21 ?_
  refine wpAnyH_done (by kernel_rfl) ?_ _
  clear hHeld
  go_wp2_with fail
  refine wp_region_held_drew (S := fun wi => wi.rangeAt b0 0 (Pkt.cs ⟨2, (i : Int), nu, ofn, fr, da, fin, se, li⟩ A c) ∧ wi.cell? ⟨b0, 0 + 1, none⟩ = some (.int .i64 (i : Int)) ∧ wi.cell? ⟨b, 0 + 10, none⟩ = some (.slice (some ⟨g, 0, none⟩) n cp) ∧ wi.cell? ⟨g, i, none⟩ = some (.pointer (some ⟨pb, 0, none⟩))) (by kernel_rfl) S2.out ?_
  intro hHeld
  refine tkH 0 ?_
  refine tkH 1 ?_
  refine tkH 2 ?_
  refine tkH 3 ?_
  refine tkH 4 ?_
  refine tkH 5 ?_
  refine tkH 6 ?_
  refine tkH 7 ?_
  refine tkH 8 ?_
  refine wpAnyH_done (by kernel_rfl) ?_ _
  clear hHeld
  have HB3 := Lib.hid (show Below W.heap.size W w2.drew ∧ Below w.heap.size w w2.drew from ⟨HB2.out.1.drew, HB2.out.2.drew⟩)
  obtain ⟨w3, hw3⟩ : ∃ w3, w2.drew = w3 := ⟨_, rfl⟩
  have S3 := Lib.hid (show w3.rangeAt b0 0 (Pkt.cs ⟨2, (i : Int), nu, ofn, fr, da, fin, se, li⟩ A c) ∧ w3.cell? ⟨b0, 0 + 1, none⟩ = some (.int .i64 (i : Int)) ∧ w3.cell? ⟨b, 0 + 10, none⟩ = some (.slice (some ⟨g, 0, none⟩) n cp) ∧ w3.cell? ⟨g, i, none⟩ = some (.pointer (some ⟨pb, 0, none⟩)) by rw [← hw3]; exact S2.out)
  rw [hw3] at HB3 ⊢
  clear hw3 S2 HB2
  obtain ⟨c7, c14, hpl⟩ := HC7.out w3 HB3.out.1
  have HPA := Lib.hid (HPU.out w3 HB3.out.1)
  have HPL := Lib.hid hpl
  have hcs := S3.out.1
  have x0 : w3.cell? ⟨b0, 0, none⟩ = some (.int .i64 2) := hcs 0 _ rfl
  have x3 : w3.cell? ⟨b0, 0 + 3, none⟩ = some (.int .i64 ofn) := hcs 3 _ rfl
  have x7 : w3.cell? ⟨b0, 0 + 7, none⟩ = some (.int .i64 se) := hcs 7 _ rfl
  have HMK := Lib.hid (show En.mayK E ⟨2, (i : Int), nu, ofn, fr, da, fin, se, li⟩ i = (decide (E.side = 0) && decide (ofn < (E.pa i).sent)) from rfl)
  obtain ⟨sd, hsd'⟩ : ∃ x, E.side = x := ⟨_, rfl⟩
  rw [hsd'] at hsd c7
  try rw [hsd'] at HMK
  clear hpl hcs hsd' HC7 HPU S3
  clear x7 c14 HPL
  obtain ⟨sn, hsn⟩ : ∃ x, (E.pa i).sent = x := ⟨_, rfl⟩
  have HSE := Lib.hid (show Calls Tryz.prog 147 #[.pointer (some ⟨pb, 0, none⟩)] (w3.drewN 1) fun e w' => e = .returned (.int .i64 sn) ∧ ∃ k, w' = (w3.drewN 1).drewN k by rw [← hsn]; exact pasent_any (HPA.out.drewN 1))
  rw [hsn] at HMK
  clear hsn HPA
  have S4 := Lib.hid (And.intro c7 x3)
  rcases hsd with rfl | rfl
  · go_wp2_with fail
    refine wp_region_held_drew (S := fun wi => wi.cell? ⟨b, 0 + 7, none⟩ = some (.int .i64 0) ∧ wi.cell? ⟨b0, 0 + 3, none⟩ = some (.int .i64 ofn)) (by kernel_rfl) S4.out ?_
    intro hHeld
    clear c7 x3 x0
    refine tkH 0 ?_
    refine tkH 1 ?_
    refine tkH 2 ?_
    refine tkH 3 ?_
    refine tkH 4 ?_
    refine tkH 5 ?_
    refine tkH 6 ?_
    refine tkH 7 ?_
    refine tkH 8 ?_
    refine wpAnyH_ready (rs := [9]) (by kernel_rfl) (by simp) ?_
    refine AllReadyH.cons rfl (fun K2 hK2 => ?_) AllReadyH.nil
    go_simp
    refine HSE.out.mono ?_
    rintro e w4 ⟨rfl, k6, rfl⟩
    try go_wp2_with fail
    refine hK2.out _ _ S4.out (fun hHeld2 => ?_)
    clear hK2 K2 hHeld
    have hHeld := hHeld2
    clear hHeld2
    try simp only [Act.put, List.getElem_toArray, List.getElem_cons_zero, List.getElem_cons_succ, List.setIfInBounds_toArray, List.set_cons_zero, List.set_cons_succ]
    by_cases hlt : ofn < sn
    · have hl1 : decide (ofn < sn) = true := decide_eq_true hlt
      refine tkH 10 ?_
      refine tkH 11 ?_
      refine tkH 12 ?_
      refine wpAnyH_done (by kernel_rfl) ?_ _
      clear hHeld
      go_wp2
      go_ret
      exact ⟨by rw [HMK.out]; simp [hlt], below_drewN' HB3.out.2 (1 + k6)⟩
    · have hl1 : decide (ofn < sn) = false := decide_eq_false hlt
      refine tkH 10 ?_
      refine tkH 11 ?_
      refine tkH 12 ?_
      refine wpAnyH_done (by kernel_rfl) ?_ _
      clear hHeld
      go_wp2
      go_ret
      exact ⟨by rw [HMK.out]; simp [hlt], below_drewN' HB3.out.2 (1 + k6)⟩
  · go_wp2_with fail
    refine wp_region_held_drew (S := fun wi => wi.cell? ⟨b, 0 + 7, none⟩ = some (.int .i64 1) ∧ wi.cell? ⟨b0, 0 + 3, none⟩ = some (.int .i64 ofn)) (by kernel_rfl) S4.out ?_
    intro hHeld
    clear c7 x3 x0
    refine tkH 0 ?_
    refine tkH 1 ?_
    refine tkH 2 ?_
    refine tkH 3 ?_
    refine tkH 4 ?_
    refine tkH 5 ?_
    refine wpAnyH_take (i := 6) (v := undef) rfl (by kernel_rfl) (by kernel_rfl) (by kernel_rfl) (fun _ _ _ h => h) (Or.inr ⟨by rfl, rfl⟩) (by assumption) ?_
    try simp only [Act.put, List.getElem_toArray, List.getElem_cons_zero, List.getElem_cons_succ, List.setIfInBounds_toArray, List.set_cons_zero, List.set_cons_succ]
    refine wpAnyH_take (i := 7) (v := undef) rfl (by kernel_rfl) (by kernel_rfl) (by kernel_rfl) (fun _ _ _ h => h) (Or.inr ⟨by rfl, rfl⟩) (by assumption) ?_
    try simp only [Act.put, List.getElem_toArray, List.getElem_cons_zero, List.getElem_cons_succ, List.setIfInBounds_toArray, List.set_cons_zero, List.set_cons_succ]
    refine wpAnyH_take (i := 8) (v := undef) rfl (by kernel_rfl) (by kernel_rfl) (by kernel_rfl) (fun _ _ _ h => h) (Or.inr ⟨by rfl, rfl⟩) (by assumption) ?_
    try simp only [Act.put, List.getElem_toArray, List.getElem_cons_zero, List.getElem_cons_succ, List.setIfInBounds_toArray, List.set_cons_zero, List.set_cons_succ]
    refine wpAnyH_take (i := 9) (v := undef) rfl (by kernel_rfl) (by kernel_rfl) (by kernel_rfl) (fun _ _ _ h => h) (Or.inr ⟨by rfl, rfl⟩) (by assumption) ?_
    try simp only [Act.put, List.getElem_toArray, List.getElem_cons_zero, List.getElem_cons_succ, List.setIfInBounds_toArray, List.set_cons_zero, List.set_cons_succ]
    refine wpAnyH_take (i := 10) (v := undef) rfl (by kernel_rfl) (by kernel_rfl) (by kernel_rfl) (fun _ _ _ h => h) (Or.inr ⟨by rfl, rfl⟩) (by assumption) ?_
    try simp only [Act.put, List.getElem_toArray, List.getElem_cons_zero, List.getElem_cons_succ, List.setIfInBounds_toArray, List.set_cons_zero, List.set_cons_succ]
    refine tkH 11 ?_
    refine tkH 12 ?_
    refine wpAnyH_done (by kernel_rfl) ?_ _
    clear hHeld
    go_wp2
    go_ret
    exact ⟨by rw [HMK.out]; simp, below_drewN' HB3.out.2 1⟩
set_option maxHeartbeats 4000000 in
theorem eetakes_up3 {w : World} {L : Lab} {K b : Nat} {s : EeS} {E : En} (h : EE w L K b s E) (hE : E.ok) (nu ofn fr : Int) (da : List Int) (fin : Bool) (se li : Int) (A : Option Addr) (c : Nat) (i : Nat) (hi : i < E.ps.length) (ho : Pkt.ok ⟨3, (i : Int), nu, ofn, fr, da, fin, se, li⟩ = true) (hu : (E.pa i).up = true) (hp : PktAt w ⟨3, (i : Int), nu, ofn, fr, da, fin, se, li⟩ A c) :
    Calls Tryz.prog 69 #[.pointer (some ⟨b, 0, none⟩), .agg #[.int .i64 3, .int .i64 (i : Int), .int .i64 nu, .int .i64 ofn, .int .i64 fr, .slice A da.length c, .bool fin, .int .i64 se, .int .i64 li]] w fun e w' => e = .returned (.bool (E.mayK ⟨3, (i : Int), nu, ofn, fr, da, fin, se, li⟩ i)) ∧ Below w.heap.size w w' := by
  obtain ⟨w0, hw0⟩ : ∃ w0, w.alloc (.cells #[.int .i64 3, .int .i64 (i : Int), .int .i64 nu, .int .i64 ofn, .int .i64 fr, .slice A da.length c, .bool fin, .int .i64 se, .int .i64 li] 32) = w0 := ⟨_, rfl⟩
  have hr0 : w0.rangeAt w.heap.size 0 (Pkt.cs ⟨3, (i : Int), nu, ofn, fr, da, fin, se, li⟩ A c) := by rw [← hw0]; exact Pkt.range w ⟨3, (i : Int), nu, ofn, fr, da, fin, se, li⟩ A c _
  have hb0 : Below w.heap.size w w0 := by rw [← hw0]; exact (Below.refl _ _).alloc (Nat.le_refl _) _
  have hz0 : w0.heap.size = w.heap.size + 1 := by rw [← hw0]; simp
  obtain ⟨W, hW⟩ : ∃ W, w0.drew = W := ⟨_, rfl⟩
  have hbW : Below w.heap.size w W := by rw [← hW]; exact hb0.drew
  have hzW : W.heap.size = w.heap.size + 1 := by rw [← hW]; exact hz0
  have hrW : W.rangeAt w.heap.size 0 (Pkt.cs ⟨3, (i : Int), nu, ofn, fr, da, fin, se, li⟩ A c) := by rw [← hW]; exact hr0
  have hck := checkP_any ⟨3, (i : Int), nu, ofn, fr, da, fin, se, li⟩ A c W (hp.later hbW)
  rw [ho] at hck
  have hh := h.grow hbW 0
  have HV := Lib.hid (show (Pkt.cs ⟨3, (i : Int), nu, ofn, fr, da, fin, se, li⟩ A c).toArray = #[.int .i64 3, .int .i64 (i : Int), .int .i64 nu, .int .i64 ofn, .int .i64 fr, .slice A da.length c, .bool fin, .int .i64 se, .int .i64 li] from rfl)
  obtain ⟨b0, hb0'⟩ : ∃ b0, w.heap.size = b0 := ⟨_, rfl⟩
  rw [hb0'] at hrW hzW hr0
  have z1 : W.cell? ⟨b0, 0 + 1, none⟩ = some (.int .i64 (i : Int)) := hrW 1 _ rfl
  obtain ⟨n, hn⟩ : ∃ n, E.ps.length = n := ⟨_, rfl⟩
  obtain ⟨g, cp, hpv, c10, hg, _, _⟩ := hh.look hn (i := i) (by omega)
  have y := hg i (by omega)
  obtain ⟨q, hq⟩ := hh
  obtain ⟨pb, hpb⟩ : ∃ pb, s.pb.getD i 0 = pb := ⟨_, rfl⟩
  rw [hpb] at y
  have HPU := Lib.hid (show ∀ w1, Below W.heap.size W w1 → PaAt w1 0 pb (s.pg i) (s.pw i) (s.pf i) (q.fv i) (E.pa i) from fun w1 hb1 => by rw [← hpb]; exact (hq.pth i hi).later hb1)
  have HHAS := Lib.hid (show ∀ w1, Below W.heap.size W w1 → Calls Tryz.prog 94 #[.pointer (some ⟨b, 0, none⟩), .int .i64 (i : Int)] w1 fun e w' => e = .returned (.bool true) ∧ w1 = w' from fun w1 hb1 => by rw [← En.there_yes hi]; exact eehas_any (EE.grow ⟨q, hq⟩ hb1 0) hE (i : Int))
  have hsd := hE.side
  have HC7 := Lib.hid (show ∀ w1, Below W.heap.size W w1 → w1.cell? ⟨b, 0 + 7, none⟩ = some (.int .i64 E.side) ∧ w1.cell? ⟨b, 0 + 14, none⟩ = some (.pointer (some ⟨s.pl, 0, none⟩)) ∧ PlanAt w1 0 s.pl s.plq q.lv E.pl from fun w1 hb1 => ⟨cell_later hb1 (hq.cell 7 (by omega)), cell_later hb1 (hq.cell 14 (by omega)), hq.p.pln.later hb1⟩)
  have i1 : (i : Int) < (n : Int) := by omega
  have i2 : (0 : Int) ≤ (i : Int) := by omega
  have S0 := Lib.hid (show W.rangeAt b0 0 (Pkt.cs ⟨3, (i : Int), nu, ofn, fr, da, fin, se, li⟩ A c) ∧ W.cell? ⟨b0, 0 + 1, none⟩ = some (.int .i64 (i : Int)) ∧ W.cell? ⟨b, 0 + 10, none⟩ = some (.slice (some ⟨g, 0, none⟩) n cp) ∧ W.cell? ⟨g, i, none⟩ = some (.pointer (some ⟨pb, 0, none⟩)) from ⟨hrW, z1, c10, y⟩)
  have HU := Lib.hid hu
  clear hpv hg hq hpb hn hi hu c10 y
  have HCK := Lib.hid (show Calls Tryz.prog 146 #[.agg #[.int .i64 3, .int .i64 (i : Int), .int .i64 nu, .int .i64 ofn, .int .i64 fr, .slice A da.length c, .bool fin, .int .i64 se, .int .i64 li]] W fun e w' => e = .returned (.int .i64 0) ∧ Below W.heap.size W w' from hck)
  have HBW := Lib.hid (And.intro hbW (And.intro hzW hb0'))
  clear hck hbW hzW hr0 hb0 hz0 hrW z1 h hE hp ho
  go_enter Tryz.func69, Tryz.ntmps69
  go_wp2_with fail
  try rw [hb0']
  refine wp_region_held_drew (S := fun wi => wi.rangeAt b0 0 (Pkt.cs ⟨3, (i : Int), nu, ofn, fr, da, fin, se, li⟩ A c) ∧ wi.cell? ⟨b0, 0 + 1, none⟩ = some (.int .i64 (i : Int)) ∧ wi.cell? ⟨b, 0 + 10, none⟩ = some (.slice (some ⟨g, 0, none⟩) n cp) ∧ wi.cell? ⟨g, i, none⟩ = some (.pointer (some ⟨pb, 0, none⟩))) (by kernel_rfl) (by rw [hW]; exact S0.out) ?_
  intro hHeld
  rw [hW] at hHeld ⊢
  clear hw0 hW hb0'
  refine wpAnyH_take (i := 0) (v := .agg (Pkt.cs ⟨3, (i : Int), nu, ofn, fr, da, fin, se, li⟩ A c).toArray) rfl (by kernel_rfl) (by kernel_rfl) (by kernel_rfl) (fun _ _ _ h => h) (yieldsIf_load_mid (by rfl) 32 (.tmp 3) rfl _ _ rfl (Pkt.cs ⟨3, (i : Int), nu, ofn, fr, da, fin, se, li⟩ A c) _ (fun w2 h2 => h2.1) Tryz.underlying32 rfl (by kernel_rfl)) (by assumption) ?_
  try simp only [Act.put, List.getElem_toArray, List.getElem_cons_zero, List.setIfInBounds_toArray, List.set_cons_zero, List.set_cons_succ]
  rw [HV.out]
  refine wpAnyH_ready (rs := [1]) (by kernel_rfl) (by simp) ?_
  refine AllReadyH.cons rfl (fun K2 hK2 => ?_) AllReadyH.nil
  go_simp
  refine HCK.out.mono ?_
  rintro e w1 ⟨rfl, hb1⟩
  obtain ⟨hbW, hzW, hb0'⟩ := HBW.out
  have S1 := Lib.hid (show w1.rangeAt b0 0 (Pkt.cs ⟨3, (i : Int), nu, ofn, fr, da, fin, se, li⟩ A c) ∧ w1.cell? ⟨b0, 0 + 1, none⟩ = some (.int .i64 (i : Int)) ∧ w1.cell? ⟨b, 0 + 10, none⟩ = some (.slice (some ⟨g, 0, none⟩) n cp) ∧ w1.cell? ⟨g, i, none⟩ = some (.pointer (some ⟨pb, 0, none⟩)) from ⟨rangeAt_later S0.out.1 hb1 (by omega), cell_later hb1 S0.out.2.1, cell_later hb1 S0.out.2.2.1, cell_later hb1 S0.out.2.2.2⟩)
  have HB1 := Lib.hid (And.intro hb1 (hbW.trans (hb1.mono hbW.size)))
  clear hb1 hbW hzW hb0' HCK S0 HBW
  try go_wp2_with fail
  refine hK2.out _ _ S1.out (fun hHeld2 => ?_)
  clear hK2 K2 hHeld
  have hHeld := hHeld2
  clear hHeld2
  try simp only [Act.put, List.getElem_toArray, List.getElem_cons_zero, List.getElem_cons_succ, List.setIfInBounds_toArray, List.set_cons_zero, List.set_cons_succ]
  refine tkH 2 ?_
  refine tkH 3 ?_
  refine tkH 4 ?_
  refine tkH 5 ?_
  refine tkH 6 ?_
  refine wpAnyH_ready (rs := [7]) (by kernel_rfl) (by simp) ?_
  refine AllReadyH.cons rfl (fun K2 hK2 => ?_) AllReadyH.nil
  go_simp
  refine (HHAS.out w1 HB1.out.1).mono ?_
  rintro e w2 ⟨rfl, rfl⟩
  try go_wp2_with fail
  refine hK2.out _ _ S1.out (fun hHeld2 => ?_)
  clear hK2 K2 hHeld
  have hHeld := hHeld2
  clear hHeld2
  try simp only [Act.put, List.getElem_toArray, List.getElem_cons_zero, List.getElem_cons_succ, List.setIfInBounds_toArray, List.set_cons_zero, List.set_cons_succ]
  refine tkH 8 ?_
  refine tkH 9 ?_
  refine tkH 10 ?_
  refine tkH 11 ?_
  refine tkH 12 ?_
  refine tkH 13 ?_
  refine tkH 14 ?_
  refine tkH 15 ?_
  refine tkH 16 ?_
  refine tkH 17 ?_
  refine tkH 18 ?_
  refine wpAnyH_ready (rs := [19]) (by kernel_rfl) (by simp) ?_
  refine AllReadyH.cons rfl (fun K2 hK2 => ?_) AllReadyH.nil
  go_simp
  refine (paisup_any (HPU.out w1 HB1.out.1)).mono ?_
  rintro e w2 ⟨rfl, k5, rfl⟩
  rw [HU.out]
  try go_wp2_with fail
  have S2 := Lib.hid (show (w1.drewN k5).rangeAt b0 0 (Pkt.cs ⟨3, (i : Int), nu, ofn, fr, da, fin, se, li⟩ A c) ∧ (w1.drewN k5).cell? ⟨b0, 0 + 1, none⟩ = some (.int .i64 (i : Int)) ∧ (w1.drewN k5).cell? ⟨b, 0 + 10, none⟩ = some (.slice (some ⟨g, 0, none⟩) n cp) ∧ (w1.drewN k5).cell? ⟨g, i, none⟩ = some (.pointer (some ⟨pb, 0, none⟩)) from S1.out)
  have HB2 := Lib.hid (show Below W.heap.size W (w1.drewN k5) ∧ Below w.heap.size w (w1.drewN k5) from ⟨below_drewN' HB1.out.1 k5, below_drewN' HB1.out.2 k5⟩)
  obtain ⟨w2, hw2⟩ : ∃ w2, w1.drewN k5 = w2 := ⟨_, rfl⟩
  rw [hw2] at S2 HB2 ⊢
  clear hw2 S1 HB1 HHAS
  refine hK2.out _ _ S2.out (fun hHeld2 => ?_)
  clear hK2 K2 hHeld
  have hHeld := hHeld2
  clear hHeld2
  try simp only [Act.put, List.getElem_toArray, List.getElem_cons_zero, List.getElem_cons_succ, List.setIfInBounds_toArray, List.set_cons_zero, List.set_cons_succ]
  refine tkH 20 ?_
  refine tkH 21 ?_
  refine wpAnyH_done (by kernel_rfl) ?_ _
  clear hHeld
  go_wp2_with fail
  refine wp_region_held_drew (S := fun wi => wi.rangeAt b0 0 (Pkt.cs ⟨3, (i : Int), nu, ofn, fr, da, fin, se, li⟩ A c) ∧ wi.cell? ⟨b0, 0 + 1, none⟩ = some (.int .i64 (i : Int)) ∧ wi.cell? ⟨b, 0 + 10, none⟩ = some (.slice (some ⟨g, 0, none⟩) n cp) ∧ wi.cell? ⟨g, i, none⟩ = some (.pointer (some ⟨pb, 0, none⟩))) (by kernel_rfl) S2.out ?_
  intro hHeld
  refine tkH 0 ?_
  refine tkH 1 ?_
  refine tkH 2 ?_
  refine tkH 3 ?_
  refine tkH 4 ?_
  refine tkH 5 ?_
  refine tkH 6 ?_
  refine tkH 7 ?_
  refine tkH 8 ?_
  refine wpAnyH_done (by kernel_rfl) ?_ _
  clear hHeld
  have HB3 := Lib.hid (show Below W.heap.size W w2.drew ∧ Below w.heap.size w w2.drew from ⟨HB2.out.1.drew, HB2.out.2.drew⟩)
  obtain ⟨w3, hw3⟩ : ∃ w3, w2.drew = w3 := ⟨_, rfl⟩
  have S3 := Lib.hid (show w3.rangeAt b0 0 (Pkt.cs ⟨3, (i : Int), nu, ofn, fr, da, fin, se, li⟩ A c) ∧ w3.cell? ⟨b0, 0 + 1, none⟩ = some (.int .i64 (i : Int)) ∧ w3.cell? ⟨b, 0 + 10, none⟩ = some (.slice (some ⟨g, 0, none⟩) n cp) ∧ w3.cell? ⟨g, i, none⟩ = some (.pointer (some ⟨pb, 0, none⟩)) by rw [← hw3]; exact S2.out)
  rw [hw3] at HB3 ⊢
  clear hw3 S2 HB2
  obtain ⟨c7, c14, hpl⟩ := HC7.out w3 HB3.out.1
  have HPA := Lib.hid (HPU.out w3 HB3.out.1)
  have HPL := Lib.hid hpl
  have hcs := S3.out.1
  have x0 : w3.cell? ⟨b0, 0, none⟩ = some (.int .i64 3) := hcs 0 _ rfl
  have x3 : w3.cell? ⟨b0, 0 + 3, none⟩ = some (.int .i64 ofn) := hcs 3 _ rfl
  have x7 : w3.cell? ⟨b0, 0 + 7, none⟩ = some (.int .i64 se) := hcs 7 _ rfl
  have HMK := Lib.hid (show En.mayK E ⟨3, (i : Int), nu, ofn, fr, da, fin, se, li⟩ i = (E.pa i).jo from rfl)
  obtain ⟨sd, hsd'⟩ : ∃ x, E.side = x := ⟨_, rfl⟩
  rw [hsd'] at hsd c7
  try rw [hsd'] at HMK
  clear hpl hcs hsd' HC7 HPU S3
  clear x3 x7 c7 c14 HPL hsd
  go_wp2_with fail
  refine (pajoined_any HPA.out).mono ?_
  rintro e w4 ⟨rfl, k6, rfl⟩
  go_wp2
  go_ret
  exact ⟨by rw [HMK.out]; first | rfl | simp, below_drewN' HB3.out.2 k6⟩
set_option maxHeartbeats 4000000 in
theorem eetakes_up4 {w : World} {L : Lab} {K b : Nat} {s : EeS} {E : En} (h : EE w L K b s E) (hE : E.ok) (nu ofn fr : Int) (da : List Int) (fin : Bool) (se li : Int) (A : Option Addr) (c : Nat) (i : Nat) (hi : i < E.ps.length) (ho : Pkt.ok ⟨4, (i : Int), nu, ofn, fr, da, fin, se, li⟩ = true) (hu : (E.pa i).up = true) (hp : PktAt w ⟨4, (i : Int), nu, ofn, fr, da, fin, se, li⟩ A c) :
    Calls Tryz.prog 69 #[.pointer (some ⟨b, 0, none⟩), .agg #[.int .i64 4, .int .i64 (i : Int), .int .i64 nu, .int .i64 ofn, .int .i64 fr, .slice A da.length c, .bool fin, .int .i64 se, .int .i64 li]] w fun e w' => e = .returned (.bool (E.mayK ⟨4, (i : Int), nu, ofn, fr, da, fin, se, li⟩ i)) ∧ Below w.heap.size w w' := by
  obtain ⟨w0, hw0⟩ : ∃ w0, w.alloc (.cells #[.int .i64 4, .int .i64 (i : Int), .int .i64 nu, .int .i64 ofn, .int .i64 fr, .slice A da.length c, .bool fin, .int .i64 se, .int .i64 li] 32) = w0 := ⟨_, rfl⟩
  have hr0 : w0.rangeAt w.heap.size 0 (Pkt.cs ⟨4, (i : Int), nu, ofn, fr, da, fin, se, li⟩ A c) := by rw [← hw0]; exact Pkt.range w ⟨4, (i : Int), nu, ofn, fr, da, fin, se, li⟩ A c _
  have hb0 : Below w.heap.size w w0 := by rw [← hw0]; exact (Below.refl _ _).alloc (Nat.le_refl _) _
  have hz0 : w0.heap.size = w.heap.size + 1 := by rw [← hw0]; simp
  obtain ⟨W, hW⟩ : ∃ W, w0.drew = W := ⟨_, rfl⟩
  have hbW : Below w.heap.size w W := by rw [← hW]; exact hb0.drew
  have hzW : W.heap.size = w.heap.size + 1 := by rw [← hW]; exact hz0
  have hrW : W.rangeAt w.heap.size 0 (Pkt.cs ⟨4, (i : Int), nu, ofn, fr, da, fin, se, li⟩ A c) := by rw [← hW]; exact hr0
  have hck := checkP_any ⟨4, (i : Int), nu, ofn, fr, da, fin, se, li⟩ A c W (hp.later hbW)
  rw [ho] at hck
  have hh := h.grow hbW 0
  have HV := Lib.hid (show (Pkt.cs ⟨4, (i : Int), nu, ofn, fr, da, fin, se, li⟩ A c).toArray = #[.int .i64 4, .int .i64 (i : Int), .int .i64 nu, .int .i64 ofn, .int .i64 fr, .slice A da.length c, .bool fin, .int .i64 se, .int .i64 li] from rfl)
  obtain ⟨b0, hb0'⟩ : ∃ b0, w.heap.size = b0 := ⟨_, rfl⟩
  rw [hb0'] at hrW hzW hr0
  have z1 : W.cell? ⟨b0, 0 + 1, none⟩ = some (.int .i64 (i : Int)) := hrW 1 _ rfl
  obtain ⟨n, hn⟩ : ∃ n, E.ps.length = n := ⟨_, rfl⟩
  obtain ⟨g, cp, hpv, c10, hg, _, _⟩ := hh.look hn (i := i) (by omega)
  have y := hg i (by omega)
  obtain ⟨q, hq⟩ := hh
  obtain ⟨pb, hpb⟩ : ∃ pb, s.pb.getD i 0 = pb := ⟨_, rfl⟩
  rw [hpb] at y
  have HPU := Lib.hid (show ∀ w1, Below W.heap.size W w1 → PaAt w1 0 pb (s.pg i) (s.pw i) (s.pf i) (q.fv i) (E.pa i) from fun w1 hb1 => by rw [← hpb]; exact (hq.pth i hi).later hb1)
  have HHAS := Lib.hid (show ∀ w1, Below W.heap.size W w1 → Calls Tryz.prog 94 #[.pointer (some ⟨b, 0, none⟩), .int .i64 (i : Int)] w1 fun e w' => e = .returned (.bool true) ∧ w1 = w' from fun w1 hb1 => by rw [← En.there_yes hi]; exact eehas_any (EE.grow ⟨q, hq⟩ hb1 0) hE (i : Int))
  have hsd := hE.side
  have HC7 := Lib.hid (show ∀ w1, Below W.heap.size W w1 → w1.cell? ⟨b, 0 + 7, none⟩ = some (.int .i64 E.side) ∧ w1.cell? ⟨b, 0 + 14, none⟩ = some (.pointer (some ⟨s.pl, 0, none⟩)) ∧ PlanAt w1 0 s.pl s.plq q.lv E.pl from fun w1 hb1 => ⟨cell_later hb1 (hq.cell 7 (by omega)), cell_later hb1 (hq.cell 14 (by omega)), hq.p.pln.later hb1⟩)
  have i1 : (i : Int) < (n : Int) := by omega
  have i2 : (0 : Int) ≤ (i : Int) := by omega
  have S0 := Lib.hid (show W.rangeAt b0 0 (Pkt.cs ⟨4, (i : Int), nu, ofn, fr, da, fin, se, li⟩ A c) ∧ W.cell? ⟨b0, 0 + 1, none⟩ = some (.int .i64 (i : Int)) ∧ W.cell? ⟨b, 0 + 10, none⟩ = some (.slice (some ⟨g, 0, none⟩) n cp) ∧ W.cell? ⟨g, i, none⟩ = some (.pointer (some ⟨pb, 0, none⟩)) from ⟨hrW, z1, c10, y⟩)
  have HU := Lib.hid hu
  clear hpv hg hq hpb hn hi hu c10 y
  have HCK := Lib.hid (show Calls Tryz.prog 146 #[.agg #[.int .i64 4, .int .i64 (i : Int), .int .i64 nu, .int .i64 ofn, .int .i64 fr, .slice A da.length c, .bool fin, .int .i64 se, .int .i64 li]] W fun e w' => e = .returned (.int .i64 0) ∧ Below W.heap.size W w' from hck)
  have HBW := Lib.hid (And.intro hbW (And.intro hzW hb0'))
  clear hck hbW hzW hr0 hb0 hz0 hrW z1 h hE hp ho
  go_enter Tryz.func69, Tryz.ntmps69
  go_wp2_with fail
  try rw [hb0']
  refine wp_region_held_drew (S := fun wi => wi.rangeAt b0 0 (Pkt.cs ⟨4, (i : Int), nu, ofn, fr, da, fin, se, li⟩ A c) ∧ wi.cell? ⟨b0, 0 + 1, none⟩ = some (.int .i64 (i : Int)) ∧ wi.cell? ⟨b, 0 + 10, none⟩ = some (.slice (some ⟨g, 0, none⟩) n cp) ∧ wi.cell? ⟨g, i, none⟩ = some (.pointer (some ⟨pb, 0, none⟩))) (by kernel_rfl) (by rw [hW]; exact S0.out) ?_
  intro hHeld
  rw [hW] at hHeld ⊢
  clear hw0 hW hb0'
  refine wpAnyH_take (i := 0) (v := .agg (Pkt.cs ⟨4, (i : Int), nu, ofn, fr, da, fin, se, li⟩ A c).toArray) rfl (by kernel_rfl) (by kernel_rfl) (by kernel_rfl) (fun _ _ _ h => h) (yieldsIf_load_mid (by rfl) 32 (.tmp 3) rfl _ _ rfl (Pkt.cs ⟨4, (i : Int), nu, ofn, fr, da, fin, se, li⟩ A c) _ (fun w2 h2 => h2.1) Tryz.underlying32 rfl (by kernel_rfl)) (by assumption) ?_
  try simp only [Act.put, List.getElem_toArray, List.getElem_cons_zero, List.setIfInBounds_toArray, List.set_cons_zero, List.set_cons_succ]
  rw [HV.out]
  refine wpAnyH_ready (rs := [1]) (by kernel_rfl) (by simp) ?_
  refine AllReadyH.cons rfl (fun K2 hK2 => ?_) AllReadyH.nil
  go_simp
  refine HCK.out.mono ?_
  rintro e w1 ⟨rfl, hb1⟩
  obtain ⟨hbW, hzW, hb0'⟩ := HBW.out
  have S1 := Lib.hid (show w1.rangeAt b0 0 (Pkt.cs ⟨4, (i : Int), nu, ofn, fr, da, fin, se, li⟩ A c) ∧ w1.cell? ⟨b0, 0 + 1, none⟩ = some (.int .i64 (i : Int)) ∧ w1.cell? ⟨b, 0 + 10, none⟩ = some (.slice (some ⟨g, 0, none⟩) n cp) ∧ w1.cell? ⟨g, i, none⟩ = some (.pointer (some ⟨pb, 0, none⟩)) from ⟨rangeAt_later S0.out.1 hb1 (by omega), cell_later hb1 S0.out.2.1, cell_later hb1 S0.out.2.2.1, cell_later hb1 S0.out.2.2.2⟩)
  have HB1 := Lib.hid (And.intro hb1 (hbW.trans (hb1.mono hbW.size)))
  clear hb1 hbW hzW hb0' HCK S0 HBW
  try go_wp2_with fail
  refine hK2.out _ _ S1.out (fun hHeld2 => ?_)
  clear hK2 K2 hHeld
  have hHeld := hHeld2
  clear hHeld2
  try simp only [Act.put, List.getElem_toArray, List.getElem_cons_zero, List.getElem_cons_succ, List.setIfInBounds_toArray, List.set_cons_zero, List.set_cons_succ]
  refine tkH 2 ?_
  refine tkH 3 ?_
  refine tkH 4 ?_
  refine tkH 5 ?_
  refine tkH 6 ?_
  refine wpAnyH_ready (rs := [7]) (by kernel_rfl) (by simp) ?_
  refine AllReadyH.cons rfl (fun K2 hK2 => ?_) AllReadyH.nil
  go_simp
  refine (HHAS.out w1 HB1.out.1).mono ?_
  rintro e w2 ⟨rfl, rfl⟩
  try go_wp2_with fail
  refine hK2.out _ _ S1.out (fun hHeld2 => ?_)
  clear hK2 K2 hHeld
  have hHeld := hHeld2
  clear hHeld2
  try simp only [Act.put, List.getElem_toArray, List.getElem_cons_zero, List.getElem_cons_succ, List.setIfInBounds_toArray, List.set_cons_zero, List.set_cons_succ]
  refine tkH 8 ?_
  refine tkH 9 ?_
  refine tkH 10 ?_
  refine tkH 11 ?_
  refine tkH 12 ?_
  refine tkH 13 ?_
  refine tkH 14 ?_
  refine tkH 15 ?_
  refine tkH 16 ?_
  refine tkH 17 ?_
  refine tkH 18 ?_
  refine wpAnyH_ready (rs := [19]) (by kernel_rfl) (by simp) ?_
  refine AllReadyH.cons rfl (fun K2 hK2 => ?_) AllReadyH.nil
  go_simp
  refine (paisup_any (HPU.out w1 HB1.out.1)).mono ?_
  rintro e w2 ⟨rfl, k5, rfl⟩
  rw [HU.out]
  try go_wp2_with fail
  have S2 := Lib.hid (show (w1.drewN k5).rangeAt b0 0 (Pkt.cs ⟨4, (i : Int), nu, ofn, fr, da, fin, se, li⟩ A c) ∧ (w1.drewN k5).cell? ⟨b0, 0 + 1, none⟩ = some (.int .i64 (i : Int)) ∧ (w1.drewN k5).cell? ⟨b, 0 + 10, none⟩ = some (.slice (some ⟨g, 0, none⟩) n cp) ∧ (w1.drewN k5).cell? ⟨g, i, none⟩ = some (.pointer (some ⟨pb, 0, none⟩)) from S1.out)
  have HB2 := Lib.hid (show Below W.heap.size W (w1.drewN k5) ∧ Below w.heap.size w (w1.drewN k5) from ⟨below_drewN' HB1.out.1 k5, below_drewN' HB1.out.2 k5⟩)
  obtain ⟨w2, hw2⟩ : ∃ w2, w1.drewN k5 = w2 := ⟨_, rfl⟩
  rw [hw2] at S2 HB2 ⊢
  clear hw2 S1 HB1 HHAS
  refine hK2.out _ _ S2.out (fun hHeld2 => ?_)
  clear hK2 K2 hHeld
  have hHeld := hHeld2
  clear hHeld2
  try simp only [Act.put, List.getElem_toArray, List.getElem_cons_zero, List.getElem_cons_succ, List.setIfInBounds_toArray, List.set_cons_zero, List.set_cons_succ]
  refine tkH 20 ?_
  refine tkH 21 ?_
  refine wpAnyH_done (by kernel_rfl) ?_ _
  clear hHeld
  go_wp2_with fail
  refine wp_region_held_drew (S := fun wi => wi.rangeAt b0 0 (Pkt.cs ⟨4, (i : Int), nu, ofn, fr, da, fin, se, li⟩ A c) ∧ wi.cell? ⟨b0, 0 + 1, none⟩ = some (.int .i64 (i : Int)) ∧ wi.cell? ⟨b, 0 + 10, none⟩ = some (.slice (some ⟨g, 0, none⟩) n cp) ∧ wi.cell? ⟨g, i, none⟩ = some (.pointer (some ⟨pb, 0, none⟩))) (by kernel_rfl) S2.out ?_
  intro hHeld
  refine tkH 0 ?_
  refine tkH 1 ?_
  refine tkH 2 ?_
  refine tkH 3 ?_
  refine tkH 4 ?_
  refine tkH 5 ?_
  refine tkH 6 ?_
  refine tkH 7 ?_
  refine tkH 8 ?_
  refine wpAnyH_done (by kernel_rfl) ?_ _
  clear hHeld
  have HB3 := Lib.hid (show Below W.heap.size W w2.drew ∧ Below w.heap.size w w2.drew from ⟨HB2.out.1.drew, HB2.out.2.drew⟩)
  obtain ⟨w3, hw3⟩ : ∃ w3, w2.drew = w3 := ⟨_, rfl⟩
  have S3 := Lib.hid (show w3.rangeAt b0 0 (Pkt.cs ⟨4, (i : Int), nu, ofn, fr, da, fin, se, li⟩ A c) ∧ w3.cell? ⟨b0, 0 + 1, none⟩ = some (.int .i64 (i : Int)) ∧ w3.cell? ⟨b, 0 + 10, none⟩ = some (.slice (some ⟨g, 0, none⟩) n cp) ∧ w3.cell? ⟨g, i, none⟩ = some (.pointer (some ⟨pb, 0, none⟩)) by rw [← hw3]; exact S2.out)
  rw [hw3] at HB3 ⊢
  clear hw3 S2 HB2
  obtain ⟨c7, c14, hpl⟩ := HC7.out w3 HB3.out.1
  have HPA := Lib.hid (HPU.out w3 HB3.out.1)
  have HPL := Lib.hid hpl
  have hcs := S3.out.1
  have x0 : w3.cell? ⟨b0, 0, none⟩ = some (.int .i64 4) := hcs 0 _ rfl
  have x3 : w3.cell? ⟨b0, 0 + 3, none⟩ = some (.int .i64 ofn) := hcs 3 _ rfl
  have x7 : w3.cell? ⟨b0, 0 + 7, none⟩ = some (.int .i64 se) := hcs 7 _ rfl
  have HMK := Lib.hid (show En.mayK E ⟨4, (i : Int), nu, ofn, fr, da, fin, se, li⟩ i = (decide (ofn < (E.pa i).sent) && decide (se ≤ E.pl.sent)) from rfl)
  obtain ⟨sd, hsd'⟩ : ∃ x, E.side = x := ⟨_, rfl⟩
  rw [hsd'] at hsd c7
  try rw [hsd'] at HMK
  clear hpl hcs hsd' HC7 HPU S3
  clear c7 hsd
  obtain ⟨sn, hsn⟩ : ∃ x, (E.pa i).sent = x := ⟨_, rfl⟩
  have HSE := Lib.hid (show Calls Tryz.prog 147 #[.pointer (some ⟨pb, 0, none⟩)] (w3.drewN 1) fun e w' => e = .returned (.int .i64 sn) ∧ ∃ k, w' = (w3.drewN 1).drewN k by rw [← hsn]; exact pasent_any (HPA.out.drewN 1))
  obtain ⟨sp, hsp⟩ : ∃ x, E.pl.sent = x := ⟨_, rfl⟩
  have HSP := Lib.hid (show ∀ k, Calls Tryz.prog 131 #[.pointer (some ⟨s.pl, 0, none⟩)] (w3.drewN k) fun e w' => e = .returned (.int .i64 sp) ∧ w3.drewN k = w' from fun k => by rw [← hsp]; exact sent_any (HPL.out.drewN k))
  rw [hsn, hsp] at HMK
  clear hsn hsp HPA HPL
  have S4 := Lib.hid (And.intro c14 (And.intro x3 x7))
  go_wp2_with fail
  refine wp_region_held_drew (S := fun wi => wi.cell? ⟨b, 0 + 14, none⟩ = some (.pointer (some ⟨s.pl, 0, none⟩)) ∧ wi.cell? ⟨b0, 0 + 3, none⟩ = some (.int .i64 ofn) ∧ wi.cell? ⟨b0, 0 + 7, none⟩ = some (.int .i64 se)) (by kernel_rfl) S4.out ?_
  intro hHeld
  clear c14 x3 x7 x0
  refine tkH 0 ?_
  refine tkH 1 ?_
  refine tkH 2 ?_
  refine wpAnyH_ready (rs := [3]) (by kernel_rfl) (by simp) ?_
  refine AllReadyH.cons rfl (fun K2 hK2 => ?_) AllReadyH.nil
  go_simp
  refine HSE.out.mono ?_
  rintro e w4 ⟨rfl, k6, rfl⟩
  try go_wp2_with fail
  refine hK2.out _ _ S4.out (fun hHeld2 => ?_)
  clear hK2 K2 hHeld
  have hHeld := hHeld2
  clear hHeld2
  try simp only [Act.put, List.getElem_toArray, List.getElem_cons_zero, List.getElem_cons_succ, List.setIfInBounds_toArray, List.set_cons_zero, List.set_cons_succ]
  try rw [World.drewN_drewN]
  by_cases hlt : ofn < sn
  · have hl1 : decide (ofn < sn) = true := decide_eq_true hlt
    refine tkH 4 ?_
    refine tkH 5 ?_
    refine tkH 6 ?_
    refine tkH 7 ?_
    refine tkH 8 ?_
    refine tkH 9 ?_
    refine tkH 10 ?_
    refine tkH 11 ?_
    refine wpAnyH_ready (rs := [12]) (by kernel_rfl) (by simp) ?_
    refine AllReadyH.cons rfl (fun K2 hK2 => ?_) AllReadyH.nil
    go_simp
    refine (HSP.out _).mono ?_
    rintro e w5 ⟨rfl, rfl⟩
    try go_wp2_with fail
    refine hK2.out _ _ S4.out (fun hHeld2 => ?_)
    clear hK2 K2 hHeld
    have hHeld := hHeld2
    clear hHeld2
    try simp only [Act.put, List.getElem_toArray, List.getElem_cons_zero, List.getElem_cons_succ, List.setIfInBounds_toArray, List.set_cons_zero, List.set_cons_succ]
    by_cases hle : se ≤ sp
    · have hl2 : decide (se ≤ sp) = true := decide_eq_true hle
      refine tkH 13 ?_
      refine tkH 14 ?_
      refine tkH 15 ?_
      refine wpAnyH_done (by kernel_rfl) ?_ _
      clear hHeld
      go_wp2
      go_ret
      exact ⟨by rw [HMK.out]; simp [hlt, hle], below_drewN' HB3.out.2 _⟩
    · have hl2 : decide (se ≤ sp) = false := decide_eq_false hle
      refine tkH 13 ?_
      refine tkH 14 ?_
      refine tkH 15 ?_
      refine wpAnyH_done (by kernel_rfl) ?_ _
      clear hHeld
      go_wp2
      go_ret
      exact ⟨by rw [HMK.out]; simp [hlt, hle], below_drewN' HB3.out.2 _⟩
  · have hl1 : decide (ofn < sn) = false := decide_eq_false hlt
    refine tkH 4 ?_
    refine tkH 5 ?_
    refine wpAnyH_take (i := 6) (v := undef) rfl (by kernel_rfl) (by kernel_rfl) (by kernel_rfl) (fun _ _ _ h => h) (Or.inr ⟨by rfl, rfl⟩) (by assumption) ?_
    try simp only [Act.put, List.getElem_toArray, List.getElem_cons_zero, List.getElem_cons_succ, List.setIfInBounds_toArray, List.set_cons_zero, List.set_cons_succ]
    refine wpAnyH_take (i := 7) (v := undef) rfl (by kernel_rfl) (by kernel_rfl) (by kernel_rfl) (fun _ _ _ h => h) (Or.inr ⟨by rfl, rfl⟩) (by assumption) ?_
    try simp only [Act.put, List.getElem_toArray, List.getElem_cons_zero, List.getElem_cons_succ, List.setIfInBounds_toArray, List.set_cons_zero, List.set_cons_succ]
    refine wpAnyH_take (i := 8) (v := undef) rfl (by kernel_rfl) (by kernel_rfl) (by kernel_rfl) (fun _ _ _ h => h) (Or.inr ⟨by rfl, rfl⟩) (by assumption) ?_
    try simp only [Act.put, List.getElem_toArray, List.getElem_cons_zero, List.getElem_cons_succ, List.setIfInBounds_toArray, List.set_cons_zero, List.set_cons_succ]
    refine wpAnyH_take (i := 9) (v := undef) rfl (by kernel_rfl) (by kernel_rfl) (by kernel_rfl) (fun _ _ _ h => h) (Or.inr ⟨by rfl, rfl⟩) (by assumption) ?_
    try simp only [Act.put, List.getElem_toArray, List.getElem_cons_zero, List.getElem_cons_succ, List.setIfInBounds_toArray, List.set_cons_zero, List.set_cons_succ]
    refine wpAnyH_take (i := 10) (v := undef) rfl (by kernel_rfl) (by kernel_rfl) (by kernel_rfl) (fun _ _ _ h => h) (Or.inr ⟨by rfl, rfl⟩) (by assumption) ?_
    try simp only [Act.put, List.getElem_toArray, List.getElem_cons_zero, List.getElem_cons_succ, List.setIfInBounds_toArray, List.set_cons_zero, List.set_cons_succ]
    refine wpAnyH_take (i := 11) (v := undef) rfl (by kernel_rfl) (by kernel_rfl) (by kernel_rfl) (fun _ _ _ h => h) (Or.inr ⟨by rfl, rfl⟩) (by assumption) ?_
    try simp only [Act.put, List.getElem_toArray, List.getElem_cons_zero, List.getElem_cons_succ, List.setIfInBounds_toArray, List.set_cons_zero, List.set_cons_succ]
    refine wpAnyH_take (i := 12) (v := undef) rfl (by kernel_rfl) (by kernel_rfl) (by kernel_rfl) (fun _ _ _ h => h) (Or.inr ⟨by rfl, rfl⟩) (by assumption) ?_
    try simp only [Act.put, List.getElem_toArray, List.getElem_cons_zero, List.getElem_cons_succ, List.setIfInBounds_toArray, List.set_cons_zero, List.set_cons_succ]
    refine wpAnyH_take (i := 13) (v := undef) rfl (by kernel_rfl) (by kernel_rfl) (by kernel_rfl) (fun _ _ _ h => h) (Or.inr ⟨by rfl, rfl⟩) (by assumption) ?_
    try simp only [Act.put, List.getElem_toArray, List.getElem_cons_zero, List.getElem_cons_succ, List.setIfInBounds_toArray, List.set_cons_zero, List.set_cons_succ]
    refine tkH 14 ?_
    refine tkH 15 ?_
    refine wpAnyH_done (by kernel_rfl) ?_ _
    clear hHeld
    go_wp2
    go_ret
    exact ⟨by rw [HMK.out, hl1]; first | rfl | simp, below_drewN' HB3.out.2 _⟩
theorem eetakes_any {w : World} {L : Lab} {K b : Nat} {s : EeS} {E : En} (h : EE w L K b s E) (hE : E.ok) (p : Pkt) (A : Option Addr) (c : Nat) (hp : PktAt w p A c) :
    Calls Tryz.prog 69 #[.pointer (some ⟨b, 0, none⟩), p.val A c] w fun e w' => e = .returned (.bool (E.mayC p)) ∧ Below w.heap.size w w' := by
  obtain ⟨k, pa, nu, ofn, fr, da, fin, se, li⟩ := p
  by_cases ho : Pkt.ok ⟨k, pa, nu, ofn, fr, da, fin, se, li⟩ = true
  · have hpr : 0 ≤ pa ∧ pa ≤ 2 := Pkt.ok_pa ho
    by_cases hl : (E.ps.length : Int) ≤ pa
    · rw [En.mayC_out (p := ⟨k, pa, nu, ofn, fr, da, fin, se, li⟩) hl]
      exact eetakes_out h hE k nu ofn fr da fin se li A c pa ho hl hp
    · obtain ⟨i, rfl⟩ := Int.eq_ofNat_of_zero_le hpr.1
      have hi : i < E.ps.length := by omega
      cases hu : (E.pa i).up
      · rw [En.mayC_down (p := ⟨k, (i : Int), nu, ofn, fr, da, fin, se, li⟩) rfl hu]
        exact eetakes_down h hE k nu ofn fr da fin se li A c i hi ho hu hp
      · rw [En.mayC_up (p := ⟨k, (i : Int), nu, ofn, fr, da, fin, se, li⟩) ho rfl hi hu]
        have hk : 1 ≤ k ∧ k ≤ 4 := Pkt.ok_kind ho
        have hkk : k = 1 ∨ k = 2 ∨ k = 3 ∨ k = 4 := by omega
        rcases hkk with rfl | rfl | rfl | rfl
        · exact eetakes_up1 h hE nu ofn fr da fin se li A c i hi ho hu hp
        · exact eetakes_up2 h hE nu ofn fr da fin se li A c i hi ho hu hp
        · exact eetakes_up3 h hE nu ofn fr da fin se li A c i hi ho hu hp
        · exact eetakes_up4 h hE nu ofn fr da fin se li A c i hi ho hu hp
  · have ho : Pkt.ok ⟨k, pa, nu, ofn, fr, da, fin, se, li⟩ = false := by simpa using ho
    rw [En.mayC_no ho]
    exact eetakes_no h hE k nu ofn fr da fin se li A c pa ho hp
end Go.Proofs.YtpjlnpnadkbakaaGreat

/-
  The inbox of package inbox in memory ('IbAt'); what New, Limit, stop, mayEnd, Seen, Ready, Done, Taken do: contracts over the program.
-/
import Derived.Test.YtpjlnpnadkbakaaGreatQBOutbox2
import Derived.Test.YtpjlnpnadkbakaaGreatQBFresh
import Derived.Test.YtpjlnpnadkbakaaGreatQBSets
import Derived.Test.YtpjlnpnadkbakaaGreatQBMem
namespace Go.Proofs.YtpjlnpnadkbakaaGreat
set_option maxRecDepth 10000
open Go.RowKit
abbrev tInb : TypeId := 179
def ibF (g n q : Nat) (tk en : Int) (i : Nat) : Value := if i = 0 then .slice (some ⟨g, 0, none⟩) n n else if i = 1 then .pointer (some ⟨q, 0, none⟩) else if i = 2 then .int .i64 tk else .int .i64 en
structure IbAt (w : World) (B p q g n : Nat) (v : Value) (xs : List Int) (ps : List (Int × Int)) (s : In) : Prop where
  row : w.rowIs p tInb 4 (ibF g n q s.tk s.en)
  set : SetAt w B q v ps
  own : Own .u8 5 w B (.slice (some ⟨g, 0, none⟩) n n) xs
  ge : B ≤ p
  win : (n : Int) = s.win
  ring : Ring xs s
  iff : ∀ k, ins ps k ↔ s.g k ≠ none
  ok : s.ok
def Ibf (p q g : Nat) (v : Value) (k : Nat) : Prop := k = p ∨ k = q ∨ k = g ∨ v.ownBlock = some k
section
variable {w w' : World} {B p q g n : Nat} {v v' : Value} {xs : List Int} {ps : List (Int × Int)} {s : In} {F : Nat → Prop}
theorem IbAt.lt (h : IbAt w B p q g n v xs ps s) : p < w.heap.size := h.row.lt
theorem IbAt.size (h : IbAt w B p q g n v xs ps s) : B ≤ w.heap.size := Nat.le_trans h.ge (Nat.le_of_lt h.lt)
theorem IbAt.len (h : IbAt w B p q g n v xs ps s) : xs.length = n := by have := h.ring.1; have := h.win; omega
theorem IbAt.pq (h : IbAt w B p q g n v xs ps s) : p ≠ q := row_ne h.row h.set.row (by decide)
theorem IbAt.gp (h : IbAt w B p q g n v xs ps s) : g ≠ p := fun e => own_not_rowI h.own h.row (by decide) (by rw [e]; rfl)
theorem IbAt.gq (h : IbAt w B p q g n v xs ps s) : g ≠ q := fun e => own_not_rowI h.own h.set.row (by decide) (by rw [e]; rfl)
theorem IbAt.vp (h : IbAt w B p q g n v xs ps s) : v.ownBlock ≠ some p := own_not_row h.set.own h.row (by decide)
theorem IbAt.vg (h : IbAt w B p q g n v xs ps s) : v.ownBlock ≠ some g := own_not_pair h.own h.set.own (by decide) g rfl
theorem IbAt.kept (h : IbAt w B p q g n v xs ps s) (ht : Trn w w' F) (hf : ∀ k, Ibf p q g v k → ¬ F k) : IbAt w' B p q g n v xs ps s :=
  ⟨ht.rowIs h.row (hf _ (.inl rfl)), h.set.trn ht (hf _ (.inr (.inl rfl))) (fun g hg => hf g (.inr (.inr (.inr hg)))), ht.own h.own (fun k hk => hf k (.inr (.inr (.inl (Option.some.inj hk).symm)))), h.ge, h.win, h.ring, h.iff, h.ok⟩
theorem IbAt.later (h : IbAt w B p q g n v xs ps s) (hb : Below w.heap.size w w') : IbAt w' B p q g n v xs ps s := h.kept (Trn.of_below (F := fun _ => False) hb) (fun _ _ => id)
theorem IbAt.drewN (h : IbAt w B p q g n v xs ps s) (m : Nat) : IbAt (w.drewN m) B p q g n v xs ps s := h.later ⟨rfl, rfl, rfl, Nat.le_refl _, fun _ _ => rfl⟩
theorem IbAt.foot_lt (h : IbAt w B p q g n v xs ps s) : ∀ k, Ibf p q g v k → B ≤ k ∧ k < w.heap.size := by
  rintro k (rfl | rfl | rfl | hk)
  · exact ⟨h.ge, h.lt⟩
  · exact ⟨h.set.ge, h.set.lt⟩
  · exact h.own.lt _ rfl
  · exact h.set.own.lt k hk
theorem IbAt.c0 (h : IbAt w B p q g n v xs ps s) : w.cell? ⟨p, 0, none⟩ = some (.slice (some ⟨g, 0, none⟩) n n) := World.rowIs.cell (i := 0) h.row (by omega)
theorem IbAt.c1 (h : IbAt w B p q g n v xs ps s) : w.cell? ⟨p, 0 + 1, none⟩ = some (.pointer (some ⟨q, 0, none⟩)) := World.rowIs.cell (i := 1) h.row (by omega)
theorem IbAt.c2 (h : IbAt w B p q g n v xs ps s) : w.cell? ⟨p, 0 + 2, none⟩ = some (.int .i64 s.tk) := World.rowIs.cell (i := 2) h.row (by omega)
theorem IbAt.c3 (h : IbAt w B p q g n v xs ps s) : w.cell? ⟨p, 0 + 3, none⟩ = some (.int .i64 s.en) := World.rowIs.cell (i := 3) h.row (by omega)
theorem IbAt.fr (h : IbAt w B p q g n v xs ps s) (i : Nat) : w.frozen? ⟨p, i, none⟩ = false := World.rowIs.frozen h.row i
theorem IbAt.n1 (h : IbAt w B p q g n v xs ps s) : 1 ≤ n ∧ n ≤ 400 := by have := h.win; have := h.ok.w0; have := h.ok.w1; omega
theorem IbAt.own_set (h : IbAt w B p q g n v xs ps s) (i : Nat) (x : Value) : SetAt (w.setCell ⟨p, i, none⟩ x) B q v ps ∧ Own .u8 5 (w.setCell ⟨p, i, none⟩ x) B (.slice (some ⟨g, 0, none⟩) n n) xs :=
  ⟨h.set.trn (Trn.of_grown (setCell_one w p i _)) (fun e => h.pq (Option.some.inj e)) (fun k hk e => h.vp (by rw [hk]; exact e.symm)), h.own.kept (setCell_one _ _ _ _) (.inr (fun e => h.gp (Option.some.inj e)))⟩
theorem sc_ibf (i : Nat) (x : Value) : SC w (w.setCell ⟨p, i, none⟩ x) (Ibf p q g v) (Ibf p q g v) := ⟨(Trn.of_grown (setCell_one w p i x)).mono (fun _ _ hk => .inl (Option.some.inj hk).symm), fun _ hk => .inl hk⟩
theorem IbAt.set2 (h : IbAt w B p q g n v xs ps s) {k : Int} (h0 : 0 ≤ k) (hk : (s.read k).ok) : IbAt (w.setCell ⟨p, 0 + 2, none⟩ (.int .i64 (s.tk + k))) B p q g n v xs ps (s.read k) :=
  ⟨(h.row.set (0 + 2) _).congr fun i hi => by
    have : i = 0 ∨ i = 1 ∨ i = 2 ∨ i = 3 := by omega
    rcases this with rfl | rfl | rfl | rfl <;> simp [ibF, In.read], (h.own_set _ _).1, (h.own_set _ _).2, h.ge, h.win, ⟨h.ring.1, fun j x h1 h2 => h.ring.2 j x (by simp only [In.read] at h1; omega) h2⟩, h.iff, hk⟩
theorem IbAt.set3 (h : IbAt w B p q g n v xs ps s) {k : Int} (hk : (s.shut k).ok) : IbAt (w.setCell ⟨p, 0 + 3, none⟩ (.int .i64 k)) B p q g n v xs ps (s.shut k) :=
  ⟨(h.row.set (0 + 3) _).congr fun i hi => by
    have : i = 0 ∨ i = 1 ∨ i = 2 ∨ i = 3 := by omega
    rcases this with rfl | rfl | rfl | rfl <;> simp [ibF, In.shut], (h.own_set _ _).1, (h.own_set _ _).2, h.ge, h.win, h.ring, h.iff, hk⟩
theorem IbAt.byte (h : IbAt w B p q g n v xs ps s) (j : Nat) (x : Int) (hr : Ring (xs.set j x) s) : IbAt (w.setCell ⟨g, j, none⟩ (.int .u8 x)) B p q g n v (xs.set j x) ps s :=
  have ht := Trn.of_grown (setCell_one w g j (.int .u8 x))
  ⟨ht.rowIs h.row (fun e => h.gp (Option.some.inj e)), h.set.trn ht (fun e => h.gq (Option.some.inj e)) (fun k hk e => h.vg (by rw [hk]; exact e.symm)), h.own.stored h.len j x, h.ge, h.win, hr, h.iff, h.ok⟩
theorem sc_ibf_byte (j : Nat) (x : Value) : SC w (w.setCell ⟨g, j, none⟩ x) (Ibf p q g v) (Ibf p q g v) := ⟨(Trn.of_grown (setCell_one w g j x)).mono (fun _ _ hk => .inr (.inr (.inl (Option.some.inj hk).symm))), fun _ hk => .inl hk⟩
theorem sc_chgI (h : Chg w w' q v v') : SC w w' (Ibf p q g v) (Ibf p q g v') :=
  ⟨⟨h.os, h.tape, h.output, h.size, fun k hk hn => h.block k hk (fun e => hn (.inr (.inl e))) (fun e => hn (.inr (.inr (.inr e.symm))))⟩, by
    rintro k (rfl | rfl | rfl | hk)
    · exact .inl (.inl rfl)
    · exact .inl (.inr (.inl rfl))
    · exact .inl (.inr (.inr (.inl rfl)))
    · exact (h.fresh k hk).imp (fun h => .inr (.inr (.inr h))) id⟩
theorem IbAt.chg (h : IbAt w B p q g n v xs ps s) {us : List (Int × Int)} {s' : In} (hs : SetAt w' B q v' us) (hc : Chg w w' q v v') (hw : s'.win = s.win ∧ s'.tk = s.tk ∧ s'.en = s.en) (hr : Ring xs s') (hi : ∀ k, ins us k ↔ s'.g k ≠ none) (hk : s'.ok) : IbAt w' B p q g n v' xs us s' :=
  ⟨by rw [hw.2.1, hw.2.2]; exact World.rowIs.of_block h.row (hc.block p h.lt h.pq (fun e => h.vp e.symm)), hs, (sc_chgI (p := p) (g := p) hc).trn.own h.own (fun k hk => by
    obtain rfl : g = k := Option.some.inj hk
    rintro (e | e | e | e)
    · exact h.gp e
    · exact h.gq e
    · exact h.gp e
    · exact h.vg e), h.ge, by rw [hw.1]; exact h.win, hr, hi, hk⟩
theorem IbAt.plen (h : IbAt w B p q g n v xs ps s) : ps.length ≤ 1099511627776 := h.set.norm.len
theorem IbAt.front (h : IbAt w B p q g n v xs ps s) : Front s.g (frontOf ps) := by
  obtain ⟨ys, hr⟩ := rep_of h.set.norm h.ok h.iff
  exact front_of hr
end
set_option maxHeartbeats 400000 in
theorem setfront_any (p : Nat) (v : Value) (ps : List (Int × Int)) (B : Nat) (w : World) (hs : SetAt w B p v ps) :
    Calls Tryz.prog 155 #[.pointer (some ⟨p, 0, none⟩)] w fun e w' => e = .returned (.int .i64 (frontOf ps)) ∧ Below w.heap.size w w' := by
  cases ps with
  | nil => exact front_none p v B w hs
  | cons q ps =>
    have H := Lib.hid (first_some p v q ps B w hs)
    clear hs
    obtain ⟨x, y⟩ := q
    simp only [frontOf]
    by_cases hx : x = 0
    · rw [if_pos hx]
      subst hx
      go_enter Tryz.func155, Tryz.ntmps155
      go_wp2_with fail
      refine H.out.mono ?_
      rintro e w1 ⟨rfl, hb⟩
      have HB := Lib.hid hb
      clear hb
      go_wp2
      go_ret
      exact ⟨rfl, HB.out.alloc HB.out.size _⟩
    · rw [if_neg hx]
      go_enter Tryz.func155, Tryz.ntmps155
      go_wp2_with fail
      refine H.out.mono ?_
      rintro e w1 ⟨rfl, hb⟩
      have HB := Lib.hid hb
      clear hb
      go_wp2
      go_ret
      exact ⟨rfl, HB.out.alloc HB.out.size _⟩
theorem quiet_two {P : Program} {f : Nat} {args : Array Value} {w : World} {n : Nat} {v : Value} (h : Calls P f args (w.drewN n) fun e w' => e = .returned v ∧ ∃ k, w' = (w.drewN n).drewN k) :
    Calls P f args (w.drewN n) fun e w'' => e = .returned v ∧ ∃ m, w'' = w.drewN m := h.mono fun _ _ ⟨h1, k, h2⟩ => ⟨h1, n + k, h2.trans (World.drewN_drewN _ _ _)⟩
theorem newib_end {w w1 : World} {B q g n P : Nat} {s : In} (hP : w1.heap.size = P) (hs : SetAt w1 B q (.slice none 0 0) []) (ho : Own .u8 5 w1 B (.slice (some ⟨g, 0, none⟩) n n) (List.replicate n 0)) (hn : (n : Int) = s.win) (ht : s.tk = 0) (he : s.en = -1) (hg : ∀ k, s.g k = none) (hk : s.ok) (hb : Below w.heap.size w w1) (hB : B ≤ w1.heap.size) :
    IbAt (w1.alloc (.cells #[.slice (some ⟨g, 0, none⟩) n n, .pointer (some ⟨q, 0, none⟩), .int .i64 0, .int .i64 (-1)] tInb)) B P q g n (.slice none 0 0) (List.replicate n 0) [] s ∧ Below w.heap.size w (w1.alloc (.cells #[.slice (some ⟨g, 0, none⟩) n n, .pointer (some ⟨q, 0, none⟩), .int .i64 0, .int .i64 (-1)] tInb)) := by
  subst hP
  refine ⟨⟨?_, hs.alloc _, ho.alloc _, hB, hn, ⟨by rw [List.length_replicate]; exact hn, fun k x _ hx => by rw [hg] at hx; cases hx⟩, fun k => ⟨fun h => absurd h (ins_nil k), fun h => absurd (hg k) h⟩, hk⟩, hb.alloc hb.size _⟩
  rw [ht, he]
  exact World.rowIs_alloc w1 _ _ _ (fun i hi => by
    have : i < 4 := hi
    match i, this with
    | 0, _ | 1, _ | 2, _ | 3, _ => rfl)
set_option maxHeartbeats 1000000 in
theorem newib_any (m : Int) (w : World) : Calls Tryz.prog 91 #[.int .i64 m] w fun e w' => ∃ p q g n, e = .returned (.pointer (some ⟨p, 0, none⟩)) ∧ IbAt w' w.heap.size p q g n (.slice none 0 0) (List.replicate n 0) [] (In.new m) ∧ Below w.heap.size w w' := by
  have m1 := run_max2 m 1 _ rfl
  obtain ⟨M, hM⟩ : ∃ M, max m 1 = M := ⟨_, rfl⟩
  rw [hM] at m1
  have m2 := run_min2 M 400 _ rfl
  obtain ⟨n, hn⟩ : ∃ n : Nat, min M 400 = n := ⟨(min M 400).toNat, by omega⟩
  rw [hn] at m2
  have hmk : ∀ w, (Instr.makeSlice 29 (.int .i64 (n : Int)) (.int .i64 (n : Int))).run Tryz.prog w = .ok (.slice (some ⟨w.heap.size, 0, none⟩) n n) (w.alloc (.cells (bts (List.replicate n 0)) 5)) := fun w => by
    have := run_make_row' (P := Tryz.prog) 29 5 (.int .u8 0) 1 Tryz.underlying29 info_byte rfl .i64 .i64 n (by omega) (by omega) w
    rw [madeByte] at this
    rw [this]
    simp only [bts, List.map_replicate]
  have HON := Lib.hid (fun (W : World) => (show Own .u8 5 (W.alloc (.cells (bts (List.replicate n 0)) 5)) W.heap.size (.slice (some ⟨W.heap.size, 0, none⟩) n n) (List.replicate n 0) from by
    have := Own.new W (List.replicate n 0) 5 (by rw [List.length_replicate]; unfold maxLen; omega)
    simpa only [List.length_replicate] using this))
  have HE := Lib.hid (fun (w1 : World) (q g P : Nat) (hP : w1.heap.size = P) (hs : SetAt w1 w.heap.size q (.slice none 0 0) []) (ho : Own .u8 5 w1 w.heap.size (.slice (some ⟨g, 0, none⟩) n n) (List.replicate n 0)) (hb : Below w.heap.size w w1) => newib_end (w := w) (n := n) (s := In.new m) (P := P) hP hs ho (by simp only [In.new]; omega) rfl rfl (fun _ => rfl) (In.new_ok m) hb hb.size)
  have HN := Lib.hid (fun (W : World) (B Z : Nat) (hZ : W.heap.size = Z) (hB : B ≤ W.heap.size) => (show Calls Tryz.prog 166 #[] W fun e w' => e = .returned (.pointer (some ⟨Z, 0, none⟩)) ∧ SetAt w' B Z (.slice none 0 0) [] ∧ Below W.heap.size W w' ∧ w'.heap.size = W.heap.size + 1 by subst hZ; exact newset_any W B hB))
  obtain ⟨S0, hS0⟩ : ∃ s, In.new m = s := ⟨_, rfl⟩
  rw [hS0] at HE ⊢
  have HB := Lib.hid (Below.refl w.heap.size w)
  clear hM hn hS0
  go_enter Tryz.func91, Tryz.ntmps91
  go_wp2_with fail
  refine wp_region_held_drew (S := fun wi => Below w.heap.size w wi) (by kernel_rfl) ⟨rfl, rfl, rfl, Nat.le_refl _, fun _ _ => rfl⟩ ?_
  intro hHeld
  obtain ⟨W, hW⟩ : ∃ W, w.drew = W := ⟨_, rfl⟩
  rw [hW] at hHeld ⊢
  clear hW
  refine tkH 0 ?_
  refine wpAnyH_ready (rs := [1, 2]) (by kernel_rfl) (by simp) ?_
  refine AllReadyH.cons rfl (fun K hK => ?_) (AllReadyH.cons rfl (fun K hK => ?_) AllReadyH.nil)
  · go_simp
    have HO := Lib.hid ((HON.out W).less hHeld.size)
    have HB1 := Lib.hid (hHeld.alloc hHeld.size (.cells (bts (List.replicate n 0)) 5))
    refine hK.out _ _ (HB1.out) (fun hHeld2 => ?_)
    clear hK K hHeld
    have hHeld := hHeld2
    clear hHeld2
    try simp only [Act.put, List.getElem_toArray, List.getElem_cons_zero, List.getElem_cons_succ, List.setIfInBounds_toArray, List.set_cons_zero, List.set_cons_succ]
    refine wpAnyH_ready (rs := [2]) (by kernel_rfl) (by simp) ?_
    refine AllReadyH.cons rfl (fun K hK => ?_) AllReadyH.nil
    go_simp
    refine (HN.out _ w.heap.size (W.heap.size + 1) (by simp) HB1.out.size).mono ?_
    rintro e w2 ⟨rfl, hs, hb, -⟩
    have HFIN := Lib.hid (HE.out w2 _ _ _ rfl hs (HO.out.later hb) (HB1.out.trans (hb.mono HB1.out.size)))
    have HB2 := Lib.hid (HB1.out.trans (hb.mono HB1.out.size))
    clear hs hb
    try go_wp2_with fail
    refine hK.out _ _ (HB2.out) (fun hHeld2 => ?_)
    clear hK K hHeld
    have hHeld := hHeld2
    clear hHeld2
    try simp only [Act.put, List.getElem_toArray, List.getElem_cons_zero, List.getElem_cons_succ, List.setIfInBounds_toArray, List.set_cons_zero, List.set_cons_succ]
    refine tkH 3 ?_
    refine wpAnyH_ready (rs := [4]) (by kernel_rfl) (by simp) ?_
    refine AllReadyH.cons rfl (fun K hK => ?_) AllReadyH.nil
    go_simp
    refine hK.out _ _ (HFIN.out.2) (fun hHeld2 => ?_)
    clear hK K hHeld
    have hHeld := hHeld2
    clear hHeld2
    try simp only [Act.put, List.getElem_toArray, List.getElem_cons_zero, List.getElem_cons_succ, List.setIfInBounds_toArray, List.set_cons_zero, List.set_cons_succ]
    refine tkH 5 ?_
    refine wpAnyH_done (by kernel_rfl) ?_ _
    go_wp2
    go_ret
    exact ⟨_, _, _, _, rfl, HFIN.out.1, HFIN.out.2⟩
  · go_simp
    refine (HN.out _ w.heap.size _ rfl hHeld.size).mono ?_
    rintro e w2 ⟨rfl, hs, hb, -⟩
    have HB2 := Lib.hid (hHeld.trans (hb.mono hHeld.size))
    have HS := Lib.hid hs
    clear hs hb
    try go_wp2_with fail
    refine hK.out _ _ (HB2.out) (fun hHeld2 => ?_)
    clear hK K hHeld
    have hHeld := hHeld2
    clear hHeld2
    try simp only [Act.put, List.getElem_toArray, List.getElem_cons_zero, List.getElem_cons_succ, List.setIfInBounds_toArray, List.set_cons_zero, List.set_cons_succ]
    refine wpAnyH_ready (rs := [1]) (by kernel_rfl) (by simp) ?_
    refine AllReadyH.cons rfl (fun K hK => ?_) AllReadyH.nil
    go_simp
    have HFIN := Lib.hid (HE.out (w2.alloc (.cells (bts (List.replicate n 0)) 5)) _ _ (w2.heap.size + 1) (by simp) (HS.out.alloc _) ((HON.out w2).less HB2.out.size) (HB2.out.alloc HB2.out.size _))
    have HB3 := Lib.hid (HB2.out.alloc HB2.out.size (.cells (bts (List.replicate n 0)) 5))
    refine hK.out _ _ (HB3.out) (fun hHeld2 => ?_)
    clear hK K hHeld
    have hHeld := hHeld2
    clear hHeld2
    try simp only [Act.put, List.getElem_toArray, List.getElem_cons_zero, List.getElem_cons_succ, List.setIfInBounds_toArray, List.set_cons_zero, List.set_cons_succ]
    refine tkH 3 ?_
    refine wpAnyH_ready (rs := [4]) (by kernel_rfl) (by simp) ?_
    refine AllReadyH.cons rfl (fun K hK => ?_) AllReadyH.nil
    go_simp
    refine hK.out _ _ (HFIN.out.2) (fun hHeld2 => ?_)
    clear hK K hHeld
    have hHeld := hHeld2
    clear hHeld2
    try simp only [Act.put, List.getElem_toArray, List.getElem_cons_zero, List.getElem_cons_succ, List.setIfInBounds_toArray, List.set_cons_zero, List.set_cons_succ]
    refine tkH 5 ?_
    refine wpAnyH_done (by kernel_rfl) ?_ _
    go_wp2
    go_ret
    exact ⟨_, _, _, _, rfl, HFIN.out.1, HFIN.out.2⟩
section
variable {w : World} {B p q g n : Nat} {v : Value} {xs : List Int} {ps : List (Int × Int)} {s : In}
theorem iblimit_any (h : IbAt w B p q g n v xs ps s) (ht : s.tk ≤ 1099511627776) (m : Nat) : Calls Tryz.prog 74 #[.pointer (some ⟨p, 0, none⟩)] (w.drewN m) fun e w' => e = .returned (.int .i64 (s.tk + s.win)) ∧ ∃ k, w' = (w.drewN m).drewN k := by
  have c0 := (h.drewN m).c0
  have c2 := (h.drewN m).c2
  have g0 := h.n1
  have g2 := h.ok.t0
  rw [← h.win]
  obtain ⟨tk, htk⟩ : ∃ x, s.tk = x := ⟨_, rfl⟩
  rw [htk] at c2 g2 ht
  rw [htk]
  have hw := Lib.hid (show wrap64 (tk + (n : Int)) = tk + (n : Int) from wrap_at rfl (by omega) (by omega))
  obtain ⟨W, hW⟩ : ∃ W, w.drewN m = W := ⟨_, rfl⟩
  rw [hW] at c0 c2 ⊢
  clear h htk g0 g2 ht hW
  have hw2 := hw.out
  go_enter Tryz.func74, Tryz.ntmps74
  go_wp2_with fail
  go_quiet (fail)
  go_wp2
  go_ret
  exact ⟨ret_i hw.out, _, rfl⟩
theorem ibdone_any (h : IbAt w B p q g n v xs ps s) (m : Nat) : Calls Tryz.prog 80 #[.pointer (some ⟨p, 0, none⟩)] (w.drewN m) fun e w' => e = .returned (.bool (decide (0 ≤ s.en ∧ s.tk = s.en))) ∧ ∃ k, w' = (w.drewN m).drewN k := by
  have c2 := (h.drewN m).c2
  have c3 := (h.drewN m).c3
  have t0 := h.ok.t0
  obtain ⟨en, hen⟩ : ∃ x, s.en = x := ⟨_, rfl⟩
  obtain ⟨tk, htk⟩ : ∃ x, s.tk = x := ⟨_, rfl⟩
  rw [hen] at c3
  rw [htk] at c2 t0
  rw [hen, htk]
  obtain ⟨W, hW⟩ : ∃ W, w.drewN m = W := ⟨_, rfl⟩
  rw [hW] at c2 c3 ⊢
  have HD := Lib.hid (show decide (0 ≤ en ∧ tk = en) = decide (tk = en) by by_cases h2 : tk = en <;> simp [h2] <;> omega)
  clear h hen htk hW t0
  by_cases h2 : tk = en
  · subst h2
    go_enter Tryz.func80, Tryz.ntmps80
    go_wp2_with fail
    go_quiet (fail)
    go_wp2
    go_ret
    exact ⟨ret_b (by rw [HD.out]; simp), _, rfl⟩
  · go_enter Tryz.func80, Tryz.ntmps80
    go_wp2_with fail
    go_quiet (fail)
    go_wp2
    go_ret
    exact ⟨ret_b (by rw [HD.out]; simp [h2]), _, rfl⟩
def stopI (s : In) : Int := if s.en < 0 then s.tk + s.win else min s.en (s.tk + s.win)
theorem ibstop_any (h : IbAt w B p q g n v xs ps s) (ht : s.tk ≤ 1099511627776) : Calls Tryz.prog 151 #[.pointer (some ⟨p, 0, none⟩)] w fun e w' => e = .returned (.int .i64 (stopI s)) ∧ ∃ k, w' = w.drewN k := by
  have c3 := h.c3
  have C3 := Lib.hid (fun k => (h.drewN k).c3)
  have HL := Lib.hid (fun k => iblimit_any h ht k)
  have HL0 := Lib.hid (iblimit_any h ht 0)
  have e0 := h.ok.e0
  unfold stopI
  obtain ⟨en, hen⟩ : ∃ x, s.en = x := ⟨_, rfl⟩
  obtain ⟨lim, hlim⟩ : ∃ x, s.tk + s.win = x := ⟨_, rfl⟩
  rw [hen] at c3 C3 e0
  rw [hlim] at HL HL0
  rw [hen, hlim]
  clear h hen hlim ht
  by_cases h1 : en = -1
  · subst h1
    rw [if_pos (by omega)]
    go_enter Tryz.func151, Tryz.ntmps151
    go_wp2_with fail
    refine HL0.out.mono ?_
    rintro e w1 ⟨rfl, k1, rfl⟩
    go_wp2
    go_ret
    exact ⟨rfl, k1, rfl⟩
  · rw [if_neg (by omega)]
    have m1 := run_min2 en lim _ rfl
    obtain ⟨M, hM⟩ : ∃ x, min en lim = x := ⟨_, rfl⟩
    rw [hM] at m1 ⊢
    clear hM e0
    have c3b := C3.out 1
    go_enter Tryz.func151, Tryz.ntmps151
    go_wp2_with fail
    go_quiet ((go_at_call 74; exact quiet_two (HL.out _)))
    go_wp2
    go_ret
    exact ⟨rfl, _, rfl⟩
theorem ibseen_any (h : IbAt w B p q g n v xs ps s) (f : Int) (hf : Front s.g f) (hb : f ≤ 1099511627776) : Calls Tryz.prog 73 #[.pointer (some ⟨p, 0, none⟩)] w fun e w' => e = .returned (.int .i64 (if f = s.en then f + 1 else f)) ∧ Below w.heap.size w w' := by
  have HF := Lib.hid (setfront_any q v ps B w h.set)
  rw [h.front.eq hf] at HF
  have C3 := Lib.hid (fun (W : World) (hb : Below w.heap.size w W) => (h.later hb).c3)
  have c1 := h.c1
  have g3 := hf.ge
  obtain ⟨en, hen⟩ : ∃ x, s.en = x := ⟨_, rfl⟩
  rw [hen] at C3
  rw [hen]
  have hw := Lib.hid (show wrap64 (f + 1) = f + 1 from wrap_at rfl (by omega) (by omega))
  clear h hf hen hb g3
  by_cases h1 : f = en
  · rw [if_pos h1]
    subst h1
    go_enter Tryz.func73, Tryz.ntmps73
    go_wp2_with fail
    refine HF.out.mono ?_
    rintro e w1 ⟨rfl, hb⟩
    have c3 := C3.out w1 hb
    have HB := Lib.hid hb
    clear hb
    go_wp2
    go_ret
    exact ⟨ret_i hw.out, HB.out⟩
  · rw [if_neg h1]
    go_enter Tryz.func73, Tryz.ntmps73
    go_wp2_with fail
    refine HF.out.mono ?_
    rintro e w1 ⟨rfl, hb⟩
    have c3 := C3.out w1 hb
    have HB := Lib.hid hb
    clear hb
    go_wp2
    go_ret
    exact ⟨rfl, HB.out⟩
theorem ibready_any (h : IbAt w B p q g n v xs ps s) (f : Int) (hf : Front s.g f) (hb : f ≤ 1099511627776 ∧ s.tk ≤ 1099511627776) : Calls Tryz.prog 133 #[.pointer (some ⟨p, 0, none⟩)] w fun e w' => e = .returned (.int .i64 (f - s.tk)) ∧ Below w.heap.size w w' := by
  have HF := Lib.hid (fun (W : World) (hb : Below w.heap.size w W) => (show Calls Tryz.prog 155 #[.pointer (some ⟨q, 0, none⟩)] W fun e w' => e = .returned (.int .i64 f) ∧ Below W.heap.size W w' from by
    have := setfront_any q v ps B W (h.later hb).set
    rw [h.front.eq hf] at this
    exact this))
  have C1 := Lib.hid (fun (W : World) (hb : Below w.heap.size w W) => (h.later hb).c1)
  have C2 := Lib.hid (fun (W : World) (hb : Below w.heap.size w W) => (h.later hb).c2)
  have g2 := h.ok.t0
  have g3 := hf.ge
  obtain ⟨tk, htk⟩ : ∃ x, s.tk = x := ⟨_, rfl⟩
  rw [htk] at C2 g2 hb
  rw [htk]
  have hw := Lib.hid (show wrap64 (f - tk) = f - tk from wrap_at rfl (by omega) (by omega))
  have hw2 := hw.out
  have hw3 : IntKind.i64.wrap (f - tk) = f - tk := (IntWalk.i64_left _).trans hw2
  clear h hf htk hb g2 g3
  go_enter Tryz.func133, Tryz.ntmps133
  go_wp2_with fail
  refine wp_region_held_drew (S := fun wi => Below w.heap.size w wi) (by kernel_rfl) ⟨rfl, rfl, rfl, Nat.le_refl _, fun _ _ => rfl⟩ ?_
  intro hHeld
  obtain ⟨W, hW⟩ : ∃ W, w.drew = W := ⟨_, rfl⟩
  rw [hW] at hHeld ⊢
  clear hW
  refine wpAnyH_take (i := 0) (v := ?_) rfl (by kernel_rfl) (by kernel_rfl) (by kernel_rfl) (fun _ _ _ h => h) (Or.inl ⟨by rfl, ?_⟩) (by assumption) ?_
  rotate_left
  · intro wq hSw
    (try dsimp only at hSw)
    go_simp
    try (with_reducible rfl)
  try simp only [Act.put, List.getElem_toArray, List.getElem_cons_zero, List.setIfInBounds_toArray, List.set_cons_zero, List.set_cons_succ]
  refine wpAnyH_take (i := 1) (v := ?_) rfl (by kernel_rfl) (by kernel_rfl) (by kernel_rfl) (fun _ _ _ h => h) (Or.inl ⟨by rfl, ?_⟩) (by assumption) ?_
  rotate_left
  · intro wq hSw
    (try dsimp only at hSw)
    go_simp
    try (with_reducible rfl)
  try simp only [Act.put, List.getElem_toArray, List.getElem_cons_zero, List.getElem_cons_succ, List.setIfInBounds_toArray, List.set_cons_zero, List.set_cons_succ]
  refine wpAnyH_take (i := 2) (v := ?_) rfl (by kernel_rfl) (by kernel_rfl) (by kernel_rfl) (fun _ _ _ h => h) (Or.inl ⟨by rfl, ?_⟩) (by assumption) ?_
  rotate_left
  · intro wq hSw
    (try dsimp only at hSw)
    go_simp
    try (with_reducible rfl)
  try simp only [Act.put, List.getElem_toArray, List.getElem_cons_zero, List.getElem_cons_succ, List.setIfInBounds_toArray, List.set_cons_zero, List.set_cons_succ]
  refine wpAnyH_take (i := 3) (v := ?_) rfl (by kernel_rfl) (by kernel_rfl) (by kernel_rfl) (fun _ _ _ h => h) (Or.inl ⟨by rfl, ?_⟩) (by assumption) ?_
  rotate_left
  · intro wq hSw
    (try dsimp only at hSw)
    have c9 := C1.out wq hSw
    clear hSw
    go_simp
    try (with_reducible rfl)
  try simp only [Act.put, List.getElem_toArray, List.getElem_cons_zero, List.getElem_cons_succ, List.setIfInBounds_toArray, List.set_cons_zero, List.set_cons_succ]
  refine wpAnyH_take (i := 5) (v := ?_) rfl (by kernel_rfl) (by kernel_rfl) (by kernel_rfl) (fun _ _ _ h => h) (Or.inl ⟨by rfl, ?_⟩) (by assumption) ?_
  rotate_left
  · intro wq hSw
    (try dsimp only at hSw)
    go_simp
    try (with_reducible rfl)
  try simp only [Act.put, List.getElem_toArray, List.getElem_cons_zero, List.getElem_cons_succ, List.setIfInBounds_toArray, List.set_cons_zero, List.set_cons_succ]
  refine wpAnyH_take (i := 6) (v := ?_) rfl (by kernel_rfl) (by kernel_rfl) (by kernel_rfl) (fun _ _ _ h => h) (Or.inl ⟨by rfl, ?_⟩) (by assumption) ?_
  rotate_left
  · intro wq hSw
    (try dsimp only at hSw)
    go_simp
    try (with_reducible rfl)
  try simp only [Act.put, List.getElem_toArray, List.getElem_cons_zero, List.getElem_cons_succ, List.setIfInBounds_toArray, List.set_cons_zero, List.set_cons_succ]
  refine wpAnyH_take (i := 7) (v := ?_) rfl (by kernel_rfl) (by kernel_rfl) (by kernel_rfl) (fun _ _ _ h => h) (Or.inl ⟨by rfl, ?_⟩) (by assumption) ?_
  rotate_left
  · intro wq hSw
    (try dsimp only at hSw)
    go_simp
    try (with_reducible rfl)
  try simp only [Act.put, List.getElem_toArray, List.getElem_cons_zero, List.getElem_cons_succ, List.setIfInBounds_toArray, List.set_cons_zero, List.set_cons_succ]
  refine wpAnyH_take (i := 8) (v := ?_) rfl (by kernel_rfl) (by kernel_rfl) (by kernel_rfl) (fun _ _ _ h => h) (Or.inl ⟨by rfl, ?_⟩) (by assumption) ?_
  rotate_left
  · intro wq hSw
    (try dsimp only at hSw)
    have c9 := C2.out wq hSw
    clear hSw
    go_simp
    try (with_reducible rfl)
  try simp only [Act.put, List.getElem_toArray, List.getElem_cons_zero, List.getElem_cons_succ, List.setIfInBounds_toArray, List.set_cons_zero, List.set_cons_succ]
  refine wpAnyH_ready (rs := [4]) (by kernel_rfl) (by simp) ?_
  refine AllReadyH.cons rfl (fun K hK => ?_) AllReadyH.nil
  go_simp
  refine (HF.out _ hHeld).mono ?_
  rintro e w2 ⟨rfl, hb⟩
  have HB2 := Lib.hid (hHeld.trans (hb.mono hHeld.size))
  clear hb
  try go_wp2_with fail
  refine hK.out _ _ (HB2.out) (fun hHeld2 => ?_)
  clear hK K hHeld
  have hHeld := hHeld2
  clear hHeld2
  try simp only [Act.put, List.getElem_toArray, List.getElem_cons_zero, List.getElem_cons_succ, List.setIfInBounds_toArray, List.set_cons_zero, List.set_cons_succ]
  refine wpAnyH_take (i := 9) (v := ?_) rfl (by kernel_rfl) (by kernel_rfl) (by kernel_rfl) (fun _ _ _ h => h) (Or.inl ⟨by rfl, ?_⟩) (by assumption) ?_
  rotate_left
  · intro wq hSw
    (try dsimp only at hSw)
    go_simp
    try (with_reducible rfl)
  try simp only [Act.put, List.getElem_toArray, List.getElem_cons_zero, List.getElem_cons_succ, List.setIfInBounds_toArray, List.set_cons_zero, List.set_cons_succ]
  refine wpAnyH_take (i := 10) (v := ?_) rfl (by kernel_rfl) (by kernel_rfl) (by kernel_rfl) (fun _ _ _ h => h) (Or.inl ⟨by rfl, ?_⟩) (by assumption) ?_
  rotate_left
  · intro wq hSw
    (try dsimp only at hSw)
    go_simp
    try (with_reducible rfl)
  try simp only [Act.put, List.getElem_toArray, List.getElem_cons_zero, List.getElem_cons_succ, List.setIfInBounds_toArray, List.set_cons_zero, List.set_cons_succ]
  refine wpAnyH_done (by kernel_rfl) ?_ _
  go_wp2
  go_ret
  exact ⟨rfl, HB2.out⟩
end
end Go.Proofs.YtpjlnpnadkbakaaGreat

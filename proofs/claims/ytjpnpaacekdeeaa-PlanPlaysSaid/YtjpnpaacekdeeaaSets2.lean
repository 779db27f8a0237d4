/-
  What Cut, Has, Front, First and Count of package ranges make of a Set: contracts over the program.
-/
import Derived.Test.YtjpnpaacekdeeaaSets
namespace Go.Proofs.Ytjpnpaacekdeeaa
open Go.RowKit
open Go.Sort (grow grow_grow grow_empty alloc_eq_grow)

set_option maxHeartbeats 400000 in
/-- Cut, of no place. -/
theorem cut_none (x : Value) (f t : Int) (w : World) (h : t ≤ f) : Calls Try.prog 28 #[x, .int .i64 f, .int .i64 t] w fun e w' => e = .returned (.tuple #[]) ∧ w = w' := by
  go_enter Try.func28, Try.ntmps28
  go_wp2
  refine bodyPost_ret (results_none rfl _ _ _) rfl ?_
  exact ⟨rfl, rfl⟩

set_option maxHeartbeats 400000 in
set_option maxRecDepth 100000 in
/-- Cut, where nothing lies. -/
theorem cut_nothing (p : Nat) (v : Value) (ps : List (Int × Int)) (B a : Nat) (f t : Int) (w : World) (hs : SetAt w B p v ps) (h : f < t) (ht : Touch ps f t a a) (hl : ps.length ≤ 1099511627776) :
    Calls Try.prog 28 #[.pointer (some ⟨p, 0, none⟩), .int .i64 f, .int .i64 t] w fun e w' => e = .returned (.tuple #[]) ∧ ∃ q os, w' = grow (w.drewN q) os := by
  have HTO := Lib.hid (touched_any p v ps B a a f t w hs ht (by omega))
  have H0 : ¬ (t ≤ f) := by omega
  clear hs ht hl h
  go_enter Try.func28, Try.ntmps28
  go_wp2_with fail
  refine HTO.out.mono ?_
  rintro e w1 ⟨rfl, q, os, rfl⟩
  go_wp2
  refine bodyPost_ret (results_none rfl _ _ _) rfl ?_
  exact ⟨rfl, q, os, rfl⟩


/-- What the walk of Cut leans on, behind the search. -/
structure CutK (w : World) (p g n c a b : Nat) (y1 y2 : Int) (v : Value) (cm : List (Int × Int)) (Q : Value → World → Prop) : Prop where
  facts : ∀ W', Below w.heap.size w W' → W'.cell? ⟨p, 0, none⟩ = some (.slice (some ⟨g, 0, none⟩) n c) ∧ W'.cell? ⟨g, a * 2, none⟩ = some (.int .i64 y1) ∧ W'.cell? ⟨g, (b - 1) * 2 + 1, none⟩ = some (.int .i64 y2)
  key : ∀ (W : World) (A' : Option Addr) (m c' : Nat), Below w.heap.size w W → OwnP 37 W w.heap.size (.slice A' m c') cm →
      Calls Try.prog 43 #[v, .int .i64 a, .int .i64 b, .slice A' m c'] W fun e w' => ∃ A2 n2 c2, e = .returned (.slice A2 n2 c2) ∧ w'.frozen? ⟨p, 0, none⟩ = false ∧ (∃ u, w'.cell? ⟨p, 0, none⟩ = some u) ∧ Q (.slice A2 n2 c2) (w'.setCell ⟨p, 0, none⟩ (.slice A2 n2 c2))

/-- append of one pair that was just laid. -/
theorem app_lit (W : World) (B : Nat) (v : Value) (ps : List (Int × Int)) (y z : Int) (hB : B ≤ W.heap.size) (h : OwnP 37 W B v ps) (hl : ps.length ≤ 4) :
    ∃ A' c' w', (Builtin.append_ #[34, 34] 34 #[v, .slice (some ⟨W.heap.size, 0, none⟩) 1 1]).run Try.prog (W.alloc (.cells #[.int .i64 y, .int .i64 z] 37)) = .ok (.slice A' (ps.length + 1) c') w' ∧ OwnP 37 w' B (.slice A' (ps.length + 1) c') (ps ++ [(y, z)]) ∧ (∀ B0 w0, B0 ≤ B → Below B0 w0 W → Below B0 w0 w') := by
  have hu : OwnP 37 (W.alloc (.cells #[.int .i64 y, .int .i64 z] 37)) W.heap.size (.slice (some ⟨W.heap.size, 0, none⟩) 1 1) [(y, z)] := OwnP.new W _ _ [(y, z)] rfl (by simp [maxLen])
  obtain ⟨A', c', w', hr, ho, hg, _⟩ := run_app2 (P := Try.prog) (W.alloc (.cells #[.int .i64 y, .int .i64 z] 37)) 34 34 37 _ Try.underlying34 info_range rfl B v ps (h.alloc _) _ 1 1 [(y, z)] rfl (fun _ => ⟨_, rfl, by simpa using hu.src 0⟩) (by omega) (by simp; omega)
  exact ⟨A', c', w', hr, ho, fun B0 w0 h0 hb => (hb.alloc (by omega) _).grown hg (by simp; omega) (fun g hg' => by have := (h.lt g hg').1; omega)⟩

set_option maxHeartbeats 1000000 in
set_option maxRecDepth 100000 in
theorem cut_walk (p g n c a b : Nat) (f t y1 y2 : Int) (w : World) (Q : Value → World → Prop) (hlb : b ≤ n) (hn : n ≤ 1099511627776) (hab : a < b) (h : f < t)
    (HTO : Hid (Calls Try.prog 42 #[.pointer (some ⟨p, 0, none⟩), .int .i64 f, .int .i64 t] w fun e w' => e = .returned (.tuple #[.int .i64 a, .int .i64 b]) ∧ ∃ q os, w' = grow (w.drewN q) os))
    (K : Hid (CutK w p g n c a b y1 y2 (.slice (some ⟨g, 0, none⟩) n c) ((if y1 < f then [(y1, f)] else []) ++ (if t < y2 then [(t, y2)] else [])) Q)) :
    Calls Try.prog 28 #[.pointer (some ⟨p, 0, none⟩), .int .i64 f, .int .i64 t] w fun e w' => e = .returned (.tuple #[]) ∧ ∃ v', Q v' w' := by
  have H0 : ¬ (t ≤ f) := by omega
  have i1 : ¬ ((a : Int) = (b : Int)) := by omega
  have i2 : (a : Int) < (n : Int) := by omega
  have i3 : (0 : Int) ≤ (a : Int) := by omega
  have i4 : (0 : Int) ≤ (b : Int) - 1 := by omega
  have i5 : (b : Int) - 1 < (n : Int) := by omega
  have i6 : ((b : Int) - 1).toNat = b - 1 := by omega
  have i7 : (0 : Int) < (b : Int) := by omega
  have i8 : wrap64 ((b : Int) - 1) = (b : Int) - 1 := by unfold wrap64; omega
  have HBEL := Lib.hid (show ∀ q os, Below w.heap.size w (grow (w.drewN q) os) from fun q os => below_grow _ _ _ _ (Nat.le_refl _))
  by_cases hl : y1 < f
  · by_cases hr : t < y2
    · go_enter Try.func28, Try.ntmps28
      go_wp2_with fail
      refine HTO.out.mono ?_
      rintro e w1 ⟨rfl, q, os, rfl⟩
      obtain ⟨W, hW⟩ : ∃ W, W = grow (w.drewN q) os := ⟨_, rfl⟩
      have HB := Lib.hid (HBEL.out q os)
      rw [← hW] at HB ⊢
      clear hW
      have hWs : w.heap.size ≤ W.heap.size := HB.out.size
      obtain ⟨c0, c1, _⟩ := K.out.facts W HB.out
      have HB1 := Lib.hid (HB.out.alloc hWs (.cells #[.int .i64 y1, .int .i64 f] 37))
      have o0 : OwnP 37 (W.alloc (.cells #[.int .i64 y1, .int .i64 f] 37)) w.heap.size (.slice none 0 0) [] := OwnP.nil _ _ _
      obtain ⟨A', c', w3, hr3, ho3, hb3⟩ := app_lit (W.alloc (.cells #[.int .i64 y1, .int .i64 f] 37)) w.heap.size _ [] y1 f (by simp; omega) o0 (by simp)
      have HO3 := Lib.hid ho3
      have HB3 := Lib.hid (hb3 _ _ (Nat.le_refl _) HB1.out)
      have hs3 : w.heap.size ≤ w3.heap.size := HB3.out.size
      simp only [List.length_nil, Nat.zero_add, World.size_alloc] at hr3
      simp only [List.nil_append, List.length_nil, Nat.zero_add] at HO3
      obtain ⟨d0, _, d2⟩ := K.out.facts w3 HB3.out
      have HB4 := Lib.hid (HB3.out.alloc hs3 (.cells #[.int .i64 t, .int .i64 y2] 37))
      clear o0 ho3 hb3
      have o4 : OwnP 37 (w3.alloc (.cells #[.int .i64 t, .int .i64 y2] 37)) w.heap.size (.slice A' 1 c') [(y1, f)] := HO3.out.alloc _
      obtain ⟨A5, c5, w5, hr5, ho5, hb5⟩ := app_lit (w3.alloc (.cells #[.int .i64 t, .int .i64 y2] 37)) w.heap.size _ [(y1, f)] t y2 (by simp; omega) o4 (by simp)
      obtain ⟨e0, _, _⟩ := K.out.facts w5 (hb5 _ _ (Nat.le_refl _) HB4.out)
      have HKEY := Lib.hid (K.out.key w5 A5 2 c5 (hb5 _ _ (Nat.le_refl _) HB4.out) (by rw [if_pos (show y1 < f by omega), if_pos (show t < y2 by omega)]; exact ho5))
      simp only [List.length_cons, List.length_nil, Nat.zero_add, Nat.reduceAdd, World.size_alloc] at hr5
      clear o4 ho5 hb5
      go_wp2_with (at_builtin; first | refine wpList_append_r rfl (.tmp 39) (.tmp 41) 34 34 rfl _ _ rfl rfl hr3 ?_ | refine wpList_append_r rfl (.tmp 59) (.tmp 61) 34 34 rfl _ _ rfl rfl hr5 ?_)
      refine HKEY.out.mono ?_
      rintro e w7 ⟨A2, n2, c2, rfl, fz, ⟨u, hu⟩, hq⟩
      have HQ := Lib.hid hq
      clear hq
      go_wp2
      go_end0
      exact ⟨rfl, _, HQ.out⟩
    · go_enter Try.func28, Try.ntmps28
      go_wp2_with fail
      refine HTO.out.mono ?_
      rintro e w1 ⟨rfl, q, os, rfl⟩
      obtain ⟨W, hW⟩ : ∃ W, W = grow (w.drewN q) os := ⟨_, rfl⟩
      have HB := Lib.hid (HBEL.out q os)
      rw [← hW] at HB ⊢
      clear hW
      have hWs : w.heap.size ≤ W.heap.size := HB.out.size
      obtain ⟨c0, c1, _⟩ := K.out.facts W HB.out
      have HB1 := Lib.hid (HB.out.alloc hWs (.cells #[.int .i64 y1, .int .i64 f] 37))
      have o0 : OwnP 37 (W.alloc (.cells #[.int .i64 y1, .int .i64 f] 37)) w.heap.size (.slice none 0 0) [] := OwnP.nil _ _ _
      obtain ⟨A', c', w3, hr3, ho3, hb3⟩ := app_lit (W.alloc (.cells #[.int .i64 y1, .int .i64 f] 37)) w.heap.size _ [] y1 f (by simp; omega) o0 (by simp)
      have HO3 := Lib.hid ho3
      have HB3 := Lib.hid (hb3 _ _ (Nat.le_refl _) HB1.out)
      have hs3 : w.heap.size ≤ w3.heap.size := HB3.out.size
      simp only [List.length_nil, Nat.zero_add, World.size_alloc] at hr3
      simp only [List.nil_append, List.length_nil, Nat.zero_add] at HO3
      obtain ⟨d0, _, d2⟩ := K.out.facts w3 HB3.out
      have HB4 := Lib.hid (HB3.out.alloc hs3 (.cells #[.int .i64 t, .int .i64 y2] 37))
      clear o0 ho3 hb3
      obtain ⟨e0, _, _⟩ := K.out.facts _ HB4.out
      have HKEY := Lib.hid (K.out.key (w3.alloc (.cells #[.int .i64 t, .int .i64 y2] 37)) A' 1 c' HB4.out (by rw [if_pos (show y1 < f by omega), if_neg (show ¬ t < y2 by omega)]; exact HO3.out.alloc _))
      go_wp2_with (at_builtin; refine wpList_append_r rfl (.tmp 39) (.tmp 41) 34 34 rfl _ _ rfl rfl hr3 ?_)
      refine HKEY.out.mono ?_
      rintro e w7 ⟨A2, n2, c2, rfl, fz, ⟨u, hu⟩, hq⟩
      have HQ := Lib.hid hq
      clear hq
      go_wp2
      go_end0
      exact ⟨rfl, _, HQ.out⟩
  · by_cases hr : t < y2
    · go_enter Try.func28, Try.ntmps28
      go_wp2_with fail
      refine HTO.out.mono ?_
      rintro e w1 ⟨rfl, q, os, rfl⟩
      obtain ⟨W, hW⟩ : ∃ W, W = grow (w.drewN q) os := ⟨_, rfl⟩
      have HB := Lib.hid (HBEL.out q os)
      rw [← hW] at HB ⊢
      clear hW
      have hWs : w.heap.size ≤ W.heap.size := HB.out.size
      obtain ⟨c0, c1, _⟩ := K.out.facts W HB.out
      have HB1 := Lib.hid (HB.out.alloc hWs (.cells #[.int .i64 y1, .int .i64 f] 37))
      obtain ⟨d0, _, d2⟩ := K.out.facts _ HB1.out
      have hs3 : w.heap.size ≤ (W.alloc (.cells #[.int .i64 y1, .int .i64 f] 37)).heap.size := HB1.out.size
      have HB4 := Lib.hid (HB1.out.alloc hs3 (.cells #[.int .i64 t, .int .i64 y2] 37))
      have o4 : OwnP 37 ((W.alloc (.cells #[.int .i64 y1, .int .i64 f] 37)).alloc (.cells #[.int .i64 t, .int .i64 y2] 37)) w.heap.size (.slice none 0 0) [] := OwnP.nil _ _ _
      obtain ⟨A5, c5, w5, hr5, ho5, hb5⟩ := app_lit ((W.alloc (.cells #[.int .i64 y1, .int .i64 f] 37)).alloc (.cells #[.int .i64 t, .int .i64 y2] 37)) w.heap.size _ [] t y2 (by simp; omega) o4 (by simp)
      obtain ⟨e0, _, _⟩ := K.out.facts w5 (hb5 _ _ (Nat.le_refl _) HB4.out)
      have HKEY := Lib.hid (K.out.key w5 A5 1 c5 (hb5 _ _ (Nat.le_refl _) HB4.out) (by rw [if_neg (show ¬ y1 < f by omega), if_pos (show t < y2 by omega)]; exact ho5))
      simp only [List.length_nil, Nat.zero_add, World.size_alloc] at hr5
      clear o4 ho5 hb5
      go_wp2_with (at_builtin; refine wpList_append_r rfl (.tmp 59) (.tmp 61) 34 34 rfl _ _ rfl rfl hr5 ?_)
      refine HKEY.out.mono ?_
      rintro e w7 ⟨A2, n2, c2, rfl, fz, ⟨u, hu⟩, hq⟩
      have HQ := Lib.hid hq
      clear hq
      go_wp2
      go_end0
      exact ⟨rfl, _, HQ.out⟩
    · go_enter Try.func28, Try.ntmps28
      go_wp2_with fail
      refine HTO.out.mono ?_
      rintro e w1 ⟨rfl, q, os, rfl⟩
      obtain ⟨W, hW⟩ : ∃ W, W = grow (w.drewN q) os := ⟨_, rfl⟩
      have HB := Lib.hid (HBEL.out q os)
      rw [← hW] at HB ⊢
      clear hW
      have hWs : w.heap.size ≤ W.heap.size := HB.out.size
      obtain ⟨c0, c1, _⟩ := K.out.facts W HB.out
      have HB1 := Lib.hid (HB.out.alloc hWs (.cells #[.int .i64 y1, .int .i64 f] 37))
      obtain ⟨d0, _, d2⟩ := K.out.facts _ HB1.out
      have hs3 : w.heap.size ≤ (W.alloc (.cells #[.int .i64 y1, .int .i64 f] 37)).heap.size := HB1.out.size
      have HB4 := Lib.hid (HB1.out.alloc hs3 (.cells #[.int .i64 t, .int .i64 y2] 37))
      obtain ⟨e0, _, _⟩ := K.out.facts _ HB4.out
      have HKEY := Lib.hid (K.out.key ((W.alloc (.cells #[.int .i64 y1, .int .i64 f] 37)).alloc (.cells #[.int .i64 t, .int .i64 y2] 37)) none 0 0 HB4.out (by rw [if_neg (show ¬ y1 < f by omega), if_neg (show ¬ t < y2 by omega)]; exact OwnP.nil _ _ _))
      go_wp2_with fail
      refine HKEY.out.mono ?_
      rintro e w7 ⟨A2, n2, c2, rfl, fz, ⟨u, hu⟩, hq⟩
      have HQ := Lib.hid hq
      clear hq
      go_wp2
      go_end0
      exact ⟨rfl, _, HQ.out⟩

/-- Cut. -/
theorem setcut_any (p : Nat) (v : Value) (ps : List (Int × Int)) (B : Nat) (f t : Int) (w : World) (hs : SetAt w B p v ps) (hl : ps.length ≤ 1099511627776) (hB : B ≤ w.heap.size) :
    Calls Try.prog 28 #[.pointer (some ⟨p, 0, none⟩), .int .i64 f, .int .i64 t] w fun e w' => e = .returned (.tuple #[]) ∧ ∃ v' qs, SetAt w' B p v' qs ∧ Chg w w' p v v' ∧ (∀ k, ins qs k ↔ ins ps k ∧ ¬ (f ≤ k ∧ k < t)) ∧ qs.length ≤ ps.length + 1 := by
  by_cases h : t ≤ f
  · refine (cut_none _ f t w h).mono ?_
    rintro e w' ⟨rfl, rfl⟩
    exact ⟨rfl, v, ps, hs, Chg.refl _ _ _, fun k => ⟨fun hk => ⟨hk, by omega⟩, fun hk => hk.1⟩, by omega⟩
  · obtain ⟨a, b, ht⟩ := touch_exists hs.norm (show f < t by omega)
    have hle := ht.le
    have hlb := ht.lb
    by_cases hab : a = b
    · subst hab
      refine (cut_nothing p v ps B a f t w hs (by omega) ht hl).mono ?_
      rintro e w' ⟨rfl, q, os, rfl⟩
      refine ⟨rfl, v, ps, hs.grow q os, Chg.of_below (below_grow _ _ _ _ (Nat.le_refl _)), fun k => ⟨fun hk => ⟨hk, ?_⟩, fun hk => hk.1⟩, by omega⟩
      obtain ⟨r, hr, h1, h2⟩ := hk
      obtain ⟨i, hi, rfl⟩ := mem_getD hr
      by_cases hia : i < a
      · have := ht.ahead i hia; omega
      · have := ht.behind i (by omega) hi; omega
    · have hnorm := cut_norm hs.norm (show f < t by omega) ht (by omega)
      have HTO := Lib.hid (touched_any p v ps B a b f t w hs ht (by omega))
      rcases hs.form with ⟨_, hnil⟩ | ⟨g, c, hv⟩
      · rw [hnil] at hlb; simp at hlb; omega
      · have hglt : B ≤ g ∧ g < w.heap.size := hs.own.lt g (by rw [hv]; rfl)
        obtain ⟨y1, hy1⟩ : ∃ y, (ps.getD a (0, 0)).1 = y := ⟨_, rfl⟩
        obtain ⟨y2, hy2⟩ : ∃ y, (ps.getD (b - 1) (0, 0)).2 = y := ⟨_, rfl⟩
        have hcm : cutM ps f t a b = (if y1 < f then [(y1, f)] else []) ++ (if t < y2 then [(t, y2)] else []) := by unfold cutM; rw [hy1, hy2]
        have hcl : (cutM ps f t a b).length ≤ 2 := by
          rw [hcm, List.length_append]
          split <;> split <;> simp
        have K : CutK w p g ps.length c a b y1 y2 (.slice (some ⟨g, 0, none⟩) ps.length c) (cutM ps f t a b) (fun v' w' => SetAt w' B p v' (ps.take a ++ cutM ps f t a b ++ ps.drop b) ∧ Chg w w' p v v') := by
          refine ⟨fun W' hb => ?_, fun W A' m c' hbl hu => ?_⟩
          · have hsW := hs.later hb
            rw [hv] at hsW
            have e1 := hsW.own.cells a (by omega)
            have e2 := hsW.own.cells (b - 1) (by omega)
            rw [hy1] at e1
            rw [hy2] at e2
            exact ⟨hsW.c0, e1.1, e2.2⟩
          · have hsW : SetAt W B p v ps := hs.later hbl
            rw [← hv]
            refine (replace_any v _ ps (cutM ps f t a b) B a b ps.length m W v.ownBlock hsW.own rfl (hu.less hB) rfl hu.len hle hlb (by omega) ?_ (by have := hu.len; omega) (by have := hbl.size; omega)).mono ?_
            · intro x hx he
              have h1 := (hu.lt x hx).1
              rw [hv] at he
              simp [Value.ownBlock] at he
              omega
            · rintro e w' ⟨v', rfl, ho, hg, hf⟩
              have hp' : w'.heap[p]? = W.heap[p]? := hg.block p hsW.lt (Ne.symm (own_not_set hsW.own hsW.row))
              have hrow := World.rowIs.of_block hsW.row hp'
              obtain ⟨A2, c2, rfl⟩ := ho.form
              refine ⟨A2, _, c2, rfl, World.rowIs.frozen hrow 0, ⟨v, World.rowIs.cell (i := 0) hrow (by omega)⟩, ⟨(hrow.set 0 _).congr fun i hi => ?_, ?_, hs.ge, hnorm.1⟩, ?_⟩
              · have : i = 0 := by omega
                subst this; simp
              · exact ho.kept (setCell_one _ _ _ _) (.inr (by intro e; exact own_not_set ho hrow e))
              · refine ⟨hg.os.trans hbl.os, hg.tape.trans hbl.tape, hg.output.trans hbl.output, by have := hg.size; have := hbl.size; simp; omega, fun k hk hkp hkv => ?_, fun x hx => ?_⟩
                · rw [heap_setCell_other _ _ _ _ (fun e => hkp (by simpa using e)), hg.block k (by have := hbl.size; omega) hkv, hbl.block k hk]
                · rcases hf x hx with h1 | h1
                  · exact .inl h1
                  · exact .inr (by have := hbl.size; omega)
        rw [hcm] at K
        refine (cut_walk p g ps.length c a b f t y1 y2 w _ hlb hl (by omega) (by omega) HTO (Lib.hid K)).mono ?_
        rintro e w' ⟨rfl, v', h1, h2⟩
        rw [← hcm] at h1
        exact ⟨rfl, v', _, h1, h2, hnorm.2, by simp; omega⟩
end Go.Proofs.Ytjpnpaacekdeeaa

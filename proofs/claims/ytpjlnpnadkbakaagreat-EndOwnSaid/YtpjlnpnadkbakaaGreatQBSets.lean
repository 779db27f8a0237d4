/-
  Sets · Sets2 · SetFirst · SetKept.
-/
import Derived.Test.YtpjlnpnadkbakaaGreatQBSearch
import Derived.Test.YtpjlnpnadkbakaaGreatQBReplace2
import Derived.Test.YtpjlnpnadkbakaaGreatQBPair
import Derived.Lib.SliceRun
import Derived.Laws.ResultCell
import Derived.Test.YtpjlnpnadkbakaaGreatQBMem
namespace Go.Proofs.YtpjlnpnadkbakaaGreat
set_option maxRecDepth 10000
open Go.RowKit
open Go.Sort (grow grow_grow grow_empty alloc_eq_grow)
structure Chg (w w' : World) (p : Nat) (v v' : Value) : Prop where
  os : w'.os = w.os
  tape : w'.tape = w.tape
  output : w'.output = w.output
  size : w.heap.size ≤ w'.heap.size
  block : ∀ k, k < w.heap.size → k ≠ p → some k ≠ v.ownBlock → w'.heap[k]? = w.heap[k]?
  fresh : ∀ g, v'.ownBlock = some g → v.ownBlock = some g ∨ w.heap.size ≤ g
section
variable {w w' : World} {p : Nat} {v v' : Value}
theorem Chg.refl (w : World) (p : Nat) (v : Value) : Chg w w p v v := ⟨rfl, rfl, rfl, Nat.le_refl _, fun _ _ _ _ => rfl, fun _ h => .inl h⟩
theorem Chg.of_below (h : Below w.heap.size w w') : Chg w w' p v v := ⟨h.os, h.tape, h.output, h.size, fun k hk _ _ => h.block k hk, fun _ h => .inl h⟩
theorem Chg.below {B : Nat} {w0 : World} (h : Chg w w' p v v') (hb : Below B w0 w) (hB : B ≤ w.heap.size) (hp : B ≤ p) (hv : ∀ g, v.ownBlock = some g → B ≤ g) : Below B w0 w' :=
  ⟨h.os.trans hb.os, h.tape.trans hb.tape, h.output.trans hb.output, Nat.le_trans hb.size h.size, fun i hi => (h.block i (by omega) (by omega) (fun e => by have := hv i e.symm; omega)).trans (hb.block i hi)⟩
theorem SetAt.other {B q : Nat} {u : Value} {ps : List (Int × Int)} (hs : SetAt w B q u ps) (h : Chg w w' p v v') (hqp : q ≠ p) (hqv : v.ownBlock ≠ some q) (hup : u.ownBlock ≠ some p) (huv : u.ownBlock = none ∨ u.ownBlock ≠ v.ownBlock) : SetAt w' B q u ps := by
  refine ⟨World.rowIs.of_block hs.row (h.block q hs.lt hqp (Ne.symm hqv)), ?_, hs.ge, hs.norm⟩
  refine ⟨hs.own.1, ?_⟩
  rcases hs.own.2 with h2 | ⟨g, cap, cur, rfl, hB, hg, r⟩
  · exact .inl h2
  · refine .inr ⟨g, cap, cur, rfl, hB, ?_, r⟩
    have hlt := (Array.getElem?_eq_some_iff.1 hg).1
    rw [h.block g hlt (fun e => hup (by simp [Value.ownBlock, e])) (by simpa [Value.ownBlock] using huv)]
    exact hg
end
theorem newset_any (w : World) (B : Nat) (hB : B ≤ w.heap.size) : Calls Tryz.prog 166 #[] w fun e w' => e = .returned (.pointer (some ⟨w.heap.size, 0, none⟩)) ∧ SetAt w' B w.heap.size (.slice none 0 0) [] ∧ Below w.heap.size w w' ∧ w'.heap.size = w.heap.size + 1 := by
  go_enter Tryz.func166, Tryz.ntmps166
  go_wp2
  go_ret
  refine ⟨rfl, ⟨?_, OwnP.nil _ _ _, hB, Norm.nil⟩, (Below.refl _ _).alloc (Nat.le_refl _) _, by simp⟩
  exact World.rowIs_alloc w _ _ _ (fun i hi => by
    have : i < 1 := hi
    match i, this with
    | 0, _ => rfl)
set_option maxHeartbeats 400000 in
theorem cloneP_any (A : Option Addr) (n c : Nat) (ps : List (Int × Int)) (B : Nat) (w : World) (h : OwnP 143 w B (.slice A n c) ps) (hb : n ≤ 1099511627776) :
    Calls Tryz.prog 253 #[.slice A n c] w fun e w' => ∃ A' c', e = .returned (.slice A' n c') ∧ OwnP 143 w' w.heap.size (.slice A' n c') ps ∧ Below w.heap.size w w' := by
  have ke := fun (w : World) (a : Option Addr) (n c : Nat) => Lib.run_eql_slice_nil (P := Tryz.prog) w 140 143 a n c 0 0 Tryz.underlying140
  cases A with
  | none =>
    rcases h.parts with ⟨hv, rfl⟩ | ⟨g, cap, cur, hv, _⟩
    · injection hv with _ h1 h2
      subst h1
      subst h2
      clear h hb
      go_enter Tryz.func253, Tryz.ntmps253
      go_wp2
      go_ret
      exact ⟨_, _, rfl, OwnP.nil _ _ _, Below.refl _ _⟩
    · injection hv with hA _ _
      cases hA
  | some a =>
    obtain ⟨ha, _⟩ := h.heap
    have hl := h.len
    rw [ha] at h
    have hlt := (h.lt a.block rfl).2
    have hsr := h.src 0
    rw [List.drop_zero, Nat.zero_mul, ← ha] at hsr
    have h0 : OwnP 143 (w.alloc (.cells #[] 143)) w.heap.size (.slice (some ⟨w.heap.size, 0, none⟩) 0 0) [] := OwnP.new w #[] _ [] rfl (by simp [maxLen])
    obtain ⟨A', c', w', hr, ho, hg, _⟩ := run_app2 (P := Tryz.prog) (w.alloc (.cells #[] 143)) 140 140 143 _ Tryz.underlying140 info_range rfl w.heap.size _ [] h0 (some a) n c ps hl
      (fun _ => ⟨a, rfl, fun j u hj => cell_later ((Below.refl _ _).alloc (Nat.le_refl _) _) (hsr j u hj)⟩) (by simp; omega) (by simp)
    simp only [List.length_nil, Nat.zero_add, List.nil_append] at hr ho
    have HO := Lib.hid ho
    have HG := Lib.hid (((Below.refl _ _).alloc (Nat.le_refl _) (.cells #[] 143)).trans (grown_below hg (by simp) (by simp [Value.ownBlock])))
    clear h h0 ho hg hsr hl ha
    go_enter Tryz.func253, Tryz.ntmps253
    go_wp2_with (at_builtin; refine wpList_append_r rfl _ _ 140 140 rfl _ _ rfl rfl hr ?_)
    go_ret
    exact ⟨A', c', rfl, HO.out, HG.out⟩
set_option maxHeartbeats 400000 in
theorem allset_any (p : Nat) (v : Value) (ps : List (Int × Int)) (B : Nat) (w : World) (h : SetAt w B p v ps) (hb : ps.length ≤ 1099511627776) :
    Calls Tryz.prog 202 #[.pointer (some ⟨p, 0, none⟩)] w fun e w' => ∃ A' c', e = .returned (.slice A' ps.length c') ∧ OwnP 143 w' w.heap.size (.slice A' ps.length c') ps ∧ Below w.heap.size w w' := by
  obtain ⟨A, c, rfl⟩ := h.own.form
  have c0 := h.c0
  have HC := Lib.hid (cloneP_any A ps.length c ps B w h.own hb)
  clear h hb
  obtain ⟨n, hn⟩ : ∃ n, ps.length = n := ⟨_, rfl⟩
  rw [hn] at c0 HC ⊢
  clear hn
  go_enter Tryz.func202, Tryz.ntmps202
  go_wp2_with fail
  refine HC.out.mono ?_
  rintro e w' ⟨A', c', rfl, h1, h2⟩
  go_wp2
  go_ret
  exact ⟨A', c', rfl, h1, h2⟩
set_option maxHeartbeats 400000 in
theorem add_none (x : Value) (f t : Int) (w : World) (h : min t 1099511627776 ≤ max f 0) : Calls Tryz.prog 154 #[x, .int .i64 f, .int .i64 t] w fun e w' => e = .returned (.tuple #[]) ∧ w = w' := by
  obtain ⟨F, hF⟩ : ∃ F, F = max f 0 := ⟨_, rfl⟩
  obtain ⟨T, hT⟩ : ∃ T, T = min t 1099511627776 := ⟨_, rfl⟩
  have m1 := run_max2 f 0 F hF
  have m2 := run_min2 t 1099511627776 T hT
  rw [← hF, ← hT] at h
  clear hF hT
  go_enter Tryz.func154, Tryz.ntmps154
  go_wp2
  refine bodyPost_ret (results_none rfl _ _ _) rfl ?_
  exact ⟨rfl, rfl⟩
set_option maxHeartbeats 1000000 in
set_option maxRecDepth 100000 in
theorem add_some (p : Nat) (v : Value) (ps : List (Int × Int)) (B : Nat) (f t F T : Int) (w : World) (hs : SetAt w B p v ps) (hF : F = max f 0) (hT : T = min t 1099511627776) (h : F < T) (hl : ps.length ≤ 1099511627776) (hB : B ≤ w.heap.size) :
    Calls Tryz.prog 154 #[.pointer (some ⟨p, 0, none⟩), .int .i64 f, .int .i64 t] w fun e w' => e = .returned (.tuple #[]) ∧ ∃ v' qs, SetAt w' B p v' qs ∧ Chg w w' p v v' ∧ (∀ k, ins qs k ↔ ins ps k ∨ (F ≤ k ∧ k < T)) ∧ qs.length ≤ ps.length + 1 := by
  have m1 := run_max2 f 0 F hF
  have m2 := run_min2 t 1099511627776 T hT
  obtain ⟨a, b, ht⟩ := touch_exists hs.norm h
  have hle := ht.le
  have hlb := ht.lb
  have hnorm := add_norm hs.norm (by omega) h (by omega) ht
  have HTO := Lib.hid (touched_any p v ps B a b F T w hs ht (by omega))
  have H0 : ¬ (T ≤ F) := by omega
  have key : ∀ (W : World) (x1 x2 : Int), Below w.heap.size w W → (x1, x2) = (if a < b then (min F (ps.getD a (0, 0)).1, max T (ps.getD (b - 1) (0, 0)).2) else (F, T)) →
      Calls Tryz.prog 233 #[v, .int .i64 a, .int .i64 b, .slice (some ⟨W.heap.size, 0, none⟩) 1 1] (W.alloc (.cells #[.int .i64 x1, .int .i64 x2] 143)) fun e w' => ∃ A' n' c', e = .returned (.slice A' n' c') ∧ w'.frozen? ⟨p, 0, none⟩ = false ∧ (∃ u, w'.cell? ⟨p, 0, none⟩ = some u) ∧
        (SetAt (w'.setCell ⟨p, 0, none⟩ (.slice A' n' c')) B p (.slice A' n' c') (addL ps F T a b) ∧ Chg w (w'.setCell ⟨p, 0, none⟩ (.slice A' n' c')) p v (.slice A' n' c')) := by
    intro W x1 x2 hbl hx
    have hsW : SetAt W B p v ps := hs.later hbl
    have hs1 := hsW.alloc (.cells #[.int .i64 x1, .int .i64 x2] 143)
    have hu : OwnP 143 (W.alloc (.cells #[.int .i64 x1, .int .i64 x2] 143)) W.heap.size (.slice (some ⟨W.heap.size, 0, none⟩) 1 1) [(x1, x2)] := OwnP.new W _ _ [(x1, x2)] rfl (by simp [maxLen])
    have hWB : B ≤ W.heap.size := Nat.le_trans hB hbl.size
    refine (replace_any v _ ps [(x1, x2)] B a b ps.length 1 (W.alloc (.cells #[.int .i64 x1, .int .i64 x2] 143)) v.ownBlock hs1.own rfl (hu.less hWB) rfl rfl hle hlb (by omega) ?_ (by omega) (by simp; omega)).mono ?_
    · intro g hg he
      have := (hsW.own.lt g he).2
      simp [Value.ownBlock] at hg
      omega
    · rintro e w' ⟨v', rfl, ho, hg, hf⟩
      have hp' : w'.heap[p]? = (W.alloc (.cells #[.int .i64 x1, .int .i64 x2] 143)).heap[p]? := hg.block p (by have := hs1.lt; exact this) (Ne.symm (own_not_set hs1.own hs1.row))
      have hrow := World.rowIs.of_block hs1.row hp'
      have hL : ps.take a ++ [(x1, x2)] ++ ps.drop b = addL ps F T a b := by unfold addL; rw [hx]
      rw [hL] at ho
      have hb2 : Below w.heap.size w (W.alloc (.cells #[.int .i64 x1, .int .i64 x2] 143)) := hbl.alloc (by have := hbl.size; omega) _
      obtain ⟨A', c', rfl⟩ := ho.form
      refine ⟨A', _, c', rfl, World.rowIs.frozen hrow 0, ⟨v, World.rowIs.cell (i := 0) hrow (by omega)⟩, ⟨(hrow.set 0 _).congr fun i hi => ?_, ?_, hs.ge, hnorm.1⟩, ?_⟩
      · have : i = 0 := by omega
        subst this; simp
      · exact ho.kept (setCell_one _ _ _ _) (.inr (by intro e; exact own_not_set ho hrow e))
      · refine ⟨hg.os.trans hb2.os, hg.tape.trans hb2.tape, hg.output.trans hb2.output, by have := hg.size; have := hb2.size; simp; omega, fun k hk hkp hkv => ?_, fun g hgv => ?_⟩
        · rw [heap_setCell_other _ _ _ _ (fun e => hkp (by simpa using e)), hg.block k (by have := hb2.size; omega) hkv, hb2.block k hk]
        · rcases hf g hgv with h1 | h1
          · exact .inl h1
          · exact .inr (by have := hb2.size; omega)
  have KEY := Lib.hid key
  have HFIN := Lib.hid (show (∀ k, ins (addL ps F T a b) k ↔ ins ps k ∨ (F ≤ k ∧ k < T)) ∧ (addL ps F T a b).length ≤ ps.length + 1 from ⟨hnorm.2, by unfold addL; simp; omega⟩)
  clear key hnorm
  have hbel : ∀ q os, Below w.heap.size w (grow (w.drewN q) os) := fun q os => below_grow _ _ _ _ (Nat.le_refl _)
  have HBEL := Lib.hid hbel
  have HS := Lib.hid hs
  obtain ⟨ls, hls⟩ : ∃ ls, addL ps F T a b = ls := ⟨_, rfl⟩
  rw [hls] at HFIN KEY
  by_cases hab : a < b
  · rcases hs.form with ⟨_, rfl⟩ | ⟨g, c, rfl⟩
    · simp at hlb; omega
    · have hcell1 : ∀ q os, (grow (w.drewN q) os).cell? ⟨g, a * 2, none⟩ = some (.int .i64 (ps.getD a (0, 0)).1) := fun q os => ((hs.grow q os).own.cells a (by omega)).1
      have hcell2 : ∀ q os, (grow (w.drewN q) os).cell? ⟨g, (b - 1) * 2 + 1, none⟩ = some (.int .i64 (ps.getD (b - 1) (0, 0)).2) := fun q os => ((hs.grow q os).own.cells (b - 1) (by omega)).2
      obtain ⟨y1, hy1⟩ : ∃ y, (ps.getD a (0, 0)).1 = y := ⟨_, rfl⟩
      obtain ⟨y2, hy2⟩ : ∃ y, (ps.getD (b - 1) (0, 0)).2 = y := ⟨_, rfl⟩
      rw [hy1] at hcell1 KEY
      rw [hy2] at hcell2 KEY
      obtain ⟨x1, hx1⟩ : ∃ x, x = min F y1 := ⟨_, rfl⟩
      obtain ⟨x2, hx2⟩ : ∃ x, x = max T y2 := ⟨_, rfl⟩
      have m3 := run_min2 F y1 x1 hx1
      have m4 := run_max2 T y2 x2 hx2
      have KEY2 := Lib.hid (fun W hb => KEY.out W x1 x2 hb (by rw [if_pos hab, hx1, hx2]))
      obtain ⟨n, hn⟩ : ∃ n, ps.length = n := ⟨_, rfl⟩
      rw [hn] at KEY2 hlb HS
      have HC1 := Lib.hid hcell1
      have HC2 := Lib.hid hcell2
      have HC0 := Lib.hid (show ∀ q os, (grow (w.drewN q) os).cell? ⟨p, 0, none⟩ = some (.slice (some ⟨g, 0, none⟩) n c) from fun q os => (HS.out.grow q os).c0)
      have i1 : (a : Int) < (b : Int) := by omega
      have i2 : (a : Int) < (n : Int) := by omega
      have i3 : (0 : Int) ≤ (a : Int) := by omega
      have i4 : (0 : Int) ≤ (b : Int) - 1 := by omega
      have i5 : (b : Int) - 1 < (n : Int) := by omega
      have i6 : ((b : Int) - 1).toNat = b - 1 := by omega
      have i7 : (0 : Int) < (b : Int) := by omega
      have i8 : wrap64 ((b : Int) - 1) = (b : Int) - 1 := by unfold wrap64; omega
      rw [hn]
      rw [hn] at HFIN
      clear KEY hs ht hle hl hF hT hy1 hy2 hx1 hx2 hcell1 hcell2 hbel hls h hn
      go_enter Tryz.func154, Tryz.ntmps154
      go_wp2_with fail
      refine HTO.out.mono ?_
      rintro e w1 ⟨rfl, q, os, rfl⟩
      obtain ⟨W, hW⟩ : ∃ W, W = grow (w.drewN q) os := ⟨_, rfl⟩
      have c0 := HC0.out q os
      have c1 := HC1.out q os
      have c2 := HC2.out q os
      have HB := Lib.hid (HBEL.out q os)
      rw [← hW] at c0 c1 c2 HB ⊢
      clear hW
      go_wp2_with fail
      refine (KEY2.out W HB.out).mono ?_
      rintro e w2 ⟨A', n', c', rfl, fz, ⟨u, hu⟩, hfin⟩
      have HR := Lib.hid hfin
      clear hfin c0 c1 c2
      go_wp2
      go_end0
      exact ⟨rfl, _, ls, HR.out.1, HR.out.2, HFIN.out.1, HFIN.out.2⟩
  · obtain ⟨A, c, rfl⟩ := hs.own.form
    have KEY2 := Lib.hid (fun W hb => KEY.out W F T hb (by rw [if_neg hab]))
    have i1 : ¬ ((a : Int) < (b : Int)) := by omega
    obtain ⟨n, hn⟩ : ∃ n, ps.length = n := ⟨_, rfl⟩
    rw [hn] at KEY2 hlb HS
    have HC0 := Lib.hid (show ∀ q os, (grow (w.drewN q) os).cell? ⟨p, 0, none⟩ = some (.slice A n c) from fun q os => (HS.out.grow q os).c0)
    rw [hn]
    rw [hn] at HFIN
    clear KEY hs ht hle hl hF hT hbel hls h hn hlb
    go_enter Tryz.func154, Tryz.ntmps154
    go_wp2_with fail
    refine HTO.out.mono ?_
    rintro e w1 ⟨rfl, q, os, rfl⟩
    obtain ⟨W, hW⟩ : ∃ W, W = grow (w.drewN q) os := ⟨_, rfl⟩
    have c0 := HC0.out q os
    have HB := Lib.hid (HBEL.out q os)
    rw [← hW] at c0 HB ⊢
    clear hW
    go_wp2_with fail
    refine (KEY2.out W HB.out).mono ?_
    rintro e w2 ⟨A', n', c', rfl, fz, ⟨u, hu⟩, hfin⟩
    have HR := Lib.hid hfin
    clear hfin c0
    go_wp2
    go_end0
    exact ⟨rfl, _, ls, HR.out.1, HR.out.2, HFIN.out.1, HFIN.out.2⟩
theorem add_any (p : Nat) (v : Value) (ps : List (Int × Int)) (B : Nat) (f t : Int) (w : World) (hs : SetAt w B p v ps) (hl : ps.length ≤ 1099511627776) (hB : B ≤ w.heap.size) :
    Calls Tryz.prog 154 #[.pointer (some ⟨p, 0, none⟩), .int .i64 f, .int .i64 t] w fun e w' => e = .returned (.tuple #[]) ∧ ∃ v' qs, SetAt w' B p v' qs ∧ Chg w w' p v v' ∧ (∀ k, ins qs k ↔ ins ps k ∨ (max f 0 ≤ k ∧ k < min t 1099511627776)) ∧ qs.length ≤ ps.length + 1 := by
  by_cases h : min t 1099511627776 ≤ max f 0
  · refine (add_none _ f t w h).mono ?_
    rintro e w' ⟨rfl, rfl⟩
    exact ⟨rfl, v, ps, hs, Chg.refl _ _ _, fun k => ⟨fun hk => .inl hk, fun hk => hk.elim id (fun h2 => by omega)⟩, by omega⟩
  · exact add_some p v ps B f t _ _ w hs rfl rfl (by omega) hl hB
end Go.Proofs.YtpjlnpnadkbakaaGreat
namespace Go.Proofs.YtpjlnpnadkbakaaGreat
set_option maxRecDepth 10000
open Go.RowKit
open Go.Sort (grow grow_grow grow_empty alloc_eq_grow)
set_option maxHeartbeats 400000 in
theorem cut_none (x : Value) (f t : Int) (w : World) (h : t ≤ f) : Calls Tryz.prog 218 #[x, .int .i64 f, .int .i64 t] w fun e w' => e = .returned (.tuple #[]) ∧ w = w' := by
  go_enter Tryz.func218, Tryz.ntmps218
  go_wp2
  refine bodyPost_ret (results_none rfl _ _ _) rfl ?_
  exact ⟨rfl, rfl⟩
set_option maxHeartbeats 400000 in
set_option maxRecDepth 100000 in
theorem cut_nothing (p : Nat) (v : Value) (ps : List (Int × Int)) (B a : Nat) (f t : Int) (w : World) (hs : SetAt w B p v ps) (h : f < t) (ht : Touch ps f t a a) (hl : ps.length ≤ 1099511627776) :
    Calls Tryz.prog 218 #[.pointer (some ⟨p, 0, none⟩), .int .i64 f, .int .i64 t] w fun e w' => e = .returned (.tuple #[]) ∧ ∃ q os, w' = grow (w.drewN q) os := by
  have HTO := Lib.hid (touched_any p v ps B a a f t w hs ht (by omega))
  have H0 : ¬ (t ≤ f) := by omega
  clear hs ht hl h
  go_enter Tryz.func218, Tryz.ntmps218
  go_wp2_with fail
  refine HTO.out.mono ?_
  rintro e w1 ⟨rfl, q, os, rfl⟩
  go_wp2
  refine bodyPost_ret (results_none rfl _ _ _) rfl ?_
  exact ⟨rfl, q, os, rfl⟩
structure CutK (w : World) (p g n c a b : Nat) (y1 y2 : Int) (v : Value) (cm : List (Int × Int)) (Q : Value → World → Prop) : Prop where
  facts : ∀ W', Below w.heap.size w W' → W'.cell? ⟨p, 0, none⟩ = some (.slice (some ⟨g, 0, none⟩) n c) ∧ W'.cell? ⟨g, a * 2, none⟩ = some (.int .i64 y1) ∧ W'.cell? ⟨g, (b - 1) * 2 + 1, none⟩ = some (.int .i64 y2)
  key : ∀ (W : World) (A' : Option Addr) (m c' : Nat), Below w.heap.size w W → OwnP 143 W w.heap.size (.slice A' m c') cm →
      Calls Tryz.prog 233 #[v, .int .i64 a, .int .i64 b, .slice A' m c'] W fun e w' => ∃ A2 n2 c2, e = .returned (.slice A2 n2 c2) ∧ w'.frozen? ⟨p, 0, none⟩ = false ∧ (∃ u, w'.cell? ⟨p, 0, none⟩ = some u) ∧ Q (.slice A2 n2 c2) (w'.setCell ⟨p, 0, none⟩ (.slice A2 n2 c2))
theorem app_lit (W : World) (B : Nat) (v : Value) (ps : List (Int × Int)) (y z : Int) (hB : B ≤ W.heap.size) (h : OwnP 143 W B v ps) (hl : ps.length ≤ 4) :
    ∃ A' c' w', (Builtin.append_ #[140, 140] 140 #[v, .slice (some ⟨W.heap.size, 0, none⟩) 1 1]).run Tryz.prog (W.alloc (.cells #[.int .i64 y, .int .i64 z] 143)) = .ok (.slice A' (ps.length + 1) c') w' ∧ OwnP 143 w' B (.slice A' (ps.length + 1) c') (ps ++ [(y, z)]) ∧ (∀ B0 w0, B0 ≤ B → Below B0 w0 W → Below B0 w0 w') := by
  have hu : OwnP 143 (W.alloc (.cells #[.int .i64 y, .int .i64 z] 143)) W.heap.size (.slice (some ⟨W.heap.size, 0, none⟩) 1 1) [(y, z)] := OwnP.new W _ _ [(y, z)] rfl (by simp [maxLen])
  obtain ⟨A', c', w', hr, ho, hg, _⟩ := run_app2 (P := Tryz.prog) (W.alloc (.cells #[.int .i64 y, .int .i64 z] 143)) 140 140 143 _ Tryz.underlying140 info_range rfl B v ps (h.alloc _) _ 1 1 [(y, z)] rfl (fun _ => ⟨_, rfl, by simpa using hu.src 0⟩) (by omega) (by simp; omega)
  exact ⟨A', c', w', hr, ho, fun B0 w0 h0 hb => (hb.alloc (by omega) _).grown hg (by simp; omega) (fun g hg' => by have := (h.lt g hg').1; omega)⟩
set_option maxHeartbeats 1000000 in
set_option maxRecDepth 100000 in
theorem cut_walk (p g n c a b : Nat) (f t y1 y2 : Int) (w : World) (Q : Value → World → Prop) (hlb : b ≤ n) (hn : n ≤ 1099511627776) (hab : a < b) (h : f < t)
    (HTO : Hid (Calls Tryz.prog 232 #[.pointer (some ⟨p, 0, none⟩), .int .i64 f, .int .i64 t] w fun e w' => e = .returned (.tuple #[.int .i64 a, .int .i64 b]) ∧ ∃ q os, w' = grow (w.drewN q) os))
    (K : Hid (CutK w p g n c a b y1 y2 (.slice (some ⟨g, 0, none⟩) n c) ((if y1 < f then [(y1, f)] else []) ++ (if t < y2 then [(t, y2)] else [])) Q)) :
    Calls Tryz.prog 218 #[.pointer (some ⟨p, 0, none⟩), .int .i64 f, .int .i64 t] w fun e w' => e = .returned (.tuple #[]) ∧ ∃ v', Q v' w' := by
  have H0 : ¬ (t ≤ f) := by omega
  have i1 : ¬ ((a : Int) = (b : Int)) := by omega
  have i2 : (a : Int) < (n : Int) := by omega
  have i3 : (0 : Int) ≤ (a : Int) := by omega
  have i4 : (0 : Int) ≤ (b : Int) - 1 := by omega
  have i5 : (b : Int) - 1 < (n : Int) := by omega
  have i6 : ((b : Int) - 1).toNat = b - 1 := by omega
  have i7 : (0 : Int) < (b : Int) := by omega
  have i8 : wrap64 ((b : Int) - 1) = (b : Int) - 1 := by unfold wrap64; omega
  have HBEL := Lib.hid (show ∀ q os, Below w.heap.size w (grow (w.drewN q) os) from fun q os => below_grow _ _ _ _ (Nat.le_refl _))
  by_cases hl : y1 < f
  · by_cases hr : t < y2
    · go_enter Tryz.func218, Tryz.ntmps218
      go_wp2_with fail
      refine HTO.out.mono ?_
      rintro e w1 ⟨rfl, q, os, rfl⟩
      obtain ⟨W, hW⟩ : ∃ W, W = grow (w.drewN q) os := ⟨_, rfl⟩
      have HB := Lib.hid (HBEL.out q os)
      rw [← hW] at HB ⊢
      clear hW
      have hWs : w.heap.size ≤ W.heap.size := HB.out.size
      obtain ⟨c0, c1, _⟩ := K.out.facts W HB.out
      have HB1 := Lib.hid (HB.out.alloc hWs (.cells #[.int .i64 y1, .int .i64 f] 143))
      have o0 : OwnP 143 (W.alloc (.cells #[.int .i64 y1, .int .i64 f] 143)) w.heap.size (.slice none 0 0) [] := OwnP.nil _ _ _
      obtain ⟨A', c', w3, hr3, ho3, hb3⟩ := app_lit (W.alloc (.cells #[.int .i64 y1, .int .i64 f] 143)) w.heap.size _ [] y1 f (by simp; omega) o0 (by simp)
      have HO3 := Lib.hid ho3
      have HB3 := Lib.hid (hb3 _ _ (Nat.le_refl _) HB1.out)
      have hs3 : w.heap.size ≤ w3.heap.size := HB3.out.size
      simp only [List.length_nil, Nat.zero_add, World.size_alloc] at hr3
      simp only [List.nil_append, List.length_nil, Nat.zero_add] at HO3
      obtain ⟨d0, _, d2⟩ := K.out.facts w3 HB3.out
      have HB4 := Lib.hid (HB3.out.alloc hs3 (.cells #[.int .i64 t, .int .i64 y2] 143))
      clear o0 ho3 hb3
      have o4 : OwnP 143 (w3.alloc (.cells #[.int .i64 t, .int .i64 y2] 143)) w.heap.size (.slice A' 1 c') [(y1, f)] := HO3.out.alloc _
      obtain ⟨A5, c5, w5, hr5, ho5, hb5⟩ := app_lit (w3.alloc (.cells #[.int .i64 t, .int .i64 y2] 143)) w.heap.size _ [(y1, f)] t y2 (by simp; omega) o4 (by simp)
      obtain ⟨e0, _, _⟩ := K.out.facts w5 (hb5 _ _ (Nat.le_refl _) HB4.out)
      have HKEY := Lib.hid (K.out.key w5 A5 2 c5 (hb5 _ _ (Nat.le_refl _) HB4.out) (by rw [if_pos (show y1 < f by omega), if_pos (show t < y2 by omega)]; exact ho5))
      simp only [List.length_cons, List.length_nil, Nat.zero_add, Nat.reduceAdd, World.size_alloc] at hr5
      clear o4 ho5 hb5
      go_wp2_with (at_builtin; first | refine wpList_append_r rfl (.tmp 39) (.tmp 41) 140 140 rfl _ _ rfl rfl hr3 ?_ | refine wpList_append_r rfl (.tmp 59) (.tmp 61) 140 140 rfl _ _ rfl rfl hr5 ?_)
      refine HKEY.out.mono ?_
      rintro e w7 ⟨A2, n2, c2, rfl, fz, ⟨u, hu⟩, hq⟩
      have HQ := Lib.hid hq
      clear hq
      go_wp2
      go_end0
      exact ⟨rfl, _, HQ.out⟩
    · go_enter Tryz.func218, Tryz.ntmps218
      go_wp2_with fail
      refine HTO.out.mono ?_
      rintro e w1 ⟨rfl, q, os, rfl⟩
      obtain ⟨W, hW⟩ : ∃ W, W = grow (w.drewN q) os := ⟨_, rfl⟩
      have HB := Lib.hid (HBEL.out q os)
      rw [← hW] at HB ⊢
      clear hW
      have hWs : w.heap.size ≤ W.heap.size := HB.out.size
      obtain ⟨c0, c1, _⟩ := K.out.facts W HB.out
      have HB1 := Lib.hid (HB.out.alloc hWs (.cells #[.int .i64 y1, .int .i64 f] 143))
      have o0 : OwnP 143 (W.alloc (.cells #[.int .i64 y1, .int .i64 f] 143)) w.heap.size (.slice none 0 0) [] := OwnP.nil _ _ _
      obtain ⟨A', c', w3, hr3, ho3, hb3⟩ := app_lit (W.alloc (.cells #[.int .i64 y1, .int .i64 f] 143)) w.heap.size _ [] y1 f (by simp; omega) o0 (by simp)
      have HO3 := Lib.hid ho3
      have HB3 := Lib.hid (hb3 _ _ (Nat.le_refl _) HB1.out)
      have hs3 : w.heap.size ≤ w3.heap.size := HB3.out.size
      simp only [List.length_nil, Nat.zero_add, World.size_alloc] at hr3
      simp only [List.nil_append, List.length_nil, Nat.zero_add] at HO3
      obtain ⟨d0, _, d2⟩ := K.out.facts w3 HB3.out
      have HB4 := Lib.hid (HB3.out.alloc hs3 (.cells #[.int .i64 t, .int .i64 y2] 143))
      clear o0 ho3 hb3
      obtain ⟨e0, _, _⟩ := K.out.facts _ HB4.out
      have HKEY := Lib.hid (K.out.key (w3.alloc (.cells #[.int .i64 t, .int .i64 y2] 143)) A' 1 c' HB4.out (by rw [if_pos (show y1 < f by omega), if_neg (show ¬ t < y2 by omega)]; exact HO3.out.alloc _))
      go_wp2_with (at_builtin; refine wpList_append_r rfl (.tmp 39) (.tmp 41) 140 140 rfl _ _ rfl rfl hr3 ?_)
      refine HKEY.out.mono ?_
      rintro e w7 ⟨A2, n2, c2, rfl, fz, ⟨u, hu⟩, hq⟩
      have HQ := Lib.hid hq
      clear hq
      go_wp2
      go_end0
      exact ⟨rfl, _, HQ.out⟩
  · by_cases hr : t < y2
    · go_enter Tryz.func218, Tryz.ntmps218
      go_wp2_with fail
      refine HTO.out.mono ?_
      rintro e w1 ⟨rfl, q, os, rfl⟩
      obtain ⟨W, hW⟩ : ∃ W, W = grow (w.drewN q) os := ⟨_, rfl⟩
      have HB := Lib.hid (HBEL.out q os)
      rw [← hW] at HB ⊢
      clear hW
      have hWs : w.heap.size ≤ W.heap.size := HB.out.size
      obtain ⟨c0, c1, _⟩ := K.out.facts W HB.out
      have HB1 := Lib.hid (HB.out.alloc hWs (.cells #[.int .i64 y1, .int .i64 f] 143))
      obtain ⟨d0, _, d2⟩ := K.out.facts _ HB1.out
      have hs3 : w.heap.size ≤ (W.alloc (.cells #[.int .i64 y1, .int .i64 f] 143)).heap.size := HB1.out.size
      have HB4 := Lib.hid (HB1.out.alloc hs3 (.cells #[.int .i64 t, .int .i64 y2] 143))
      have o4 : OwnP 143 ((W.alloc (.cells #[.int .i64 y1, .int .i64 f] 143)).alloc (.cells #[.int .i64 t, .int .i64 y2] 143)) w.heap.size (.slice none 0 0) [] := OwnP.nil _ _ _
      obtain ⟨A5, c5, w5, hr5, ho5, hb5⟩ := app_lit ((W.alloc (.cells #[.int .i64 y1, .int .i64 f] 143)).alloc (.cells #[.int .i64 t, .int .i64 y2] 143)) w.heap.size _ [] t y2 (by simp; omega) o4 (by simp)
      obtain ⟨e0, _, _⟩ := K.out.facts w5 (hb5 _ _ (Nat.le_refl _) HB4.out)
      have HKEY := Lib.hid (K.out.key w5 A5 1 c5 (hb5 _ _ (Nat.le_refl _) HB4.out) (by rw [if_neg (show ¬ y1 < f by omega), if_pos (show t < y2 by omega)]; exact ho5))
      simp only [List.length_nil, Nat.zero_add, World.size_alloc] at hr5
      clear o4 ho5 hb5
      go_wp2_with (at_builtin; refine wpList_append_r rfl (.tmp 59) (.tmp 61) 140 140 rfl _ _ rfl rfl hr5 ?_)
      refine HKEY.out.mono ?_
      rintro e w7 ⟨A2, n2, c2, rfl, fz, ⟨u, hu⟩, hq⟩
      have HQ := Lib.hid hq
      clear hq
      go_wp2
      go_end0
      exact ⟨rfl, _, HQ.out⟩
    · go_enter Tryz.func218, Tryz.ntmps218
      go_wp2_with fail
      refine HTO.out.mono ?_
      rintro e w1 ⟨rfl, q, os, rfl⟩
      obtain ⟨W, hW⟩ : ∃ W, W = grow (w.drewN q) os := ⟨_, rfl⟩
      have HB := Lib.hid (HBEL.out q os)
      rw [← hW] at HB ⊢
      clear hW
      have hWs : w.heap.size ≤ W.heap.size := HB.out.size
      obtain ⟨c0, c1, _⟩ := K.out.facts W HB.out
      have HB1 := Lib.hid (HB.out.alloc hWs (.cells #[.int .i64 y1, .int .i64 f] 143))
      obtain ⟨d0, _, d2⟩ := K.out.facts _ HB1.out
      have hs3 : w.heap.size ≤ (W.alloc (.cells #[.int .i64 y1, .int .i64 f] 143)).heap.size := HB1.out.size
      have HB4 := Lib.hid (HB1.out.alloc hs3 (.cells #[.int .i64 t, .int .i64 y2] 143))
      obtain ⟨e0, _, _⟩ := K.out.facts _ HB4.out
      have HKEY := Lib.hid (K.out.key ((W.alloc (.cells #[.int .i64 y1, .int .i64 f] 143)).alloc (.cells #[.int .i64 t, .int .i64 y2] 143)) none 0 0 HB4.out (by rw [if_neg (show ¬ y1 < f by omega), if_neg (show ¬ t < y2 by omega)]; exact OwnP.nil _ _ _))
      go_wp2_with fail
      refine HKEY.out.mono ?_
      rintro e w7 ⟨A2, n2, c2, rfl, fz, ⟨u, hu⟩, hq⟩
      have HQ := Lib.hid hq
      clear hq
      go_wp2
      go_end0
      exact ⟨rfl, _, HQ.out⟩
theorem setcut_any (p : Nat) (v : Value) (ps : List (Int × Int)) (B : Nat) (f t : Int) (w : World) (hs : SetAt w B p v ps) (hl : ps.length ≤ 1099511627776) (hB : B ≤ w.heap.size) :
    Calls Tryz.prog 218 #[.pointer (some ⟨p, 0, none⟩), .int .i64 f, .int .i64 t] w fun e w' => e = .returned (.tuple #[]) ∧ ∃ v' qs, SetAt w' B p v' qs ∧ Chg w w' p v v' ∧ (∀ k, ins qs k ↔ ins ps k ∧ ¬ (f ≤ k ∧ k < t)) ∧ qs.length ≤ ps.length + 1 := by
  by_cases h : t ≤ f
  · refine (cut_none _ f t w h).mono ?_
    rintro e w' ⟨rfl, rfl⟩
    exact ⟨rfl, v, ps, hs, Chg.refl _ _ _, fun k => ⟨fun hk => ⟨hk, by omega⟩, fun hk => hk.1⟩, by omega⟩
  · obtain ⟨a, b, ht⟩ := touch_exists hs.norm (show f < t by omega)
    have hle := ht.le
    have hlb := ht.lb
    by_cases hab : a = b
    · subst hab
      refine (cut_nothing p v ps B a f t w hs (by omega) ht hl).mono ?_
      rintro e w' ⟨rfl, q, os, rfl⟩
      refine ⟨rfl, v, ps, hs.grow q os, Chg.of_below (below_grow _ _ _ _ (Nat.le_refl _)), fun k => ⟨fun hk => ⟨hk, ?_⟩, fun hk => hk.1⟩, by omega⟩
      obtain ⟨r, hr, h1, h2⟩ := hk
      obtain ⟨i, hi, rfl⟩ := mem_getD hr
      by_cases hia : i < a
      · have := ht.ahead i hia; omega
      · have := ht.behind i (by omega) hi; omega
    · have hnorm := cut_norm hs.norm (show f < t by omega) ht (by omega)
      have HTO := Lib.hid (touched_any p v ps B a b f t w hs ht (by omega))
      rcases hs.form with ⟨_, hnil⟩ | ⟨g, c, hv⟩
      · rw [hnil] at hlb; simp at hlb; omega
      · have hglt : B ≤ g ∧ g < w.heap.size := hs.own.lt g (by rw [hv]; rfl)
        obtain ⟨y1, hy1⟩ : ∃ y, (ps.getD a (0, 0)).1 = y := ⟨_, rfl⟩
        obtain ⟨y2, hy2⟩ : ∃ y, (ps.getD (b - 1) (0, 0)).2 = y := ⟨_, rfl⟩
        have hcm : cutM ps f t a b = (if y1 < f then [(y1, f)] else []) ++ (if t < y2 then [(t, y2)] else []) := by unfold cutM; rw [hy1, hy2]
        have hcl : (cutM ps f t a b).length ≤ 2 := by
          rw [hcm, List.length_append]
          split <;> split <;> simp
        have K : CutK w p g ps.length c a b y1 y2 (.slice (some ⟨g, 0, none⟩) ps.length c) (cutM ps f t a b) (fun v' w' => SetAt w' B p v' (ps.take a ++ cutM ps f t a b ++ ps.drop b) ∧ Chg w w' p v v') := by
          refine ⟨fun W' hb => ?_, fun W A' m c' hbl hu => ?_⟩
          · have hsW := hs.later hb
            rw [hv] at hsW
            have e1 := hsW.own.cells a (by omega)
            have e2 := hsW.own.cells (b - 1) (by omega)
            rw [hy1] at e1
            rw [hy2] at e2
            exact ⟨hsW.c0, e1.1, e2.2⟩
          · have hsW : SetAt W B p v ps := hs.later hbl
            rw [← hv]
            refine (replace_any v _ ps (cutM ps f t a b) B a b ps.length m W v.ownBlock hsW.own rfl (hu.less hB) rfl hu.len hle hlb (by omega) ?_ (by have := hu.len; omega) (by have := hbl.size; omega)).mono ?_
            · intro x hx he
              have h1 := (hu.lt x hx).1
              rw [hv] at he
              simp [Value.ownBlock] at he
              omega
            · rintro e w' ⟨v', rfl, ho, hg, hf⟩
              have hp' : w'.heap[p]? = W.heap[p]? := hg.block p hsW.lt (Ne.symm (own_not_set hsW.own hsW.row))
              have hrow := World.rowIs.of_block hsW.row hp'
              obtain ⟨A2, c2, rfl⟩ := ho.form
              refine ⟨A2, _, c2, rfl, World.rowIs.frozen hrow 0, ⟨v, World.rowIs.cell (i := 0) hrow (by omega)⟩, ⟨(hrow.set 0 _).congr fun i hi => ?_, ?_, hs.ge, hnorm.1⟩, ?_⟩
              · have : i = 0 := by omega
                subst this; simp
              · exact ho.kept (setCell_one _ _ _ _) (.inr (by intro e; exact own_not_set ho hrow e))
              · refine ⟨hg.os.trans hbl.os, hg.tape.trans hbl.tape, hg.output.trans hbl.output, by have := hg.size; have := hbl.size; simp; omega, fun k hk hkp hkv => ?_, fun x hx => ?_⟩
                · rw [heap_setCell_other _ _ _ _ (fun e => hkp (by simpa using e)), hg.block k (by have := hbl.size; omega) hkv, hbl.block k hk]
                · rcases hf x hx with h1 | h1
                  · exact .inl h1
                  · exact .inr (by have := hbl.size; omega)
        rw [hcm] at K
        refine (cut_walk p g ps.length c a b f t y1 y2 w _ hlb hl (by omega) (by omega) HTO (Lib.hid K)).mono ?_
        rintro e w' ⟨rfl, v', h1, h2⟩
        rw [← hcm] at h1
        exact ⟨rfl, v', _, h1, h2, hnorm.2, by simp; omega⟩
end Go.Proofs.YtpjlnpnadkbakaaGreat
namespace Go.Proofs.YtpjlnpnadkbakaaGreat
set_option maxRecDepth 10000
open Go.RowKit
open Go.Sort (grow grow_grow grow_empty alloc_eq_grow)
set_option maxHeartbeats 400000 in
theorem first_none (p : Nat) (v : Value) (B : Nat) (w : World) (hs : SetAt w B p v []) :
    Calls Tryz.prog 219 #[.pointer (some ⟨p, 0, none⟩)] w fun e w' => e = .returned (.tuple #[.agg #[.int .i64 0, .int .i64 0], .bool false]) ∧ Below w.heap.size w w' := by
  obtain ⟨A, c, rfl⟩ := hs.own.form
  have c0 := (hs.alloc (.cells #[.int .i64 0, .int .i64 0] 143)).c0
  clear hs
  go_enter Tryz.func219, Tryz.ntmps219
  go_wp2
  refine bodyPost_ret (v := .tuple #[.agg #[.int .i64 0, .int .i64 0], .bool false]) ?_ rfl ⟨rfl, (Below.refl _ _).alloc (Nat.le_refl _) _⟩
  rw [results_cell_tmp rfl]
  go_simp
set_option maxHeartbeats 400000 in
theorem first_some (p : Nat) (v : Value) (q : Int × Int) (ps : List (Int × Int)) (B : Nat) (w : World) (hs : SetAt w B p v (q :: ps)) :
    Calls Tryz.prog 219 #[.pointer (some ⟨p, 0, none⟩)] w fun e w' => e = .returned (.tuple #[.agg #[.int .i64 q.1, .int .i64 q.2], .bool true]) ∧ Below w.heap.size w w' := by
  rcases hs.form with ⟨_, h⟩ | ⟨g, c, rfl⟩
  · cases h
  · have hs1 := hs.alloc (.cells #[.int .i64 0, .int .i64 0] 143)
    have c0 := hs1.c0
    have c1 := (hs1.own.cells 0 (by simp)).1
    have c2 := (hs1.own.cells 0 (by simp)).2
    obtain ⟨n, hn⟩ : ∃ n, (q :: ps).length = n := ⟨_, rfl⟩
    have h0 : (0 : Int) < (n : Int) := by rw [← hn]; simp
    have h1 : ¬ ((n : Int) = 0) := by omega
    rw [hn] at c0
    simp at c1 c2
    obtain ⟨x, y⟩ := q
    simp only [] at c1 c2 ⊢
    clear hs hs1 hn
    go_enter Tryz.func219, Tryz.ntmps219
    go_wp2
    refine bodyPost_ret (v := .tuple #[.agg #[.int .i64 x, .int .i64 y], .bool true]) ?_ rfl ⟨rfl, (Below.refl _ _).alloc (Nat.le_refl _) _⟩
    rw [results_cell_tmp rfl]
    go_simp
end Go.Proofs.YtpjlnpnadkbakaaGreat
namespace Go.Proofs.YtpjlnpnadkbakaaGreat
set_option maxRecDepth 10000
open Go.RowKit
section
variable {w w' : World} {B p q : Nat} {v v' : Value} {F : Nat → Prop}
theorem own_not_row {t : TypeId} {b : Nat} {B' : Nat} {u : Value} {qs : List (Int × Int)} (h : OwnP 143 w B' u qs) {f : Nat → Value} {n : Nat} (hr : w.rowIs b t n f) (ht : 143 ≠ t) : u.ownBlock ≠ some b := by
  rcases h.parts with ⟨rfl, _⟩ | ⟨g, cap, cur, rfl, _, hh, _⟩
  · simp [Value.ownBlock]
  · intro he
    simp only [Value.ownBlock, Option.some.injEq] at he
    subst he
    obtain ⟨cur', hh', _⟩ := hr
    rw [hh] at hh'
    injection hh' with hh'
    injection hh' with _ ht'
    exact ht ht'
theorem row_ne {t t' : TypeId} {b b' n n' : Nat} {f f' : Nat → Value} (h : w.rowIs b t n f) (h' : w.rowIs b' t' n' f') (ht : t ≠ t') : b ≠ b' := by
  rintro rfl
  obtain ⟨cur, hh, _⟩ := h
  obtain ⟨cur', hh', _⟩ := h'
  rw [hh] at hh'
  injection hh' with hh'
  injection hh' with _ ht'
  exact ht ht'
theorem SetAt.trn {ps : List (Int × Int)} (hs : SetAt w B q v ps) (ht : Trn w w' F) (h1 : ¬ F q) (h2 : ∀ g, v.ownBlock = some g → ¬ F g) : SetAt w' B q v ps := by
  refine ⟨ht.rowIs hs.row h1, ?_, hs.ge, hs.norm⟩
  refine ⟨hs.own.1, ?_⟩
  rcases hs.own.2 with h | ⟨g, cap, cur, rfl, hB, hg, r⟩
  · exact .inl h
  · exact .inr ⟨g, cap, cur, rfl, hB, by rw [ht.block g (Array.getElem?_eq_some_iff.1 hg).1 (h2 g rfl)]; exact hg, r⟩
end
end Go.Proofs.YtpjlnpnadkbakaaGreat

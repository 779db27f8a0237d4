/-
  What New, Add, Cut, Has, Front, First, All and Count of package ranges make of a Set: contracts over the program.
-/
import Derived.Test.YtlljfinagjdihaaSearch
import Derived.Test.YtlljfinagjdihaaReplaceAny
import Derived.Test.YtlljfinagjdihaaMinMax
import Derived.Lib.SliceRun
namespace Go.Proofs.Ytlljfinagjdihaa
open Go.RowKit
open Go.Sort (grow grow_grow grow_empty alloc_eq_grow)

/-- How a call on the Set at p turns the world: its own block, its list's block, new ones. -/
structure Chg (w w' : World) (p : Nat) (v v' : Value) : Prop where
  os : w'.os = w.os
  tape : w'.tape = w.tape
  output : w'.output = w.output
  size : w.heap.size ≤ w'.heap.size
  block : ∀ k, k < w.heap.size → k ≠ p → some k ≠ v.ownBlock → w'.heap[k]? = w.heap[k]?
  fresh : ∀ g, v'.ownBlock = some g → v.ownBlock = some g ∨ w.heap.size ≤ g

section
variable {w w' : World} {p : Nat} {v v' : Value}
theorem Chg.refl (w : World) (p : Nat) (v : Value) : Chg w w p v v := ⟨rfl, rfl, rfl, Nat.le_refl _, fun _ _ _ _ => rfl, fun _ h => .inl h⟩
theorem Chg.of_below (h : Below w.heap.size w w') : Chg w w' p v v := ⟨h.os, h.tape, h.output, h.size, fun k hk _ _ => h.block k hk, fun _ h => .inl h⟩
theorem Chg.below {B : Nat} {w0 : World} (h : Chg w w' p v v') (hb : Below B w0 w) (hB : B ≤ w.heap.size) (hp : B ≤ p) (hv : ∀ g, v.ownBlock = some g → B ≤ g) : Below B w0 w' :=
  ⟨h.os.trans hb.os, h.tape.trans hb.tape, h.output.trans hb.output, Nat.le_trans hb.size h.size, fun i hi => (h.block i (by omega) (by omega) (fun e => by have := hv i e.symm; omega)).trans (hb.block i hi)⟩
/-- Another Set stays. -/
theorem SetAt.other {B q : Nat} {u : Value} {ps : List (Int × Int)} (hs : SetAt w B q u ps) (h : Chg w w' p v v') (hqp : q ≠ p) (hqv : v.ownBlock ≠ some q) (hup : u.ownBlock ≠ some p) (huv : u.ownBlock = none ∨ u.ownBlock ≠ v.ownBlock) : SetAt w' B q u ps := by
  refine ⟨World.rowIs.of_block hs.row (h.block q hs.lt hqp (Ne.symm hqv)), ?_, hs.ge, hs.norm⟩
  refine ⟨hs.own.1, ?_⟩
  rcases hs.own.2 with h2 | ⟨g, cap, cur, rfl, hB, hg, r⟩
  · exact .inl h2
  · refine .inr ⟨g, cap, cur, rfl, hB, ?_, r⟩
    have hlt := (Array.getElem?_eq_some_iff.1 hg).1
    rw [h.block g hlt (fun e => hup (by simp [Value.ownBlock, e])) (by simpa [Value.ownBlock] using huv)]
    exact hg
end

theorem newset_any (w : World) (B : Nat) (hB : B ≤ w.heap.size) : Calls Try.prog 29 #[] w fun e w' => e = .returned (.pointer (some ⟨w.heap.size, 0, none⟩)) ∧ SetAt w' B w.heap.size (.slice none 0 0) [] ∧ Below w.heap.size w w' ∧ w'.heap.size = w.heap.size + 1 := by
  go_enter Try.func29, Try.ntmps29
  go_wp2
  go_ret
  refine ⟨rfl, ⟨?_, OwnP.nil _ _ _, hB, Norm.nil⟩, (Below.refl _ _).alloc (Nat.le_refl _) _, by simp⟩
  exact World.rowIs_alloc w _ _ _ (fun i hi => by
    have : i < 1 := hi
    match i, this with
    | 0, _ => rfl)

set_option maxHeartbeats 400000 in
theorem cloneP_any (A : Option Addr) (n c : Nat) (ps : List (Int × Int)) (B : Nat) (w : World) (h : OwnP 64 w B (.slice A n c) ps) (hb : n ≤ 1099511627776) :
    Calls Try.prog 50 #[.slice A n c] w fun e w' => ∃ A' c', e = .returned (.slice A' n c') ∧ OwnP 64 w' w.heap.size (.slice A' n c') ps ∧ Below w.heap.size w w' := by
  have ke := fun (w : World) (a : Option Addr) (n c : Nat) => Lib.run_eql_slice_nil (P := Try.prog) w 60 64 a n c 0 0 Try.underlying60
  cases A with
  | none =>
    rcases h.parts with ⟨hv, rfl⟩ | ⟨g, cap, cur, hv, _⟩
    · injection hv with _ h1 h2
      subst h1
      subst h2
      clear h hb
      go_enter Try.func50, Try.ntmps50
      go_wp2
      go_ret
      exact ⟨_, _, rfl, OwnP.nil _ _ _, Below.refl _ _⟩
    · injection hv with hA _ _
      cases hA
  | some a =>
    obtain ⟨ha, _⟩ := h.heap
    have hl := h.len
    rw [ha] at h
    have hlt := (h.lt a.block rfl).2
    have hsr := h.src 0
    rw [List.drop_zero, Nat.zero_mul, ← ha] at hsr
    have h0 : OwnP 64 (w.alloc (.cells #[] 64)) w.heap.size (.slice (some ⟨w.heap.size, 0, none⟩) 0 0) [] := OwnP.new w #[] _ [] rfl (by simp [maxLen])
    obtain ⟨A', c', w', hr, ho, hg, _⟩ := run_app2 (P := Try.prog) (w.alloc (.cells #[] 64)) 60 60 64 _ Try.underlying60 info_range rfl w.heap.size _ [] h0 (some a) n c ps hl
      (fun _ => ⟨a, rfl, fun j u hj => cell_later ((Below.refl _ _).alloc (Nat.le_refl _) _) (hsr j u hj)⟩) (by simp; omega) (by simp)
    simp only [List.length_nil, Nat.zero_add, List.nil_append] at hr ho
    have HO := Lib.hid ho
    have HG := Lib.hid (((Below.refl _ _).alloc (Nat.le_refl _) (.cells #[] 64)).trans (grown_below hg (by simp) (by simp [Value.ownBlock])))
    clear h h0 ho hg hsr hl ha
    go_enter Try.func50, Try.ntmps50
    go_wp2_with (at_builtin; refine wpList_append_r rfl _ _ 60 60 rfl _ _ rfl rfl hr ?_)
    go_ret
    exact ⟨A', c', rfl, HO.out, HG.out⟩

set_option maxHeartbeats 400000 in
theorem allset_any (p : Nat) (v : Value) (ps : List (Int × Int)) (B : Nat) (w : World) (h : SetAt w B p v ps) (hb : ps.length ≤ 1099511627776) :
    Calls Try.prog 43 #[.pointer (some ⟨p, 0, none⟩)] w fun e w' => ∃ A' c', e = .returned (.slice A' ps.length c') ∧ OwnP 64 w' w.heap.size (.slice A' ps.length c') ps ∧ Below w.heap.size w w' := by
  obtain ⟨A, c, rfl⟩ := h.own.form
  have c0 := h.c0
  have HC := Lib.hid (cloneP_any A ps.length c ps B w h.own hb)
  clear h hb
  obtain ⟨n, hn⟩ : ∃ n, ps.length = n := ⟨_, rfl⟩
  rw [hn] at c0 HC ⊢
  clear hn
  go_enter Try.func43, Try.ntmps43
  go_wp2_with fail
  refine HC.out.mono ?_
  rintro e w' ⟨A', c', rfl, h1, h2⟩
  go_wp2
  go_ret
  exact ⟨A', c', rfl, h1, h2⟩


set_option maxHeartbeats 400000 in
/-- Add, of no place. -/
theorem add_none (x : Value) (f t : Int) (w : World) (h : min t 1099511627776 ≤ max f 0) : Calls Try.prog 34 #[x, .int .i64 f, .int .i64 t] w fun e w' => e = .returned (.tuple #[]) ∧ w = w' := by
  obtain ⟨F, hF⟩ : ∃ F, F = max f 0 := ⟨_, rfl⟩
  obtain ⟨T, hT⟩ : ∃ T, T = min t 1099511627776 := ⟨_, rfl⟩
  have m1 := run_max2 f 0 F hF
  have m2 := run_min2 t 1099511627776 T hT
  rw [← hF, ← hT] at h
  clear hF hT
  go_enter Try.func34, Try.ntmps34
  go_wp2
  refine bodyPost_ret (results_none rfl _ _ _) rfl ?_
  exact ⟨rfl, rfl⟩

set_option maxHeartbeats 1000000 in
set_option maxRecDepth 100000 in
/-- Add, of some. -/
theorem add_some (p : Nat) (v : Value) (ps : List (Int × Int)) (B : Nat) (f t F T : Int) (w : World) (hs : SetAt w B p v ps) (hF : F = max f 0) (hT : T = min t 1099511627776) (h : F < T) (hl : ps.length ≤ 1099511627776) (hB : B ≤ w.heap.size) :
    Calls Try.prog 34 #[.pointer (some ⟨p, 0, none⟩), .int .i64 f, .int .i64 t] w fun e w' => e = .returned (.tuple #[]) ∧ ∃ v' qs, SetAt w' B p v' qs ∧ Chg w w' p v v' ∧ (∀ k, ins qs k ↔ ins ps k ∨ (F ≤ k ∧ k < T)) ∧ qs.length ≤ ps.length + 1 := by
  have m1 := run_max2 f 0 F hF
  have m2 := run_min2 t 1099511627776 T hT
  obtain ⟨a, b, ht⟩ := touch_exists hs.norm h
  have hle := ht.le
  have hlb := ht.lb
  have hnorm := add_norm hs.norm (by omega) h (by omega) ht
  have HTO := Lib.hid (touched_any p v ps B a b F T w hs ht (by omega))
  have H0 : ¬ (T ≤ F) := by omega
  -- behind the search: the list, with what goes in
  have key : ∀ (W : World) (x1 x2 : Int), Below w.heap.size w W → (x1, x2) = (if a < b then (min F (ps.getD a (0, 0)).1, max T (ps.getD (b - 1) (0, 0)).2) else (F, T)) →
      Calls Try.prog 46 #[v, .int .i64 a, .int .i64 b, .slice (some ⟨W.heap.size, 0, none⟩) 1 1] (W.alloc (.cells #[.int .i64 x1, .int .i64 x2] 64)) fun e w' => ∃ A' n' c', e = .returned (.slice A' n' c') ∧ w'.frozen? ⟨p, 0, none⟩ = false ∧ (∃ u, w'.cell? ⟨p, 0, none⟩ = some u) ∧
        (SetAt (w'.setCell ⟨p, 0, none⟩ (.slice A' n' c')) B p (.slice A' n' c') (addL ps F T a b) ∧ Chg w (w'.setCell ⟨p, 0, none⟩ (.slice A' n' c')) p v (.slice A' n' c')) := by
    intro W x1 x2 hbl hx
    have hsW : SetAt W B p v ps := hs.later hbl
    have hs1 := hsW.alloc (.cells #[.int .i64 x1, .int .i64 x2] 64)
    have hu : OwnP 64 (W.alloc (.cells #[.int .i64 x1, .int .i64 x2] 64)) W.heap.size (.slice (some ⟨W.heap.size, 0, none⟩) 1 1) [(x1, x2)] := OwnP.new W _ _ [(x1, x2)] rfl (by simp [maxLen])
    have hWB : B ≤ W.heap.size := Nat.le_trans hB hbl.size
    refine (replace_any v _ ps [(x1, x2)] B a b ps.length 1 (W.alloc (.cells #[.int .i64 x1, .int .i64 x2] 64)) v.ownBlock hs1.own rfl (hu.less hWB) rfl rfl hle hlb (by omega) ?_ (by omega) (by simp; omega)).mono ?_
    · intro g hg he
      have := (hsW.own.lt g he).2
      simp [Value.ownBlock] at hg
      omega
    · rintro e w' ⟨v', rfl, ho, hg, hf⟩
      have hp' : w'.heap[p]? = (W.alloc (.cells #[.int .i64 x1, .int .i64 x2] 64)).heap[p]? := hg.block p (by have := hs1.lt; exact this) (Ne.symm (own_not_set hs1.own hs1.row))
      have hrow := World.rowIs.of_block hs1.row hp'
      have hL : ps.take a ++ [(x1, x2)] ++ ps.drop b = addL ps F T a b := by unfold addL; rw [hx]
      rw [hL] at ho
      have hb2 : Below w.heap.size w (W.alloc (.cells #[.int .i64 x1, .int .i64 x2] 64)) := hbl.alloc (by have := hbl.size; omega) _
      obtain ⟨A', c', rfl⟩ := ho.form
      refine ⟨A', _, c', rfl, World.rowIs.frozen hrow 0, ⟨v, World.rowIs.cell (i := 0) hrow (by omega)⟩, ⟨(hrow.set 0 _).congr fun i hi => ?_, ?_, hs.ge, hnorm.1⟩, ?_⟩
      · have : i = 0 := by omega
        subst this; simp
      · exact ho.kept (setCell_one _ _ _ _) (.inr (by intro e; exact own_not_set ho hrow e))
      · refine ⟨hg.os.trans hb2.os, hg.tape.trans hb2.tape, hg.output.trans hb2.output, by have := hg.size; have := hb2.size; simp; omega, fun k hk hkp hkv => ?_, fun g hgv => ?_⟩
        · rw [heap_setCell_other _ _ _ _ (fun e => hkp (by simpa using e)), hg.block k (by have := hb2.size; omega) hkv, hb2.block k hk]
        · rcases hf g hgv with h1 | h1
          · exact .inl h1
          · exact .inr (by have := hb2.size; omega)
  have KEY := Lib.hid key
  have HFIN := Lib.hid (show (∀ k, ins (addL ps F T a b) k ↔ ins ps k ∨ (F ≤ k ∧ k < T)) ∧ (addL ps F T a b).length ≤ ps.length + 1 from ⟨hnorm.2, by unfold addL; simp; omega⟩)
  clear key hnorm
  have hbel : ∀ q os, Below w.heap.size w (grow (w.drewN q) os) := fun q os => below_grow _ _ _ _ (Nat.le_refl _)
  have HBEL := Lib.hid hbel
  have HS := Lib.hid hs
  obtain ⟨ls, hls⟩ : ∃ ls, addL ps F T a b = ls := ⟨_, rfl⟩
  rw [hls] at HFIN KEY
  by_cases hab : a < b
  · rcases hs.form with ⟨_, rfl⟩ | ⟨g, c, rfl⟩
    · simp at hlb; omega
    · have hcell1 : ∀ q os, (grow (w.drewN q) os).cell? ⟨g, a * 2, none⟩ = some (.int .i64 (ps.getD a (0, 0)).1) := fun q os => ((hs.grow q os).own.cells a (by omega)).1
      have hcell2 : ∀ q os, (grow (w.drewN q) os).cell? ⟨g, (b - 1) * 2 + 1, none⟩ = some (.int .i64 (ps.getD (b - 1) (0, 0)).2) := fun q os => ((hs.grow q os).own.cells (b - 1) (by omega)).2
      obtain ⟨y1, hy1⟩ : ∃ y, (ps.getD a (0, 0)).1 = y := ⟨_, rfl⟩
      obtain ⟨y2, hy2⟩ : ∃ y, (ps.getD (b - 1) (0, 0)).2 = y := ⟨_, rfl⟩
      rw [hy1] at hcell1 KEY
      rw [hy2] at hcell2 KEY
      obtain ⟨x1, hx1⟩ : ∃ x, x = min F y1 := ⟨_, rfl⟩
      obtain ⟨x2, hx2⟩ : ∃ x, x = max T y2 := ⟨_, rfl⟩
      have m3 := run_min2 F y1 x1 hx1
      have m4 := run_max2 T y2 x2 hx2
      have KEY2 := Lib.hid (fun W hb => KEY.out W x1 x2 hb (by rw [if_pos hab, hx1, hx2]))
      obtain ⟨n, hn⟩ : ∃ n, ps.length = n := ⟨_, rfl⟩
      rw [hn] at KEY2 hlb HS
      have HC1 := Lib.hid hcell1
      have HC2 := Lib.hid hcell2
      have HC0 := Lib.hid (show ∀ q os, (grow (w.drewN q) os).cell? ⟨p, 0, none⟩ = some (.slice (some ⟨g, 0, none⟩) n c) from fun q os => (HS.out.grow q os).c0)
      have i1 : (a : Int) < (b : Int) := by omega
      have i2 : (a : Int) < (n : Int) := by omega
      have i3 : (0 : Int) ≤ (a : Int) := by omega
      have i4 : (0 : Int) ≤ (b : Int) - 1 := by omega
      have i5 : (b : Int) - 1 < (n : Int) := by omega
      have i6 : ((b : Int) - 1).toNat = b - 1 := by omega
      have i7 : (0 : Int) < (b : Int) := by omega
      have i8 : wrap64 ((b : Int) - 1) = (b : Int) - 1 := by unfold wrap64; omega
      rw [hn]
      rw [hn] at HFIN
      clear KEY hs ht hle hl hF hT hy1 hy2 hx1 hx2 hcell1 hcell2 hbel hls h hn
      go_enter Try.func34, Try.ntmps34
      go_wp2_with fail
      refine HTO.out.mono ?_
      rintro e w1 ⟨rfl, q, os, rfl⟩
      obtain ⟨W, hW⟩ : ∃ W, W = grow (w.drewN q) os := ⟨_, rfl⟩
      have c0 := HC0.out q os
      have c1 := HC1.out q os
      have c2 := HC2.out q os
      have HB := Lib.hid (HBEL.out q os)
      rw [← hW] at c0 c1 c2 HB ⊢
      clear hW
      go_wp2_with fail
      refine (KEY2.out W HB.out).mono ?_
      rintro e w2 ⟨A', n', c', rfl, fz, ⟨u, hu⟩, hfin⟩
      have HR := Lib.hid hfin
      clear hfin c0 c1 c2
      go_wp2
      go_end0
      exact ⟨rfl, _, ls, HR.out.1, HR.out.2, HFIN.out.1, HFIN.out.2⟩
  · obtain ⟨A, c, rfl⟩ := hs.own.form
    have KEY2 := Lib.hid (fun W hb => KEY.out W F T hb (by rw [if_neg hab]))
    have i1 : ¬ ((a : Int) < (b : Int)) := by omega
    obtain ⟨n, hn⟩ : ∃ n, ps.length = n := ⟨_, rfl⟩
    rw [hn] at KEY2 hlb HS
    have HC0 := Lib.hid (show ∀ q os, (grow (w.drewN q) os).cell? ⟨p, 0, none⟩ = some (.slice A n c) from fun q os => (HS.out.grow q os).c0)
    rw [hn]
    rw [hn] at HFIN
    clear KEY hs ht hle hl hF hT hbel hls h hn hlb
    go_enter Try.func34, Try.ntmps34
    go_wp2_with fail
    refine HTO.out.mono ?_
    rintro e w1 ⟨rfl, q, os, rfl⟩
    obtain ⟨W, hW⟩ : ∃ W, W = grow (w.drewN q) os := ⟨_, rfl⟩
    have c0 := HC0.out q os
    have HB := Lib.hid (HBEL.out q os)
    rw [← hW] at c0 HB ⊢
    clear hW
    go_wp2_with fail
    refine (KEY2.out W HB.out).mono ?_
    rintro e w2 ⟨A', n', c', rfl, fz, ⟨u, hu⟩, hfin⟩
    have HR := Lib.hid hfin
    clear hfin c0
    go_wp2
    go_end0
    exact ⟨rfl, _, ls, HR.out.1, HR.out.2, HFIN.out.1, HFIN.out.2⟩

/-- Add. -/
theorem add_any (p : Nat) (v : Value) (ps : List (Int × Int)) (B : Nat) (f t : Int) (w : World) (hs : SetAt w B p v ps) (hl : ps.length ≤ 1099511627776) (hB : B ≤ w.heap.size) :
    Calls Try.prog 34 #[.pointer (some ⟨p, 0, none⟩), .int .i64 f, .int .i64 t] w fun e w' => e = .returned (.tuple #[]) ∧ ∃ v' qs, SetAt w' B p v' qs ∧ Chg w w' p v v' ∧ (∀ k, ins qs k ↔ ins ps k ∨ (max f 0 ≤ k ∧ k < min t 1099511627776)) ∧ qs.length ≤ ps.length + 1 := by
  by_cases h : min t 1099511627776 ≤ max f 0
  · refine (add_none _ f t w h).mono ?_
    rintro e w' ⟨rfl, rfl⟩
    exact ⟨rfl, v, ps, hs, Chg.refl _ _ _, fun k => ⟨fun hk => .inl hk, fun hk => hk.elim id (fun h2 => by omega)⟩, by omega⟩
  · exact add_some p v ps B f t _ _ w hs rfl rfl (by omega) hl hB

theorem Norm.one {x y : Int} (h0 : 0 ≤ x) (h1 : x < y) (h2 : y ≤ 1099511627776) : Norm [(x, y)] := Norm.cons h0 h1 h2 Norm.nil (by simp)
theorem ins_one (x y k : Int) : ins [(x, y)] k ↔ x ≤ k ∧ k < y := by simp [ins]

end Go.Proofs.Ytlljfinagjdihaa

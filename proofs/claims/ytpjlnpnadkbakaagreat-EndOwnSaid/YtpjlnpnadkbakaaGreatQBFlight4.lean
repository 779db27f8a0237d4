/-
  Flight4 · Sep · PathAt · Lit.
-/
import Derived.Test.YtpjlnpnadkbakaaGreatQBFlight2
import Derived.Laws.ResultCell
import Derived.OwnWalk
import Derived.Deep.MidRow
import Derived.Test.YtpjlnpnadkbakaaGreatQBMem
import Derived.Test.YtpjlnpnadkbakaaGreatQBRowN
namespace Go.Proofs.YtpjlnpnadkbakaaGreat
set_option maxRecDepth 10000
open Go.RowKit
def st4 (w : World) (b : Nat) (q : Qd) : World := (((w.setCell ⟨b, 0, none⟩ (.int .i64 q.n)).setCell ⟨b, 1, none⟩ (.int .i64 q.f)).setCell ⟨b, 2, none⟩ (.int .i64 q.t)).setCell ⟨b, 3, none⟩ (.int .i64 q.a)
theorem st4_trn (w : World) (b : Nat) (q : Qd) : Trn w (st4 w b q) (fun k => k = b) := by
  have h : ∀ (w : World) i v, Trn w (w.setCell ⟨b, i, none⟩ v) (fun k => k = b) := fun w i v => (Trn.of_grown (setCell_one w b i v)).mono (fun k _ hk => (Option.some.inj hk).symm)
  exact (((h _ _ _).trans (h _ _ _) (fun _ h => h) (fun _ _ h => h)).trans (h _ _ _) (fun _ h => h) (fun _ _ h => h)).trans (h _ _ _) (fun _ h => h) (fun _ _ h => h)
def qdF (q : Qd) (i : Nat) : Value := .int .i64 (if i = 0 then q.n else if i = 1 then q.f else if i = 2 then q.t else q.a)
theorem st4_row {w : World} {b : Nat} {t : TypeId} {f : Nat → Value} (h : w.rowIs b t 4 f) (q : Qd) : (st4 w b q).rowIs b t 4 (qdF q) :=
  ((((h.set 0 _).set 1 _).set 2 _).set 3 _).congr fun i hi => by
    have : i = 0 ∨ i = 1 ∨ i = 2 ∨ i = 3 := by omega
    rcases this with rfl | rfl | rfl | rfl <;> simp [qdF]
theorem row4_new (w : World) (t : TypeId) (q : Qd) : (w.alloc (.cells #[.int .i64 q.n, .int .i64 q.f, .int .i64 q.t, .int .i64 q.a] t)).rowIs w.heap.size t 4 (qdF q) := World.rowIs_alloc w _ _ _ (fun i hi => by
    have : i < 4 := hi
    match i, this with
    | 0, _ | 1, _ | 2, _ | 3, _ => rfl)
theorem row4_cells {w : World} {b : Nat} {t : TypeId} {q : Qd} (h : w.rowIs b t 4 (qdF q)) : Bx w b q :=
  ⟨h.cell (i := 0) (by omega), h.cell (i := 1) (by omega), h.cell (i := 2) (by omega), h.cell (i := 3) (by omega)⟩
theorem row4_load {P : Program} {w : World} {b : Nat} {t : TypeId} {q : Qd} (h : w.rowIs b t 4 (qdF q)) (ty : TypeId) (d : TypeDesc) (hu : P.underlying ty = some d) (hd : d.isRow = true) (hi : (P.info? ty).map (·.size) = some 4) :
    (loadVar ty ⟨b, 0, none⟩).run P w = .ok (qv q) w := by
  have hc : w.rangeAt b 0 (qd q) := fun j v hv => by
    rw [Nat.zero_add]
    have hj : j < 4 := by have := (List.getElem?_eq_some_iff.1 hv).1; simpa [qd] using this
    have h1 := h.cell (i := j) hj
    rw [h1, ← hv]
    match j, hj with
    | 0, _ | 1, _ | 2, _ | 3, _ => rfl
  exact run_loadVar_mid w b 0 ty (qd q) d hc hu hd hi
theorem size_fo : (Tryz.prog.info? tOutP).map (·.size) = some 4 := by kernel_rfl
theorem sizeFo (w : World) : (Go.sizeOf (Tryz.prog.elem 107)).run Tryz.prog w = .ok 4 w := by
  obtain ⟨i, hi, _, h2, _⟩ := info_parts info_fo
  show (Go.sizeOf tOutP).run Tryz.prog w = .ok 4 w
  simp [sizeOf, typeInfo, hi, h2]
theorem zeroFo (w : World) : (zeroValue tOutP).run Tryz.prog w = .ok (.agg #[.int .i64 0, .int .i64 0, .int .i64 0, .int .i64 0]) w := by
  obtain ⟨i, hi, h0, _⟩ := info_parts info_fo
  simp [zeroValue, typeInfo, hi, h0]
section
variable {w : World} {B p : Nat} {v : Value} {ps : List Qd}
set_option maxHeartbeats 1000000 in
theorem fldelete_any (g n c i j : Nat) (h : OwnQ tOutP w B (.slice (some ⟨g, 0, none⟩) n c) ps) (hj : j = i + 1) (hi : i < n) :
    Calls Tryz.prog 235 #[.slice (some ⟨g, 0, none⟩) n c, .int .i64 (i : Nat), .int .i64 (j : Nat)] w fun e w' => e = .returned (.slice (some ⟨g, 0, none⟩) (n - 1) c) ∧ OwnQ tOutP w' B (.slice (some ⟨g, 0, none⟩) (n - 1) c) (goneQ ps i) ∧ w.grownBy w' (some g) := by
  have hcap := h.cap
  have hlen := h.len
  obtain ⟨m, hm⟩ : ∃ m, n = j + m := ⟨n - j, by omega⟩
  obtain ⟨T, hT⟩ : ∃ T, T = i + m := ⟨_, rfl⟩
  obtain ⟨S, hS⟩ : ∃ S, (if c = j then some (⟨g, 0, none⟩ : Addr) else (some (⟨g, 0, none⟩ : Addr)).map (·.add (j * 4))) = S := ⟨_, rfl⟩
  have hsrc : 0 < m → ∃ ad, S = some ad ∧ ∀ k u, (qds (ps.drop j))[k]? = some u → w.drew.cell? (ad.add k) = some u := fun h0 => by
    rw [if_neg (by omega)] at hS
    refine ⟨⟨g, j * 4, none⟩, by rw [← hS]; simp [Addr.add_lit], ?_⟩
    exact h.src j
  have happ := run_app4_fits (P := Tryz.prog) w.drew 107 107 tOutP _ Tryz.underlying107 info_fo B g i c (ps.take i) (h.cut i (by omega)) S m (c - j) (ps.drop j) (by rw [List.length_drop]; omega) hsrc (by omega)
  obtain ⟨w1, happ, ho1, hg1⟩ := happ
  have e1 : ps.take i ++ ps.drop j = goneQ ps i := by rw [hj]; rfl
  rw [e1, ← hT] at ho1
  rw [← hT] at happ
  obtain ⟨_, cur, hh, hc4, ht4, hBg, _, hcm, hgl⟩ := ho1.heap
  obtain ⟨w2, Z, hclr, hZ, hz2, hg2, _⟩ := run_clear4 (P := Tryz.prog) w1 107 tOutP _ Tryz.underlying107 zeroFo rfl (some ⟨g, T * 4, none⟩) 1 (c - T) g (T * 4) cur tOutP hh (fun _ => rfl) (by omega)
  have ho2 : OwnQ tOutP w2 B (.slice (some ⟨g, 0, none⟩) T c) (goneQ ps i) := OwnQ.of hBg hz2 hgl (by omega) hcm (by rw [length_splice _ _ _ (by omega)]; exact hc4) (by rw [splice_ahead4 _ _ _ _ (by omega) (Nat.le_refl _)]; exact ht4)
  have hl1 := fun W => slice_lhm4 (P := Tryz.prog) 107 Tryz.underlying107 sizeFo (some ⟨g, 0, none⟩) n c i j n (by omega) (by omega) hcap.1 W
  obtain ⟨X, hX⟩ : ∃ X, sliced (some (⟨g, 0, none⟩ : Addr)) i j n 4 = X := ⟨_, rfl⟩
  rw [hX] at hl1
  have hl2 := fun W => slice_h4 (P := Tryz.prog) 107 Tryz.underlying107 sizeFo (some ⟨g, 0, none⟩) n c i (by omega) W
  have hl3 := fun W => slice_l4 (P := Tryz.prog) 107 Tryz.underlying107 sizeFo (some ⟨g, 0, none⟩) n c j m hm.symm W
  rw [hS] at hl3
  have hl4 := fun W => slice_lh4 (P := Tryz.prog) 107 Tryz.underlying107 sizeFo (some ⟨g, 0, none⟩) T c T n 1 (by omega) hcap.1 W
  rw [if_neg (by omega)] at hl4
  have e2 : (some (⟨g, 0, none⟩ : Addr)).map (·.add (T * 4)) = some ⟨g, T * 4, none⟩ := by simp [Addr.add_lit]
  rw [e2] at hl4
  have e3 : n - 1 = T := by omega
  rw [e3]
  have hgg : w.grownBy w2 (some g) := ⟨hg2.os.trans hg1.os, hg2.tape.trans hg1.tape, hg2.output.trans hg1.output, Nat.le_trans hg1.size hg2.size, fun k hk hne => (hg2.block k (Nat.lt_of_lt_of_le hk hg1.size) hne).trans (hg1.block k hk hne)⟩
  have HE := Lib.hid (And.intro ho2 hgg)
  have j1 : ¬ ((i : Int) = (j : Int)) := by omega
  clear h hcap hlen hm hT hS hsrc ho1 hg1 e1 hh hc4 ht4 hBg hcm hgl hZ hz2 hg2 ho2 hX e2 e3 hgg hj hi
  go_enter Tryz.func235, Tryz.ntmps235
  go_wp2_with fail
  refine still_tail 6 (by kernel_rfl) (by kernel_rfl) ?_
  intro W hW
  rw [← hW] at happ
  clear hW
  simp only [List.take_succ_cons, List.take_zero, List.drop_succ_cons, List.drop_zero]
  repeat still_step
  refine wpStill_nil ?_
  refine wpList_app_r rfl _ _ 107 107 rfl _ _ rfl rfl happ ?_
  go_wp2_with fail
  go_ret
  exact ⟨rfl, HE.out⟩
set_option maxHeartbeats 1000000 in
theorem fltake_no (h : FlA tFl tOutP w B p v ps) (n : Int) (hno : NoneQ ps n) (hm : ps.length ≤ 1099511627775) :
    Calls Tryz.prog 156 #[.pointer (some ⟨p, 0, none⟩), .int .i64 n] w fun e w' => e = .returned (.tuple #[.agg #[.int .i64 0, .int .i64 0, .int .i64 0, .int .i64 0], .bool false]) ∧ Below w.heap.size w w' := by
  have hb := (Below.refl w.heap.size w).alloc (Nat.le_refl _) (.cells #[.int .i64 0, .int .i64 0, .int .i64 0, .int .i64 0] tOutP)
  have HF := Lib.hid (flfind_any (h.later hb) n (-1) (by omega) (.inr ⟨rfl, hno⟩))
  have HB := Lib.hid hb
  clear h hb hno hm
  go_enter Tryz.func156, Tryz.ntmps156
  go_wp2_with fail
  refine HF.out.mono ?_
  rintro e w2 ⟨rfl, hb⟩
  have HBB := Lib.hid (HB.out.trans (hb.mono (by rw [World.size_alloc]; omega)))
  have hr2 : w2.rowIs w.heap.size tOutP 4 (qdF qz) := (row4_new w tOutP qz).of_block (hb.block _ (by rw [World.size_alloc]; omega))
  obtain ⟨x0, x1, x2, x3⟩ := row4_cells hr2
  simp only [qz] at x0 x1 x2 x3
  have f0 : ∀ i, w2.frozen? ⟨w.heap.size, i, none⟩ = false := fun i => hr2.frozen i
  have HR := Lib.hid hr2
  clear hb HB HF hr2
  go_wp2_with fail
  change bodyPost _ _ _ _ _ (st4 w2 w.heap.size qz)
  refine bodyPost_ret (v := .tuple #[qv qz, .bool false]) ?_ rfl ⟨rfl, HBB.out.trans ((st4_trn w2 w.heap.size qz).below HBB.out.size (fun k hk => by omega))⟩
  rw [results_cell_tmp rfl]
  have hl := row4_load (P := Tryz.prog) (st4_row HR.out qz) tOutP _ Tryz.underlying181 rfl size_fo
  clear x0 x1 x2 x3 f0
  simp [asAddr, hl]
set_option maxHeartbeats 2000000 in
theorem fltake_yes (h : FlA tFl tOutP w B p v ps) (n : Int) (i : Nat) (hi : FirstQ ps n i) (q : Qd) (hq : ps.getD i qz = q) (hm : ps.length ≤ 1099511627775) :
    Calls Tryz.prog 156 #[.pointer (some ⟨p, 0, none⟩), .int .i64 n] w fun e w' => e = .returned (.tuple #[.agg #[.int .i64 q.n, .int .i64 q.f, .int .i64 q.t, .int .i64 q.a], .bool true]) ∧ ∃ v', FlA tFl tOutP w' B p v' (goneQ ps i) ∧ SC w w' (Fft p v) (Fft p v') := by
  obtain ⟨x, y, z, u⟩ := q
  simp only []
  have hb := (Below.refl w.heap.size w).alloc (Nat.le_refl _) (.cells #[.int .i64 0, .int .i64 0, .int .i64 0, .int .i64 0] tOutP)
  have HF := Lib.hid (flfind_any (h.later hb) n (i : Int) (by omega) (.inl ⟨i, rfl, hi⟩))
  have HB := Lib.hid hb
  have H := Lib.hid h
  obtain ⟨A, c, hv⟩ := h.own.form
  obtain ⟨N, hN⟩ : ∃ N, ps.length = N := ⟨_, rfl⟩
  have hin := hi.lt
  rw [hN] at hv hm hin
  have hown := h.own
  rw [hv] at hown
  obtain ⟨g, rfl, _⟩ := hown.at (by omega)
  have HV := Lib.hid hv
  have i0 : ¬ ((i : Int) < 0) := by omega
  have i1 : (i : Int) < (N : Int) := by omega
  have i2 : (0 : Int) ≤ (i : Int) := by omega
  have HIN := Lib.hid hin
  have HM := Lib.hid hm
  have HQ := Lib.hid hq
  obtain ⟨j, hj⟩ : ∃ j, j = i + 1 := ⟨_, rfl⟩
  have hiw : wrap64 ((i : Int) + 1) = (j : Int) := wrap_q (by omega) (by omega) (by omega)
  have HJ := Lib.hid hj
  clear h hb hi hm hv hown hN hin hq hj
  go_enter Tryz.func156, Tryz.ntmps156
  go_wp2_with fail
  refine HF.out.mono ?_
  rintro e w2 ⟨rfl, hb⟩
  have HBB := Lib.hid (HB.out.trans (hb.mono (by rw [World.size_alloc]; omega)))
  have hr2 : w2.rowIs w.heap.size tOutP 4 (qdF qz) := (row4_new w tOutP qz).of_block (hb.block _ (by rw [World.size_alloc]; omega))
  have hX := H.out.later HBB.out
  have c0 := hX.c0
  have hown := hX.own
  rw [HV.out] at c0 hown
  obtain ⟨y1, y2, y3, y4⟩ := hown.cells i HIN.out
  rw [HQ.out] at y1 y2 y3 y4
  simp only [] at y1 y2 y3 y4
  obtain ⟨W, hW⟩ : ∃ W, w2.alloc (.cells #[.int .i64 x, .int .i64 y, .int .i64 z, .int .i64 u] tOutP) = W := ⟨_, rfl⟩
  have hbW : Below w2.heap.size w2 W := by rw [← hW]; exact (Below.refl _ _).alloc (Nat.le_refl _) _
  have hXW := hX.later hbW
  have ho := hXW.own
  have d0 := hXW.c0
  rw [HV.out] at ho d0
  have HD := Lib.hid (fldelete_any g N c i j ho HJ.out HIN.out)
  have hrW : W.rowIs w2.heap.size tOutP 4 (qdF ⟨x, y, z, u⟩) := by rw [← hW]; exact row4_new w2 tOutP ⟨x, y, z, u⟩
  have hr2W := hr2.of_block (hbW.block _ hr2.lt)
  have HXW := Lib.hid hXW
  have HRW := Lib.hid hrW
  have HR2 := Lib.hid hr2W
  have HBW := Lib.hid (HBB.out.trans (hbW.mono HBB.out.size))
  have HNE := Lib.hid (show w.heap.size ≠ w2.heap.size from fun e => by have := hb.size; rw [World.size_alloc] at this; omega)
  have HGL := Lib.hid (show g < w.heap.size by have := (H.out.own.lt g (by rw [HV.out]; rfl)).2; exact this)
  have HPL := Lib.hid (show p < w.heap.size from H.out.lt)
  have HSZ := Lib.hid (show w.heap.size ≤ w2.heap.size from HBB.out.size)
  clear hb HB HF hr2 hX hown hbW hXW ho hrW hr2W
  go_wp2_with fail
  refine HD.out.mono ?_
  rintro e w3 ⟨rfl, ho3, hg3⟩
  have ht3 : Trn W w3 (fun k => v.ownBlock = some k) := (Trn.of_grown hg3).mono (fun k _ hk => by rw [HV.out]; exact hk)
  obtain ⟨a1, a2, a3, a4⟩ := HXW.out.put (by decide) ht3 ho3 (fun k hk => .inl (by rw [HV.out]; exact hk))
  rw [HV.out] at a1
  obtain ⟨w4, hw4⟩ : ∃ w4, w3.setCell ⟨p, 0, none⟩ (.slice (some ⟨g, 0, none⟩) (N - 1) c) = w4 := ⟨_, rfl⟩
  rw [hw4] at a3 a4
  have hk4 : ∀ k, w.heap.size ≤ k → k < W.heap.size → w4.heap[k]? = W.heap[k]? := fun k h1 h2 => a4.trn.block k h2 (by
    rintro (rfl | hk)
    · have := HPL.out; omega
    · rw [HV.out] at hk
      have := HGL.out
      simp only [Value.ownBlock, Option.some.injEq] at hk
      omega)
  have hr7 := HRW.out.of_block (hk4 _ HSZ.out HRW.out.lt)
  have hr0 := HR2.out.of_block (hk4 _ (Nat.le_refl _) HR2.out.lt)
  obtain ⟨e0, e1, e2, e3⟩ := row4_cells hr7
  obtain ⟨x0, x1, x2, x3⟩ := row4_cells hr0
  simp only [qz] at e0 e1 e2 e3 x0 x1 x2 x3
  have f0 : ∀ i, w4.frozen? ⟨w.heap.size, i, none⟩ = false := fun i => hr0.frozen i
  have HR0 := Lib.hid hr0
  have HF4 := Lib.hid a3
  have HS4 := Lib.hid a4
  clear ho3 hg3 ht3 a3 a4 hk4 hr7 hr0 HD HXW HRW HR2
  go_wp2_with fail
  change bodyPost _ _ _ _ _ (st4 w4 w.heap.size ⟨x, y, z, u⟩)
  have hst := st4_trn w4 w.heap.size ⟨x, y, z, u⟩
  refine bodyPost_ret (v := .tuple #[qv ⟨x, y, z, u⟩, .bool true]) ?_ rfl ⟨rfl, _, HF4.out.kept hst (fun k hk => ?_), ?_, ?_⟩
  · rw [results_cell_tmp rfl]
    have hl := row4_load (P := Tryz.prog) (st4_row HR0.out ⟨x, y, z, u⟩) tOutP _ Tryz.underlying181 rfl size_fo
    clear e0 e1 e2 e3 x0 x1 x2 x3 f0 hw4 hst
    simp [asAddr, hl]
  · have hgl := HGL.out
    have hpl := HPL.out
    rcases hk with rfl | hk
    · omega
    · simp only [Value.ownBlock, Option.some.injEq] at hk
      omega
  · refine (((Trn.of_below HBW.out).trans HS4.out.trn (F := Fft p v) (G := Fft p v) (fun _ h => h) (fun _ _ h => h)).trans hst (fun _ h => h) ?_)
    intro k hk e
    omega
  · intro k hk
    rcases hk with rfl | hk
    · exact .inl (.inl rfl)
    · exact .inl (.inr (by rw [HV.out]; exact hk))
end
end Go.Proofs.YtpjlnpnadkbakaaGreat
namespace Go.Proofs.YtpjlnpnadkbakaaGreat
set_option maxRecDepth 10000
open Go.RowKit
def Sep (F G : Nat → Prop) : Prop := ∀ k, F k → ¬ G k
section
variable {w w' : World} {F F' G : Nat → Prop}
theorem Sep.symm (h : Sep F G) : Sep G F := fun k hg hf => h k hf hg
theorem Sep.step {G' : Nat → Prop} (h : Sep F G) (hsc : SC w w' G G') (hlt : ∀ k, F k → k < w.heap.size) : Sep F G' := fun k hf => hsc.out (hlt k hf) (h k hf)
end
end Go.Proofs.YtpjlnpnadkbakaaGreat
namespace Go.Proofs.YtpjlnpnadkbakaaGreat
set_option maxRecDepth 10000
open Go.RowKit
abbrev tPa : TypeId := 175
theorem rowsP_ne {w : World} {a b n m : Nat} {t t' : TypeId} {f f' : Nat → Value} (h : w.rowIs a t n f) (h' : w.rowIs b t' m f') (hn : t ≠ t') : a ≠ b := by
  rintro rfl
  obtain ⟨c, hc, _⟩ := h
  obtain ⟨c', hc', _⟩ := h'
  rw [hc] at hc'
  injection hc' with hc'
  injection hc' with _ ht
  exact hn ht
def paF (P : Pa) (pg pw pf : Nat) (i : Nat) : Value := if i = 0 then .bool P.up else if i = 1 then .bool P.jo else if i = 2 then .bool P.be else if i = 3 then .int .i64 P.sent else if i = 4 then .pointer (some ⟨pg, 0, none⟩) else if i = 5 then .pointer (some ⟨pw, 0, none⟩) else .pointer (some ⟨pf, 0, none⟩)
structure PaAt (w : World) (B p pg pw pf : Nat) (v : Value) (P : Pa) : Prop where
  row : w.rowIs p tPa 7 (paF P pg pw pf)
  g : Gu w pg P.g
  wn : Wi w pw P.wn
  fl : FlA tFl tOutP w B pf v P.fl
  ge : B ≤ p
  bg : B ≤ pg
  bw : B ≤ pw
def Pat (p pg pw pf : Nat) (v : Value) (k : Nat) : Prop := k = p ∨ k = pg ∨ k = pw ∨ Fft pf v k
section
variable {w w' : World} {B p pg pw pf : Nat} {v v' : Value} {P : Pa} {F : Nat → Prop}
theorem PaAt.ne1 (h : PaAt w B p pg pw pf v P) : p ≠ pg := rowsP_ne h.row h.g (by decide)
theorem PaAt.ne2 (h : PaAt w B p pg pw pf v P) : p ≠ pw := rowsP_ne h.row h.wn (by decide)
theorem PaAt.ne3 (h : PaAt w B p pg pw pf v P) : pg ≠ pw := rowsP_ne h.g h.wn (by decide)
theorem PaAt.nf (h : PaAt w B p pg pw pf v P) : ¬ Fft pf v p := by
  rintro (e | e)
  · exact rowsP_ne h.row h.fl.row (by decide) e
  · exact h.fl.own.not_row h.row (by decide) e
theorem PaAt.nfg (h : PaAt w B p pg pw pf v P) : ¬ Fft pf v pg := by
  rintro (e | e)
  · exact rowsP_ne h.g h.fl.row (by decide) e
  · exact h.fl.own.not_row h.g (by decide) e
theorem PaAt.nfw (h : PaAt w B p pg pw pf v P) : ¬ Fft pf v pw := by
  rintro (e | e)
  · exact rowsP_ne h.wn h.fl.row (by decide) e
  · exact h.fl.own.not_row h.wn (by decide) e
theorem PaAt.kept (h : PaAt w B p pg pw pf v P) (ht : Trn w w' F) (hf : ∀ k, Pat p pg pw pf v k → ¬ F k) : PaAt w' B p pg pw pf v P :=
  ⟨ht.rowIs h.row (hf _ (.inl rfl)), ht.rowIs h.g (hf _ (.inr (.inl rfl))), ht.rowIs h.wn (hf _ (.inr (.inr (.inl rfl)))), h.fl.kept ht (fun k hk => hf k (.inr (.inr (.inr hk)))), h.ge, h.bg, h.bw⟩
theorem PaAt.later (h : PaAt w B p pg pw pf v P) (hb : Below w.heap.size w w') : PaAt w' B p pg pw pf v P := h.kept (Trn.of_below (F := fun _ => False) hb) (fun _ _ => id)
theorem PaAt.drewN (h : PaAt w B p pg pw pf v P) (n : Nat) : PaAt (w.drewN n) B p pg pw pf v P := h.later ⟨rfl, rfl, rfl, Nat.le_refl _, fun _ _ => rfl⟩
theorem PaAt.alloc (h : PaAt w B p pg pw pf v P) (o : Obj) : PaAt (w.alloc o) B p pg pw pf v P := h.later ((Below.refl _ _).alloc (Nat.le_refl _) _)
theorem PaAt.less {B' : Nat} (h : PaAt w B p pg pw pf v P) (hB : B' ≤ B) : PaAt w B' p pg pw pf v P := ⟨h.row, h.g, h.wn, h.fl.less hB, Nat.le_trans hB h.ge, Nat.le_trans hB h.bg, Nat.le_trans hB h.bw⟩
theorem PaAt.lt (h : PaAt w B p pg pw pf v P) : p < w.heap.size := World.rowIs.lt h.row
theorem PaAt.foot_lt (h : PaAt w B p pg pw pf v P) : ∀ k, Pat p pg pw pf v k → B ≤ k ∧ k < w.heap.size := by
  rintro k (rfl | rfl | rfl | hk)
  · exact ⟨h.ge, World.rowIs.lt h.row⟩
  · exact ⟨h.bg, World.rowIs.lt h.g⟩
  · exact ⟨h.bw, World.rowIs.lt h.wn⟩
  · exact h.fl.foot_lt k hk
theorem PaAt.size (h : PaAt w B p pg pw pf v P) : B ≤ w.heap.size := h.fl.size
theorem PaAt.cell (h : PaAt w B p pg pw pf v P) (i : Nat) (hi : i < 7) : w.cell? ⟨p, i, none⟩ = some (paF P pg pw pf i) := World.rowIs.cell (i := i) h.row hi
theorem PaAt.c0 (h : PaAt w B p pg pw pf v P) : w.cell? ⟨p, 0, none⟩ = some (.bool P.up) := h.cell 0 (by omega)
theorem PaAt.c1 (h : PaAt w B p pg pw pf v P) : w.cell? ⟨p, 0 + 1, none⟩ = some (.bool P.jo) := h.cell 1 (by omega)
theorem PaAt.c2 (h : PaAt w B p pg pw pf v P) : w.cell? ⟨p, 0 + 2, none⟩ = some (.bool P.be) := h.cell 2 (by omega)
theorem PaAt.c3 (h : PaAt w B p pg pw pf v P) : w.cell? ⟨p, 0 + 3, none⟩ = some (.int .i64 P.sent) := h.cell 3 (by omega)
theorem PaAt.c4 (h : PaAt w B p pg pw pf v P) : w.cell? ⟨p, 0 + 4, none⟩ = some (.pointer (some ⟨pg, 0, none⟩)) := h.cell 4 (by omega)
theorem PaAt.c5 (h : PaAt w B p pg pw pf v P) : w.cell? ⟨p, 0 + 5, none⟩ = some (.pointer (some ⟨pw, 0, none⟩)) := h.cell 5 (by omega)
theorem PaAt.c6 (h : PaAt w B p pg pw pf v P) : w.cell? ⟨p, 0 + 6, none⟩ = some (.pointer (some ⟨pf, 0, none⟩)) := h.cell 6 (by omega)
theorem PaAt.fr (h : PaAt w B p pg pw pf v P) (i : Nat) : w.frozen? ⟨p, i, none⟩ = false := World.rowIs.frozen h.row i
theorem PaAt.poke (h : PaAt w B p pg pw pf v P) {P' : Pa} (i : Nat) (u : Value) (hp : ∀ j, j < 7 → (if j = i then u else paF P pg pw pf j) = paF P' pg pw pf j) (hg : P'.g = P.g) (hw : P'.wn = P.wn) (hf : P'.fl = P.fl) :
    PaAt (w.setCell ⟨p, i, none⟩ u) B p pg pw pf v P' ∧ SC w (w.setCell ⟨p, i, none⟩ u) (Pat p pg pw pf v) (Pat p pg pw pf v) := by
  have ht := Trn.of_grown (setCell_one w p i u)
  refine ⟨⟨(World.rowIs.set h.row i u).congr fun j hj => hp j hj, by rw [hg]; exact ht.rowIs h.g (fun e => h.ne1 (Option.some.inj e)), by rw [hw]; exact ht.rowIs h.wn (fun e => h.ne2 (Option.some.inj e)), by rw [hf]; exact h.fl.kept ht (fun k hk e => h.nf (by rw [Option.some.inj e]; exact hk)), h.ge, h.bg, h.bw⟩, ?_, fun k hk => .inl hk⟩
  exact ht.mono (fun k _ hk => .inl (Option.some.inj hk).symm)
theorem PaAt.turnG (h : PaAt w B p pg pw pf v P) {g : Gs} (hg : Gu w' pg g) (hgr : w.grownBy w' (some pg)) : PaAt w' B p pg pw pf v (P.setG g) ∧ SC w w' (Pat p pg pw pf v) (Pat p pg pw pf v) := by
  have ht := Trn.of_grown hgr
  exact ⟨⟨ht.rowIs h.row (fun e => h.ne1 (Option.some.inj e).symm), hg, ht.rowIs h.wn (fun e => h.ne3 (Option.some.inj e)), h.fl.kept ht (fun k hk e => h.nfg (by rw [Option.some.inj e]; exact hk)), h.ge, h.bg, h.bw⟩, ht.mono (fun k _ hk => .inr (.inl (Option.some.inj hk).symm)), fun k hk => .inl hk⟩
theorem PaAt.turnW (h : PaAt w B p pg pw pf v P) {g : Wn} (hg : Wi w' pw g) (hgr : w.grownBy w' (some pw)) : PaAt w' B p pg pw pf v (P.setW g) ∧ SC w w' (Pat p pg pw pf v) (Pat p pg pw pf v) := by
  have ht := Trn.of_grown hgr
  exact ⟨⟨ht.rowIs h.row (fun e => h.ne2 (Option.some.inj e).symm), ht.rowIs h.g (fun e => h.ne3 (Option.some.inj e).symm), hg, h.fl.kept ht (fun k hk e => h.nfw (by rw [Option.some.inj e]; exact hk)), h.ge, h.bg, h.bw⟩, ht.mono (fun k _ hk => .inr (.inr (.inl (Option.some.inj hk).symm))), fun k hk => .inl hk⟩
theorem PaAt.turnF (h : PaAt w B p pg pw pf v P) {l : List Qd} (hf : FlA tFl tOutP w' B pf v' l) (hsc : SC w w' (Fft pf v) (Fft pf v')) : PaAt w' B p pg pw pf v' (P.setFl l) ∧ SC w w' (Pat p pg pw pf v) (Pat p pg pw pf v') := by
  refine ⟨⟨hsc.trn.rowIs h.row h.nf, hsc.trn.rowIs h.g h.nfg, hsc.trn.rowIs h.wn h.nfw, hf, h.ge, h.bg, h.bw⟩, hsc.trn.mono (fun k _ hk => .inr (.inr (.inr hk))), ?_⟩
  rintro k (rfl | rfl | rfl | hk)
  · exact .inl (.inl rfl)
  · exact .inl (.inr (.inl rfl))
  · exact .inl (.inr (.inr (.inl rfl)))
  · exact (hsc.sub k hk).imp (fun h => .inr (.inr (.inr h))) id
end
end Go.Proofs.YtpjlnpnadkbakaaGreat
namespace Go.Proofs.YtpjlnpnadkbakaaGreat
set_option maxRecDepth 10000
open Go.RowKit
theorem rd_lit (q : IntKind) (w : World) (xs : List Int) (t : TypeId) (fr : Nat × Nat) : Rd q (w.alloc (.cells (cel q xs).toArray t fr)) (some ⟨w.heap.size, 0, none⟩) xs := by
  refine .inr ⟨_, _, rfl, fun i hi => ?_⟩
  rw [Nat.zero_add, World.cell?_alloc_mark]
  simp [cel, List.getD, hi]
end Go.Proofs.YtpjlnpnadkbakaaGreat

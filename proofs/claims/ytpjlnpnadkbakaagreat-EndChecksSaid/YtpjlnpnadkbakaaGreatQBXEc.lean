/-
  More of ArgSetup · Config.
-/
import Derived.BigQuiet
import Derived.ChangeArms
import Derived.ChangeOld
import Derived.ChangeSame
import Derived.Deep.MidRow
import Derived.Deep.OwnRows
import Derived.Deep.QuietTactic
import Derived.Deep.RegionHeld3
import Derived.Deep.Slices
import Derived.Lib.Hide
import Derived.OpenShut
import Derived.Shelf.Abstract
import Derived.Test.YtpjlnpnadkbakaaGreatQBCopy
import Derived.Test.YtpjlnpnadkbakaaGreatQBCountMath
import Derived.Test.YtpjlnpnadkbakaaGreatQBDocSched
import Derived.Test.YtpjlnpnadkbakaaGreatQBEnCallC
import Derived.Test.YtpjlnpnadkbakaaGreatQBEnOk
import Derived.Test.YtpjlnpnadkbakaaGreatQBEvMem
import Derived.Test.YtpjlnpnadkbakaaGreatQBFlight2
import Derived.Test.YtpjlnpnadkbakaaGreatQBFlight4
import Derived.Test.YtpjlnpnadkbakaaGreatQBFresh
import Derived.Test.YtpjlnpnadkbakaaGreatQBInbox
import Derived.Test.YtpjlnpnadkbakaaGreatQBInbox2
import Derived.Test.YtpjlnpnadkbakaaGreatQBInbox3
import Derived.Test.YtpjlnpnadkbakaaGreatQBMem
import Derived.Test.YtpjlnpnadkbakaaGreatQBMetM
import Derived.Test.YtpjlnpnadkbakaaGreatQBOutbox
import Derived.Test.YtpjlnpnadkbakaaGreatQBOutbox2
import Derived.Test.YtpjlnpnadkbakaaGreatQBPair
import Derived.Test.YtpjlnpnadkbakaaGreatQBPath
import Derived.Test.YtpjlnpnadkbakaaGreatQBPktP
import Derived.Test.YtpjlnpnadkbakaaGreatQBPrEn1
import Derived.Test.YtpjlnpnadkbakaaGreatQBPrEn10
import Derived.Test.YtpjlnpnadkbakaaGreatQBPrEn11
import Derived.Test.YtpjlnpnadkbakaaGreatQBPrEn12
import Derived.Test.YtpjlnpnadkbakaaGreatQBPrEn13
import Derived.Test.YtpjlnpnadkbakaaGreatQBPrEn14
import Derived.Test.YtpjlnpnadkbakaaGreatQBPrEn15
import Derived.Test.YtpjlnpnadkbakaaGreatQBPrEn16
import Derived.Test.YtpjlnpnadkbakaaGreatQBPrEn17
import Derived.Test.YtpjlnpnadkbakaaGreatQBPrEn3
import Derived.Test.YtpjlnpnadkbakaaGreatQBPrEn5
import Derived.Test.YtpjlnpnadkbakaaGreatQBPrEn7
import Derived.Test.YtpjlnpnadkbakaaGreatQBPrEn9
import Derived.Test.YtpjlnpnadkbakaaGreatQBPrEvK
import Derived.Test.YtpjlnpnadkbakaaGreatQBQuad
import Derived.Test.YtpjlnpnadkbakaaGreatQBRangesMath
import Derived.Test.YtpjlnpnadkbakaaGreatQBReplace2
import Derived.Test.YtpjlnpnadkbakaaGreatQBRowN
import Derived.Test.YtpjlnpnadkbakaaGreatQBSearch
import Derived.Test.YtpjlnpnadkbakaaGreatQBSets
namespace Go.Proofs.YtpjlnpnadkbakaaGreat
set_option maxRecDepth 10000
open Go.ChangeShapes Go.WideShapes Go.ChangeAt Go.RowKit
section
variable {H : Type} {enc : TypeId × Value → H} {w : World} {held : Bool}
theorem openSu_i {fuel : Nat} {v : Value} {x : DataW H × List MemPlace} (h : DataW.trod enc Tryz.prog w 0 (fun _ => true) held fuel 3 [v] = some x) : ∃ n, v = .int .i64 n := by
  obtain ⟨n, h0, _, _⟩ := DataW.trod_int Tryz.underlying3 h
  simp only [List.cons.injEq, and_true] at h0
  exact ⟨n, h0⟩
theorem open_setup {fuel : Nat} {cs : List Value} {x : DataW H × List MemPlace} (hl : cs.length = 7) (h : DataW.trod enc Tryz.prog w 0 (fun _ => true) held fuel 53 cs = some x) :
    ∃ s : Su, cs = s.cs := by
  obtain ⟨xs, k, hk, hxy, _, hxl, hf⟩ := DataW.trod_struct Tryz.underlying53 h
  have hxl9 : xs.length = 7 := hxl
  have some_ : ∀ i, i < 7 → ∃ z, xs[i]? = some z := fun i hi => ⟨_, List.getElem?_eq_getElem (by omega)⟩
  have ci : Tryz.prog.cellsOf 3 = 1 := by kernel_rfl
  match cs, hl with
  | [v0, v1, v2, v3, v4, v5, v6], _ =>
    have g0 := hf 0 _ rfl
    have g1 := hf 1 _ rfl
    have g2 := hf 2 _ rfl
    have g3 := hf 3 _ rfl
    have g4 := hf 4 _ rfl
    have g5 := hf 5 _ rfl
    have g6 := hf 6 _ rfl
    simp [ci] at g0 g1 g2 g3 g4 g5 g6
    obtain ⟨z0, e0⟩ := some_ 0 (by omega)
    obtain ⟨z1, e1⟩ := some_ 1 (by omega)
    obtain ⟨z2, e2⟩ := some_ 2 (by omega)
    obtain ⟨z3, e3⟩ := some_ 3 (by omega)
    obtain ⟨z4, e4⟩ := some_ 4 (by omega)
    obtain ⟨z5, e5⟩ := some_ 5 (by omega)
    obtain ⟨z6, e6⟩ := some_ 6 (by omega)
    obtain ⟨n0, rfl⟩ := openSu_i (g0.trans e0)
    obtain ⟨n1, rfl⟩ := openSu_i (g1.trans e1)
    obtain ⟨n2, rfl⟩ := openSu_i (g2.trans e2)
    obtain ⟨n3, rfl⟩ := openSu_i (g3.trans e3)
    obtain ⟨n4, rfl⟩ := openSu_i (g4.trans e4)
    obtain ⟨n5, rfl⟩ := openSu_i (g5.trans e5)
    obtain ⟨n6, rfl⟩ := openSu_i (g6.trans e6)
    exact ⟨⟨n0, n1, n2, n3, n4, n5, n6⟩, rfl⟩
end
def Su.cf (s : Su) : Cf := ⟨1 + s.pa % 3, 1 + s.bu % 60, 1 + s.wi % 50, 1 + s.ch % 20, 1 + s.mo % 6, 1 + s.fi % 8, 1 + s.sc % 3⟩
theorem Su.cf_ok (s : Su) : s.cf.ok := by
  constructor <;> (simp only [Su.cf]; omega)
end Go.Proofs.YtpjlnpnadkbakaaGreat
namespace Go.Proofs.YtpjlnpnadkbakaaGreat
set_option maxRecDepth 10000
open Go.RowKit
abbrev tSu : TypeId := 53
theorem rowIs_drew {w : World} {b n : Nat} {t : TypeId} {f : Nat → Value} (h : w.rowIs b t n f) : w.drew.rowIs b t n f := h
theorem below_drewC {B : Nat} {w w' : World} (h : Below B w w') : Below B w w'.drew := ⟨h.os, h.tape, h.output, h.size, h.block⟩
set_option maxHeartbeats 2000000 in
theorem config_any (s : Su) (w : World) : Calls Tryz.prog 38 #[s.val] w fun e w' => e = .returned s.cf.val ∧ Below w.heap.size w w' := by
  have eg : ∀ args w, (callFunc 25 args).run Tryz.prog w = .ok (.enter 25 args) w := enters_of Tryz.func25 (by kernel_rfl) rfl
  have hcf := s.cf_ok
  have e : s.cf = ⟨1 + s.pa % 3, 1 + s.bu % 60, 1 + s.wi % 50, 1 + s.ch % 20, 1 + s.mo % 6, 1 + s.fi % 8, 1 + s.sc % 3⟩ := rfl
  have HWpa := Lib.hid (fun w => within_any s.pa 3 w (by omega) (by omega))
  obtain ⟨zpa, hzpa⟩ : ∃ z : Int, s.pa % 3 = z := ⟨_, rfl⟩
  obtain ⟨cpa, hcpa⟩ : ∃ z : Int, 1 + zpa = z := ⟨_, rfl⟩
  rw [hzpa] at HWpa e
  rw [hcpa] at e
  have HWbu := Lib.hid (fun w => within_any s.bu 60 w (by omega) (by omega))
  obtain ⟨zbu, hzbu⟩ : ∃ z : Int, s.bu % 60 = z := ⟨_, rfl⟩
  obtain ⟨cbu, hcbu⟩ : ∃ z : Int, 1 + zbu = z := ⟨_, rfl⟩
  rw [hzbu] at HWbu e
  rw [hcbu] at e
  have HWwi := Lib.hid (fun w => within_any s.wi 50 w (by omega) (by omega))
  obtain ⟨zwi, hzwi⟩ : ∃ z : Int, s.wi % 50 = z := ⟨_, rfl⟩
  obtain ⟨cwi, hcwi⟩ : ∃ z : Int, 1 + zwi = z := ⟨_, rfl⟩
  rw [hzwi] at HWwi e
  rw [hcwi] at e
  have HWch := Lib.hid (fun w => within_any s.ch 20 w (by omega) (by omega))
  obtain ⟨zch, hzch⟩ : ∃ z : Int, s.ch % 20 = z := ⟨_, rfl⟩
  obtain ⟨cch, hcch⟩ : ∃ z : Int, 1 + zch = z := ⟨_, rfl⟩
  rw [hzch] at HWch e
  rw [hcch] at e
  have HWmo := Lib.hid (fun w => within_any s.mo 6 w (by omega) (by omega))
  obtain ⟨zmo, hzmo⟩ : ∃ z : Int, s.mo % 6 = z := ⟨_, rfl⟩
  obtain ⟨cmo, hcmo⟩ : ∃ z : Int, 1 + zmo = z := ⟨_, rfl⟩
  rw [hzmo] at HWmo e
  rw [hcmo] at e
  have HWfi := Lib.hid (fun w => within_any s.fi 8 w (by omega) (by omega))
  obtain ⟨zfi, hzfi⟩ : ∃ z : Int, s.fi % 8 = z := ⟨_, rfl⟩
  obtain ⟨cfi, hcfi⟩ : ∃ z : Int, 1 + zfi = z := ⟨_, rfl⟩
  rw [hzfi] at HWfi e
  rw [hcfi] at e
  have HWsc := Lib.hid (fun w => within_any s.sc 3 w (by omega) (by omega))
  obtain ⟨zsc, hzsc⟩ : ∃ z : Int, s.sc % 3 = z := ⟨_, rfl⟩
  obtain ⟨csc, hcsc⟩ : ∃ z : Int, 1 + zsc = z := ⟨_, rfl⟩
  rw [hzsc] at HWsc e
  rw [hcsc] at e
  have HBpa := Lib.hid (show wrap64 (1 + zpa) = cpa ∧ IntKind.i64.wrap (1 + zpa) = cpa by have := hcf.pa; rw [e] at this; exact ⟨by unfold wrap64; omega, by rw [hcpa]; exact IntWalk.i64_in _ (by constructor <;> omega)⟩)
  have HBbu := Lib.hid (show wrap64 (1 + zbu) = cbu ∧ IntKind.i64.wrap (1 + zbu) = cbu by have := hcf.bu; rw [e] at this; exact ⟨by unfold wrap64; omega, by rw [hcbu]; exact IntWalk.i64_in _ (by constructor <;> omega)⟩)
  have HBwi := Lib.hid (show wrap64 (1 + zwi) = cwi ∧ IntKind.i64.wrap (1 + zwi) = cwi by have := hcf.wi; rw [e] at this; exact ⟨by unfold wrap64; omega, by rw [hcwi]; exact IntWalk.i64_in _ (by constructor <;> omega)⟩)
  have HBch := Lib.hid (show wrap64 (1 + zch) = cch ∧ IntKind.i64.wrap (1 + zch) = cch by have := hcf.ch; rw [e] at this; exact ⟨by unfold wrap64; omega, by rw [hcch]; exact IntWalk.i64_in _ (by constructor <;> omega)⟩)
  have HBmo := Lib.hid (show wrap64 (1 + zmo) = cmo ∧ IntKind.i64.wrap (1 + zmo) = cmo by have := hcf.mo; rw [e] at this; exact ⟨by unfold wrap64; omega, by rw [hcmo]; exact IntWalk.i64_in _ (by constructor <;> omega)⟩)
  have HBfi := Lib.hid (show wrap64 (1 + zfi) = cfi ∧ IntKind.i64.wrap (1 + zfi) = cfi by have := hcf.fi; rw [e] at this; exact ⟨by unfold wrap64; omega, by rw [hcfi]; exact IntWalk.i64_in _ (by constructor <;> omega)⟩)
  have HBsc := Lib.hid (show wrap64 (1 + zsc) = csc ∧ IntKind.i64.wrap (1 + zsc) = csc by have := hcf.sc; rw [e] at this; exact ⟨by unfold wrap64; omega, by rw [hcsc]; exact IntWalk.i64_in _ (by constructor <;> omega)⟩)
  rw [e]
  clear hcf e hzpa hcpa hzbu hcbu hzwi hcwi hzch hcch hzmo hcmo hzfi hcfi hzsc hcsc
  obtain ⟨spa, sbu, swi, sch, smo, sfi, ssc⟩ := s
  simp only [Su.val] at *
  obtain ⟨W0, hW0⟩ : ∃ W0, w.alloc (.cells #[.int .i64 spa, .int .i64 sbu, .int .i64 swi, .int .i64 sch, .int .i64 smo, .int .i64 sfi, .int .i64 ssc] tSu) = W0 := ⟨_, rfl⟩
  have hz0 : W0.heap.size = w.heap.size + 1 := by rw [← hW0]; simp
  have hb0 : Below w.heap.size w W0 := by rw [← hW0]; exact (Below.refl _ _).alloc (Nat.le_refl _) _
  have hrow : W0.rowIs w.heap.size tSu 7 (cfF ⟨spa, sbu, swi, sch, smo, sfi, ssc⟩) := by
    rw [← hW0]
    exact World.rowIs_alloc w _ _ _ (fun i hi => by
      have : i < 7 := hi
      match i, this with
      | 0, _ | 1, _ | 2, _ | 3, _ | 4, _ | 5, _ | 6, _ => rfl)
  obtain ⟨W1, hW1⟩ : ∃ W1, W0.alloc (.cells #[.int .i64 0, .int .i64 0, .int .i64 0, .int .i64 0, .int .i64 0, .int .i64 0, .int .i64 0] tCf) = W1 := ⟨_, rfl⟩
  have hb1 : Below w.heap.size w W1 := by rw [← hW1]; exact hb0.alloc hb0.size _
  have hrow1 : W1.rowIs w.heap.size tSu 7 (cfF ⟨spa, sbu, swi, sch, smo, sfi, ssc⟩) := by rw [← hW1]; exact World.rowIs.of_block hrow (((Below.refl _ _).alloc (Nat.le_refl _) _).block _ (World.rowIs.lt hrow))
  have hrow2 : W1.rowIs W0.heap.size tCf 7 (cfF ⟨0, 0, 0, 0, 0, 0, 0⟩) := by
    rw [← hW1]
    exact World.rowIs_alloc W0 _ _ _ (fun i hi => by
      have : i < 7 := hi
      match i, this with
      | 0, _ | 1, _ | 2, _ | 3, _ | 4, _ | 5, _ | 6, _ => rfl)
  obtain ⟨b1, hb1q⟩ : ∃ b, W0.heap.size = b := ⟨_, rfl⟩
  obtain ⟨b0, hb0q⟩ : ∃ b, w.heap.size = b := ⟨_, rfl⟩
  have HB0Q := Lib.hid hb0q
  go_enter Tryz.func38, Tryz.ntmps38
  go_wp2_with fail
  have hlt1 : b0 < W1.heap.size := by have := World.rowIs.lt hrow1; omega
  have hS0 : W1.rowIs b0 tSu 7 (cfF ⟨spa, sbu, swi, sch, smo, sfi, ssc⟩) := by rw [← hb0q]; exact hrow1
  have S1 := Lib.hid (rowIs_drew hS0)
  have hr2 : W1.rowIs (b0 + 1) tCf 7 (cfF ⟨0, 0, 0, 0, 0, 0, 0⟩) := by have h9 : W1.rowIs W0.heap.size tCf 7 _ := hrow2; rw [hz0, hb0q] at h9; exact h9
  have HR0 := Lib.hid hr2
  have HR2 := Lib.hid (show (st7 W1 (b0 + 1) ⟨cpa, cbu, cwi, cch, cmo, cfi, csc⟩).drew.rowIs (b0 + 1) tCf 7 (cfF ⟨cpa, cbu, cwi, cch, cmo, cfi, csc⟩) from rowIs_drew (st7_row hr2 ⟨cpa, cbu, cwi, cch, cmo, cfi, csc⟩))
  have SF := Lib.hid (show (st7 W1 (b0 + 1) ⟨cpa, cbu, cwi, cch, cmo, cfi, csc⟩).drew.rowIs b0 tSu 7 (cfF ⟨spa, sbu, swi, sch, smo, sfi, ssc⟩) from rowIs_drew (World.rowIs.of_block hS0 ((st7_grown W1 (b0 + 1) ⟨cpa, cbu, cwi, cch, cmo, cfi, csc⟩).block b0 hlt1 (fun e => by have := Option.some.inj e; omega))))
  have hfin : Below b0 w (st7 W1 (b0 + 1) ⟨cpa, cbu, cwi, cch, cmo, cfi, csc⟩) := Below.grown (show Below b0 w W1 by rw [← hb0q]; exact hb1) (st7_grown W1 (b0 + 1) ⟨cpa, cbu, cwi, cch, cmo, cfi, csc⟩) (by have := hb1.size; rw [hb0q] at this; exact this) (by intro g hg; simp at hg; omega)
  have HFIN := Lib.hid (show Below b0 w (st7 W1 (b0 + 1) ⟨cpa, cbu, cwi, cch, cmo, cfi, csc⟩).drew from below_drewC hfin)
  clear hfin hS0 hW0 hz0 hb0 hrow hW1 hb1 hrow1 hrow2 hb1q hb0q hlt1 hr2
  refine wp_region_held_drew (S := fun wi => wi.rowIs b0 tSu 7 (cfF ⟨spa, sbu, swi, sch, smo, sfi, ssc⟩)) (by kernel_rfl) S1.out ?_
  intro hHeld
  refine tkH 0 ?_
  refine tkH 1 ?_
  refine wpAnyH_take (i := 2) (v := ?_) rfl (by kernel_rfl) (by kernel_rfl) (by kernel_rfl) (fun _ _ _ h => h) (Or.inl ⟨by rfl, ?_⟩) (by assumption) ?_
  rotate_left
  · intro w hSw
    (try dsimp only at hSw)
    have c9 : w.cell? ⟨b0, 0 + 0, none⟩ = some (.int .i64 spa) := World.rowIs.cell (i := 0) hSw (by omega)
    try rw [Nat.add_zero] at c9
    clear hSw
    go_simp
    try (with_reducible rfl)
  try simp only [Act.put, List.getElem_toArray, List.getElem_cons_zero, List.getElem_cons_succ, List.setIfInBounds_toArray, List.set_cons_zero, List.set_cons_succ]
  refine tkH 5 ?_
  refine tkH 6 ?_
  refine wpAnyH_take (i := 7) (v := ?_) rfl (by kernel_rfl) (by kernel_rfl) (by kernel_rfl) (fun _ _ _ h => h) (Or.inl ⟨by rfl, ?_⟩) (by assumption) ?_
  rotate_left
  · intro w hSw
    (try dsimp only at hSw)
    have c9 : w.cell? ⟨b0, 0 + 1, none⟩ = some (.int .i64 sbu) := World.rowIs.cell (i := 1) hSw (by omega)
    try rw [Nat.add_zero] at c9
    clear hSw
    go_simp
    try (with_reducible rfl)
  try simp only [Act.put, List.getElem_toArray, List.getElem_cons_zero, List.getElem_cons_succ, List.setIfInBounds_toArray, List.set_cons_zero, List.set_cons_succ]
  refine tkH 10 ?_
  refine tkH 11 ?_
  refine wpAnyH_take (i := 12) (v := ?_) rfl (by kernel_rfl) (by kernel_rfl) (by kernel_rfl) (fun _ _ _ h => h) (Or.inl ⟨by rfl, ?_⟩) (by assumption) ?_
  rotate_left
  · intro w hSw
    (try dsimp only at hSw)
    have c9 : w.cell? ⟨b0, 0 + 2, none⟩ = some (.int .i64 swi) := World.rowIs.cell (i := 2) hSw (by omega)
    try rw [Nat.add_zero] at c9
    clear hSw
    go_simp
    try (with_reducible rfl)
  try simp only [Act.put, List.getElem_toArray, List.getElem_cons_zero, List.getElem_cons_succ, List.setIfInBounds_toArray, List.set_cons_zero, List.set_cons_succ]
  refine tkH 15 ?_
  refine tkH 16 ?_
  refine wpAnyH_take (i := 17) (v := ?_) rfl (by kernel_rfl) (by kernel_rfl) (by kernel_rfl) (fun _ _ _ h => h) (Or.inl ⟨by rfl, ?_⟩) (by assumption) ?_
  rotate_left
  · intro w hSw
    (try dsimp only at hSw)
    have c9 : w.cell? ⟨b0, 0 + 3, none⟩ = some (.int .i64 sch) := World.rowIs.cell (i := 3) hSw (by omega)
    try rw [Nat.add_zero] at c9
    clear hSw
    go_simp
    try (with_reducible rfl)
  try simp only [Act.put, List.getElem_toArray, List.getElem_cons_zero, List.getElem_cons_succ, List.setIfInBounds_toArray, List.set_cons_zero, List.set_cons_succ]
  refine tkH 20 ?_
  refine tkH 21 ?_
  refine wpAnyH_take (i := 22) (v := ?_) rfl (by kernel_rfl) (by kernel_rfl) (by kernel_rfl) (fun _ _ _ h => h) (Or.inl ⟨by rfl, ?_⟩) (by assumption) ?_
  rotate_left
  · intro w hSw
    (try dsimp only at hSw)
    have c9 : w.cell? ⟨b0, 0 + 4, none⟩ = some (.int .i64 smo) := World.rowIs.cell (i := 4) hSw (by omega)
    try rw [Nat.add_zero] at c9
    clear hSw
    go_simp
    try (with_reducible rfl)
  try simp only [Act.put, List.getElem_toArray, List.getElem_cons_zero, List.getElem_cons_succ, List.setIfInBounds_toArray, List.set_cons_zero, List.set_cons_succ]
  refine tkH 25 ?_
  refine tkH 26 ?_
  refine wpAnyH_take (i := 27) (v := ?_) rfl (by kernel_rfl) (by kernel_rfl) (by kernel_rfl) (fun _ _ _ h => h) (Or.inl ⟨by rfl, ?_⟩) (by assumption) ?_
  rotate_left
  · intro w hSw
    (try dsimp only at hSw)
    have c9 : w.cell? ⟨b0, 0 + 5, none⟩ = some (.int .i64 sfi) := World.rowIs.cell (i := 5) hSw (by omega)
    try rw [Nat.add_zero] at c9
    clear hSw
    go_simp
    try (with_reducible rfl)
  try simp only [Act.put, List.getElem_toArray, List.getElem_cons_zero, List.getElem_cons_succ, List.setIfInBounds_toArray, List.set_cons_zero, List.set_cons_succ]
  refine tkH 30 ?_
  refine tkH 31 ?_
  refine wpAnyH_take (i := 32) (v := ?_) rfl (by kernel_rfl) (by kernel_rfl) (by kernel_rfl) (fun _ _ _ h => h) (Or.inl ⟨by rfl, ?_⟩) (by assumption) ?_
  rotate_left
  · intro w hSw
    (try dsimp only at hSw)
    have c9 : w.cell? ⟨b0, 0 + 6, none⟩ = some (.int .i64 ssc) := World.rowIs.cell (i := 6) hSw (by omega)
    try rw [Nat.add_zero] at c9
    clear hSw
    go_simp
    try (with_reducible rfl)
  try simp only [Act.put, List.getElem_toArray, List.getElem_cons_zero, List.getElem_cons_succ, List.setIfInBounds_toArray, List.set_cons_zero, List.set_cons_succ]
  refine wpAnyH_ready (rs := [3]) (by kernel_rfl) (by simp) ?_
  refine AllReadyH.cons rfl (fun K hK => ?_) AllReadyH.nil
  go_simp
  refine (HWpa.out _).mono ?_
  rintro e w1 ⟨rfl, rfl⟩
  refine hK.out _ _ S1.out (fun hHeld2 => ?_)
  clear hK K hHeld
  have hHeld := hHeld2
  clear hHeld2
  try simp only [Act.put, List.getElem_toArray, List.getElem_cons_zero, List.getElem_cons_succ, List.setIfInBounds_toArray, List.set_cons_zero, List.set_cons_succ]
  have hw2 := HBpa.out.1
  have hw3 := HBpa.out.2
  refine tkH 4 ?_
  clear hw2 hw3
  refine wpAnyH_ready (rs := [8]) (by kernel_rfl) (by simp) ?_
  refine AllReadyH.cons rfl (fun K hK => ?_) AllReadyH.nil
  go_simp
  refine (HWbu.out _).mono ?_
  rintro e w1 ⟨rfl, rfl⟩
  refine hK.out _ _ S1.out (fun hHeld2 => ?_)
  clear hK K hHeld
  have hHeld := hHeld2
  clear hHeld2
  try simp only [Act.put, List.getElem_toArray, List.getElem_cons_zero, List.getElem_cons_succ, List.setIfInBounds_toArray, List.set_cons_zero, List.set_cons_succ]
  have hw2 := HBbu.out.1
  have hw3 := HBbu.out.2
  refine tkH 9 ?_
  clear hw2 hw3
  refine wpAnyH_ready (rs := [13]) (by kernel_rfl) (by simp) ?_
  refine AllReadyH.cons rfl (fun K hK => ?_) AllReadyH.nil
  go_simp
  refine (HWwi.out _).mono ?_
  rintro e w1 ⟨rfl, rfl⟩
  refine hK.out _ _ S1.out (fun hHeld2 => ?_)
  clear hK K hHeld
  have hHeld := hHeld2
  clear hHeld2
  try simp only [Act.put, List.getElem_toArray, List.getElem_cons_zero, List.getElem_cons_succ, List.setIfInBounds_toArray, List.set_cons_zero, List.set_cons_succ]
  have hw2 := HBwi.out.1
  have hw3 := HBwi.out.2
  refine tkH 14 ?_
  clear hw2 hw3
  refine wpAnyH_ready (rs := [18]) (by kernel_rfl) (by simp) ?_
  refine AllReadyH.cons rfl (fun K hK => ?_) AllReadyH.nil
  go_simp
  refine (HWch.out _).mono ?_
  rintro e w1 ⟨rfl, rfl⟩
  refine hK.out _ _ S1.out (fun hHeld2 => ?_)
  clear hK K hHeld
  have hHeld := hHeld2
  clear hHeld2
  try simp only [Act.put, List.getElem_toArray, List.getElem_cons_zero, List.getElem_cons_succ, List.setIfInBounds_toArray, List.set_cons_zero, List.set_cons_succ]
  have hw2 := HBch.out.1
  have hw3 := HBch.out.2
  refine tkH 19 ?_
  clear hw2 hw3
  refine wpAnyH_ready (rs := [23]) (by kernel_rfl) (by simp) ?_
  refine AllReadyH.cons rfl (fun K hK => ?_) AllReadyH.nil
  go_simp
  refine (HWmo.out _).mono ?_
  rintro e w1 ⟨rfl, rfl⟩
  refine hK.out _ _ S1.out (fun hHeld2 => ?_)
  clear hK K hHeld
  have hHeld := hHeld2
  clear hHeld2
  try simp only [Act.put, List.getElem_toArray, List.getElem_cons_zero, List.getElem_cons_succ, List.setIfInBounds_toArray, List.set_cons_zero, List.set_cons_succ]
  have hw2 := HBmo.out.1
  have hw3 := HBmo.out.2
  refine tkH 24 ?_
  clear hw2 hw3
  refine wpAnyH_ready (rs := [28]) (by kernel_rfl) (by simp) ?_
  refine AllReadyH.cons rfl (fun K hK => ?_) AllReadyH.nil
  go_simp
  refine (HWfi.out _).mono ?_
  rintro e w1 ⟨rfl, rfl⟩
  refine hK.out _ _ S1.out (fun hHeld2 => ?_)
  clear hK K hHeld
  have hHeld := hHeld2
  clear hHeld2
  try simp only [Act.put, List.getElem_toArray, List.getElem_cons_zero, List.getElem_cons_succ, List.setIfInBounds_toArray, List.set_cons_zero, List.set_cons_succ]
  have hw2 := HBfi.out.1
  have hw3 := HBfi.out.2
  refine tkH 29 ?_
  clear hw2 hw3
  refine wpAnyH_ready (rs := [33]) (by kernel_rfl) (by simp) ?_
  refine AllReadyH.cons rfl (fun K hK => ?_) AllReadyH.nil
  go_simp
  refine (HWsc.out _).mono ?_
  rintro e w1 ⟨rfl, rfl⟩
  refine hK.out _ _ S1.out (fun hHeld2 => ?_)
  clear hK K hHeld
  have hHeld := hHeld2
  clear hHeld2
  try simp only [Act.put, List.getElem_toArray, List.getElem_cons_zero, List.getElem_cons_succ, List.setIfInBounds_toArray, List.set_cons_zero, List.set_cons_succ]
  have hw2 := HBsc.out.1
  have hw3 := HBsc.out.2
  refine tkH 34 ?_
  clear hw2 hw3
  refine tkH 35 ?_
  have y0 : W1.cell? ⟨b0 + 1, 0, none⟩ = some (.int .i64 0) := World.rowIs.cell (i := 0) HR0.out (by omega)
  have f0 : W1.frozen? ⟨b0 + 1, 0, none⟩ = false := World.rowIs.frozen HR0.out 0
  have y1 : W1.cell? ⟨b0 + 1, 1, none⟩ = some (.int .i64 0) := World.rowIs.cell (i := 1) HR0.out (by omega)
  have f1 : W1.frozen? ⟨b0 + 1, 1, none⟩ = false := World.rowIs.frozen HR0.out 1
  have y2 : W1.cell? ⟨b0 + 1, 2, none⟩ = some (.int .i64 0) := World.rowIs.cell (i := 2) HR0.out (by omega)
  have f2 : W1.frozen? ⟨b0 + 1, 2, none⟩ = false := World.rowIs.frozen HR0.out 2
  have y3 : W1.cell? ⟨b0 + 1, 3, none⟩ = some (.int .i64 0) := World.rowIs.cell (i := 3) HR0.out (by omega)
  have f3 : W1.frozen? ⟨b0 + 1, 3, none⟩ = false := World.rowIs.frozen HR0.out 3
  have y4 : W1.cell? ⟨b0 + 1, 4, none⟩ = some (.int .i64 0) := World.rowIs.cell (i := 4) HR0.out (by omega)
  have f4 : W1.frozen? ⟨b0 + 1, 4, none⟩ = false := World.rowIs.frozen HR0.out 4
  have y5 : W1.cell? ⟨b0 + 1, 5, none⟩ = some (.int .i64 0) := World.rowIs.cell (i := 5) HR0.out (by omega)
  have f5 : W1.frozen? ⟨b0 + 1, 5, none⟩ = false := World.rowIs.frozen HR0.out 5
  have y6 : W1.cell? ⟨b0 + 1, 6, none⟩ = some (.int .i64 0) := World.rowIs.cell (i := 6) HR0.out (by omega)
  have f6 : W1.frozen? ⟨b0 + 1, 6, none⟩ = false := World.rowIs.frozen HR0.out 6
  refine wpAnyH_ready (rs := [36]) (by kernel_rfl) (by simp) ?_
  refine AllReadyH.cons rfl (fun K hK => ?_) AllReadyH.nil
  go_simp
  refine hK.out _ _ SF.out (fun hHeld2 => ?_)
  clear hK K hHeld
  have hHeld := hHeld2
  clear hHeld2 y0 f0 y1 f1 y2 f2 y3 f3 y4 f4 y5 f5 y6 f6
  try simp only [Act.put, List.getElem_toArray, List.getElem_cons_zero, List.getElem_cons_succ, List.setIfInBounds_toArray, List.set_cons_zero, List.set_cons_succ]
  refine wpAnyH_done (by kernel_rfl) ?_ _
  clear hHeld
  go_wp2_with fail
  change bodyPost _ _ _ _ _ (st7 W1 (b0 + 1) ⟨cpa, cbu, cwi, cch, cmo, cfi, csc⟩).drew
  refine bodyPost_ret (v := (⟨cpa, cbu, cwi, cch, cmo, cfi, csc⟩ : Cf).val) ?_ rfl ⟨rfl, by rw [HB0Q.out]; exact HFIN.out⟩
  have hr9 := HR2.out
  generalize (st7 W1 (b0 + 1) ⟨cpa, cbu, cwi, cch, cmo, cfi, csc⟩).drew = WF at hr9 ⊢
  have c0 : WF.cell? ⟨b0 + 1, 0, none⟩ = some (.int .i64 cpa) := World.rowIs.cell (i := 0) hr9 (by omega)
  have c1 : WF.cell? ⟨b0 + 1, 1, none⟩ = some (.int .i64 cbu) := World.rowIs.cell (i := 1) hr9 (by omega)
  have c2 : WF.cell? ⟨b0 + 1, 2, none⟩ = some (.int .i64 cwi) := World.rowIs.cell (i := 2) hr9 (by omega)
  have c3 : WF.cell? ⟨b0 + 1, 3, none⟩ = some (.int .i64 cch) := World.rowIs.cell (i := 3) hr9 (by omega)
  have c4 : WF.cell? ⟨b0 + 1, 4, none⟩ = some (.int .i64 cmo) := World.rowIs.cell (i := 4) hr9 (by omega)
  have c5 : WF.cell? ⟨b0 + 1, 5, none⟩ = some (.int .i64 cfi) := World.rowIs.cell (i := 5) hr9 (by omega)
  have c6 : WF.cell? ⟨b0 + 1, 6, none⟩ = some (.int .i64 csc) := World.rowIs.cell (i := 6) hr9 (by omega)
  simp [results, Tryz.results38, go_sem, Cf.val, c0, c1, c2, c3, c4, c5, c6]
end Go.Proofs.YtpjlnpnadkbakaaGreat

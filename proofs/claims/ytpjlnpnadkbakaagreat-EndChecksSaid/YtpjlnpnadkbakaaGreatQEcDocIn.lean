/-
  DocIn · Fresh · DocIn2.
-/
import Derived.Test.YtpjlnpnadkbakaaGreatQEcSetF
import Derived.Test.YtpjlnpnadkbakaaGreatQEcPlanMath
import Derived.Test.YtpjlnpnadkbakaaGreatQEcClamp
import Derived.Test.YtpjlnpnadkbakaaGreatQEcQuad
import Derived.Deep.RegionHeld3
import Derived.BigQuiet
import Derived.Deep.OwnRows
import Derived.Deep.LoopGhost
namespace Go.Proofs.YtpjlnpnadkbakaaGreat
set_option maxRecDepth 10000
open Go.RowKit

abbrev tDIn : TypeId := 196
/-- The cells of the document's Inbox, but its Set. -/
def diF (win tk en : Int) (bv : Value) (i : Nat) : Value := if i = 0 then .int .i64 win else if i = 1 then .int .i64 tk else if i = 2 then .int .i64 en else bv
/-- Block b is the document's inbox s: its bytes the slice bv of xs, its Set the list gv of ps. -/
structure DiAt (w : World) (B b : Nat) (bv gv : Value) (xs : List Int) (ps : List (Int × Int)) (s : In) : Prop where
  sf : SfA tDIn 5 4 (diF s.win s.tk s.en bv) w B b gv ps
  own : Own .u8 5 w B bv xs
  rep : Rep xs ps s.g
  ok : s.ok
/-- Its blocks. -/
def Dif (b : Nat) (bv gv : Value) (k : Nat) : Prop := k = b ∨ gv.ownBlock = some k ∨ bv.ownBlock = some k

section
variable {w w' : World} {B B' b : Nat} {bv gv bv' gv' : Value} {xs : List Int} {ps : List (Int × Int)} {s : In} {F : Nat → Prop}
theorem own_not_rowI {k : IntKind} {e t : TypeId} {v : Value} (h : Own k e w B v xs) {f : Nat → Value} {n b : Nat} (hr : w.rowIs b t n f) (ht : e ≠ t) : v.ownBlock ≠ some b := by
  rcases h.2 with ⟨hv, _⟩ | ⟨g, cap, cur, hv, _, hh, _⟩
  · rw [hv]; simp [Value.ownBlock]
  · rw [hv]
    intro he
    simp only [Value.ownBlock, Option.some.injEq] at he
    subst he
    obtain ⟨cur', hh', _⟩ := hr
    rw [hh] at hh'
    injection hh' with hh'
    injection hh' with _ ht'
    exact ht ht'
theorem own_not_pair {k : IntKind} {e t : TypeId} {v u : Value} (h : Own k e w B v xs) (h' : OwnP t w B' u ps) (ht : e ≠ t) : ∀ g, v.ownBlock = some g → u.ownBlock ≠ some g := by
  intro g hg hu
  rcases h.2 with ⟨hv, _⟩ | ⟨g1, cap, cur, hv, _, hh, _⟩
  · rw [hv] at hg; simp [Value.ownBlock] at hg
  · rcases h'.parts with ⟨rfl, _⟩ | ⟨g2, cap', cur', rfl, _, hh', _⟩
    · simp [Value.ownBlock] at hu
    · rw [hv] at hg
      simp only [Value.ownBlock, Option.some.injEq] at hg hu
      subst hg
      subst hu
      rw [hh] at hh'
      injection hh' with hh'
      injection hh' with _ ht'
      exact ht ht'
theorem DiAt.lt (h : DiAt w B b bv gv xs ps s) : b < w.heap.size := h.sf.lt
theorem DiAt.size (h : DiAt w B b bv gv xs ps s) : B ≤ w.heap.size := h.sf.size
theorem DiAt.nb (h : DiAt w B b bv gv xs ps s) : bv.ownBlock ≠ some b := own_not_rowI h.own h.sf.row (by decide)
theorem DiAt.ng (h : DiAt w B b bv gv xs ps s) : ∀ g, bv.ownBlock = some g → gv.ownBlock ≠ some g := own_not_pair h.own h.sf.own (by decide)
theorem DiAt.kept (h : DiAt w B b bv gv xs ps s) (ht : Trn w w' F) (hf : ∀ k, Dif b bv gv k → ¬ F k) : DiAt w' B b bv gv xs ps s :=
  ⟨h.sf.kept ht (fun k hk => hf k (hk.elim .inl (fun h => .inr (.inl h)))), ht.own h.own (fun g hg => hf g (.inr (.inr hg))), h.rep, h.ok⟩
theorem DiAt.later (h : DiAt w B b bv gv xs ps s) (hb : Below w.heap.size w w') : DiAt w' B b bv gv xs ps s := h.kept (Trn.of_below (F := fun _ => False) hb) (fun _ _ => id)
theorem DiAt.drewN (h : DiAt w B b bv gv xs ps s) (n : Nat) : DiAt (w.drewN n) B b bv gv xs ps s := h.later ⟨rfl, rfl, rfl, Nat.le_refl _, fun _ _ => rfl⟩
theorem DiAt.foot_lt (h : DiAt w B b bv gv xs ps s) : ∀ k, Dif b bv gv k → B ≤ k ∧ k < w.heap.size := by
  rintro k (rfl | hk | hk)
  · exact ⟨h.sf.ge, h.lt⟩
  · exact h.sf.own.lt k hk
  · exact h.own.lt k hk
theorem DiAt.c0 (h : DiAt w B b bv gv xs ps s) : w.cell? ⟨b, 0, none⟩ = some (.int .i64 s.win) := World.rowIs.cell (i := 0) h.sf.row (by omega)
theorem DiAt.c1 (h : DiAt w B b bv gv xs ps s) : w.cell? ⟨b, 0 + 1, none⟩ = some (.int .i64 s.tk) := World.rowIs.cell (i := 1) h.sf.row (by omega)
theorem DiAt.c2 (h : DiAt w B b bv gv xs ps s) : w.cell? ⟨b, 0 + 2, none⟩ = some (.int .i64 s.en) := World.rowIs.cell (i := 2) h.sf.row (by omega)
theorem DiAt.c3 (h : DiAt w B b bv gv xs ps s) : w.cell? ⟨b, 0 + 3, none⟩ = some bv := World.rowIs.cell (i := 3) h.sf.row (by omega)
theorem DiAt.c4 (h : DiAt w B b bv gv xs ps s) : w.cell? ⟨b, 0 + 4, none⟩ = some gv := World.rowIs.cell (i := 4) h.sf.row (by omega)
theorem DiAt.fr (h : DiAt w B b bv gv xs ps s) (i : Nat) : w.frozen? ⟨b, i, none⟩ = false := h.sf.fr i
/-- A cell of the block itself was stored. -/
theorem sc_dif (i : Nat) (x : Value) : SC w (w.setCell ⟨b, i, none⟩ x) (Dif b bv gv) (Dif b bv gv) := ⟨(Trn.of_grown (setCell_one w b i x)).mono (fun _ _ hk => .inl (Option.some.inj hk).symm), fun _ hk => .inl hk⟩
theorem DiAt.own_set (h : DiAt w B b bv gv xs ps s) (i : Nat) (x : Value) : Own .u8 5 (w.setCell ⟨b, i, none⟩ x) B bv xs ∧ OwnP tDR (w.setCell ⟨b, i, none⟩ x) B gv ps :=
  ⟨h.own.kept (setCell_one _ _ _ _) (.inr h.nb), h.sf.own.kept (setCell_one _ _ _ _) (.inr h.sf.vb)⟩
/-- How many were read is stored. -/
theorem DiAt.set1 (h : DiAt w B b bv gv xs ps s) {n : Int} (hk : (s.read n).ok) : DiAt (w.setCell ⟨b, 0 + 1, none⟩ (.int .i64 (s.tk + n))) B b bv gv xs ps (s.read n) :=
  ⟨⟨(h.sf.row.set (0 + 1) _).congr fun i hi => by
    have : i = 0 ∨ i = 1 ∨ i = 2 ∨ i = 3 ∨ i = 4 := by omega
    rcases this with rfl | rfl | rfl | rfl | rfl <;> simp [diF, In.read], (h.own_set _ _).2, h.sf.ge, h.sf.norm, h.sf.on, h.sf.ne⟩, (h.own_set _ _).1, h.rep, hk⟩
/-- The end is stored. -/
theorem DiAt.set2 (h : DiAt w B b bv gv xs ps s) {k : Int} (hk : (s.shut k).ok) : DiAt (w.setCell ⟨b, 0 + 2, none⟩ (.int .i64 k)) B b bv gv xs ps (s.shut k) :=
  ⟨⟨(h.sf.row.set (0 + 2) _).congr fun i hi => by
    have : i = 0 ∨ i = 1 ∨ i = 2 ∨ i = 3 ∨ i = 4 := by omega
    rcases this with rfl | rfl | rfl | rfl | rfl <;> simp [diF, In.shut], (h.own_set _ _).2, h.sf.ge, h.sf.norm, h.sf.on, h.sf.ne⟩, (h.own_set _ _).1, h.rep, hk⟩
/-- Other bytes, laid over the old ones or beside them, are stored. -/
theorem DiAt.set3 (h : DiAt w B b bv gv xs ps s) {zs : List Int} (ht : Trn w w' (fun k => bv.ownBlock = some k)) (ho : Own .u8 5 w' B bv' zs) (hf : ∀ g, bv'.ownBlock = some g → bv.ownBlock = some g ∨ w.heap.size ≤ g) (hr : Rep zs ps s.g) :
    w'.cell? ⟨b, 0 + 3, none⟩ = some bv ∧ w'.frozen? ⟨b, 0 + 3, none⟩ = false ∧ DiAt (w'.setCell ⟨b, 0 + 3, none⟩ bv') B b bv' gv zs ps s ∧ SC w (w'.setCell ⟨b, 0 + 3, none⟩ bv') (Dif b bv gv) (Dif b bv' gv) := by
  have hrow := ht.rowIs h.sf.row h.nb
  have hgv := ownP_trn h.sf.own ht (fun g hg e => h.ng g e hg)
  have hnb : bv'.ownBlock ≠ some b := own_not_rowI ho hrow (by decide)
  refine ⟨World.rowIs.cell (i := 3) hrow (by omega), World.rowIs.frozen hrow _, ⟨⟨(hrow.set (0 + 3) _).congr fun i hi => ?_, hgv.kept (setCell_one _ _ _ _) (.inr (ownP_not_row hgv hrow (by decide))), h.sf.ge, h.sf.norm, h.sf.on, h.sf.ne⟩, ho.kept (setCell_one _ _ _ _) (.inr hnb), hr, h.ok⟩, ?_, ?_⟩
  · have : i = 0 ∨ i = 1 ∨ i = 2 ∨ i = 3 ∨ i = 4 := by omega
    rcases this with rfl | rfl | rfl | rfl | rfl <;> simp [diF]
  · exact ht.trans (Trn.of_grown (setCell_one w' b (0 + 3) bv')) (fun k hk => .inr (.inr hk)) (fun k _ hk => .inl (Option.some.inj hk).symm)
  · rintro k (rfl | hk | hk)
    · exact .inl (.inl rfl)
    · exact .inl (.inr (.inl hk))
    · exact (hf k hk).imp (fun h => .inr (.inr h)) id
/-- Its Set has moved on. -/
theorem DiAt.set4 (h : DiAt w B b bv gv xs ps s) {qs : List (Int × Int)} {s' : In} (hs : SfA tDIn 5 4 (diF s.win s.tk s.en bv) w' B b gv' qs) (hsc : SC w w' (Sft b gv) (Sft b gv')) (hw : s'.win = s.win ∧ s'.tk = s.tk ∧ s'.en = s.en) (hr : Rep xs qs s'.g) (hk : s'.ok) :
    DiAt w' B b bv gv' xs qs s' ∧ SC w w' (Dif b bv gv) (Dif b bv gv') := by
  have hap : ∀ g, bv.ownBlock = some g → ¬ Sft b gv g := fun g hg hs => by
    rcases hs with rfl | hs
    · exact h.nb hg
    · exact h.ng g hg hs
  refine ⟨⟨by rw [hw.1, hw.2.1, hw.2.2]; exact hs, hsc.trn.own h.own hap, hr, hk⟩, hsc.trn.mono (fun k _ hk => hk.elim .inl (fun h => .inr (.inl h))), ?_⟩
  rintro k (rfl | hk | hk)
  · exact .inl (.inl rfl)
  · rcases hsc.sub k (.inr hk) with (h1 | h1) | h1
    · exact .inl (.inl h1)
    · exact .inl (.inr (.inl h1))
    · exact .inr h1
  · exact .inl (.inr (.inr hk))
end

theorem ins_unit (ps : List (Int × Int)) (k : Int) : (∃ q ∈ ps, q.1 ≤ k ∧ k + 1 ≤ q.2) ↔ ins ps k := by
  unfold ins
  constructor
  · rintro ⟨q, hq, h1, h2⟩; exact ⟨q, hq, h1, by omega⟩
  · rintro ⟨q, hq, h1, h2⟩; exact ⟨q, hq, h1, by omega⟩
theorem front_of {xs : List Int} {ps : List (Int × Int)} {g : Int → Option Int} (h : Rep xs ps g) : Front g (frontOf ps) := by
  cases ps with
  | nil => exact ⟨by simp [frontOf], fun k h1 h2 => by simp [frontOf] at h2; omega, h.no _ (ins_nil _)⟩
  | cons q qs =>
    have hq := h.norm.each q List.mem_cons_self
    by_cases e : q.1 = 0
    · have ef : frontOf (q :: qs) = q.2 := by simp [frontOf, e]
      rw [ef]
      refine ⟨by omega, fun k h1 h2 => ?_, h.no _ ?_⟩
      · rw [(h.yes k ⟨q, List.mem_cons_self, by omega, h2⟩).2.2]; simp
      · rintro ⟨r, hr, h1, h2⟩
        rcases List.mem_cons.1 hr with rfl | hr
        · omega
        · have := h.norm.rest r hr
          omega
    · have ef : frontOf (q :: qs) = 0 := by simp [frontOf, e]
      rw [ef]
      refine ⟨by omega, fun k h1 h2 => by omega, h.no _ ?_⟩
      rintro ⟨r, hr, h1, h2⟩
      rcases List.mem_cons.1 hr with rfl | hr
      · omega
      · have := h.norm.rest r hr
        omega

theorem diclamp_any (n lo hi K : Int) (w : World) (hK : K = min (max n lo) hi) : Calls Tryz.prog 175 #[.int .i64 n, .int .i64 lo, .int .i64 hi] w fun e w' => e = .returned (.int .i64 K) ∧ w = w' := by
  have m1 := run_max2 n lo _ rfl
  obtain ⟨M, hM⟩ : ∃ M, max n lo = M := ⟨_, rfl⟩
  rw [hM] at m1 hK
  have m2 := run_min2 M hi K hK
  clear hM hK
  go_enter Tryz.func175, Tryz.ntmps175
  go_wp2
  go_ret
  exact ⟨rfl, rfl⟩

theorem newdi_any (m : Int) (w : World) : Calls Tryz.prog 103 #[.int .i64 m] w fun e w' => e = .returned (.pointer (some ⟨w.heap.size, 0, none⟩)) ∧ DiAt w' w.heap.size w.heap.size (.slice none 0 0) (.slice none 0 0) [] [] (In.new m) ∧ Below w.heap.size w w' := by
  have HC := Lib.hid (fun w => diclamp_any m 1 400 _ w rfl)
  have hok := In.new_ok m
  unfold In.new at hok ⊢
  obtain ⟨K, hK⟩ : ∃ K, min (max m 1) 400 = K := ⟨_, rfl⟩
  rw [hK] at HC hok ⊢
  have HK := Lib.hid hok
  clear hK hok
  go_enter Tryz.func103, Tryz.ntmps103
  go_wp2_with fail
  refine (HC.out _).mono ?_
  rintro e w1 ⟨rfl, rfl⟩
  go_wp2
  go_ret
  refine ⟨rfl, ⟨⟨?_, OwnP.nil _ _ _, Nat.le_refl _, Norm.nil, by omega, by decide⟩, Own.nil _ _ _ _, ⟨Norm.nil, fun k hk => absurd hk (ins_nil _), fun k _ => rfl⟩, HK.out⟩, (Below.refl _ _).alloc (Nat.le_refl _) _⟩
  exact World.rowIs_alloc w _ _ _ (fun i hi => by
    have : i < 5 := hi
    match i, this with
    | 0, _ | 1, _ | 2, _ | 3, _ | 4, _ => rfl)

section
variable {w : World} {B b : Nat} {bv gv : Value} {xs : List Int} {ps : List (Int × Int)} {s : In}
theorem dilimit_any (h : DiAt w B b bv gv xs ps s) (ht : s.tk ≤ 1099511627776) (m : Nat) : Calls Tryz.prog 122 #[.pointer (some ⟨b, 0, none⟩)] (w.drewN m) fun e w' => e = .returned (.int .i64 (s.tk + s.win)) ∧ ∃ k, w' = (w.drewN m).drewN k := by
  have c0 := (h.drewN m).c0
  have c1 := (h.drewN m).c1
  have g0 := h.ok.w0
  have g1 := h.ok.w1
  have g2 := h.ok.t0
  obtain ⟨wn, hwn⟩ : ∃ x, s.win = x := ⟨_, rfl⟩
  obtain ⟨tk, htk⟩ : ∃ x, s.tk = x := ⟨_, rfl⟩
  rw [hwn] at c0 g0 g1
  rw [htk] at c1 g2 ht
  rw [hwn, htk]
  have hw := Lib.hid (show wrap64 (tk + wn) = tk + wn from wrap_at rfl (by omega) (by omega))
  obtain ⟨W, hW⟩ : ∃ W, w.drewN m = W := ⟨_, rfl⟩
  rw [hW] at c0 c1 ⊢
  clear h hwn htk g0 g1 g2 ht hW
  have hw2 := hw.out
  go_enter Tryz.func122, Tryz.ntmps122
  go_wp2_with fail
  go_quiet (fail)
  go_wp2
  go_ret
  exact ⟨ret_i hw.out, _, rfl⟩
theorem difront_any (h : DiAt w B b bv gv xs ps s) (f : Int) (hf : Front s.g f) : Calls Tryz.prog 193 #[.pointer (some ⟨b, 0, none⟩)] w fun e w' => e = .returned (.int .i64 f) ∧ w = w' := by
  have HF := Lib.hid (setffront_any b gv ps B w h.sf)
  rw [(front_of h.rep).eq hf] at HF
  clear h hf
  go_enter Tryz.func193, Tryz.ntmps193
  go_wp2_with fail
  refine HF.out.mono ?_
  rintro e w1 ⟨rfl, rfl⟩
  go_wp2
  go_ret
  exact ⟨rfl, rfl⟩
theorem quiet_eqI {P : Program} {f : Nat} {args : Array Value} {w : World} {n : Nat} {v : Value} (h : Calls P f args (w.drewN n) fun e w' => e = .returned v ∧ w.drewN n = w') :
    Calls P f args (w.drewN n) fun e w'' => e = .returned v ∧ ∃ m, w'' = w.drewN m := Calls.quiet_of_same (h.mono fun _ _ ⟨h1, h2⟩ => ⟨h1, h2.symm⟩)
theorem diready_any (h : DiAt w B b bv gv xs ps s) (f : Int) (hf : Front s.g f) (hb : f ≤ 1099511627776 ∧ s.tk ≤ 1099511627776) (m : Nat) : Calls Tryz.prog 181 #[.pointer (some ⟨b, 0, none⟩)] (w.drewN m) fun e w' => e = .returned (.int .i64 (f - s.tk)) ∧ ∃ k, w' = (w.drewN m).drewN k := by
  have c1 := (h.drewN m).c1
  have g2 := h.ok.t0
  have g3 := hf.ge
  have HFR := Lib.hid (fun k => difront_any ((h.drewN m).drewN k) f hf)
  have HFR0 := Lib.hid (difront_any (h.drewN m) f hf)
  obtain ⟨tk, htk⟩ : ∃ x, s.tk = x := ⟨_, rfl⟩
  rw [htk] at c1 g2 hb
  rw [htk]
  have hw := Lib.hid (show wrap64 (f - tk) = f - tk from wrap_at rfl (by omega) (by omega))
  obtain ⟨W, hW⟩ : ∃ W, w.drewN m = W := ⟨_, rfl⟩
  rw [hW] at c1 HFR HFR0 ⊢
  clear h htk g2 g3 hb hf hW
  have hw2 := hw.out
  go_enter Tryz.func181, Tryz.ntmps181
  go_wp2_with fail
  go_quiet ((go_at_call 193; exact quiet_eqI (HFR.out _)))
  go_wp2
  go_ret
  exact ⟨ret_i hw.out, _, rfl⟩

theorem diseen_any (h : DiAt w B b bv gv xs ps s) (f : Int) (hf : Front s.g f) (m : Nat) : Calls Tryz.prog 121 #[.pointer (some ⟨b, 0, none⟩)] (w.drewN m) fun e w' => e = .returned (.int .i64 (if 0 ≤ s.en ∧ s.en ≤ f then s.en + 1 else f)) ∧ ∃ k, w' = (w.drewN m).drewN k := by
  have c2 := (h.drewN m).c2
  have g0 := h.ok.e0
  have g1 := h.ok.e1
  have g3 := hf.ge
  have HFR := Lib.hid (fun k => difront_any ((h.drewN m).drewN k) f hf)
  obtain ⟨en, hen⟩ : ∃ x, s.en = x := ⟨_, rfl⟩
  rw [hen] at c2 g0 g1
  rw [hen]
  have hw := Lib.hid (show wrap64 (en + 1) = en + 1 from wrap_at rfl (by omega) (by omega))
  obtain ⟨W, hW⟩ : ∃ W, w.drewN m = W := ⟨_, rfl⟩
  rw [hW] at c2 HFR ⊢
  by_cases h1 : 0 ≤ en
  · have k1 : en ≥ 0 := h1
    by_cases h2 : en ≤ f
    · have k2 : f ≥ en := h2
      rw [if_pos ⟨h1, h2⟩]
      have hw2 := hw.out
      clear h hen g0 g1 g3 hf hW h1 h2
      go_enter Tryz.func121, Tryz.ntmps121
      go_wp2_with fail
      go_quiet ((go_at_call 193; exact quiet_eqI (HFR.out _)))
      go_wp2
      go_ret
      exact ⟨ret_i hw.out, _, rfl⟩
    · have k2 : ¬ (f ≥ en) := h2
      rw [if_neg (fun e => h2 e.2)]
      clear h hen g0 g1 g3 hf hW h1 h2
      go_enter Tryz.func121, Tryz.ntmps121
      go_wp2_with fail
      go_quiet ((go_at_call 193; exact quiet_eqI (HFR.out _)))
      go_wp2_with fail
      refine (HFR.out _).mono ?_
      rintro e w9 ⟨rfl, rfl⟩
      go_wp2
      go_ret
      exact ⟨rfl, _, rfl⟩
  · have k1 : decide (0 ≤ en) = false := decide_eq_false h1
    have k2 : en < 0 := by omega
    rw [if_neg (fun e => h1 e.1)]
    clear h hen g0 g1 g3 hf hW h1
    go_enter Tryz.func121, Tryz.ntmps121
    go_wp2_with fail
    go_quiet (fail)
    go_wp2_with fail
    refine (HFR.out _).mono ?_
    rintro e w9 ⟨rfl, rfl⟩
    go_wp2
    go_ret
    exact ⟨rfl, _, rfl⟩
theorem didone_any (h : DiAt w B b bv gv xs ps s) (m : Nat) : Calls Tryz.prog 200 #[.pointer (some ⟨b, 0, none⟩)] (w.drewN m) fun e w' => e = .returned (.bool (decide (0 ≤ s.en ∧ s.tk = s.en))) ∧ ∃ k, w' = (w.drewN m).drewN k := by
  have c1 := (h.drewN m).c1
  have c2 := (h.drewN m).c2
  obtain ⟨en, hen⟩ : ∃ x, s.en = x := ⟨_, rfl⟩
  obtain ⟨tk, htk⟩ : ∃ x, s.tk = x := ⟨_, rfl⟩
  rw [hen] at c2
  rw [htk] at c1
  rw [hen, htk]
  obtain ⟨W, hW⟩ : ∃ W, w.drewN m = W := ⟨_, rfl⟩
  rw [hW] at c1 c2 ⊢
  clear h hen htk hW
  by_cases h1 : 0 ≤ en
  · have k1 : en ≥ 0 := h1
    have e1 : decide (0 ≤ en ∧ tk = en) = decide (tk = en) := by simp [h1]
    rw [e1]
    clear e1 h1
    by_cases h2 : tk = en
    · subst h2
      rw [decide_eq_true rfl]
      go_enter Tryz.func200, Tryz.ntmps200
      go_wp2_with fail
      go_quiet (fail)
      go_wp2
      go_ret
      exact ⟨rfl, _, rfl⟩
    · rw [decide_eq_false h2]
      go_enter Tryz.func200, Tryz.ntmps200
      go_wp2_with fail
      go_quiet (fail)
      go_wp2
      go_ret
      exact ⟨ret_b (by first | rfl | simp [h2]), _, rfl⟩
  · have k1 : decide (0 ≤ en) = false := decide_eq_false h1
    have k2 : en < 0 := by omega
    rw [decide_eq_false (fun e => h1 e.1)]
    clear h1
    go_enter Tryz.func200, Tryz.ntmps200
    go_wp2_with fail
    go_quiet (fail)
    go_wp2
    go_ret
    exact ⟨rfl, _, rfl⟩
end
end Go.Proofs.YtpjlnpnadkbakaaGreat
namespace Go.Proofs.YtpjlnpnadkbakaaGreat
set_option maxRecDepth 10000
open Go.RowKit

section
variable {P : Program} (w : World)

theorem app_block (k : IntKind) (t ty e : TypeId) (z : Value) (bytes : Nat) (ht : P.underlying t = some (.slice e)) (hinfo : (P.info? e).map (fun i => (i.zero, i.size, i.bytes)) = some (some z, 1, bytes)) (hz1 : z.cells.size = 1)
    (B : Nat) (v : Value) (xs : List Int) (hown : Own k e w B v xs) (ad : Addr) (m c : Nat) (ys : List Int) (hm : ys.length = m) (hr : Rd k w (some ad) ys)
    (hmax : xs.length + m ≤ maxLen) (hbytes : (xs.length + m) * bytes ≤ 140737488355328) {v' : Value} {w' : World} (hrun : (Builtin.append_ #[t, t] ty #[v, .slice (some ad) m c]).run P w = .ok v' w') :
    ∀ g, v'.ownBlock = some g → v.ownBlock = some g ∨ w.heap.size ≤ g := by
  obtain ⟨i, hi, hz0, hz2, hz3⟩ := info_parts hinfo
  have hlc : (cel k ys).length = m * i.size := by simp [cel, hm, hz2]
  have hnews := hr.cells ad rfl
  rcases hown.2 with ⟨rfl, h0⟩ | ⟨b, cap, cur, rfl, _, hb, hnc, _, hcs, htake⟩
  · obtain ⟨v2, w2, hrun2, h2, _, _⟩ := run_append_own (P := P) w w.heap.size t ty e i z 1 bytes ht hi hz0 hz2 hz3 hz1 (by omega) (.slice none 0 0) xs.length (cel k xs) ⟨hown.1, .inl ⟨rfl, h0⟩⟩ ad m c (cel k ys) (by simp [cel, hm]) hnews (cel_one k ys) hmax hbytes (Nat.le_refl _)
    rw [hrun2] at hrun
    injection hrun with hv _
    subst hv
    intro g hg
    exact .inr (h2.lt g hg).1
  · by_cases hroom : xs.length + m ≤ cap
    · have hr1 := run_append_room (P := P) w t ty e i ht hi b xs.length cap cur hb ad m c (cel k ys) hlc hnews (cel_one k ys) hroom (by rw [hz2, hcs, cel_len]; omega)
      rw [hr1] at hrun
      injection hrun with hv _
      subst hv
      intro g hg
      exact .inl (by simpa [Value.ownBlock] using hg)
    · have holds := hown.cells (g := b) rfl
      have hr1 := run_append_grow (P := P) w t ty e i z ht hi hz0 ⟨b, 0, none⟩ xs.length cap (cel k xs) (by simp [cel, hz2]) holds ad m c (cel k ys) hlc hnews (by omega) (by unfold maxLen at hmax; omega) (growslice_fits (by omega) (by rw [hz3]; exact hbytes))
      rw [hr1] at hrun
      injection hrun with hv _
      subst hv
      intro g hg
      right
      simp [Value.ownBlock] at hg
      omega

/-- append at a step of a region that draws its order; it tells where the result lies. -/
theorem step_app_f (k : IntKind) {ops : Array Oper} {o : Oper} {a : Act} {K : Act → World → Prop} {Q : Exit → Act → World → Prop} {E : Prop} (hw : Region.wanted o (yielded ops a.tmps) = true) (s x : Operand) (t : TypeId)
    (ho : o.op = .call { callee := .builtin .append, args := #[s, x], argTypes := #[t, t] })
    (e : TypeId) (z : Value) (bytes : Nat) (ht : P.underlying t = some (.slice e)) (hinfo : (P.info? e).map (fun i => (i.zero, i.size, i.bytes)) = some (some z, 1, bytes)) (hz1 : z.cells.size = 1)
    (B : Nat) (v : Value) (xs : List Int) (n : Nat) (hn : xs.length = n) (hs : a.eval s = v) (hown : Own k e w B v xs) (A : Option Addr) (m c : Nat) (hx : a.eval x = .slice A m c) (ys : List Int) (hm : ys.length = m) (hpos : 0 < m) (hr : Rd k w A ys)
    (hmax : n + m ≤ maxLen) (hbytes : (n + m) * bytes ≤ 140737488355328) (hB : B ≤ w.heap.size)
    (h : ∀ A' c' w', Own k e w' B (.slice A' (n + m) c') (xs ++ ys) → w.grownBy w' v.ownBlock → Below B w w' → (∀ g, (Value.slice A' (n + m) c').ownBlock = some g → v.ownBlock = some g ∨ w.heap.size ≤ g) → K (a.put o.dst (.slice A' (n + m) c')) w') :
    if Region.wanted o (yielded ops a.tmps) = true then Oper.wp P o a w K Q else E := by
  subst hn
  obtain ⟨A', c', w', hrun, h2, h3⟩ := run_app (P := P) w k t o.type e z bytes ht hinfo hz1 B v xs hown A m c ys hm hr hmax hbytes hB
  have hblk : ∀ g, (Value.slice A' (xs.length + m) c').ownBlock = some g → v.ownBlock = some g ∨ w.heap.size ≤ g := by
    obtain ⟨b, off, rfl, _⟩ := hr.some_ (by omega)
    exact app_block (P := P) w k t o.type e z bytes ht hinfo hz1 B v xs hown _ m c ys hm hr hmax hbytes hrun
  rw [if_pos hw]
  unfold Oper.wp execOp
  simp only [ho, resolve, invoke, builtin, Sem.run_bind, Sem.run_pure, Result.andThen_ok, List.map_toArray, List.map_cons, List.map_nil, hs, hx, hrun]
  exact h A' c' w' h2 h3 (grown_below h3 hB (fun g hg => (hown.lt g hg).1)) hblk

/-- 'append(s, x...)' onto a row of the call's own, whatever x is; it tells where the result lies. -/
theorem run_append_f (k : IntKind) (t ty e : TypeId) (z : Value) (bytes : Nat) (ht : P.underlying t = some (.slice e)) (hinfo : (P.info? e).map (fun i => (i.zero, i.size, i.bytes)) = some (some z, 1, bytes)) (hz1 : z.cells.size = 1)
    (B : Nat) (v : Value) (xs : List Int) (hown : Own k e w B v xs) (A : Option Addr) (m c : Nat) (ys : List Int) (hm : ys.length = m) (hr : Rd k w A ys)
    (hmax : xs.length + m ≤ maxLen) (hbytes : (xs.length + m) * bytes ≤ 140737488355328) (hB : B ≤ w.heap.size) :
    ∃ A' c' w', (Builtin.append_ #[t, t] ty #[v, .slice A m c]).run P w = .ok (.slice A' (xs.length + m) c') w' ∧ Own k e w' B (.slice A' (xs.length + m) c') (xs ++ ys) ∧ w.grownBy w' v.ownBlock ∧
      ∀ g, (Value.slice A' (xs.length + m) c').ownBlock = some g → v.ownBlock = some g ∨ w.heap.size ≤ g := by
  cases A with
  | some ad =>
    obtain ⟨A', c', w', h1, h2, h3⟩ := run_app (P := P) w k t ty e z bytes ht hinfo hz1 B v xs hown (some ad) m c ys hm hr hmax hbytes hB
    exact ⟨A', c', w', h1, h2, h3, app_block (P := P) w k t ty e z bytes ht hinfo hz1 B v xs hown ad m c ys hm hr hmax hbytes h1⟩
  | none =>
    obtain ⟨i, hi, hz0, hz2, hz3⟩ := info_parts hinfo
    have hy : ys = [] := by
      rcases hr with h | ⟨b, off, h, _⟩
      · exact h
      · cases h
    subst hy
    have hm0 : m = 0 := by simpa using hm.symm
    subst hm0
    obtain ⟨A', c', rfl⟩ := hown.form
    have hrun : (Builtin.append_ #[t, t] ty #[.slice A' xs.length c', .slice none 0 c]).run P w = .ok (.slice A' xs.length c') w := by
      rcases hown.2 with ⟨hv, h0⟩ | ⟨g, cap, cur, hv, _, _, hnc, _⟩
      · injection hv with h1 _ h3
        subst h1; subst h3
        rw [h0]
        simp [Builtin.append_, run_underlying ht, sizeOf, typeInfo, hi, Builtin.lenOf, Builtin.firstCells]
      · injection hv with h1 _ h3
        subst h1; subst h3
        simp [Builtin.append_, run_underlying ht, sizeOf, typeInfo, hi, Builtin.lenOf, Builtin.firstCells, hnc, storeCells]
    refine ⟨A', c', w, by simpa using hrun, by simpa using hown, World.grownBy.refl _ _, fun g hg => .inl hg⟩

theorem wpList_append_f (k : IntKind) {ops : Array Oper} {rest : List Oper} {o : Oper} {a : Act} {Q : Exit → Act → World → Prop} (hgd : o.guard = none) (s x : Operand) (t : TypeId)
    (ho : o.op = .call { callee := .builtin .append, args := #[s, x], argTypes := #[t, t] })
    (e : TypeId) (z : Value) (bytes : Nat) (ht : P.underlying t = some (.slice e)) (hinfo : (P.info? e).map (fun i => (i.zero, i.size, i.bytes)) = some (some z, 1, bytes)) (hz1 : z.cells.size = 1)
    (B : Nat) (v : Value) (xs : List Int) (n : Nat) (hn : xs.length = n) (hs : a.eval s = v) (hown : Own k e w B v xs) (A : Option Addr) (m c : Nat) (hx : a.eval x = .slice A m c) (ys : List Int) (hm : ys.length = m) (hr : Rd k w A ys)
    (hmax : n + m ≤ maxLen) (hbytes : (n + m) * bytes ≤ 140737488355328) (hB : B ≤ w.heap.size)
    (h : ∀ A' c' w', Own k e w' B (.slice A' (n + m) c') (xs ++ ys) → w.grownBy w' v.ownBlock → (∀ g, (Value.slice A' (n + m) c').ownBlock = some g → v.ownBlock = some g ∨ w.heap.size ≤ g) → wpList P ops Q rest (a.put o.dst (.slice A' (n + m) c')) w') : wpList P ops Q (o :: rest) a w := by
  subst hn
  refine wpList_plain hgd fun _ hK => ?_
  obtain ⟨A', c', w', hrun, h2, h3, h4⟩ := run_append_f (P := P) w k t o.type e z bytes ht hinfo hz1 B v xs hown A m c ys hm hr hmax hbytes hB
  unfold Oper.wp execOp
  simp only [ho, resolve, invoke, builtin, Sem.run_bind, Sem.run_pure, Result.andThen_ok, List.map_toArray, List.map_cons, List.map_nil, hs, hx, hrun]
  exact hK _ _ (h A' c' w' h2 h3 h4)

/-- append at a step of a region that draws, by its run. -/
theorem step_append_r {w' : World} {ops : Array Oper} {o : Oper} {a : Act} {K : Act → World → Prop} {Q : Exit → Act → World → Prop} {E : Prop} (hw : Region.wanted o (yielded ops a.tmps) = true) (s x : Operand) (t : TypeId)
    (ho : o.op = .call { callee := .builtin .append, args := #[s, x], argTypes := #[t, t] }) (v vx v' : Value) (hs : a.eval s = v) (hx : a.eval x = vx) (hrun : (Builtin.append_ #[t, t] o.type #[v, vx]).run P w = .ok v' w') (h : K (a.put o.dst v') w') :
    if Region.wanted o (yielded ops a.tmps) = true then Oper.wp P o a w K Q else E := by
  rw [if_pos hw]
  unfold Oper.wp execOp
  simp only [ho, resolve, invoke, builtin, Sem.run_bind, Sem.run_pure, Result.andThen_ok, List.map_toArray, List.map_cons, List.map_nil, hs, hx, hrun]
  exact h
end
end Go.Proofs.YtpjlnpnadkbakaaGreat
namespace Go.Proofs.YtpjlnpnadkbakaaGreat
set_option maxRecDepth 10000
open Go.RowKit

theorem info_byteI : (Tryz.prog.info? 5).map (fun i => (i.zero, i.size, i.bytes)) = some (some (.int .u8 0), 1, 1) := by kernel_rfl

section
variable {xs : List Int} {ps : List (Int × Int)} {g : Int → Option Int}
/-- A byte where none is there yet. -/
theorem Rep.set (h : Rep xs ps g) (k : Nat) (x : Int) (hk : ¬ ins ps k) : Rep (xs.set k x) ps g := by
  refine ⟨h.norm, fun j hj => ?_, h.no⟩
  obtain ⟨h1, h2, h3⟩ := h.yes j hj
  refine ⟨h1, by rw [List.length_set]; exact h2, ?_⟩
  rw [h3]
  congr 1
  have hne : k ≠ j.toNat := fun e => hk (by rw [e, Int.toNat_of_nonneg h1]; exact hj)
  simp [List.getD, hne]
/-- It is there. -/
theorem Rep.lay (h : Rep xs ps g) (k : Nat) (x : Int) (hl : k < xs.length) (hk : (k : Int) < 1099511627776) : Rep (xs.set k x) (addN ps k (k + 1)) (fun j => if j = k then some x else g j) := by
  have hn := addN_norm h.norm (k : Int) (k + 1)
  have hi : ∀ j : Int, ins (addN ps k (k + 1)) j ↔ ins ps j ∨ j = k := fun j => by
    rw [hn.2]
    constructor
    · rintro (h1 | h1)
      · exact .inl h1
      · exact .inr (by omega)
    · rintro (h1 | h1)
      · exact .inl h1
      · exact .inr (by omega)
  refine ⟨hn.1, fun j hj => ?_, fun j hj => ?_⟩
  · by_cases e : j = k
    · subst e
      refine ⟨by omega, by rw [List.length_set]; omega, ?_⟩
      rw [if_pos rfl]
      simp [List.getD, hl]
    · have hj' := ((hi j).1 hj).resolve_right e
      obtain ⟨h1, h2, h3⟩ := h.yes j hj'
      refine ⟨h1, by rw [List.length_set]; exact h2, ?_⟩
      rw [if_neg e, h3]
      congr 1
      have hne : k ≠ j.toNat := fun e' => e (by rw [e', Int.toNat_of_nonneg h1])
      simp [List.getD, hne]
  · have e : j ≠ k := fun e => hj ((hi j).2 (.inr e))
    rw [if_neg e]
    exact h.no j (fun h1 => hj ((hi j).2 (.inl h1)))
end

section
variable {w w' : World} {B b : Nat} {bv gv : Value} {xs : List Int} {ps : List (Int × Int)} {s : In}
/-- A byte is stored where none is there yet. -/
theorem DiAt.byte {g n c : Nat} (h : DiAt w B b (.slice (some ⟨g, 0, none⟩) n c) gv xs ps s) (hn : xs.length = n) (k : Nat) (hk : ¬ ins ps k) (x : Int) :
    DiAt (w.setCell ⟨g, k, none⟩ (.int .u8 x)) B b (.slice (some ⟨g, 0, none⟩) n c) gv (xs.set k x) ps s ∧ SC w (w.setCell ⟨g, k, none⟩ (.int .u8 x)) (Dif b (.slice (some ⟨g, 0, none⟩) n c) gv) (Dif b (.slice (some ⟨g, 0, none⟩) n c) gv) := by
  have hg : Trn w (w.setCell ⟨g, k, none⟩ (.int .u8 x)) (fun j => j = g) := (Trn.of_grown (setCell_one w g k _)).mono (fun j _ hj => (Option.some.inj hj).symm)
  refine ⟨⟨h.sf.kept hg ?_, h.own.stored hn k x, h.rep.set k x hk, h.ok⟩, hg.mono (fun j _ hj => .inr (.inr (by rw [hj]; rfl))), fun j hj => .inl hj⟩
  rintro j (rfl | hj) e
  · exact h.nb (by rw [e]; rfl)
  · exact h.ng g rfl (by rw [← e]; exact hj)
theorem sc_later {F : Nat → Prop} (hb : Below w.heap.size w w') : SC w w' F F := SC.of_below hb
end
theorem In.fin_no {s : In} {k : Int} {b : Bool} (h : ¬ (b = true ∧ s.ends k)) : s.fin k b = s := by
  unfold In.fin
  rw [if_neg h]
theorem In.fin_yes {s : In} {k : Int} (h : s.ends k) : s.fin k true = s.shut k := by
  unfold In.fin
  rw [if_pos ⟨rfl, h⟩]
/-- Behind the last place that is there. -/
def topOf (ps : List (Int × Int)) : Int := match ps.getLast? with | none => 0 | some q => q.2
theorem top_iff {xs : List Int} {ps : List (Int × Int)} {g : Int → Option Int} (h : Rep xs ps g) (k : Int) (hk : 0 ≤ k) : topOf ps ≤ k ↔ ∀ j, k ≤ j → g j = none := by
  unfold topOf
  rcases List.eq_nil_or_concat ps with rfl | ⟨qs, q, rfl⟩
  · simp only [List.getLast?_nil]
    exact ⟨fun _ j _ => h.no j (ins_nil j), fun _ => hk⟩
  · simp only [List.concat_eq_append] at h ⊢
    simp only [List.getLast?_append, List.getLast?_singleton, Option.some_or]
    have hq := h.norm.each q (by simp)
    have hlast : ∀ r ∈ qs ++ [q], r.2 ≤ q.2 := fun r hr => by
      rcases List.mem_append.1 hr with h1 | h1
      · have hp := (List.pairwise_append.1 h.norm.gap).2.2 r h1 q (by simp)
        have := (h.norm.each r hr)
        omega
      · have : r = q := by simpa using h1
        rw [this]; omega
    constructor
    · intro h1 j hj
      refine h.no j ?_
      rintro ⟨r, hr, h2, h3⟩
      have := hlast r hr
      omega
    · intro h1
      by_cases hc : q.2 ≤ k
      · exact hc
      · have hy := (h.yes (max k q.1) ⟨q, by simp, by omega, by omega⟩).2.2
        rw [h1 _ (by omega)] at hy
        cases hy
theorem top_get {ps : List (Int × Int)} {n : Nat} (hn : ps.length = n + 1) : topOf ps = (ps.getD n (0, 0)).2 := by
  unfold topOf
  rw [List.getLast?_eq_getElem?, hn]
  simp [List.getD, hn]
/-- What a Put has done so far. -/
def DMid (w0 wr : World) (B b : Nat) (bv gv : Value) (s : In) : Prop := ∃ bv' gv' xs' ps', DiAt wr B b bv' gv' xs' ps' s ∧ SC w0 wr (Dif b bv gv) (Dif b bv' gv') ∧ xs'.length ≤ 8192
end Go.Proofs.YtpjlnpnadkbakaaGreat

/-
  The document's own inbox in memory ('DiAt'); what NewInbox, Limit, front, Ready, Seen, Done of it do: contracts over the program.
-/
import Derived.Test.YtlljfinagjdihaaSetF
import Derived.Test.YtlljfinagjdihaaInMath
import Derived.Test.YtlljfinagjdihaaOwn
import Derived.Test.YtlljfinagjdihaaTail
import Derived.Deep.RegionHeld3
import Derived.BigQuiet
namespace Go.Proofs.Ytlljfinagjdihaa
open Go.RowKit

abbrev tDIn : TypeId := 57
/-- The cells of the document's Inbox, but its Set. -/
def diF (win tk en : Int) (bv : Value) (i : Nat) : Value := if i = 0 then .int .i64 win else if i = 1 then .int .i64 tk else if i = 2 then .int .i64 en else bv
/-- Block b is the document's inbox s: its bytes the slice bv of xs, its Set the list gv of ps. -/
structure DiAt (w : World) (B b : Nat) (bv gv : Value) (xs : List Int) (ps : List (Int × Int)) (s : In) : Prop where
  sf : SfA tDIn 5 4 (diF s.win s.tk s.en bv) w B b gv ps
  own : Own .u8 5 w B bv xs
  rep : Rep xs ps s.g
  ok : s.ok
/-- Its blocks. -/
def Dif (b : Nat) (bv gv : Value) (k : Nat) : Prop := k = b ∨ gv.ownBlock = some k ∨ bv.ownBlock = some k

section
variable {w w' : World} {B B' b : Nat} {bv gv bv' gv' : Value} {xs : List Int} {ps : List (Int × Int)} {s : In} {F : Nat → Prop}
theorem own_not_rowI {k : IntKind} {e t : TypeId} {v : Value} (h : Own k e w B v xs) {f : Nat → Value} {n b : Nat} (hr : w.rowIs b t n f) (ht : e ≠ t) : v.ownBlock ≠ some b := by
  rcases h.2 with ⟨hv, _⟩ | ⟨g, cap, cur, hv, _, hh, _⟩
  · rw [hv]; simp [Value.ownBlock]
  · rw [hv]
    intro he
    simp only [Value.ownBlock, Option.some.injEq] at he
    subst he
    obtain ⟨cur', hh', _⟩ := hr
    rw [hh] at hh'
    injection hh' with hh'
    injection hh' with _ ht'
    exact ht ht'
theorem own_not_pair {k : IntKind} {e t : TypeId} {v u : Value} (h : Own k e w B v xs) (h' : OwnP t w B' u ps) (ht : e ≠ t) : ∀ g, v.ownBlock = some g → u.ownBlock ≠ some g := by
  intro g hg hu
  rcases h.2 with ⟨hv, _⟩ | ⟨g1, cap, cur, hv, _, hh, _⟩
  · rw [hv] at hg; simp [Value.ownBlock] at hg
  · rcases h'.parts with ⟨rfl, _⟩ | ⟨g2, cap', cur', rfl, _, hh', _⟩
    · simp [Value.ownBlock] at hu
    · rw [hv] at hg
      simp only [Value.ownBlock, Option.some.injEq] at hg hu
      subst hg
      subst hu
      rw [hh] at hh'
      injection hh' with hh'
      injection hh' with _ ht'
      exact ht ht'
theorem DiAt.lt (h : DiAt w B b bv gv xs ps s) : b < w.heap.size := h.sf.lt
theorem DiAt.size (h : DiAt w B b bv gv xs ps s) : B ≤ w.heap.size := h.sf.size
theorem DiAt.nb (h : DiAt w B b bv gv xs ps s) : bv.ownBlock ≠ some b := own_not_rowI h.own h.sf.row (by decide)
theorem DiAt.ng (h : DiAt w B b bv gv xs ps s) : ∀ g, bv.ownBlock = some g → gv.ownBlock ≠ some g := own_not_pair h.own h.sf.own (by decide)
theorem DiAt.kept (h : DiAt w B b bv gv xs ps s) (ht : Trn w w' F) (hf : ∀ k, Dif b bv gv k → ¬ F k) : DiAt w' B b bv gv xs ps s :=
  ⟨h.sf.kept ht (fun k hk => hf k (hk.elim .inl (fun h => .inr (.inl h)))), ht.own h.own (fun g hg => hf g (.inr (.inr hg))), h.rep, h.ok⟩
theorem DiAt.later (h : DiAt w B b bv gv xs ps s) (hb : Below w.heap.size w w') : DiAt w' B b bv gv xs ps s := h.kept (Trn.of_below (F := fun _ => False) hb) (fun _ _ => id)
theorem DiAt.drewN (h : DiAt w B b bv gv xs ps s) (n : Nat) : DiAt (w.drewN n) B b bv gv xs ps s := h.later ⟨rfl, rfl, rfl, Nat.le_refl _, fun _ _ => rfl⟩
theorem DiAt.foot_lt (h : DiAt w B b bv gv xs ps s) : ∀ k, Dif b bv gv k → B ≤ k ∧ k < w.heap.size := by
  rintro k (rfl | hk | hk)
  · exact ⟨h.sf.ge, h.lt⟩
  · exact h.sf.own.lt k hk
  · exact h.own.lt k hk
theorem DiAt.c0 (h : DiAt w B b bv gv xs ps s) : w.cell? ⟨b, 0, none⟩ = some (.int .i64 s.win) := World.rowIs.cell (i := 0) h.sf.row (by omega)
theorem DiAt.c1 (h : DiAt w B b bv gv xs ps s) : w.cell? ⟨b, 0 + 1, none⟩ = some (.int .i64 s.tk) := World.rowIs.cell (i := 1) h.sf.row (by omega)
theorem DiAt.c2 (h : DiAt w B b bv gv xs ps s) : w.cell? ⟨b, 0 + 2, none⟩ = some (.int .i64 s.en) := World.rowIs.cell (i := 2) h.sf.row (by omega)
theorem DiAt.c3 (h : DiAt w B b bv gv xs ps s) : w.cell? ⟨b, 0 + 3, none⟩ = some bv := World.rowIs.cell (i := 3) h.sf.row (by omega)
theorem DiAt.c4 (h : DiAt w B b bv gv xs ps s) : w.cell? ⟨b, 0 + 4, none⟩ = some gv := World.rowIs.cell (i := 4) h.sf.row (by omega)
theorem DiAt.fr (h : DiAt w B b bv gv xs ps s) (i : Nat) : w.frozen? ⟨b, i, none⟩ = false := h.sf.fr i
/-- A cell of the block itself was stored. -/
theorem sc_dif (i : Nat) (x : Value) : SC w (w.setCell ⟨b, i, none⟩ x) (Dif b bv gv) (Dif b bv gv) := ⟨(Trn.of_grown (setCell_one w b i x)).mono (fun _ _ hk => .inl (Option.some.inj hk).symm), fun _ hk => .inl hk⟩
theorem DiAt.own_set (h : DiAt w B b bv gv xs ps s) (i : Nat) (x : Value) : Own .u8 5 (w.setCell ⟨b, i, none⟩ x) B bv xs ∧ OwnP tDR (w.setCell ⟨b, i, none⟩ x) B gv ps :=
  ⟨h.own.kept (setCell_one _ _ _ _) (.inr h.nb), h.sf.own.kept (setCell_one _ _ _ _) (.inr h.sf.vb)⟩
/-- How many were read is stored. -/
theorem DiAt.set1 (h : DiAt w B b bv gv xs ps s) {n : Int} (hk : (s.read n).ok) : DiAt (w.setCell ⟨b, 0 + 1, none⟩ (.int .i64 (s.tk + n))) B b bv gv xs ps (s.read n) :=
  ⟨⟨(h.sf.row.set (0 + 1) _).congr fun i hi => by
    have : i = 0 ∨ i = 1 ∨ i = 2 ∨ i = 3 ∨ i = 4 := by omega
    rcases this with rfl | rfl | rfl | rfl | rfl <;> simp [diF, In.read], (h.own_set _ _).2, h.sf.ge, h.sf.norm, h.sf.on, h.sf.ne⟩, (h.own_set _ _).1, h.rep, hk⟩
/-- The end is stored. -/
theorem DiAt.set2 (h : DiAt w B b bv gv xs ps s) {k : Int} (hk : (s.shut k).ok) : DiAt (w.setCell ⟨b, 0 + 2, none⟩ (.int .i64 k)) B b bv gv xs ps (s.shut k) :=
  ⟨⟨(h.sf.row.set (0 + 2) _).congr fun i hi => by
    have : i = 0 ∨ i = 1 ∨ i = 2 ∨ i = 3 ∨ i = 4 := by omega
    rcases this with rfl | rfl | rfl | rfl | rfl <;> simp [diF, In.shut], (h.own_set _ _).2, h.sf.ge, h.sf.norm, h.sf.on, h.sf.ne⟩, (h.own_set _ _).1, h.rep, hk⟩
/-- Other bytes, laid over the old ones or beside them, are stored. -/
theorem DiAt.set3 (h : DiAt w B b bv gv xs ps s) {zs : List Int} (ht : Trn w w' (fun k => bv.ownBlock = some k)) (ho : Own .u8 5 w' B bv' zs) (hf : ∀ g, bv'.ownBlock = some g → bv.ownBlock = some g ∨ w.heap.size ≤ g) (hr : Rep zs ps s.g) :
    w'.cell? ⟨b, 0 + 3, none⟩ = some bv ∧ w'.frozen? ⟨b, 0 + 3, none⟩ = false ∧ DiAt (w'.setCell ⟨b, 0 + 3, none⟩ bv') B b bv' gv zs ps s ∧ SC w (w'.setCell ⟨b, 0 + 3, none⟩ bv') (Dif b bv gv) (Dif b bv' gv) := by
  have hrow := ht.rowIs h.sf.row h.nb
  have hgv := ownP_trn h.sf.own ht (fun g hg e => h.ng g e hg)
  have hnb : bv'.ownBlock ≠ some b := own_not_rowI ho hrow (by decide)
  refine ⟨World.rowIs.cell (i := 3) hrow (by omega), World.rowIs.frozen hrow _, ⟨⟨(hrow.set (0 + 3) _).congr fun i hi => ?_, hgv.kept (setCell_one _ _ _ _) (.inr (ownP_not_row hgv hrow (by decide))), h.sf.ge, h.sf.norm, h.sf.on, h.sf.ne⟩, ho.kept (setCell_one _ _ _ _) (.inr hnb), hr, h.ok⟩, ?_, ?_⟩
  · have : i = 0 ∨ i = 1 ∨ i = 2 ∨ i = 3 ∨ i = 4 := by omega
    rcases this with rfl | rfl | rfl | rfl | rfl <;> simp [diF]
  · exact ht.trans (Trn.of_grown (setCell_one w' b (0 + 3) bv')) (fun k hk => .inr (.inr hk)) (fun k _ hk => .inl (Option.some.inj hk).symm)
  · rintro k (rfl | hk | hk)
    · exact .inl (.inl rfl)
    · exact .inl (.inr (.inl hk))
    · exact (hf k hk).imp (fun h => .inr (.inr h)) id
/-- Its Set has moved on. -/
theorem DiAt.set4 (h : DiAt w B b bv gv xs ps s) {qs : List (Int × Int)} {s' : In} (hs : SfA tDIn 5 4 (diF s.win s.tk s.en bv) w' B b gv' qs) (hsc : SC w w' (Sft b gv) (Sft b gv')) (hw : s'.win = s.win ∧ s'.tk = s.tk ∧ s'.en = s.en) (hr : Rep xs qs s'.g) (hk : s'.ok) :
    DiAt w' B b bv gv' xs qs s' ∧ SC w w' (Dif b bv gv) (Dif b bv gv') := by
  have hap : ∀ g, bv.ownBlock = some g → ¬ Sft b gv g := fun g hg hs => by
    rcases hs with rfl | hs
    · exact h.nb hg
    · exact h.ng g hg hs
  refine ⟨⟨by rw [hw.1, hw.2.1, hw.2.2]; exact hs, hsc.trn.own h.own hap, hr, hk⟩, hsc.trn.mono (fun k _ hk => hk.elim .inl (fun h => .inr (.inl h))), ?_⟩
  rintro k (rfl | hk | hk)
  · exact .inl (.inl rfl)
  · rcases hsc.sub k (.inr hk) with (h1 | h1) | h1
    · exact .inl (.inl h1)
    · exact .inl (.inr (.inl h1))
    · exact .inr h1
  · exact .inl (.inr (.inr hk))
end

theorem ins_unit (ps : List (Int × Int)) (k : Int) : (∃ q ∈ ps, q.1 ≤ k ∧ k + 1 ≤ q.2) ↔ ins ps k := by
  unfold ins
  constructor
  · rintro ⟨q, hq, h1, h2⟩; exact ⟨q, hq, h1, by omega⟩
  · rintro ⟨q, hq, h1, h2⟩; exact ⟨q, hq, h1, by omega⟩
theorem front_of {xs : List Int} {ps : List (Int × Int)} {g : Int → Option Int} (h : Rep xs ps g) : Front g (frontOf ps) := by
  cases ps with
  | nil => exact ⟨by simp [frontOf], fun k h1 h2 => by simp [frontOf] at h2; omega, h.no _ (ins_nil _)⟩
  | cons q qs =>
    have hq := h.norm.each q List.mem_cons_self
    by_cases e : q.1 = 0
    · have ef : frontOf (q :: qs) = q.2 := by simp [frontOf, e]
      rw [ef]
      refine ⟨by omega, fun k h1 h2 => ?_, h.no _ ?_⟩
      · rw [(h.yes k ⟨q, List.mem_cons_self, by omega, h2⟩).2.2]; simp
      · rintro ⟨r, hr, h1, h2⟩
        rcases List.mem_cons.1 hr with rfl | hr
        · omega
        · have := h.norm.rest r hr
          omega
    · have ef : frontOf (q :: qs) = 0 := by simp [frontOf, e]
      rw [ef]
      refine ⟨by omega, fun k h1 h2 => by omega, h.no _ ?_⟩
      rintro ⟨r, hr, h1, h2⟩
      rcases List.mem_cons.1 hr with rfl | hr
      · omega
      · have := h.norm.rest r hr
        omega

theorem diclamp_any (n lo hi K : Int) (w : World) (hK : K = min (max n lo) hi) : Calls Try.prog 36 #[.int .i64 n, .int .i64 lo, .int .i64 hi] w fun e w' => e = .returned (.int .i64 K) ∧ w = w' := by
  have m1 := run_max2 n lo _ rfl
  obtain ⟨M, hM⟩ : ∃ M, max n lo = M := ⟨_, rfl⟩
  rw [hM] at m1 hK
  have m2 := run_min2 M hi K hK
  clear hM hK
  go_enter Try.func36, Try.ntmps36
  go_wp2
  go_ret
  exact ⟨rfl, rfl⟩

theorem newdi_any (m : Int) (w : World) : Calls Try.prog 21 #[.int .i64 m] w fun e w' => e = .returned (.pointer (some ⟨w.heap.size, 0, none⟩)) ∧ DiAt w' w.heap.size w.heap.size (.slice none 0 0) (.slice none 0 0) [] [] (In.new m) ∧ Below w.heap.size w w' := by
  have HC := Lib.hid (fun w => diclamp_any m 1 400 _ w rfl)
  have hok := In.new_ok m
  unfold In.new at hok ⊢
  obtain ⟨K, hK⟩ : ∃ K, min (max m 1) 400 = K := ⟨_, rfl⟩
  rw [hK] at HC hok ⊢
  have HK := Lib.hid hok
  clear hK hok
  go_enter Try.func21, Try.ntmps21
  go_wp2_with fail
  refine (HC.out _).mono ?_
  rintro e w1 ⟨rfl, rfl⟩
  go_wp2
  go_ret
  refine ⟨rfl, ⟨⟨?_, OwnP.nil _ _ _, Nat.le_refl _, Norm.nil, by omega, by decide⟩, Own.nil _ _ _ _, ⟨Norm.nil, fun k hk => absurd hk (ins_nil _), fun k _ => rfl⟩, HK.out⟩, (Below.refl _ _).alloc (Nat.le_refl _) _⟩
  exact World.rowIs_alloc w _ _ _ (fun i hi => by
    have : i < 5 := hi
    match i, this with
    | 0, _ | 1, _ | 2, _ | 3, _ | 4, _ => rfl)

section
variable {w : World} {B b : Nat} {bv gv : Value} {xs : List Int} {ps : List (Int × Int)} {s : In}
theorem dilimit_any (h : DiAt w B b bv gv xs ps s) (ht : s.tk ≤ 1099511627776) (m : Nat) : Calls Try.prog 38 #[.pointer (some ⟨b, 0, none⟩)] (w.drewN m) fun e w' => e = .returned (.int .i64 (s.tk + s.win)) ∧ ∃ k, w' = (w.drewN m).drewN k := by
  have c0 := (h.drewN m).c0
  have c1 := (h.drewN m).c1
  have g0 := h.ok.w0
  have g1 := h.ok.w1
  have g2 := h.ok.t0
  obtain ⟨wn, hwn⟩ : ∃ x, s.win = x := ⟨_, rfl⟩
  obtain ⟨tk, htk⟩ : ∃ x, s.tk = x := ⟨_, rfl⟩
  rw [hwn] at c0 g0 g1
  rw [htk] at c1 g2 ht
  rw [hwn, htk]
  have hw := Lib.hid (show wrap64 (tk + wn) = tk + wn from wrap_at rfl (by omega) (by omega))
  obtain ⟨W, hW⟩ : ∃ W, w.drewN m = W := ⟨_, rfl⟩
  rw [hW] at c0 c1 ⊢
  clear h hwn htk g0 g1 g2 ht hW
  have hw2 := hw.out
  go_enter Try.func38, Try.ntmps38
  go_wp2_with fail
  go_quiet (fail)
  go_wp2
  go_ret
  exact ⟨ret_i hw.out, _, rfl⟩
theorem difront_any (h : DiAt w B b bv gv xs ps s) (f : Int) (hf : Front s.g f) : Calls Try.prog 48 #[.pointer (some ⟨b, 0, none⟩)] w fun e w' => e = .returned (.int .i64 f) ∧ w = w' := by
  have HF := Lib.hid (setffront_any b gv ps B w h.sf)
  rw [(front_of h.rep).eq hf] at HF
  clear h hf
  go_enter Try.func48, Try.ntmps48
  go_wp2_with fail
  refine HF.out.mono ?_
  rintro e w1 ⟨rfl, rfl⟩
  go_wp2
  go_ret
  exact ⟨rfl, rfl⟩
theorem quiet_eqI {P : Program} {f : Nat} {args : Array Value} {w : World} {n : Nat} {v : Value} (h : Calls P f args (w.drewN n) fun e w' => e = .returned v ∧ w.drewN n = w') :
    Calls P f args (w.drewN n) fun e w'' => e = .returned v ∧ ∃ m, w'' = w.drewN m := Calls.quiet_of_same (h.mono fun _ _ ⟨h1, h2⟩ => ⟨h1, h2.symm⟩)
theorem diready_any (h : DiAt w B b bv gv xs ps s) (f : Int) (hf : Front s.g f) (hb : f ≤ 1099511627776 ∧ s.tk ≤ 1099511627776) (m : Nat) : Calls Try.prog 37 #[.pointer (some ⟨b, 0, none⟩)] (w.drewN m) fun e w' => e = .returned (.int .i64 (f - s.tk)) ∧ ∃ k, w' = (w.drewN m).drewN k := by
  have c1 := (h.drewN m).c1
  have g2 := h.ok.t0
  have g3 := hf.ge
  have HFR := Lib.hid (fun k => difront_any ((h.drewN m).drewN k) f hf)
  have HFR0 := Lib.hid (difront_any (h.drewN m) f hf)
  obtain ⟨tk, htk⟩ : ∃ x, s.tk = x := ⟨_, rfl⟩
  rw [htk] at c1 g2 hb
  rw [htk]
  have hw := Lib.hid (show wrap64 (f - tk) = f - tk from wrap_at rfl (by omega) (by omega))
  obtain ⟨W, hW⟩ : ∃ W, w.drewN m = W := ⟨_, rfl⟩
  rw [hW] at c1 HFR HFR0 ⊢
  clear h htk g2 g3 hb hf hW
  have hw2 := hw.out
  go_enter Try.func37, Try.ntmps37
  go_wp2_with fail
  go_quiet ((go_at_call 48; exact quiet_eqI (HFR.out _)))
  go_wp2
  go_ret
  exact ⟨ret_i hw.out, _, rfl⟩

theorem diseen_any (h : DiAt w B b bv gv xs ps s) (f : Int) (hf : Front s.g f) (m : Nat) : Calls Try.prog 41 #[.pointer (some ⟨b, 0, none⟩)] (w.drewN m) fun e w' => e = .returned (.int .i64 (if 0 ≤ s.en ∧ s.en ≤ f then s.en + 1 else f)) ∧ ∃ k, w' = (w.drewN m).drewN k := by
  have c2 := (h.drewN m).c2
  have g0 := h.ok.e0
  have g1 := h.ok.e1
  have g3 := hf.ge
  have HFR := Lib.hid (fun k => difront_any ((h.drewN m).drewN k) f hf)
  obtain ⟨en, hen⟩ : ∃ x, s.en = x := ⟨_, rfl⟩
  rw [hen] at c2 g0 g1
  rw [hen]
  have hw := Lib.hid (show wrap64 (en + 1) = en + 1 from wrap_at rfl (by omega) (by omega))
  obtain ⟨W, hW⟩ : ∃ W, w.drewN m = W := ⟨_, rfl⟩
  rw [hW] at c2 HFR ⊢
  by_cases h1 : 0 ≤ en
  · have k1 : en ≥ 0 := h1
    by_cases h2 : en ≤ f
    · have k2 : f ≥ en := h2
      rw [if_pos ⟨h1, h2⟩]
      have hw2 := hw.out
      clear h hen g0 g1 g3 hf hW h1 h2
      go_enter Try.func41, Try.ntmps41
      go_wp2_with fail
      go_quiet ((go_at_call 48; exact quiet_eqI (HFR.out _)))
      go_wp2
      go_ret
      exact ⟨ret_i hw.out, _, rfl⟩
    · have k2 : ¬ (f ≥ en) := h2
      rw [if_neg (fun e => h2 e.2)]
      clear h hen g0 g1 g3 hf hW h1 h2
      go_enter Try.func41, Try.ntmps41
      go_wp2_with fail
      go_quiet ((go_at_call 48; exact quiet_eqI (HFR.out _)))
      go_wp2_with fail
      refine (HFR.out _).mono ?_
      rintro e w9 ⟨rfl, rfl⟩
      go_wp2
      go_ret
      exact ⟨rfl, _, rfl⟩
  · have k1 : decide (0 ≤ en) = false := decide_eq_false h1
    have k2 : en < 0 := by omega
    rw [if_neg (fun e => h1 e.1)]
    clear h hen g0 g1 g3 hf hW h1
    go_enter Try.func41, Try.ntmps41
    go_wp2_with fail
    go_quiet (fail)
    go_wp2_with fail
    refine (HFR.out _).mono ?_
    rintro e w9 ⟨rfl, rfl⟩
    go_wp2
    go_ret
    exact ⟨rfl, _, rfl⟩
theorem didone_any (h : DiAt w B b bv gv xs ps s) (m : Nat) : Calls Try.prog 42 #[.pointer (some ⟨b, 0, none⟩)] (w.drewN m) fun e w' => e = .returned (.bool (decide (0 ≤ s.en ∧ s.tk = s.en))) ∧ ∃ k, w' = (w.drewN m).drewN k := by
  have c1 := (h.drewN m).c1
  have c2 := (h.drewN m).c2
  obtain ⟨en, hen⟩ : ∃ x, s.en = x := ⟨_, rfl⟩
  obtain ⟨tk, htk⟩ : ∃ x, s.tk = x := ⟨_, rfl⟩
  rw [hen] at c2
  rw [htk] at c1
  rw [hen, htk]
  obtain ⟨W, hW⟩ : ∃ W, w.drewN m = W := ⟨_, rfl⟩
  rw [hW] at c1 c2 ⊢
  clear h hen htk hW
  by_cases h1 : 0 ≤ en
  · have k1 : en ≥ 0 := h1
    have e1 : decide (0 ≤ en ∧ tk = en) = decide (tk = en) := by simp [h1]
    rw [e1]
    clear e1 h1
    by_cases h2 : tk = en
    · subst h2
      rw [decide_eq_true rfl]
      go_enter Try.func42, Try.ntmps42
      go_wp2_with fail
      go_quiet (fail)
      go_wp2
      go_ret
      exact ⟨rfl, _, rfl⟩
    · rw [decide_eq_false h2]
      go_enter Try.func42, Try.ntmps42
      go_wp2_with fail
      go_quiet (fail)
      go_wp2
      go_ret
      exact ⟨ret_b (by first | rfl | simp [h2]), _, rfl⟩
  · have k1 : decide (0 ≤ en) = false := decide_eq_false h1
    have k2 : en < 0 := by omega
    rw [decide_eq_false (fun e => h1 e.1)]
    clear h1
    go_enter Try.func42, Try.ntmps42
    go_wp2_with fail
    go_quiet (fail)
    go_wp2
    go_ret
    exact ⟨rfl, _, rfl⟩
end
end Go.Proofs.Ytlljfinagjdihaa

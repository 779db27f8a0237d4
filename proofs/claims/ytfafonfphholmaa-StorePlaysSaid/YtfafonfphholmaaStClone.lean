/-
  What Clone makes of a store: a contract over the program.
-/
import Derived.Test.YtfafonfphholmaaStLoop
import Derived.Test.YtfafonfphholmaaStCrash
import Derived.Test.YtfafonfphholmaaStOne
namespace Go.Proofs.Ytfafonfphholmaa
open Go.RowKit Go.Maps

/-- A map of contents that share nothing, without a store's own block. -/
structure MapAt (w : World) (B m : Nat) (L : List Ent) : Prop where
  map : w.ownsMap Try.prog 3 ptr m L.length (DL L)
  each : ∀ e ∈ L, Cont w B e
  rise : L.Pairwise (fun x y => x.k.n < y.k.n)
  apart : L.Pairwise (fun x y => ∀ k, x.foot k → ¬ y.foot k)
  gem : B ≤ m
  sle : ∀ e ∈ L, e.k.s ≤ e.k.xs.length

section
variable {w w1 w2 : World} {B m m2 r cnt : Nat} {L L2 : List Ent} {left : Lit → Bool} {F : Nat → Prop}

theorem MapAt.foot (h : MapAt w B m L) : ∀ e ∈ L, ¬ e.foot m := by
  obtain ⟨es, clock, hm, _⟩ := h.map
  rintro e he (rfl | hk)
  · obtain ⟨cur', hp', _⟩ := (h.each e he).row
    rw [hm] at hp'; cases hp'
  · rcases (h.each e he).own.2 with ⟨hv, _⟩ | ⟨g, cap, cur, hv, _, hh, _⟩
    · rw [hv] at hk; simp [Value.ownBlock] at hk
    · rw [hv] at hk
      simp only [Value.ownBlock, Option.some.injEq] at hk
      subst hk
      rw [hm] at hh; cases hh
theorem MapAt.kept (h : MapAt w B m L) (ht : Trn w w1 F) (hm : ¬ F m) (hf : ∀ e ∈ L, ∀ k, e.foot k → ¬ F k) : MapAt w1 B m L :=
  ⟨ht.map h.map hm, fun e he => (h.each e he).kept ht (hf e he), h.rise, h.apart, h.gem, h.sle⟩
theorem MapAt.later (h : MapAt w B m L) (hb : Below w.heap.size w w1) : MapAt w1 B m L := h.kept (F := fun _ => False) (Trn.of_below hb) (fun h => h) (fun _ _ _ _ h => h)
theorem MapAt.made (w : World) (B : Nat) (hB : B ≤ w.heap.size) : MapAt (w.alloc (.map #[] 0)) B w.heap.size [] :=
  ⟨World.ownsMap_made w Try.prog 3 ptr, (fun e he => by cases he), List.Pairwise.nil, List.Pairwise.nil, hB, (fun e he => by cases he)⟩

/-- A new entry. -/
theorem MapAt.ins (h : MapAt w B m L) {e : Ent} (hn : ∀ x ∈ L, x.k.n ≠ e.k.n) (hc : Cont w1 B e) (hle : e.k.s ≤ e.k.xs.length) (hb1 : Below w.heap.size w w1) (hnew : ∀ k, e.foot k → w.heap.size ≤ k)
    (hm : w2.ownsMap Try.prog 3 ptr m (L.length + 1) ((DL L).put (.int .i64 e.k.n) (.lit (.int .i64 (e.b : Nat))))) (hg : w1.grownBy w2 (some m)) : MapAt w2 B m (insB (·.k.n) e L) := by
  have hme := h.foot
  have hlt := h.map.lt
  have h1 := h.later hb1
  have t2 := Trn.of_grown hg
  have hme1 : ¬ e.foot m := fun hk => by have := hnew m hk; omega
  refine ⟨?_, ?_, ?_, ?_, h.gem, ?_⟩
  · rw [DL_put hn] at hm
    rw [length_insB]
    exact hm
  · intro x hx
    rcases mem_insB.1 hx with rfl | hx'
    · exact hc.kept t2 (fun k hk e1 => by cases e1; exact hme1 hk)
    · exact (h1.each x hx').kept t2 (fun k hk e1 => by cases e1; exact hme x hx' hk)
  · exact pairwise_insB h.rise hn (fun y _ hlt => hlt) (fun y _ hlt => hlt) h.rise
  · refine pairwise_insB h.apart hn (fun y hy _ k hk hk' => ?_) (fun y hy _ k hk hk' => ?_) h.rise
    · have := hnew k hk; have := ((h.each y hy).foot_lt k hk').2; omega
    · have := hnew k hk'; have := ((h.each y hy).foot_lt k hk).2; omega
  · intro x hx
    rcases mem_insB.1 hx with rfl | hx'
    · exact hle
    · exact h.sle x hx'

/-- Two rising lists with the same members are one. -/
theorem rise_ext : ∀ {l1 l2 : List Blk}, l1.Pairwise (fun x y => x.n < y.n) → l2.Pairwise (fun x y => x.n < y.n) → (∀ k, k ∈ l1 ↔ k ∈ l2) → l1 = l2
  | [], [], _, _, _ => rfl
  | [], b :: s, _, _, h => by have := (h b).2 (by simp); simp at this
  | a :: r, [], _, _, h => by have := (h a).1 (by simp); simp at this
  | a :: r, b :: s, h1, h2, h => by
    obtain ⟨a1, a2⟩ := List.pairwise_cons.1 h1
    obtain ⟨b1, b2⟩ := List.pairwise_cons.1 h2
    have hab : a = b := by
      rcases List.mem_cons.1 ((h a).1 (by simp)) with e | ha
      · exact e
      · rcases List.mem_cons.1 ((h b).2 (by simp)) with e | hb
        · exact e.symm
        · have := a1 b hb; have := b1 a ha; omega
    subst hab
    rw [rise_ext a2 b2 (fun p => ⟨fun hp => by
      rcases List.mem_cons.1 ((h p).1 (by simp [hp])) with e | hp'
      · have := a1 p hp; rw [e] at this; omega
      · exact hp', fun hp => by
      rcases List.mem_cons.1 ((h p).2 (by simp [hp])) with e | hp'
      · have := b1 p hp; rw [e] at this; omega
      · exact hp'⟩)]

/-- In the midst of the copying. -/
structure CloSt (w : World) (B B2 p m m2 r : Nat) (L L2 : List Ent) (fu : Bool) (lf : Int) (de : Bool) (left : Lit → Bool) (cnt : Nat) : Prop where
  rg : w.ranges Try.prog 3 ptr m r L.length (DL L) left cnt
  st : StoreAt w B p m L fu lf de
  cp : MapAt w B2 m2 L2
  ks : L2.map (·.k) = (L.filter fun e => !left (.int .i64 e.k.n)).map (·.k)
  ne : m2 ≠ m

theorem clo_ks {e e2 : Ent} (hr : L.Pairwise (fun x y => x.k.n < y.k.n)) (hr2 : (insB (·.k.n) e2 L2).Pairwise (fun x y => x.k.n < y.k.n)) (he : e ∈ L) (hk : e2.k = e.k)
    (ks : L2.map (·.k) = (L.filter fun e => !left (.int .i64 e.k.n)).map (·.k)) :
    (insB (·.k.n) e2 L2).map (·.k) = (L.filter fun x => !(left (.int .i64 x.k.n) && !(Lit.int .i64 x.k.n).sameKey (.int .i64 e.k.n))).map (·.k) := by
  refine rise_ext (by rw [List.pairwise_map]; exact hr2) (by rw [List.pairwise_map]; exact hr.filter _) (fun k => ?_)
  have hin : k ∈ L2.map (·.k) ↔ k ∈ (L.filter fun e => !left (.int .i64 e.k.n)).map (·.k) := by rw [ks]
  simp only [List.mem_map, List.mem_filter, mem_insB] at hin ⊢
  have inj : ∀ x ∈ L, x.k.n = e.k.n → x = e := by
    clear hin ks hr2
    intro x hx hxe
    induction L with
    | nil => cases hx
    | cons z r ih =>
      obtain ⟨b1, b2⟩ := List.pairwise_cons.1 hr
      rcases List.mem_cons.1 hx with rfl | hx'
      · rcases List.mem_cons.1 he with rfl | he'
        · rfl
        · have := b1 e he'; omega
      · rcases List.mem_cons.1 he with rfl | he'
        · have := b1 x hx'; omega
        · exact ih b2 he' hx'
  constructor
  · rintro ⟨x, rfl | hx, rfl⟩
    · exact ⟨e, ⟨he, by simp [Lit.sameKey]⟩, hk.symm⟩
    · obtain ⟨y, ⟨hy1, hy2⟩, hy3⟩ := hin.1 ⟨x, hx, rfl⟩
      exact ⟨y, ⟨hy1, by simp only [Bool.not_eq_true'] at hy2; simp [hy2]⟩, hy3⟩
  · rintro ⟨y, ⟨hy1, hy2⟩, rfl⟩
    by_cases hye : y.k.n = e.k.n
    · exact ⟨e2, .inl rfl, by rw [hk, inj y hy1 hye]⟩
    · obtain ⟨x, hx1, hx2⟩ := hin.2 ⟨y, ⟨hy1, by simp [Lit.sameKey, hye] at hy2; simpa using hy2⟩, rfl⟩
      exact ⟨x, .inr hx1, hx2⟩

theorem Cont.less {w : World} {B B' : Nat} {e : Ent} (h : Cont w B' e) (hB : B ≤ B') : Cont w B e := ⟨h.row, h.own.less hB, Nat.le_trans hB h.ge, h.len, h.num⟩
theorem MapAt.iter_not (h : MapAt w B m L) {o : Option Nat} {a : Nat} {s : Array Nat} {c : Nat} (hr : w.heap[r]? = some (.mapIter o a s c)) : r ≠ m ∧ ∀ e ∈ L, ¬ e.foot r := by
  constructor
  · rintro rfl
    obtain ⟨es, clock, hm, _⟩ := h.map
    rw [hm] at hr; cases hr
  · rintro e he (rfl | hk)
    · obtain ⟨cur, hp, _⟩ := (h.each e he).row
      rw [hp] at hr; cases hr
    · rcases (h.each e he).own.2 with ⟨hv, _⟩ | ⟨q, cap, cur, hv, _, hh, _⟩
      · rw [hv] at hk; simp [Value.ownBlock] at hk
      · rw [hv] at hk
        simp only [Value.ownBlock, Option.some.injEq] at hk
        subst hk
        rw [hh] at hr; cases hr

theorem made_size (w : World) (n : Nat) : (Instr.makeMap 44 (some (.int .i64 (n : Nat)))).run Try.prog w = .ok (.map (some w.heap.size)) (w.alloc (.map #[] 0)) := by
  simp [Instr.makeMap, run_underlying Try.underlying44, asInt, asIntOf, Result.andThen]

/-- What Clone hands out. -/
def ClEnd (w : World) (s : St) (e : Ending) (w' : World) : Prop := ∃ q F, e = .returned (.pointer (some ⟨q, 0, none⟩)) ∧ StoreIs w' w.heap.size q s F ∧ Below w.heap.size w w'

set_option maxRecDepth 10000 in
set_option maxHeartbeats 1000000 in
theorem clone_is {p : Nat} {s : St} (h : StoreIs w B p s F) (hmany : s.bs.length < 1099511627776) : Calls Try.prog 20 #[.pointer (some ⟨p, 0, none⟩)] w (ClEnd w s) := by
  obtain ⟨m, L, h, hk, rfl, hlf⟩ := h
  have hlen : L.length < 1099511627776 := by rw [← hk] at hmany; simpa using hmany
  have s0 := h.s0
  have hln := fun ty => h.map.len Try.underlying44 ty
  have hmk := made_size w (Maps.size (DL L))
  have h2 := h.later ((Below.refl _ _).alloc (Nat.le_refl _) (.map #[] 0))
  have hcp := MapAt.made w w.heap.size (Nat.le_refl _)
  have hm2 := h2.map
  have hml := h.map.lt
  have H := Lib.hid h
  have H2 := Lib.hid h2
  have HCP := Lib.hid hcp
  have HK := Lib.hid hk
  have HLF := Lib.hid hlf
  have s02 := h2.s0
  clear h h2 hcp hk hlf
  go_enter Try.func20, Try.ntmps20
  go_wp2_with (first | (at_range; refine wpList_range_own _ rfl _ 44 rfl 3 48 keyI Try.underlying44 _ m L.length _ rfl hm2 ?_; intro w0 hrg0 hg0 hs0) | go_in)
  go_frame
  have hb0 : Below w.heap.size w w0 := ((Below.refl _ _).alloc (Nat.le_refl _) _).trans (grown_below hg0 (by simp) (fun g e => by cases e))
  have hb1 : Below (w.alloc (.map #[] 0)).heap.size (w.alloc (.map #[] 0)) w0 := grown_below hg0 (Nat.le_refl _) (fun g e => by cases e)
  have hst : CloSt w0 B w.heap.size p m w.heap.size (w.heap.size + 1) L [] s.fu s.lf s.de (Maps.has (DL L)) (Maps.size (DL L)) :=
    ⟨by simpa using hrg0, H2.out.later hb1, HCP.out.later hb1, by
      have : (L.filter fun e => !Maps.has (DL L) (.int .i64 e.k.n)) = [] := List.filter_eq_nil_iff.2 (fun e he => by rw [DL_has, List.any_eq_true.2 ⟨e, he, by simp⟩]; simp)
      rw [this], by omega⟩
  have HST := Lib.hid hst
  have HB0 := Lib.hid hb0
  clear hst hb0 hb1 hrg0 hg0 hs0 hm2 s0 s02 hln hmk H2 HCP
  simp only [World.size_alloc]
  go_loopw [17] (fun _ wr => ∃ (left : Lit → Bool) (cnt : Nat) (L2 : List Ent), Hid (CloSt wr B w.heap.size p m w.heap.size (w.heap.size + 1) L L2 s.fu s.lf s.de left cnt) ∧ Hid (Below w.heap.size w wr)) (fun _ wr => wr.rangeLeft m (w.heap.size + 1))
  case atStart => exact ⟨_, _, [], HST, HB0⟩
  case round =>
    obtain ⟨left, cnt, L2, hl, hbw⟩ := hrel
    have hrg := hl.out.rg
    go_wp2_with (first | (at_next; refine wpList_next_ranges _ rfl _ rfl 3 keyI ptr (Value.int .i64) ptrV invK ptr_inv m (w.heap.size + 1) L.length _ _ _ rfl hrg ?_ ?_) | go_in)
    · intro _ hl0
      have hks := hl.out.ks
      have hall : (L.filter fun e => !left (.int .i64 e.k.n)) = L := List.filter_eq_self.2 (fun e _ => by simp [hl0])
      rw [hall, HK.out] at hks
      have s0 := hl.out.st.s0
      have s1 := hl.out.st.s1
      have s2 := hl.out.st.s2
      have s3 := hl.out.st.s3
      have hlf := hl.out.st.left
      have HCP := Lib.hid hl.out.cp
      have HKS := Lib.hid hks
      have HLF2 := Lib.hid hlf
      clear hks hall hl hl0 hrg hlf
      go_wp2_with fail
      refine still_tail 14 (by kernel_rfl) (by kernel_rfl) ?_
      intro V hV
      have d1 : V.cell? ⟨p, 0 + 1, none⟩ = some (.bool s.fu) := by rw [hV]; exact s1
      have d2 : V.cell? ⟨p, 0 + 2, none⟩ = some (.int .i64 s.lf) := by rw [hV]; exact s2
      have d3 : V.cell? ⟨p, 0 + 3, none⟩ = some (.bool s.de) := by rw [hV]; exact s3
      have hbV : Below wr.heap.size wr V := by rw [hV]; exact (Below.refl _ _).drew
      have HCV := Lib.hid (HCP.out.later hbV)
      have HBV := Lib.hid (hbw.out.trans (hbV.mono hbw.out.size))
      clear hV s0 s1 s2 s3 hbV HCP hbw
      simp only [List.take_succ_cons, List.take_zero, List.drop_succ_cons, List.drop_zero]
      repeat still_step
      refine wpStill_nil ?_
      go_wp2
      go_ret
      have hlen2 : L2.length ≤ 1099511627776 := by
        have h1 := congrArg List.length HKS.out
        rw [List.length_map] at h1
        omega
      have hal : Below V.heap.size V (V.alloc (.cells #[.map (some w.heap.size), .bool s.fu, .int .i64 s.lf, .bool s.de] 46)) := (Below.refl _ _).alloc (Nat.le_refl _) _
      have hc2 := HCV.out.later hal
      refine ⟨V.heap.size, Foot V.heap.size w.heap.size L2, rfl, ⟨w.heap.size, L2, ⟨?_, hc2.map, hc2.each, hc2.rise, hc2.apart, HBV.out.size, Nat.le_refl _, HLF2.out, hlen2, hc2.sle⟩, HKS.out, rfl, HLF.out⟩, HBV.out.trans (hal.mono HBV.out.size)⟩
      exact World.rowIs_alloc V #[.map (some w.heap.size), .bool s.fu, .int .i64 s.lf, .bool s.de] 46 (stoF w.heap.size s.fu s.lf s.de) (fun i hi => by
        have : i < 4 := hi
        match i, this with
        | 0, _ => rfl
        | 1, _ => rfl
        | 2, _ => rfl
        | 3, _ => rfl)
    · intro x c kl yd yp w1 cnt1 hkey hlx hv hat hrg1 hlt hg1 hs1 hen
      obtain ⟨e, he, rfl, rfl, rfl, _, hle⟩ := loop_came (y := (yd, yp)) (g := fun e => e) H.out hkey hlx hv hat
      obtain ⟨o9, a9, s9, c9, hi9⟩ := ranges_iter hl.out.rg
      have hn1 := iter_not hl.out.st hi9
      have hn2 := hl.out.cp.iter_not hi9
      have t1 := Trn.of_grown hg1
      have hst1 := hl.out.st.kept t1 (fun k hk e1 => by cases e1; exact hn1 hk)
      have hcp1 := hl.out.cp.kept t1 (fun e1 => by simp at e1) (fun e he k hk e1 => by cases e1; exact hn2.2 e he hk)
      have hbw1 : Below w.heap.size w w1 := hbw.out.grown hg1 hbw.out.size (fun k e1 => by simp at e1; omega)
      have hlen2 : L2.length < 1099511627776 := by
        have h1 := congrArg List.length hl.out.ks
        rw [List.length_map, List.length_map] at h1
        have h2 := List.length_filter_le (fun e : Ent => !left (.int .i64 e.k.n)) L
        omega
      have hno : ∀ x ∈ L2, x.k.n ≠ e.k.n := fun x hx hxn => by
        have h1 : x.k ∈ L2.map (·.k) := List.mem_map.2 ⟨x, hx, rfl⟩
        rw [hl.out.ks] at h1
        obtain ⟨y, hy, hyk⟩ := List.mem_map.1 h1
        have h2 := (List.mem_filter.1 hy).2
        rw [hyk, hxn, hle] at h2
        simp at h2
      have HCL := Lib.hid (clonec_any (hst1.each e he))
      have HST1 := Lib.hid hst1
      have HCP1 := Lib.hid hcp1
      have HBW1 := Lib.hid hbw1
      have HNO := Lib.hid hno
      have HHE := Lib.hid he
      have HKS := Lib.hid hl.out.ks
      have HRG1 := Lib.hid hrg1
      have HRG := Lib.hid hrg
      have HLT := Lib.hid hlt
      simp only [ptrV] at hen
      clear hst1 hcp1 hbw1 hno he hrg1 hrg hlt hn1 hn2 t1 hi9 hg1 hs1 hv hat hkey hlx hle hl hbw
      go_wp2_with fail
      refine HCL.out.mono ?_
      rintro z w2 ⟨e2, rfl, hk2, hc2, hb2⟩
      have hst2 := HST1.out.later hb2
      have hcp2 := HCP1.out.later hb2
      have hnum := hc2.num
      obtain ⟨w3, hrun, hm3, hg3⟩ := hcp2.map.update keyI Try.underlying44 (by unfold maxLen; omega) (keyN (n := e2.k.n) (by omega) hnum.2) (val := .pointer (some ⟨e2.b, 0, none⟩)) (d := .lit (.int .i64 (e2.b : Nat))) (ps := []) rfl
      have hnew : ∀ k, e2.foot k → w1.heap.size ≤ k := fun k hk => (hc2.foot_lt k hk).1
      have hcp3 := HCP1.out.ins (e := e2) (fun x hx => by rw [hk2]; exact HNO.out x hx) (hc2.less HBW1.out.size) (by rw [hk2]; exact H.out.sle e HHE.out) hb2 hnew hm3 hg3
      have hlt0 := H.out.foot_lt
      have hst3 := hst2.kept (Trn.of_grown hg3) (fun k hk e1 => by cases e1; have := (hlt0 _ hk).2; omega)
      obtain ⟨o9, a9, s9, c9, hi9⟩ := ranges_iter HRG1.out
      have hrg3 := (HRG1.out.kept (row := none) ⟨hb2.os, hb2.tape, hb2.output, hb2.size, fun k hk _ => hb2.block k hk⟩ (by simp) (by simp)).kept hg3 (by simp; omega) (by simp)
      have hks3 := clo_ks H.out.rise hcp3.rise HHE.out hk2 HKS.out
      have hnew3 : CloSt w3 B w.heap.size p m w.heap.size (w.heap.size + 1) L (insB (·.k.n) e2 L2) s.fu s.lf s.de (fun z => left z && !z.sameKey (.int .i64 e.k.n)) cnt1 := ⟨hrg3, hst3, hcp3, hks3, by omega⟩
      have HNEW := Lib.hid hnew3
      have HBW3 := Lib.hid ((HBW1.out.trans (hb2.mono HBW1.out.size)).grown hg3 (Nat.le_trans HBW1.out.size hb2.size) (fun k e1 => by cases e1; exact Nat.le_refl _))
      rw [hk2] at hrun
      clear hst2 hcp2 hnum hm3 hg3 hnew hcp3 hlt0 hst3 hrg3 hks3 hnew3 hk2 hc2 hb2 hi9
      go_wp2_with fail
      go_roundw
      case rel => exact ⟨_, _, _, HNEW, HBW3⟩
      case measure => rw [HNEW.out.rg.left_eq, HRG.out.left_eq]; exact HLT.out
end
end Go.Proofs.Ytfafonfphholmaa

/-
  SetF.
-/
import Derived.Test.YtpjlnpnadkbakaaGreatRows
import Derived.Test.YtpjlnpnadkbakaaGreatQEcPlanMath
import Derived.Test.YtpjlnpnadkbakaaGreatQEcEnOk
import Derived.Test.YtpjlnpnadkbakaaGreatQEcPair
import Derived.Test.YtpjlnpnadkbakaaGreatQEcClamp
import Derived.Deep.QuietTactic
import Derived.Deep.LoopGhost
import Derived.OwnWalk
import Derived.IntWalk
namespace Go.Proofs.YtpjlnpnadkbakaaGreat
set_option maxRecDepth 10000
open Go.RowKit

abbrev tDR : TypeId := 208
theorem info_dr : (Tryz.prog.info? tDR).map (fun i => (i.zero, i.size, i.bytes)) = some (some (.agg #[.int .i64 0, .int .i64 0]), 2, 16) := by kernel_rfl

/-- Block b, of the type ty, has n cells; cell o is the document's Set with the list v of ps, the others are f. -/
structure SfA (ty : TypeId) (n o : Nat) (f : Nat → Value) (w : World) (B b : Nat) (v : Value) (ps : List (Int × Int)) : Prop where
  row : w.rowIs b ty n (fun i => if i = o then v else f i)
  own : OwnP tDR w B v ps
  ge : B ≤ b
  norm : Norm ps
  on : o < n
  ne : tDR ≠ ty
/-- Its blocks, as far as the Set goes. -/
def Sft (b : Nat) (v : Value) (k : Nat) : Prop := k = b ∨ v.ownBlock = some k

section
variable {w w' : World} {B b : Nat} {v v' : Value} {ps : List (Int × Int)} {F : Nat → Prop} {ty : TypeId} {n o : Nat} {f : Nat → Value}
theorem ownP_not_row {e t : TypeId} {b : Nat} {B' : Nat} {u : Value} {qs : List (Int × Int)} (h : OwnP e w B' u qs) {f : Nat → Value} {n : Nat} (hr : w.rowIs b t n f) (ht : e ≠ t) : u.ownBlock ≠ some b := by
  rcases h.parts with ⟨rfl, _⟩ | ⟨g, cap, cur, rfl, _, hh, _⟩
  · simp [Value.ownBlock]
  · intro he
    simp only [Value.ownBlock, Option.some.injEq] at he
    subst he
    obtain ⟨cur', hh', _⟩ := hr
    rw [hh] at hh'
    injection hh' with hh'
    injection hh' with _ ht'
    exact ht ht'
theorem ownP_trn {e : TypeId} (h : OwnP e w B v ps) (ht : Trn w w' F) (hn : ∀ g, v.ownBlock = some g → ¬ F g) : OwnP e w' B v ps := by
  refine ⟨h.1, ?_⟩
  rcases h.2 with h2 | ⟨g, cap, cur, rfl, hB, hg, r⟩
  · exact .inl h2
  · exact .inr ⟨g, cap, cur, rfl, hB, by rw [ht.block g (Array.getElem?_eq_some_iff.1 hg).1 (hn g rfl)]; exact hg, r⟩
theorem SfA.lt (h : SfA ty n o f w B b v ps) : b < w.heap.size := h.row.lt
theorem SfA.vb (h : SfA ty n o f w B b v ps) : v.ownBlock ≠ some b := ownP_not_row h.own h.row h.ne
theorem SfA.kept (h : SfA ty n o f w B b v ps) (ht : Trn w w' F) (hf : ∀ k, Sft b v k → ¬ F k) : SfA ty n o f w' B b v ps := ⟨ht.rowIs h.row (hf _ (.inl rfl)), ownP_trn h.own ht (fun g hg => hf g (.inr hg)), h.ge, h.norm, h.on, h.ne⟩
theorem SfA.later (h : SfA ty n o f w B b v ps) (hb : Below w.heap.size w w') : SfA ty n o f w' B b v ps := h.kept (Trn.of_below (F := fun _ => False) hb) (fun _ _ => id)
theorem SfA.drewN (h : SfA ty n o f w B b v ps) (m : Nat) : SfA ty n o f (w.drewN m) B b v ps := h.later ⟨rfl, rfl, rfl, Nat.le_refl _, fun _ _ => rfl⟩
theorem SfA.foot_lt (h : SfA ty n o f w B b v ps) : ∀ k, Sft b v k → B ≤ k ∧ k < w.heap.size := by
  rintro k (rfl | hk)
  · exact ⟨h.ge, h.lt⟩
  · exact h.own.lt k hk
theorem SfA.size (h : SfA ty n o f w B b v ps) : B ≤ w.heap.size := Nat.le_trans h.ge (Nat.le_of_lt h.lt)
theorem SfA.co (h : SfA ty n o f w B b v ps) : w.cell? ⟨b, o, none⟩ = some v := (World.rowIs.cell (i := o) h.row h.on).trans (by simp)
theorem SfA.fr (h : SfA ty n o f w B b v ps) (i : Nat) : w.frozen? ⟨b, i, none⟩ = false := World.rowIs.frozen h.row i
/-- A new list, of the call's own, is stored. -/
theorem SfA.put (h : SfA ty n o f w B b v ps) {w1 : World} (hb : Below w.heap.size w w1) {qs : List (Int × Int)} (ho : OwnP tDR w1 w.heap.size v' qs) (hn : Norm qs) : SfA ty n o f (w1.setCell ⟨b, o, none⟩ v') B b v' qs ∧ SC w (w1.setCell ⟨b, o, none⟩ v') (Sft b v) (Sft b v') := by
  have h1 := h.later hb
  have hlt := h.lt
  have hne : v'.ownBlock ≠ some b := fun e => by have := (ho.lt b e).1; omega
  refine ⟨⟨(h1.row.set o _).congr fun i hi => ?_, (ho.kept (setCell_one _ _ _ _) (.inr hne)).less h.size, h.ge, hn, h.on, h.ne⟩, ?_, ?_⟩
  · by_cases e : i = o <;> simp [e]
  · exact (Trn.of_below (F := Sft b v) hb).trans (Trn.of_grown (setCell_one w1 b o v')) (fun _ hk => hk) (fun k _ hk => .inl (Option.some.inj hk).symm)
  · rintro k (rfl | hk)
    · exact .inl (.inl rfl)
    · exact .inr (ho.lt k hk).1
/-- append of one pair onto pairs of the call's own. -/
theorem app_one (h : OwnP tDR w B v ps) (n : Nat) (hn : ps.length = n) (hle : n ≤ 2199023255552) (hB : B ≤ w.heap.size) (x y : Int) : ∃ A' c' w', (Builtin.append_ #[68, 68] 68 #[v, .slice (some ⟨w.heap.size, 0, none⟩) 1 1]).run Tryz.prog (w.alloc (.cells #[.int .i64 x, .int .i64 y] tDR)) = .ok (.slice A' (n + 1) c') w' ∧ OwnP tDR w' B (.slice A' (n + 1) c') (ps ++ [(x, y)]) ∧ Below B w w' ∧ ∀ k, k < w.heap.size → v.ownBlock ≠ some k → w'.heap[k]? = w.heap[k]? := by
  have h1 : OwnP tDR (w.alloc (.cells #[.int .i64 x, .int .i64 y] tDR)) B v ps := h.alloc _
  obtain ⟨A', c', w', hr, ho, hg, hf⟩ := run_app2 (P := Tryz.prog) (w.alloc (.cells #[.int .i64 x, .int .i64 y] tDR)) 68 68 tDR _ Tryz.underlying68 info_dr rfl B v ps h1 (some ⟨w.heap.size, 0, none⟩) 1 1 [(x, y)] rfl
    (fun _ => ⟨_, rfl, fun j u hj => by
      rw [Addr.add_lit, Nat.zero_add]
      have : (prs [(x, y)]) = [.int .i64 x, .int .i64 y] := rfl
      rw [this] at hj
      match j, hj with
      | 0, hj => simp at hj; subst hj; go_simp
      | 1, hj => simp at hj; subst hj; go_simp
      | j + 2, hj => simp at hj⟩) (by omega) (by rw [World.size_alloc]; omega)
  rw [hn] at hr ho
  exact ⟨A', c', w', hr, ho, ((Below.refl B w).alloc hB _).grown hg (by rw [World.size_alloc]; omega) (fun g e => (h1.lt g e).1), fun k hk hn => (hg.block k (by rw [World.size_alloc]; omega) (fun e => hn e.symm)).trans (heap_alloc_old w _ hk)⟩
end

theorem docclip_any (f t F T : Int) (k : Bool) (w : World) (hF : F = max f 0) (hT : T = min t 1099511627776) (hk : decide (F < T) = k) : Calls Tryz.prog 250 #[.int .i64 f, .int .i64 t] w fun e w' => e = .returned (.tuple #[.int .i64 F, .int .i64 T, .bool k]) ∧ w = w' := by
  have m1 := run_max2 f 0 F hF
  have m2 := run_min2 t 1099511627776 T hT
  have HK := Lib.hid hk
  clear hF hT hk
  go_enter Tryz.func250, Tryz.ntmps250
  go_wp2
  go_ret3
  rw [← HK.out]
  exact ⟨rfl, rfl⟩
theorem drop_next (ps : List (Int × Int)) (i : Nat) (hi : i < ps.length) : ps.drop i = ps.getD i (0, 0) :: ps.drop (i + 1) := by
  rw [List.drop_eq_getElem_cons hi]
  simp [List.getD, hi]
/-- Midway through Add: L is what comes of it, rest what is not yet looked at, os what is laid. -/
structure AddMid (L : List (Int × Int)) (d : Bool) (F T : Int) (rest os : List (Int × Int)) : Prop where
  lt : F < T
  no : d = false → L = os ++ addS rest F T
  yes : d = true → L = os ++ rest ∧ ∀ q ∈ rest, T < q.1

section
variable {L : List (Int × Int)} {d : Bool} {F T : Int} {rest os : List (Int × Int)} {q : Int × Int}
theorem AddMid.ahead (h : AddMid L d F T (q :: rest) os) (hq : q.1 < q.2) (h1 : q.2 < F) : AddMid L d F T rest (os ++ [q]) := by
  have hl := h.lt
  cases d
  · refine ⟨hl, fun _ => ?_, fun e => by cases e⟩
    have := h.no rfl
    unfold addS at this
    rw [if_pos h1] at this
    rw [this]; simp
  · have := (h.yes rfl).2 q List.mem_cons_self
    omega
theorem AddMid.behind (h : AddMid L false F T (q :: rest) os) (hn : Norm (q :: rest)) (h1 : ¬ q.2 < F) (h2 : T < q.1) : AddMid L true F T rest (os ++ [(F, T)] ++ [q]) := by
  refine ⟨h.lt, fun e => (by cases e), fun _ => ?_⟩
  have := h.no rfl
  unfold addS at this
  rw [if_neg h1, if_pos h2] at this
  exact ⟨by rw [this]; simp, fun r hr => by have := hn.rest r hr; have := hn.head; omega⟩
theorem AddMid.on (h : AddMid L true F T (q :: rest) os) : AddMid L true F T rest (os ++ [q]) := by
  refine ⟨h.lt, fun e => (by cases e), fun _ => ?_⟩
  have := h.yes rfl
  exact ⟨by rw [this.1]; simp, fun r hr => this.2 r (List.mem_cons_of_mem _ hr)⟩
theorem AddMid.both (h : AddMid L d F T (q :: rest) os) (hq : q.1 < q.2) (h1 : ¬ q.2 < F) (h2 : ¬ T < q.1) : AddMid L d (min F q.1) (max T q.2) rest os := by
  have hl := h.lt
  cases d
  · refine ⟨by omega, fun _ => ?_, fun e => by cases e⟩
    have := h.no rfl
    unfold addS at this
    rw [if_neg h1, if_neg h2] at this
    exact this
  · have := (h.yes rfl).2 q List.mem_cons_self
    omega
end

set_option maxRecDepth 100000 in
set_option maxHeartbeats 2000000 in
theorem setfadd_any {ty : TypeId} {m0 o : Nat} {ff : Nat → Value} (b : Nat) (v : Value) (ps : List (Int × Int)) (B : Nat) (f t : Int) (w : World) (h : SfA ty m0 o ff w B b v ps) :
    Calls Tryz.prog 192 #[.pointer (some ⟨b, o, none⟩), .int .i64 f, .int .i64 t] w fun e w' => e = .returned (.tuple #[]) ∧ ∃ v', SfA ty m0 o ff w' B b v' (addN ps f t) ∧ SC w w' (Sft b v) (Sft b v') := by
  have hcl : addN ps f t = if max f 0 < min t 1099511627776 then addS ps (max f 0) (min t 1099511627776) else ps := rfl
  obtain ⟨F, hF⟩ : ∃ F, F = max f 0 := ⟨_, rfl⟩
  obtain ⟨T, hT⟩ : ∃ T, T = min t 1099511627776 := ⟨_, rfl⟩
  rw [← hF, ← hT] at hcl
  by_cases hlt : F < T
  · rw [if_pos hlt] at hcl
    have HCL := Lib.hid (docclip_any f t F T true w hF hT (decide_eq_true hlt))
    have hn1 := (addS_norm h.norm (f := F) (t := T) (by omega) hlt (by omega)).1
    rw [hcl]
    obtain ⟨L, hL⟩ : ∃ L, addS ps F T = L := ⟨_, rfl⟩
    rw [hL] at hn1 ⊢
    have HIN := Lib.hid (show AddMid L false F T (ps.drop 0) [] from ⟨hlt, fun _ => by rw [List.drop_zero, hL]; rfl, fun e => by cases e⟩)
    obtain ⟨A, c, hv⟩ := h.own.form
    have c1 := h.co
    have hlen := h.norm.len
    obtain ⟨n, hn⟩ : ∃ n, ps.length = n := ⟨_, rfl⟩
    have HCELL := Lib.hid (show ∀ (W : World) k, Below w.heap.size w W → k < n → ∃ g, A = some ⟨g, 0, none⟩ ∧ W.cell? ⟨g, k * 2, none⟩ = some (.int .i64 (ps.getD k (0, 0)).1) ∧ W.cell? ⟨g, k * 2 + 1, none⟩ = some (.int .i64 (ps.getD k (0, 0)).2) from fun W k hb hk => by
      have h1 := (h.later hb).own
      rw [hv, hn] at h1
      obtain ⟨g, rfl, _⟩ := h1.at (by omega)
      exact ⟨g, rfl, h1.cells k hk⟩)
    have HPUT := Lib.hid (fun (w1 : World) (v' : Value) (hb : Below w.heap.size w w1) (ho : OwnP tDR w1 w.heap.size v' L) => h.put hb ho hn1)
    have HFR := Lib.hid (show ∀ (W : World), Below w.heap.size w W → W.frozen? ⟨b, o, none⟩ = false ∧ W.cell? ⟨b, o, none⟩ = some v from fun W hb => ⟨(h.later hb).fr _, (h.later hb).co⟩)
    have HAT := Lib.hid (show ∀ k, k < n → (ps.getD k (0, 0)).1 < (ps.getD k (0, 0)).2 ∧ Norm (ps.getD k (0, 0) :: ps.drop (k + 1)) ∧ ps.drop k = ps.getD k (0, 0) :: ps.drop (k + 1) from fun k hk => by
      have e := drop_next ps k (by omega)
      exact ⟨(h.norm.at k (by omega)).2.1, by rw [← e]; exact h.norm.drop k, e⟩)
    have HEND := Lib.hid (show ps.drop n = [] by rw [← hn, List.drop_length])
    have HSZ := Lib.hid h.size
    subst hv
    rw [hn] at c1 hlen HFR
    have HNN := Lib.hid hlen
    clear h hcl hF hT hlt hn1 hn hL hlen
    go_enter Tryz.func192, Tryz.ntmps192
    go_wp2_with fail
    refine HCL.out.mono ?_
    rintro e w1 ⟨rfl, rfl⟩
    go_wp2
    go_loopw [1, 2, 7, 8, 25] (fun Fv Tv ov dv iv wr => ∃ (i : Nat) (F' T' : Int) (d : Bool) (A' : Option Addr) (c' m : Nat) (os : List (Int × Int)), i ≤ n ∧ iv = .int .i64 i ∧ Fv = .int .i64 F' ∧ Tv = .int .i64 T' ∧ dv = .bool d ∧ ov = .slice A' m c' ∧ Hid (os.length = m ∧ m ≤ 2 * i) ∧ Hid (AddMid L d F' T' (ps.drop i) os) ∧ Hid (OwnP tDR wr w.heap.size (.slice A' m c') os) ∧ Hid (Below w.heap.size w wr)) (fun _ _ _ _ iv _ => n - (intOf iv).toNat)
    case atStart => exact ⟨0, F, T, false, none, 0, 0, [], by omega, rfl, rfl, rfl, rfl, rfl, Lib.hid ⟨rfl, by omega⟩, HIN, Lib.hid (OwnP.nil tDR w w.heap.size), Lib.hid (Below.refl _ _)⟩
    case round =>
      obtain ⟨i, F', T', d, A', c', m, os, hi, rfl, rfl, rfl, rfl, rfl, hm, hmid, ho, hb⟩ := hrel
      by_cases hin : i < n
      · obtain ⟨g, rfl, y1, y2⟩ := HCELL.out wr i hb.out hin
        obtain ⟨hq, hnrm, hdr⟩ := HAT.out i hin
        have hmid' := hmid.out
        rw [hdr] at hmid'
        obtain ⟨⟨x, y⟩, hxy⟩ : ∃ q, ps.getD i (0, 0) = q := ⟨_, rfl⟩
        rw [hxy] at y1 y2 hq hnrm hmid'
        simp only [] at y1 y2 hq
        have hbsz : w.heap.size ≤ wr.heap.size := hb.out.size
        have ho1 : OwnP tDR (wr.alloc (.cells #[.int .i64 x, .int .i64 y] tDR)) w.heap.size (.slice A' m c') os := ho.out.alloc _
        have hb1 : Below w.heap.size w (wr.alloc (.cells #[.int .i64 x, .int .i64 y] tDR)) := hb.out.alloc hbsz _
        have bx0 : (wr.alloc (.cells #[.int .i64 x, .int .i64 y] tDR)).cell? ⟨wr.heap.size, 0, none⟩ = some (.int .i64 x) := by go_simp
        have bx1 : (wr.alloc (.cells #[.int .i64 x, .int .i64 y] tDR)).cell? ⟨wr.heap.size, 1, none⟩ = some (.int .i64 y) := by go_simp
        have hnb : (Value.slice A' m c').ownBlock ≠ some wr.heap.size := fun e => by have := (ho.out.lt _ e).2; omega
        have HSZ1 := Lib.hid (show (wr.alloc (.cells #[.int .i64 x, .int .i64 y] tDR)).heap.size = wr.heap.size + 1 from World.size_alloc _ _)
        have i1 : (i : Int) < (n : Int) := by omega
        have i2 : (0 : Int) ≤ (i : Int) := by omega
        have HNX := Lib.hid (show i + 1 ≤ n by omega)
        have HIW := Lib.hid (show wrap64 ((i : Int) + 1) = ((i + 1 : Nat) : Int) from wrap_at (by omega) (by have := HNN.out; omega) (by have := HNN.out; omega))
        have HB1 := Lib.hid hb1
        have HO1 := Lib.hid ho1
        have HNB := Lib.hid hnb
        have HBX0 := Lib.hid bx0
        have HBX1 := Lib.hid bx1
        have HBS := Lib.hid hbsz
        have HI := Lib.hid hin
        have HMID := Lib.hid hmid'
        have HQ := Lib.hid hq
        have HNRM := Lib.hid hnrm
        have HM := hm
        have HRM := Lib.hid (show m ≤ 2199023255550 by have := hm.out.2; have := HNN.out; omega)
        clear hb1 ho1 hnb hbsz ho hm hxy hi hin bx0 bx1 hmid hmid' hq hnrm hdr
        by_cases hx : y < F'
        · obtain ⟨A2, c2, w2, hr1, ho2, hb2, _⟩ := app_one HO1.out m HM.out.1 (by have := HRM.out; omega) (by rw [HSZ1.out]; have := HBS.out; omega) x y
          rw [HSZ1.out] at hr1
          have HO2 := Lib.hid ho2
          have HB2 := Lib.hid (HB1.out.trans hb2)
          have HD := Lib.hid (HMID.out.ahead HQ.out hx)
          have HL := Lib.hid (show (os ++ [(x, y)]).length = m + 1 ∧ m + 1 ≤ 2 * (i + 1) from ⟨by rw [List.length_append, HM.out.1]; rfl, by have := HM.out.2; omega⟩)
          clear ho2 hb2
          go_wp2_with (at_builtin; refine Lib.wpList_append_run _ rfl _ _ _ _ rfl _ _ rfl rfl _ _ hr1 ?_)
          clear hr1
          go_roundw
          case rel => exact ⟨i + 1, F', T', d, A2, c2, m + 1, _, HNX.out, by rw [HIW.out], rfl, rfl, rfl, rfl, HL, HD, HO2, HB2⟩
          case measure => rw [HIW.out]; have := HI.out; simp [intOf]; omega
        · by_cases hy : T' < x
          · have hgy : x > T' := hy
            cases d
            · obtain ⟨A2, c2, w2, hr1, ho2, hb2, hk2⟩ := app_one HO1.out m HM.out.1 (by have := HRM.out; omega) (by rw [HSZ1.out]; have := HBS.out; omega) F' T'
              rw [HSZ1.out] at hr1
              have z0 : w2.cell? ⟨wr.heap.size, 0, none⟩ = some (.int .i64 x) := (World.cell?_of_block (hk2 wr.heap.size (by rw [HSZ1.out]; exact Nat.lt_succ_self _) HNB.out)).trans HBX0.out
              have z1 : w2.cell? ⟨wr.heap.size, 1, none⟩ = some (.int .i64 y) := (World.cell?_of_block (hk2 wr.heap.size (by rw [HSZ1.out]; exact Nat.lt_succ_self _) HNB.out)).trans HBX1.out
              have HB2 := Lib.hid (HB1.out.trans hb2)
              obtain ⟨A3, c3, w3, hr2, ho3, hb3, _⟩ := app_one ho2 (m + 1) (by rw [List.length_append, HM.out.1]; rfl) (by have := HRM.out; omega) HB2.out.size x y
              have HO3 := Lib.hid ho3
              have HB3 := Lib.hid (HB2.out.trans hb3)
              have HD := Lib.hid (HMID.out.behind HNRM.out hx hy)
              have HL := Lib.hid (show (os ++ [(F', T')] ++ [(x, y)]).length = m + 1 + 1 ∧ m + 1 + 1 ≤ 2 * (i + 1) from ⟨by rw [List.length_append, List.length_append, HM.out.1]; rfl, by have := HM.out.2; omega⟩)
              clear ho2 hb2 hk2 ho3 hb3
              go_wp2_with (at_builtin; first | refine Lib.wpList_append_run _ rfl (.tmp 53) (.tmp 57) _ _ rfl _ _ rfl rfl _ _ hr1 ?_ | refine Lib.wpList_append_run _ rfl (.tmp 59) (.tmp 61) _ _ rfl _ _ rfl rfl _ _ hr2 ?_)
              clear hr1 hr2
              go_roundw
              case rel => exact ⟨i + 1, F', T', true, A3, c3, m + 1 + 1, _, HNX.out, by rw [HIW.out], rfl, rfl, rfl, rfl, HL, HD, HO3, HB3⟩
              case measure => rw [HIW.out]; have := HI.out; simp [intOf]; omega
            · obtain ⟨A2, c2, w2, hr1, ho2, hb2, _⟩ := app_one HO1.out m HM.out.1 (by have := HRM.out; omega) (by rw [HSZ1.out]; have := HBS.out; omega) x y
              rw [HSZ1.out] at hr1
              have HO2 := Lib.hid ho2
              have HB2 := Lib.hid (HB1.out.trans hb2)
              have HD := Lib.hid HMID.out.on
              have HL := Lib.hid (show (os ++ [(x, y)]).length = m + 1 ∧ m + 1 ≤ 2 * (i + 1) from ⟨by rw [List.length_append, HM.out.1]; rfl, by have := HM.out.2; omega⟩)
              clear ho2 hb2
              go_wp2_with (at_builtin; refine Lib.wpList_append_run _ rfl _ _ _ _ rfl _ _ rfl rfl _ _ hr1 ?_)
              clear hr1
              go_roundw
              case rel => exact ⟨i + 1, F', T', true, A2, c2, m + 1, _, HNX.out, by rw [HIW.out], rfl, rfl, rfl, rfl, HL, HD, HO2, HB2⟩
              case measure => rw [HIW.out]; have := HI.out; simp [intOf]; omega
          · have hgy : ¬ (x > T') := hy
            have HD := Lib.hid (HMID.out.both HQ.out hx hy)
            have hm1 := run_min2 F' x _ rfl
            have hm2 := run_max2 T' y _ rfl
            have HL := Lib.hid (show os.length = m ∧ m ≤ 2 * (i + 1) from ⟨HM.out.1, by have := HM.out.2; omega⟩)
            have z0 := HBX0.out
            have z1 := HBX1.out
            obtain ⟨p1, hp1⟩ : ∃ z, min F' x = z := ⟨_, rfl⟩
            obtain ⟨p2, hp2⟩ : ∃ z, max T' y = z := ⟨_, rfl⟩
            rw [hp1] at hm1
            rw [hp2] at hm2
            rw [show min F' (x, y).1 = p1 from hp1, show max T' (x, y).2 = p2 from hp2] at HD
            clear hp1 hp2
            go_wp2_with fail
            go_quiet (fail)
            go_wp2
            go_roundw
            case rel => exact ⟨i + 1, p1, p2, d, A', c', m, os, HNX.out, by rw [HIW.out], rfl, rfl, rfl, rfl, HL, HD, Lib.hid (HO1.out.drewN _), Lib.hid (below_drewN' HB1.out _)⟩
            case measure => rw [HIW.out]; have := HI.out; simp [intOf]; omega
      · have : i = n := by omega
        subst this
        obtain ⟨q1, q2⟩ := HFR.out wr hb.out
        have j1 : ¬ ((i : Int) < (i : Int)) := by omega
        have hmid' := hmid.out
        rw [HEND.out] at hmid'
        have hrm : m ≤ 2199023255552 := by have := hm.out.2; have := HNN.out; omega
        have hle : w.heap.size ≤ wr.heap.size := hb.out.size
        cases d
        · have hl := hmid'.no rfl
          obtain ⟨A2, c2, w2, hr1, ho2, hb2, _⟩ := app_one ho.out m hm.out.1 (by omega) hle F' T'
          have hb3 := hb.out.trans hb2
          obtain ⟨q3, q4⟩ := HFR.out w2 hb3
          have HP := Lib.hid (HPUT.out w2 _ hb3 (by rw [hl]; exact ho2))
          clear ho2 hb2 hb3 hl hmid' hmid hm ho hi hin hrm hle q1 q2
          go_wp2_with (at_builtin; refine Lib.wpList_append_run _ rfl _ _ _ _ rfl _ _ rfl rfl _ _ hr1 ?_)
          go_end0
          exact ⟨rfl, _, HP.out.1, HP.out.2⟩
        · have hl := (hmid'.yes rfl).1
          rw [List.append_nil] at hl
          have HP := Lib.hid (HPUT.out wr _ hb.out (by rw [hl]; exact ho.out))
          clear hl hmid' hmid hm ho hi hin hrm hle
          go_wp2
          go_end0
          exact ⟨rfl, _, HP.out.1, HP.out.2⟩
  · rw [if_neg hlt] at hcl
    have HCL := Lib.hid (docclip_any f t F T false w hF hT (decide_eq_false hlt))
    rw [hcl]
    have H := Lib.hid h
    clear h hcl hF hT hlt
    go_enter Tryz.func192, Tryz.ntmps192
    go_wp2_with fail
    refine HCL.out.mono ?_
    rintro e w1 ⟨rfl, rfl⟩
    go_wp2
    refine bodyPost_ret (results_none rfl _ _ _) rfl ?_
    exact ⟨rfl, v, H.out, SC.refl _ _⟩

set_option maxHeartbeats 1000000 in
theorem setfhas_any {ty : TypeId} {m0 o : Nat} {ff : Nat → Value} (b : Nat) (v : Value) (ps : List (Int × Int)) (B : Nat) (f t : Int) (r : Bool) (w : World) (h : SfA ty m0 o ff w B b v ps) (hft : f < t) (hr : r = true ↔ ∃ q ∈ ps, q.1 ≤ f ∧ t ≤ q.2) :
    Calls Tryz.prog 191 #[.pointer (some ⟨b, o, none⟩), .int .i64 f, .int .i64 t] w fun e w' => e = .returned (.bool r) ∧ Below w.heap.size w w' := by
  obtain ⟨A, c, hv⟩ := h.own.form
  obtain ⟨n, hn⟩ : ∃ n, ps.length = n := ⟨_, rfl⟩
  have co := h.co
  rw [hv, hn] at co
  have hlen := h.norm.len
  rw [hn] at hlen
  have HCELL := Lib.hid (show ∀ (W : World) k, Below w.heap.size w W → k < n → ∃ g, A = some ⟨g, 0, none⟩ ∧ W.cell? ⟨g, k * 2, none⟩ = some (.int .i64 (ps.getD k (0, 0)).1) ∧ W.cell? ⟨g, k * 2 + 1, none⟩ = some (.int .i64 (ps.getD k (0, 0)).2) from fun W k hb hk => by
    have h1 := (h.later hb).own
    rw [hv, hn] at h1
    obtain ⟨g, rfl, _⟩ := h1.at (by omega)
    exact ⟨g, rfl, h1.cells k hk⟩)
  have HYES := Lib.hid (show ∀ k, k < n → (ps.getD k (0, 0)).1 ≤ f → t ≤ (ps.getD k (0, 0)).2 → r = true from fun k hk h1 h2 => hr.2 ⟨ps.getD k (0, 0), by
    rw [List.getD_eq_getElem?_getD, List.getElem?_eq_getElem (by omega)]
    exact List.getElem_mem _, h1, h2⟩)
  have HNO := Lib.hid (show (∀ k, k < n → ¬ ((ps.getD k (0, 0)).1 ≤ f ∧ t ≤ (ps.getD k (0, 0)).2)) → r = false from fun hno => by
    cases hrr : r
    · rfl
    · obtain ⟨q, hq, h1, h2⟩ := hr.1 hrr
      obtain ⟨k, hk, rfl⟩ := List.getElem_of_mem hq
      have h3 := hno k (by omega)
      rw [show ps.getD k (0, 0) = ps[k] by simp [List.getD, hk]] at h3
      exact absurd ⟨h1, h2⟩ h3)
  have HNN := Lib.hid hlen
  have hge : ¬ (f ≥ t) := by omega
  clear h hv hn hr hft hlen
  go_enter Tryz.func191, Tryz.ntmps191
  go_wp2
  go_loopw [17] (fun iv wr => ∃ (i : Nat), i ≤ n ∧ iv = .int .i64 i ∧ Hid (∀ k, k < i → ¬ ((ps.getD k (0, 0)).1 ≤ f ∧ t ≤ (ps.getD k (0, 0)).2)) ∧ Hid (Below w.heap.size w wr)) (fun iv _ => n - (intOf iv).toNat)
  case atStart => exact ⟨0, by omega, rfl, fun k hk => absurd hk (by omega), Below.refl _ _⟩
  case round =>
    obtain ⟨i, hi, rfl, hno, hb⟩ := hrel
    by_cases hin : i < n
    · obtain ⟨g, rfl, y1, y2⟩ := HCELL.out wr i hb.out hin
      have hbsz : w.heap.size ≤ wr.heap.size := hb.out.size
      obtain ⟨⟨x, y⟩, hxy⟩ : ∃ q, ps.getD i (0, 0) = q := ⟨_, rfl⟩
      rw [hxy] at y1 y2
      simp only [] at y1 y2
      have HB1 := Lib.hid (hb.out.alloc hbsz (.cells #[.int .i64 x, .int .i64 y] tDR))
      have bx0 : (wr.alloc (.cells #[.int .i64 x, .int .i64 y] tDR)).cell? ⟨wr.heap.size, 0, none⟩ = some (.int .i64 x) := by go_simp
      have bx1 : (wr.alloc (.cells #[.int .i64 x, .int .i64 y] tDR)).cell? ⟨wr.heap.size, 1, none⟩ = some (.int .i64 y) := by go_simp
      have i1 : (i : Int) < (n : Int) := by omega
      have i2 : (0 : Int) ≤ (i : Int) := by omega
      have HYE := Lib.hid (fun (h1 : x ≤ f) (h2 : t ≤ y) => HYES.out i hin (by rw [hxy]; exact h1) (by rw [hxy]; exact h2))
      have HNX := Lib.hid (fun (h1 : ¬ (x ≤ f ∧ t ≤ y)) => show ∀ k, k < i + 1 → ¬ ((ps.getD k (0, 0)).1 ≤ f ∧ t ≤ (ps.getD k (0, 0)).2) from fun k hk => by
        by_cases e : k = i
        · rw [e, hxy]; exact h1
        · exact hno.out k (by omega))
      have HI := Lib.hid hin
      have HIW := Lib.hid (show wrap64 ((i : Int) + 1) = ((i + 1 : Nat) : Int) from wrap_at (by omega) (by have := HNN.out; omega) (by have := HNN.out; omega))
      clear hno hb hbsz hxy hi hin
      by_cases hx : x ≤ f
      · by_cases hy : t ≤ y
        · have hrt := HYE.out hx hy
          go_wp2
          go_ret
          exact ⟨by first | rfl | exact ret_b hrt.symm, HB1.out⟩
        · have HN1 := Lib.hid (HNX.out (fun h => hy h.2))
          go_wp2
          go_roundw
          case rel => exact ⟨i + 1, by have := HI.out; omega, by first | rfl | (rw [HIW.out]) | go_num, HN1, HB1⟩
          case measure => (try rw [HIW.out]); have := HI.out; simp [intOf]; omega
      · have HN1 := Lib.hid (HNX.out (fun h => hx h.1))
        go_wp2
        go_roundw
        case rel => exact ⟨i + 1, by have := HI.out; omega, by first | rfl | (rw [HIW.out]) | go_num, HN1, HB1⟩
        case measure => (try rw [HIW.out]); have := HI.out; simp [intOf]; omega
    · have : i = n := by omega
      subst this
      have hrf := HNO.out hno.out
      have HB1 := Lib.hid hb.out
      have j1 : ¬ ((i : Int) < (i : Int)) := by omega
      clear hno hb hi hin
      go_wp2
      go_ret
      exact ⟨by first | rfl | exact ret_b hrf.symm, HB1.out⟩

/-- The first place that is not in. -/
def frontOf (ps : List (Int × Int)) : Int := match ps with | [] => 0 | q :: _ => if q.1 = 0 then q.2 else 0
set_option maxHeartbeats 400000 in
theorem setffront_any {ty : TypeId} {m0 o : Nat} {ff : Nat → Value} (b : Nat) (v : Value) (ps : List (Int × Int)) (B : Nat) (w : World) (h : SfA ty m0 o ff w B b v ps) :
    Calls Tryz.prog 251 #[.pointer (some ⟨b, o, none⟩)] w fun e w' => e = .returned (.int .i64 (frontOf ps)) ∧ w = w' := by
  obtain ⟨A, c, hv⟩ := h.own.form
  have co := h.co
  have ho := h.own
  rw [hv] at co ho
  cases ps with
  | nil =>
    rw [List.length_nil] at co
    clear h hv ho
    go_enter Tryz.func251, Tryz.ntmps251
    go_wp2
    go_ret
    exact ⟨rfl, rfl⟩
  | cons q qs =>
    obtain ⟨x, y⟩ := q
    obtain ⟨g, rfl, _⟩ := ho.at (by simp)
    have y1 := (ho.cells 0 (by simp)).1
    have y2 := (ho.cells 0 (by simp)).2
    simp only [Nat.zero_mul, List.getD_cons_zero] at y1 y2
    obtain ⟨n, hn⟩ : ∃ n, ((x, y) :: qs).length = n := ⟨_, rfl⟩
    have hn0 : 0 < n := by rw [← hn]; simp
    rw [hn] at co
    have i1 : (n : Int) > 0 := by omega
    have i2 : (0 : Int) < (n : Int) := by omega
    clear h hv ho hn
    by_cases hx : x = 0
    · subst hx
      go_enter Tryz.func251, Tryz.ntmps251
      go_wp2
      go_ret
      exact ⟨by simp [frontOf], rfl⟩
    · have e : frontOf ((x, y) :: qs) = 0 := by simp [frontOf, hx]
      rw [e]
      go_enter Tryz.func251, Tryz.ntmps251
      go_wp2
      go_ret
      exact ⟨rfl, rfl⟩
end Go.Proofs.YtpjlnpnadkbakaaGreat

/-
  What Crash makes of a store: a contract over the program.
-/
import Derived.Test.YtfafonfphholmaaStLoop
namespace Go.Proofs.Ytfafonfphholmaa
open Go.RowKit Go.Maps Go.Shelf

def Blk.lost (k : Blk) : Bool := decide (k.xs.length = 0) && !k.f

/-- The map's elements, where only a few blocks are known. -/
def ptrIn (bs : List Nat) (v : Value) : Option (DataW Unit × List MemPlace) :=
  match v with
  | .pointer (some ⟨b, 0, none⟩) => if b ∈ bs then some (.lit (.int .i64 (b : Nat)), []) else none
  | _ => none
theorem ptrIn_inv {bs : List Nat} {v : Value} {y : DataW Unit × List MemPlace} (h : ptrIn bs v = some y) : ∃ b ∈ bs, v = .pointer (some ⟨b, 0, none⟩) ∧ y = (.lit (.int .i64 (b : Nat)), []) := by
  unfold ptrIn at h
  split at h
  · split at h
    · cases h; exact ⟨_, by assumption, rfl, rfl⟩
    · cases h
  · cases h
theorem ptrIn_ptr {bs : List Nat} {v : Value} {y : DataW Unit × List MemPlace} (h : ptrIn bs v = some y) : ptr v = some y := by
  obtain ⟨b, _, rfl, rfl⟩ := ptrIn_inv h
  rfl
theorem ptr_lit {v : Value} {b : Nat} {z : DataW Unit × List MemPlace} (h : ptr v = some z) (hz : z.1 = .lit (.int .i64 (b : Nat))) : v = .pointer (some ⟨b, 0, none⟩) ∧ z.2 = [] := by
  have h1 : ptr v = some (.lit (.int .i64 (b : Nat)), z.2) := by rw [h]; exact congrArg some (Prod.ext hz rfl)
  have h2 := ptr_some h1
  subst h2
  refine ⟨rfl, ?_⟩
  simp [ptr] at h1
  exact h1

section
variable {w w1 w2 : World} {B p m : Nat} {L : List Ent} {fu : Bool} {lf : Int} {de : Bool}
open Go.WideElems (Fit rd rg pl rd_val rd_key rg_of)

/-- The map read by its few blocks. -/
theorem few (h : w.ownsMap Try.prog 3 ptr m L.length (DL L)) : w.ownsMap Try.prog 3 (ptrIn (L.map (fun e : Ent => e.b))) m L.length (DL L) := by
  obtain ⟨es, clock, hb, F, hs, hD⟩ := h
  obtain ⟨F1, hmap, _⟩ := F.stay (R' := ptrIn (L.map (fun e : Ent => e.b))) (fun x hx z hz => by
    obtain ⟨y, hy⟩ := F.reads x hx
    obtain ⟨z', hz', hy2⟩ := rd_val hy
    rw [hz] at hz'
    cases hz'
    have hm : rg Try.prog 3 ptr x ∈ (es.toList.map (rg Try.prog 3 ptr)).foldr DataW.insert [] := mem_sorted.2 (List.mem_map.2 ⟨x, hx, rfl⟩)
    have hD' : (L.map fun e => ((Lit.int .i64 e.k.n, DataW.lit (.int .i64 (e.b : Nat))) : Lit × DataW Unit)) = (es.toList.map (rg Try.prog 3 ptr)).foldr DataW.insert [] := by
      unfold DL at hD
      injection hD
    rw [← hD'] at hm
    obtain ⟨e, he, hre⟩ := List.mem_map.1 hm
    rw [rg_of hy] at hre
    have h1 : z.1 = .lit (.int .i64 (e.b : Nat)) := by rw [← hy2, ← hre]
    obtain ⟨h2, h3⟩ := ptr_lit hz h1
    rw [h2]
    simp only [ptrIn]
    rw [if_pos (List.mem_map.2 ⟨e, he, rfl⟩)]
    exact congrArg some (Prod.ext h1.symm h3.symm))
  exact ⟨es, clock, hb, F1, hs, by rw [hmap]; exact hD⟩
theorem unfew {bs : List Nat} {n : Nat} {D : DataW Unit} (h : w.ownsMap Try.prog 3 (ptrIn bs) m n D) : w.ownsMap Try.prog 3 ptr m n D := by
  obtain ⟨es, clock, hb, F, hs, hD⟩ := h
  obtain ⟨F1, hmap, _⟩ := F.stay (R' := ptr) (fun x _ z hz => ptrIn_ptr hz)
  exact ⟨es, clock, hb, F1, hs, by rw [hmap]; exact hD⟩

/-- Some entries go. -/
theorem StoreAt.filt (h : StoreAt w B p m L fu lf de) (q : Ent → Bool) {n : Nat} (hm : w1.ownsMap Try.prog 3 ptr m n (DL (L.filter q))) (hg : w.grownBy w1 (some m)) :
    StoreAt w1 B p m (L.filter q) fu lf de ∧ SC w w1 (Foot p m L) (Foot p m (L.filter q)) := by
  obtain ⟨hpm, hpe⟩ := h.p_ne
  have hme := h.m_ne
  have t2 := Trn.of_grown hg
  have hm' := tight hm
  rw [DL_size] at hm'
  have hmem : ∀ x, x ∈ L.filter q → x ∈ L := fun x hx => (List.mem_filter.1 hx).1
  refine ⟨⟨t2.rowIs h.row (by simp; exact fun e => hpm e.symm), hm', fun x hx => ?_, h.rise.filter _, h.apart.filter _, h.gep, h.gem, h.left, Nat.le_trans (List.length_filter_le _ _) h.many, fun x hx => h.sle x (hmem x hx)⟩, ?_, ?_⟩
  · exact (h.each x (hmem x hx)).kept t2 (fun k hk e1 => by cases e1; exact hme x (hmem x hx) hk)
  · exact t2.mono (fun k _ hk => by cases hk; exact .inr (.inl rfl))
  · rintro k (rfl | rfl | ⟨x, hx, hk⟩)
    · exact .inl (.inl rfl)
    · exact .inl (.inr (.inl rfl))
    · exact .inl (.inr (.inr ⟨x, hmem x hx, hk⟩))

/-- What del says, on data. -/
def lostD (L : List Ent) (_ : Lit) (d : DataW Unit) : Bool := match d with | .lit (.int _ b) => L.any (fun e => decide ((e.b : Int) = b) && e.k.lost) | _ => false
theorem lostD_at (h : StoreAt w B p m L fu lf de) {e : Ent} (he : e ∈ L) (kl : Lit) : lostD L kl (.lit (.int .i64 (e.b : Nat))) = e.k.lost := by
  simp only [lostD]
  rw [Bool.eq_iff_iff, List.any_eq_true]
  constructor
  · rintro ⟨x, hx, h1⟩
    simp only [Bool.and_eq_true, decide_eq_true_eq] at h1
    have hb : x.b = e.b := by omega
    by_cases hn : x.k.n = e.k.n
    · rw [← h.inj hx he hn]; exact h1.2
    · exact absurd (Or.inl hb) (h.apart' hx he hn x.b (.inl rfl))
  · exact fun h1 => ⟨e, he, by simp [h1]⟩

set_option maxRecDepth 10000 in
theorem crash1_any {e : Ent} (h : Cont w B e) (x : Value) : Calls Try.prog 39 #[x, .pointer (some ⟨e.b, 0, none⟩)] w fun x w' => x = .returned (.bool e.k.lost) ∧ w = w' := by
  have HL := Lib.hid (lost_any h)
  unfold Blk.lost
  obtain ⟨lo, hlo⟩ : ∃ lo, (decide (e.k.xs.length = 0) && !e.k.f) = lo := ⟨_, rfl⟩
  rw [hlo] at HL ⊢
  clear h hlo
  go_enter Try.func39, Try.ntmps39
  go_wp2_with fail
  refine HL.out.mono ?_
  rintro y w' ⟨rfl, rfl⟩
  go_wp2_with fail
  go_ret
  exact ⟨rfl, rfl⟩

/-- maps.DeleteFunc of what is lost. -/
theorem delfunc_any (h : StoreAt w B p m L fu lf de) : Calls Try.prog 38 #[.map (some m), .func (.func 39) #[] #[]] w
    fun x w' => x = .returned (.tuple #[]) ∧ (StoreAt w' B p m (L.filter fun e => !e.k.lost) fu lf de ∧ SC w w' (Foot p m L) (Foot p m (L.filter fun e => !e.k.lost))) := by
  have hd := AnyDf.maps_DeleteFunc (H := Unit) delA keyI (ptrIn (L.map (fun e : Ent => e.b))) (lostD L) 39 #[] m L.length (DL L) w (enters_of Try.func39 (by kernel_rfl) rfl) (few h.map)
    (fun W key val kl yd yp hg _ hv => by
      obtain ⟨b, hb, rfl, hy⟩ := ptrIn_inv hv
      obtain ⟨e, he, rfl⟩ := List.mem_map.1 hb
      cases hy
      have hc : Cont W B e := (h.each e he).kept (Trn.of_grown hg) (fun k hk e1 => by cases e1; exact h.m_ne e he hk)
      refine (crash1_any hc key).mono ?_
      rintro x w' ⟨rfl, rfl⟩
      exact ⟨by rw [lostD_at h he], World.grownBy.refl _ _⟩)
  refine Calls.mono hd ?_
  rintro x w' ⟨rfl, hm, hg⟩
  have hD : Lib.deleteFuncD (lostD L) (DL L) = DL (L.filter fun e => !e.k.lost) := by
    simp only [DL, Lib.deleteFuncD, List.filter_map]
    congr 2
    refine List.filter_congr (fun e he => ?_)
    simp only [Function.comp]
    rw [lostD_at h he]
  have hm' := unfew hm
  rw [hD] at hm'
  exact ⟨rfl, h.filt _ hm' hg⟩

theorem turnsTear (keep : Int) : Turns (fun e => e.tear keep) := ⟨fun _ => rfl, fun _ => rfl, fun _ _ h => first_block h⟩
theorem turnsSettle : Turns Ent.settle := ⟨fun _ => rfl, fun _ => rfl, fun _ _ h => h⟩
theorem invK (key : Value) (kl : Lit) (h : keyOf Try.prog 3 key = some kl) : ∃ x, key = Value.int .i64 x := by
  obtain ⟨x, rfl, _⟩ := Maps.keyOf_int_inv Try.underlying3 h
  exact ⟨x, rfl⟩

def crashB (keep : Int) (bs : List Blk) : List Blk := ((bs.map (fun k => k.tear keep)).filter fun k => !k.lost).map Blk.settle
def St.crash (s : St) (keep : Int) : St := ⟨crashB keep s.bs, false, 0, false⟩
theorem kept_le (k : Blk) (keep : Int) (h : k.s ≤ k.xs.length) : k.s ≤ k.kept keep ∧ k.kept keep ≤ k.xs.length := by
  unfold Blk.kept
  omega

theorem htr_size {F : Nat → Prop} (h : Trn w w1 F) : w.heap.size ≤ w1.heap.size := h.size
theorem trn3 (w : World) (p : Nat) (a b c : Value) : Trn w (((w.setCell ⟨p, 0 + 1, none⟩ a).setCell ⟨p, 0 + 2, none⟩ b).setCell ⟨p, 0 + 3, none⟩ c) (fun k => k = p) := by
  have h : ∀ (W : World) (i : Nat) (v : Value), Trn W (W.setCell ⟨p, i, none⟩ v) (fun k => k = p) := fun W i v => (Trn.of_grown (setCell_one W p i v)).mono (fun k _ hk => by simp at hk; exact hk.symm)
  exact trn2 (trn2 (h _ _ _) (h _ _ _)) (h _ _ _)

def CrEnd (w : World) (B p : Nat) (F : Nat → Prop) (s : St) (e : Ending) (w' : World) : Prop := ∃ F', e = .returned (.tuple #[]) ∧ StoreIs w' B p s F' ∧ SC w w' F F'

set_option maxRecDepth 10000 in
set_option maxHeartbeats 1000000 in
theorem crash_any {s : St} {F : Nat → Prop} (h : StoreIs w B p s F) (keep : Int) : Calls Try.prog 18 #[.pointer (some ⟨p, 0, none⟩), .int .i64 keep] w (CrEnd w B p F (s.crash keep)) := by
  obtain ⟨m, L, h, hk, rfl, hlf⟩ := h
  have s0 := h.s0
  have hmap := h.map
  have H := Lib.hid h
  have HK := Lib.hid hk
  clear h hk hlf
  go_enter Try.func18, Try.ntmps18
  go_wp2_with (first | (at_range; refine wpList_range_own _ rfl _ 44 rfl 3 48 keyI Try.underlying44 _ m L.length _ rfl hmap ?_; intro w0 hrg0 hg0 hs0) | go_in)
  go_frame
  have hst := LoopSt.start H.out (fun e => e.tear keep) hrg0 hg0
  have HST := Lib.hid hst
  clear hst hrg0 hg0 hs0 hmap s0
  go_loopw [13] (fun _ wr => ∃ (left : Lit → Bool) (cnt : Nat), Hid (LoopSt w wr B p m w.heap.size L (fun e => e.tear keep) s.fu s.lf s.de left cnt)) (fun _ wr => wr.rangeLeft m w.heap.size)
  case atStart => exact ⟨_, _, HST⟩
  case round =>
    obtain ⟨left, cnt, hl⟩ := hrel
    have hrg := hl.out.rg
    go_wp2_with (first | (at_next; refine wpList_next_ranges _ rfl _ rfl 3 keyI ptr (Value.int .i64) ptrV invK ptr_inv m w.heap.size L.length _ _ _ rfl hrg ?_ ?_) | go_in)
    · intro _ hl0
      have h1 := hl.out.st
      rw [mixE_end hl0] at h1
      have htr := hl.out.tr
      have s0 := h1.s0
      have HD := Lib.hid (delfunc_any h1)
      have HTR := Lib.hid htr
      have H1 := Lib.hid h1
      clear h1 htr hrg hl hl0
      go_wp2_with fail
      refine HD.out.mono ?_
      rintro z w2 ⟨rfl, h2, hsc2⟩
      obtain ⟨L2, hL2⟩ : ∃ L2, (L.map fun e => e.tear keep).filter (fun e => !e.k.lost) = L2 := ⟨_, rfl⟩
      rw [hL2] at h2 hsc2
      have hF1 : ∀ k, Foot p m (L.map fun e => e.tear keep) k → Foot p m L k := fun k hk => by
        have : mixE (fun e => e.tear keep) (fun _ => false) L = L.map (fun e => e.tear keep) := mixE_end (fun _ => rfl)
        rw [← this] at hk
        exact mixE_foot (turnsTear keep) hk
      have htr2 : Trn w w2 (Foot p m L) := HTR.out.trans hsc2.trn (fun _ hk => hk) (fun k _ hk => hF1 k hk)
      have hF2 : ∀ k, Foot p m L2 k → Foot p m L k := fun k hk => by
        rcases hk with hk | hk | ⟨e, he, hk⟩
        · exact .inl hk
        · exact .inr (.inl hk)
        · rw [← hL2] at he
          exact hF1 k (.inr (.inr ⟨e, (List.mem_filter.1 he).1, hk⟩))
      have HL2 := Lib.hid hL2
      have H2 := Lib.hid h2
      have HTR2 := Lib.hid htr2
      have HF2 := Lib.hid hF2
      have hmap2 := h2.map
      have s02 := h2.s0
      clear h2 hsc2 hF1 htr2 hF2 hL2 s0 HD HTR H1
      go_wp2_with (first | (at_range; refine wpList_range_own _ rfl _ 44 rfl 3 48 keyI Try.underlying44 _ m L2.length _ rfl hmap2 ?_; intro w3 hrg0 hg0 hs0) | go_in)
      go_frame
      have hst := LoopSt.start H2.out Ent.settle hrg0 hg0
      have HST3 := Lib.hid hst
      have hsz := htr_size HTR2.out
      clear hst hrg0 hg0 hs0 hmap2 s02
      go_loopw [30] (fun _ wr => ∃ (left : Lit → Bool) (cnt : Nat), Hid (LoopSt w2 wr B p m w2.heap.size L2 Ent.settle s.fu s.lf s.de left cnt)) (fun _ wr => wr.rangeLeft m w2.heap.size)
      case atStart => exact ⟨_, _, HST3⟩
      case round =>
        obtain ⟨left, cnt, hl⟩ := hrel
        have hrg := hl.out.rg
        go_wp2_with (first | (at_next; refine wpList_next_ranges _ rfl _ rfl 3 keyI ptr (Value.int .i64) ptrV invK ptr_inv m w2.heap.size L2.length _ _ _ rfl hrg ?_ ?_) | go_in)
        · intro _ hl0
          have h1 := hl.out.st
          rw [mixE_end hl0] at h1
          have htr := hl.out.tr
          have s1 := h1.s1
          have s2 := h1.s2
          have s3 := h1.s3
          have f1 := h1.fr (0 + 1)
          have f2 := h1.fr (0 + 2)
          have f3 := h1.fr (0 + 3)
          have h5 := ((h1.set (0 + 1) (.bool false) false s.lf s.de h1.left (fun j hj => by
            have : j = 0 ∨ j = 1 ∨ j = 2 ∨ j = 3 := by omega
            rcases this with rfl | rfl | rfl | rfl <;> simp [stoF])).set (0 + 2) (.int .i64 0) false 0 s.de (Int.le_refl _) (fun j hj => by
            have : j = 0 ∨ j = 1 ∨ j = 2 ∨ j = 3 := by omega
            rcases this with rfl | rfl | rfl | rfl <;> simp [stoF])).set (0 + 3) (.bool false) false 0 false (Int.le_refl _) (fun j hj => by
            have : j = 0 ∨ j = 1 ∨ j = 2 ∨ j = 3 := by omega
            rcases this with rfl | rfl | rfl | rfl <;> simp [stoF])
          have H5 := Lib.hid h5
          have HTR4 := Lib.hid htr
          have HP := Lib.hid (trn3 wr p (.bool false) (.int .i64 0) (.bool false))
          clear h1 htr hrg hl hl0 h5
          go_wp2
          go_end0
          refine ⟨Foot p m (L2.map Ent.settle), rfl, ⟨m, _, H5.out, ?_, rfl, by show (0 : Int) ≤ _; omega⟩, ⟨?_, ?_⟩⟩
          · show (L2.map Ent.settle).map (·.k) = crashB keep s.bs
            rw [← HL2.out, ← HK.out]
            unfold crashB
            simp only [List.map_map, List.filter_map]
            rfl
          · exact HTR2.out.trans (HTR4.out.trans HP.out (G := Foot p m L2) (fun _ hk => hk) (fun k _ hk => .inl hk)) (fun _ hk => hk) (fun k _ hk => HF2.out k hk)
          · intro k hk
            have : mixE Ent.settle (fun _ => false) L2 = L2.map Ent.settle := mixE_end (fun _ => rfl)
            rw [← this] at hk
            exact .inl (HF2.out k (mixE_foot turnsSettle hk))
        · intro x c kl yd yp w4 cnt1 hkey hlx hv hat hrg1 hlt hg1 hs1 hen
          obtain ⟨e, he, rfl, rfl, rfl, hem, hle⟩ := loop_came (y := (yd, yp)) (g := Ent.settle) H2.out hkey hlx hv hat
          obtain ⟨hst1, htr1⟩ := hl.out.next hg1 (Nat.le_refl _)
          have HT := Lib.hid (settle_any (hst1.each e hem))
          have HST1 := Lib.hid hst1
          have HTR1 := Lib.hid htr1
          have HRG1 := Lib.hid hrg1
          have HRG := Lib.hid hrg
          simp only [ptrV] at hen
          have HLT := Lib.hid hlt
          have HHE := Lib.hid he
          have HEM := Lib.hid hem
          have HLE := Lib.hid hle
          clear hst1 htr1 hrg1 hrg hkey hlx hv hat hg1 hs1 hl hlt he hem hle
          go_wp2_with fail
          refine HT.out.mono ?_
          rintro z w5 ⟨rfl, hc, ht⟩
          have hnew := LoopSt.turn turnsSettle HST1.out HTR1.out HHE.out HEM.out HLE.out HRG1.out hc (Nat.le_refl _) ht
          have HNEW := Lib.hid hnew
          clear hc ht hnew
          go_wp2_with fail
          go_roundw
          case rel => exact ⟨_, _, HNEW⟩
          case measure => rw [HNEW.out.rg.left_eq, HRG.out.left_eq]; exact HLT.out
    · intro x c kl yd yp w1 cnt1 hkey hlx hv hat hrg1 hlt hg1 hs1 hen
      obtain ⟨e, he, rfl, rfl, rfl, hem, hle⟩ := loop_came (y := (yd, yp)) (g := fun e => e.tear keep) H.out hkey hlx hv hat
      obtain ⟨hst1, htr1⟩ := hl.out.next hg1 (Nat.le_refl _)
      have HT := Lib.hid (tear_any (hst1.each e hem) (H.out.sle e he) keep)
      have HST1 := Lib.hid hst1
      have HTR1 := Lib.hid htr1
      have HRG1 := Lib.hid hrg1
      have HRG := Lib.hid hrg
      simp only [ptrV] at hen
      have HLT := Lib.hid hlt
      have HHE := Lib.hid he
      have HEM := Lib.hid hem
      have HLE := Lib.hid hle
      clear hst1 htr1 hrg1 hrg hkey hlx hv hat hg1 hs1 hl hlt he hem hle
      go_wp2_with fail
      refine HT.out.mono ?_
      rintro z w2 ⟨rfl, hc, ht⟩
      have hkl := kept_le e.k keep (H.out.sle e HHE.out)
      have hnew := LoopSt.turn (turnsTear keep) HST1.out HTR1.out HHE.out HEM.out HLE.out HRG1.out hc (by simp [Ent.tear, Blk.tear]; omega) ht
      have HNEW := Lib.hid hnew
      clear hc ht hkl hnew
      go_wp2_with fail
      go_roundw
      case rel => exact ⟨_, _, HNEW⟩
      case measure => rw [HNEW.out.rg.left_eq, HRG.out.left_eq]; exact HLT.out
end
end Go.Proofs.Ytfafonfphholmaa

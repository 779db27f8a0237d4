/-
  EnCallC · PrEvC · RefSameM · EnPkts · PrSaid · PrUp · PrData.
-/
import Derived.Test.YtpjlnpnadkbakaaGreatQBPrEn17
import Derived.Test.YtpjlnpnadkbakaaGreatQBPrEn10
import Derived.Test.YtpjlnpnadkbakaaGreatQBPrEn13
import Derived.Test.YtpjlnpnadkbakaaGreatQBCountMath
import Derived.Lib.Strings
import Derived.Test.YtpjlnpnadkbakaaGreatQBRowN
import Derived.Test.YtpjlnpnadkbakaaGreatQBEvMem
import Derived.Deep.RegionHeld3
import Derived.Handy
import Derived.Lib.ConvBytes
import Derived.Test.YtpjlnpnadkbakaaGreatQBMem
namespace Go.Proofs.YtpjlnpnadkbakaaGreat
set_option maxRecDepth 10000
namespace En
variable {E : En} {N : Nat}
theorem mayC_lt {p : Pkt} (h : E.mayC p = true) : p.ok = true ∧ p.pa.toNat < E.ps.length := by
  unfold mayC at h
  simp only [Bool.and_eq_true, decide_eq_true_eq] at h
  have := Pkt.ok_pa h.1.1.1
  exact ⟨h.1.1.1, by omega⟩
theorem mayC_se {p : Pkt} (h : E.mayC p = true) (h1 : p.k ≠ 1) (h2 : p.k ≠ 2) (h3 : p.k ≠ 3) : p.se ≤ E.pl.sent := by
  unfold mayC at h
  rw [if_neg h1, if_neg h2, if_neg h3] at h
  simp only [Bool.and_eq_true, decide_eq_true_eq] at h
  exact h.2.2
theorem come_data {p : Pkt} (h : p.ok = true) (h3 : p.k = 3) (hb : PkB p) : p.fr + (p.da.length : Int) ≤ 4096 := by
  obtain ⟨k, pa, nu, o, fr, da, fin, se, li⟩ := p
  simp only at h3
  subst h3
  exact (Pkt.ok_data h).2.1
theorem come_ack {p : Pkt} (h : p.ok = true) (h4 : p.k = 4) : 0 ≤ p.li ∧ p.li ≤ 4496 := by
  obtain ⟨k, pa, nu, o, fr, da, fin, se, li⟩ := p
  simp only at h4
  subst h4
  have := Pkt.ok_ack h
  exact ⟨this.1, this.2.1⟩
theorem come_kind {p : Pkt} (h : p.ok = true) (h1 : p.k ≠ 1) (h2 : p.k ≠ 2) (h3 : p.k ≠ 3) : p.k = 4 := by
  have := Pkt.ok_kind h
  omega
theorem ok.come (h : E.ok) {p : Pkt} (hb : PkB p) : (E.come p).ok := by
  unfold En.come
  split
  · next hm =>
    have hl := mayC_lt hm
    have hF : ((E.note (evP 4 p)).count 3 1).ok := (h.note _).count _ _
    have hp : (E.pa p.pa.toNat).fine ((E.note (evP 4 p)).count 3 1).now ((E.note (evP 4 p)).count 3 1).pl.sent := h.pa hl.2
    unfold En.came
    dsimp only
    split
    · exact (hF.setP _ (hp.setJo true)).say (by simpa [En.setP, En.note, En.count] using hl.2) _
    · split
      · exact (hF.setP _ (hp.setJo true)).pump
      · split
        · next h3 => exact (hF.putI (come_data hl.1 h3 hb) hb.byt).say hl.2 _
        · next h1 h2 h3 =>
          have hk := come_ack hl.1 (come_kind hl.1 h1 h2 h3)
          have hse := mayC_se hm h1 h2 h3
          refine ((ok.ackO (hF.setP _ (hp.ackP _)) hse).setLim ?_ ?_).pump
          · have := h.l0; show 0 ≤ max E.limit p.li; omega
          · have := h.l1; show max E.limit p.li ≤ 4496; omega
  · exact h.count _ _
theorem cap.come (hok : E.ok) (h : E.cap N) (p : Pkt) : (E.come p).cap (N + 5000000) := by
  unfold En.come
  split
  · next hm =>
    have hl := mayC_lt hm
    have hF : ((E.note (evP 4 p)).count 3 1).ok := (hok.note _).count _ _
    have hp : (E.pa p.pa.toNat).fine ((E.note (evP 4 p)).count 3 1).now ((E.note (evP 4 p)).count 3 1).pl.sent := hok.pa hl.2
    have hC : ((E.note (evP 4 p)).count 3 1).cap (N + 1 + 1) := (h.note _).count 3 (by omega) (k := 1) (by omega)
    unfold En.came
    dsimp only
    split
    · have hC2 : (((E.note (evP 4 p)).count 3 1).setP p.pa.toNat ((E.pa p.pa.toNat).setJo true)).cap (N + 1 + 1) := hC.of_eq rfl rfl rfl
      exact (hC2.say _ (by simp)).mono (by omega)
    · split
      · exact (cap.pump' (hF.setP _ (hp.setJo true)) (hC.of_eq rfl rfl rfl)).mono (by omega)
      · split
        · have hC2 : (((E.note (evP 4 p)).count 3 1).setI (((E.note (evP 4 p)).count 3 1).i.put p.fr p.da p.fin)).cap (N + 1 + 1) := hC.of_eq rfl rfl rfl
          exact (hC2.say _ (by simp)).mono (by omega)
        · next h1 h2 h3 =>
          have hk := come_ack hl.1 (come_kind hl.1 h1 h2 h3)
          have hse := mayC_se hm h1 h2 h3
          refine (cap.pump' ((ok.ackO (hF.setP _ (hp.ackP _)) hse).setLim ?_ ?_) (hC.of_eq rfl rfl rfl)).mono (by omega)
          · have := hok.l0; show 0 ≤ max E.limit p.li; omega
          · have := hok.l1; show max E.limit p.li ≤ 4496; omega
  · exact (h.count 4 (by omega) (k := 1) (by omega)).mono (by omega)
end En
end Go.Proofs.YtpjlnpnadkbakaaGreat
namespace Go.Proofs.YtpjlnpnadkbakaaGreat
set_option maxRecDepth 10000
open Go.RowKit
section
variable {w0 w w' : World} {L L' : Lab} {K b n : Nat} {E : En}
theorem EV.come (h : EV w0 w L K b E n) (hn : n ≤ 40000) (p : Pkt) (A : Option Addr) (c : Nat) (hp : PktAt w p A c) (ha : Aps w L K A) (hpb : PkB p) {r : Bool} (hr : E.mayC p = r) :
    Calls Tryz.prog 22 #[.pointer (some ⟨b, 0, none⟩), p.val A c] w (EvA w0 w L K b (E.come p) (n + 1) (.bool r)) := by
  obtain ⟨s, he⟩ := h.ee
  subst hr
  refine (eecome_any he h.k0 h.ok p A c hp ha hpb h.cap (by omega)).mono ?_
  rintro e w' ⟨rfl, L', h1, h2⟩
  exact ⟨rfl, L', h.turn h1 h2 (h.ok.come hpb) ((h.cap.come h.ok p).mono (by omega)), h2⟩
end
end Go.Proofs.YtpjlnpnadkbakaaGreat
namespace Go.Proofs.YtpjlnpnadkbakaaGreat
set_option maxRecDepth 10000
open Go.RowKit
theorem strEq (xs ys : List Int) (bx : ∀ x ∈ xs, 0 ≤ x ∧ x < 256) (by' : ∀ x ∈ ys, 0 ≤ x ∧ x < 256) : ((strOfNums xs).toList == (strOfNums ys).toList) = decide (xs = ys) := by
  by_cases e : xs = ys
  · subst e; simp
  · have : ¬ (strOfNums xs).toList = (strOfNums ys).toList := fun h => e (by
      rw [Lib.toList_data, Lib.toList_data] at h
      exact map_byte_inj _ _ bx by' (by simpa [strOfNums] using h))
    rw [beq_eq_false_iff_ne.2 this, decide_eq_false e]
set_option maxHeartbeats 1000000 in
theorem refSame_any (p q : Pkt) (A B : Option Addr) (c d : Nat) (w : World) (hp : PktAt w p A c) (hq : PktAt w q B d) :
    Calls Tryz.prog 63 #[p.val A c, q.val B d] w fun e w' => e = .returned (.bool (p.same q)) ∧ Below w.heap.size w w' := by
  have hbel : ∀ a b, Below w.heap.size w ((w.alloc a).alloc b) := fun a b =>
    have h1 := (Below.refl w.heap.size w).alloc (Nat.le_refl _) a
    h1.alloc h1.size b
  have hs := strEq p.da q.da hp.byt hq.byt
  have r1 := fun a b => conv_rd (w := (w.alloc a).alloc b) c rfl ((hp.rd.alloc a).alloc b)
  have r2 := fun a b => conv_rd (w := (w.alloc a).alloc b) d rfl ((hq.rd.alloc a).alloc b)
  clear hp hq
  obtain ⟨k, pa, nu, o, fr, da, fin, se, li⟩ := p
  obtain ⟨k', pa', nu', o', fr', da', fin', se', li'⟩ := q
  unfold Pkt.val Pkt.same
  simp only at hs r1 r2 ⊢
  obtain ⟨n, hn⟩ : ∃ n, da.length = n := ⟨_, rfl⟩
  obtain ⟨m, hm⟩ : ∃ m, da'.length = m := ⟨_, rfl⟩
  simp only [hn] at r1
  simp only [hm] at r2
  rw [hn, hm]
  clear hn hm
  cases hd : decide (da = da')
  · rw [hd] at hs
    go_enter Tryz.func63, Tryz.ntmps63
    go_wp2_with fail
    all_goals (go_ret; exact ⟨ret_b (by simp [*]), hbel _ _⟩)
  · rw [hd] at hs
    go_enter Tryz.func63, Tryz.ntmps63
    go_wp2_with fail
    all_goals (go_ret; exact ⟨ret_b (by rw [Bool.eq_iff_iff]; simp [*]), hbel _ _⟩)
end Go.Proofs.YtpjlnpnadkbakaaGreat
namespace Go.Proofs.YtpjlnpnadkbakaaGreat
set_option maxRecDepth 10000
open Go.RowKit
def PkLie (w : World) (b o : Nat) (m : PkM) : Prop := b < w.heap.size ∧ w.rangeAt b o m.cs
theorem PkLie.later {w w' : World} {b o : Nat} {m : PkM} (h : PkLie w b o m) (hb : Below w.heap.size w w') : PkLie w' b o m := ⟨Nat.lt_of_lt_of_le h.1 hb.size, rangeAt_later h.2 hb h.1⟩
structure Pks (w : World) (A : Option Addr) (ms : List PkM) : Prop where
  each : ∀ m ∈ ms, PktAt w m.p m.A m.c
  lie : ms = [] ∨ ∃ b off, A = some ⟨b, off, none⟩ ∧ ∀ i, i < ms.length → PkLie w b (off + i * 9) (ms.getD i default)
theorem Pks.later {w w' : World} {A : Option Addr} {ms : List PkM} (h : Pks w A ms) (hb : Below w.heap.size w w') : Pks w' A ms := ⟨fun m hm => (h.each m hm).later hb, h.lie.imp id (fun ⟨b, o, h1, h2⟩ => ⟨b, o, h1, fun i hi => (h2 i hi).later hb⟩)⟩
theorem Pks.get {w : World} {A : Option Addr} {ms : List PkM} (h : Pks w A ms) {i : Nat} (hi : i < ms.length) : PktAt w (ms.getD i default).p (ms.getD i default).A (ms.getD i default).c := h.each _ (by simp [List.getD, hi])
instance : DecidableEq Pkt := fun a b => decidable_of_iff (a.same b = true) Pkt.same_iff
theorem Pkt.same_dec (a b : Pkt) : a.same b = decide (a = b) := by
  rw [Bool.eq_iff_iff, Pkt.same_iff, decide_eq_true_eq]
theorem pks_ext {ms ns : List PkM} (hl : ms.length = ns.length) (h : ∀ i, i < ms.length → (ms.getD i default).p = (ns.getD i default).p) : ms.map PkM.p = ns.map PkM.p := by
  apply List.ext_getElem (by simpa using hl)
  intro i h1 h2
  have hi : i < ms.length := by simpa using h1
  have hj : i < ns.length := by simpa using h2
  have := h i hi
  simpa [List.getD, hi, hj] using this
theorem pks_ne {ms ns : List PkM} {i : Nat} (hi : i < ms.length) (h : (ms.getD i default).p ≠ (ns.getD i default).p) (hl : ms.length = ns.length) : ms.map PkM.p ≠ ns.map PkM.p := fun e => h (by
  have hj : i < ns.length := by omega
  have h9 : (ms.map PkM.p)[i]? = (ns.map PkM.p)[i]? := by rw [e]
  simpa [List.getD, hi, hj] using h9)
theorem PkRow.toPks {w : World} {L : Lab} {i : Nat} {A : Option Addr} {n c : Nat} {ms : List PkM} (h : PkRow w L i (.slice A n c) ms) : n = ms.length ∧ Pks w A ms := by
  have hn : n = ms.length := by
    rcases h.row.2 with ⟨hv, h0⟩ | ⟨g, cap, cur, hv, _⟩
    · injection hv with _ e _
      rw [h0]
      exact e
    · injection hv
  refine ⟨hn, fun m hm => (h.each m hm).at, ?_⟩
  subst hn
  rcases h.row.2 with ⟨hv, h0⟩ | ⟨g, cap, cur, hv, _⟩
  · exact .inl (List.eq_nil_of_length_eq_zero h0)
  · injection hv with e _ _
    subst e
    refine .inr ⟨g, 0, rfl, fun i hi => ⟨?_, fun j v hv => ?_⟩⟩
    · exact (World.ownsRow.lt h.row g rfl).2
    · have hj : j < 9 := by
        have := (List.getElem?_eq_some_iff.1 hv).1
        rwa [PkM.cs_len] at this
      rw [Nat.zero_add, World.ownsRow.cellAt h.row (i * 9 + j) (by have : (i + 1) * 9 ≤ ms.length * 9 := Nat.mul_le_mul_right 9 hi; omega), pks_get ms i hi j hj]
      exact hv
theorem packets_len (A B : Option Addr) (n m c d : Nat) (w : World) (h : n ≠ m) :
    Calls Tryz.prog 56 #[.slice A n c, .slice B m d] w fun x w' => x = .returned (.bool false) ∧ Below w.heap.size w w' := by
  have hne : ((n : Int) != (m : Int)) = true := by rw [bne_iff_ne]; omega
  clear h
  go_enter Tryz.func56, Tryz.ntmps56
  go_wp2
  go_ret
  exact ⟨rfl, Below.refl _ _⟩
set_option maxHeartbeats 1000000 in
theorem packets_any (ms ns : List PkM) (A B : Option Addr) (c d : Nat) (w : World) (hx : Pks w A ms) (hy : Pks w B ns) (hm : ms.length ≤ maxLen) :
    Calls Tryz.prog 56 #[.slice A ms.length c, .slice B ns.length d] w fun x w' => x = .returned (.bool (decide (ms.map PkM.p = ns.map PkM.p))) ∧ Below w.heap.size w w' := by
  by_cases hl : ms.length = ns.length
  · obtain ⟨n, hn⟩ : ∃ n, ms.length = n := ⟨_, rfl⟩
    rw [← hl, hn]
    rw [hn] at hm hl
    unfold maxLen at hm
    have HX := Lib.hid hx
    have HY := Lib.hid hy
    have HN := Lib.hid hn
    have HL := Lib.hid hl
    clear hx hy hn hl
    go_enter Tryz.func56, Tryz.ntmps56
    go_wp2
    go_loopw [13] (fun i wr => ∃ k : Nat, k ≤ n ∧ i = .int .i64 k ∧ Hid (Below w.heap.size w wr) ∧ Hid (∀ j, j < k → (ms.getD j default).p = (ns.getD j default).p)) (fun i _ => n - (intOf i).toNat)
    case atStart => exact ⟨0, by omega, rfl, Below.refl _ _, fun j hj => absurd hj (by omega)⟩
    case round =>
      obtain ⟨k, hk, rfl, hB, hp⟩ := hrel
      by_cases hlt : k < n
      · have hx2 := HX.out.later hB.out
        have hy2 := HY.out.later hB.out
        have hka : k < ms.length := by rw [HN.out]; exact hlt
        have hkb : k < ns.length := by rw [← HL.out]; exact hlt
        have x1 := hx2.get hka
        have y1 := hy2.get hkb
        obtain ⟨b1, o1, rfl, hx3⟩ : ∃ b off, A = some ⟨b, off, none⟩ ∧ ∀ i, i < ms.length → PkLie wr b (off + i * 9) (ms.getD i default) := by
          rcases hx2.lie with h | h
          · subst h; simp at hka
          · exact h
        obtain ⟨b2, o2, rfl, hy3⟩ : ∃ b off, B = some ⟨b, off, none⟩ ∧ ∀ i, i < ns.length → PkLie wr b (off + i * 9) (ns.getD i default) := by
          rcases hy2.lie with h | h
          · subst h; simp at hkb
          · exact h
        have x3 := hx3 k hka
        have y3 := hy3 k hkb
        obtain ⟨x, hx⟩ : ∃ x, ms.getD k default = x := ⟨_, rfl⟩
        obtain ⟨y, hy⟩ : ∃ y, ns.getD k default = y := ⟨_, rfl⟩
        rw [hx] at x1 x3
        rw [hy] at y1 y3
        have X1 := Lib.hid x1
        have Y1 := Lib.hid y1
        have X3 := Lib.hid x3
        have Y3 := Lib.hid y3
        have HKX := Lib.hid hx
        have HKY := Lib.hid hy
        have HKA := Lib.hid hka
        have hse := fun W (h1 : PktAt W x.p x.A x.c) (h2 : PktAt W y.p y.A y.c) => refSame_any x.p y.p x.A y.A x.c y.c W h1 h2
        obtain ⟨z, hz⟩ : ∃ z, x.p.same y.p = z := ⟨_, rfl⟩
        simp only [hz] at hse
        have HSE := Lib.hid hse
        have HZ := Lib.hid hz
        have i1 : (k : Int) < (n : Int) := by omega
        have i2 : (0 : Int) ≤ (k : Int) := by omega
        clear hx hy hx2 hy2 hx3 hy3 x1 x3 y1 y3 hka hkb hz hse
        go_wp2_with fail
        refine wp_region_held_drew (S := fun wi => Below wr.heap.size wr wi) (by kernel_rfl) (Below.refl _ _).drew (fun hHeld => ?_)
        cases z
        · refine tkH 0 ?_
          refine tkH 1 ?_
          refine tkH 2 ?_
          refine wpAnyH_take (i := 3) (v := .agg (x.p.cs x.A x.c).toArray) rfl (by kernel_rfl) (by kernel_rfl) (by kernel_rfl) (fun _ _ _ h => h) (yieldsIf_load_mid (by rfl) 32 (.tmp 18) rfl _ _ rfl (x.p.cs x.A x.c) _ (fun w' h' => (X3.out.later h').2) Tryz.underlying32 rfl (by kernel_rfl)) (by assumption) ?_
          try simp only [Act.put, List.getElem_toArray, List.getElem_cons_zero, List.getElem_cons_succ, List.setIfInBounds_toArray, List.set_cons_zero, List.set_cons_succ]
          refine tkH 4 ?_
          refine tkH 5 ?_
          refine tkH 6 ?_
          refine wpAnyH_take (i := 7) (v := .agg (y.p.cs y.A y.c).toArray) rfl (by kernel_rfl) (by kernel_rfl) (by kernel_rfl) (fun _ _ _ h => h) (yieldsIf_load_mid (by rfl) 32 (.tmp 22) rfl _ _ rfl (y.p.cs y.A y.c) _ (fun w' h' => (Y3.out.later h').2) Tryz.underlying32 rfl (by kernel_rfl)) (by assumption) ?_
          try simp only [Act.put, List.getElem_toArray, List.getElem_cons_zero, List.getElem_cons_succ, List.setIfInBounds_toArray, List.set_cons_zero, List.set_cons_succ]
          refine wpAnyH_ready (rs := [8]) (by kernel_rfl) (by simp) ?_
          refine AllReadyH.cons rfl (fun K hK => ?_) AllReadyH.nil
          go_simp
          refine (HSE.out _ (X1.out.later hHeld) (Y1.out.later hHeld)).mono ?_
          rintro e w1 ⟨rfl, hb⟩
          have hb2 : Below wr.heap.size wr w1 := Below.trans hHeld (hb.mono hHeld.size)
          clear hb
          try go_wp2_with fail
          refine hK.out _ _ hb2 (fun hHeld2 => ?_)
          clear hK K hHeld
          have hHeld := hHeld2
          clear hHeld2
          try simp only [Act.put, List.getElem_toArray, List.getElem_cons_zero, List.getElem_cons_succ, List.setIfInBounds_toArray, List.set_cons_zero, List.set_cons_succ]
          refine tkH 9 ?_
          refine wpAnyH_done (by kernel_rfl) ?_ _
          go_wp2_with fail
          go_ret
          refine ⟨ret_b ?_, hB.out.trans (hHeld.mono hB.out.size)⟩
          rw [eq_comm, decide_eq_false_iff_not]
          refine pks_ne HKA.out ?_ (by rw [HN.out, HL.out])
          rw [HKX.out, HKY.out]
          intro e9
          have := HZ.out
          rw [Pkt.same_dec, decide_eq_false_iff_not] at this
          exact this e9
        · refine tkH 0 ?_
          refine tkH 1 ?_
          refine tkH 2 ?_
          refine wpAnyH_take (i := 3) (v := .agg (x.p.cs x.A x.c).toArray) rfl (by kernel_rfl) (by kernel_rfl) (by kernel_rfl) (fun _ _ _ h => h) (yieldsIf_load_mid (by rfl) 32 (.tmp 18) rfl _ _ rfl (x.p.cs x.A x.c) _ (fun w' h' => (X3.out.later h').2) Tryz.underlying32 rfl (by kernel_rfl)) (by assumption) ?_
          try simp only [Act.put, List.getElem_toArray, List.getElem_cons_zero, List.getElem_cons_succ, List.setIfInBounds_toArray, List.set_cons_zero, List.set_cons_succ]
          refine tkH 4 ?_
          refine tkH 5 ?_
          refine tkH 6 ?_
          refine wpAnyH_take (i := 7) (v := .agg (y.p.cs y.A y.c).toArray) rfl (by kernel_rfl) (by kernel_rfl) (by kernel_rfl) (fun _ _ _ h => h) (yieldsIf_load_mid (by rfl) 32 (.tmp 22) rfl _ _ rfl (y.p.cs y.A y.c) _ (fun w' h' => (Y3.out.later h').2) Tryz.underlying32 rfl (by kernel_rfl)) (by assumption) ?_
          try simp only [Act.put, List.getElem_toArray, List.getElem_cons_zero, List.getElem_cons_succ, List.setIfInBounds_toArray, List.set_cons_zero, List.set_cons_succ]
          refine wpAnyH_ready (rs := [8]) (by kernel_rfl) (by simp) ?_
          refine AllReadyH.cons rfl (fun K hK => ?_) AllReadyH.nil
          go_simp
          refine (HSE.out _ (X1.out.later hHeld) (Y1.out.later hHeld)).mono ?_
          rintro e w1 ⟨rfl, hb⟩
          have hb2 : Below wr.heap.size wr w1 := Below.trans hHeld (hb.mono hHeld.size)
          clear hb
          try go_wp2_with fail
          refine hK.out _ _ hb2 (fun hHeld2 => ?_)
          clear hK K hHeld
          have hHeld := hHeld2
          clear hHeld2
          try simp only [Act.put, List.getElem_toArray, List.getElem_cons_zero, List.getElem_cons_succ, List.setIfInBounds_toArray, List.set_cons_zero, List.set_cons_succ]
          refine tkH 9 ?_
          refine wpAnyH_done (by kernel_rfl) ?_ _
          have HF := Lib.hid (hB.out.trans (hHeld.mono hB.out.size))
          have HE := Lib.hid (Pkt.same_iff.1 HZ.out)
          clear hHeld
          go_wp2_with fail
          go_roundw
          case rel => exact ⟨k + 1, by omega, by go_num, HF, fun j hj => by
            rcases Nat.lt_or_ge j k with h | h
            · exact hp.out j h
            · have : j = k := by omega
              rw [this, HKX.out, HKY.out]
              exact HE.out⟩
          case measure => simp [intOf]; omega
      · have : k = n := by omega
        subst this
        go_wp2
        go_ret
        exact ⟨ret_b (decide_eq_true (pks_ext (by rw [HN.out, HL.out]) (by rw [HN.out]; exact hp.out))).symm, hB.out⟩
  · refine (packets_len A B ms.length ns.length c d w hl).mono ?_
    rintro x w' ⟨rfl, hb⟩
    exact ⟨ret_b (by rw [eq_comm, decide_eq_false_iff_not]; intro e; exact hl (by simpa using congrArg List.length e)), hb⟩
end Go.Proofs.YtpjlnpnadkbakaaGreat
namespace Go.Proofs.YtpjlnpnadkbakaaGreat
set_option maxRecDepth 10000
open Go.RowKit
def PkSee (w : World) (L : Lab) (v : Value) (qs : List Pkt) : Prop :=
  ∃ (A : Option Addr) (c : Nat) (ns : List PkM), v = .slice A ns.length c ∧ ns.map PkM.p = qs ∧ Pks w A ns ∧ (∀ a, A = some a → a.block < w.heap.size ∧ L a.block = 0) ∧ ∀ m ∈ ns, ∀ a, m.A = some a → a.block < w.heap.size ∧ L a.block = 0
section
variable {w0 w w' : World} {L L' : Lab} {K b n : Nat} {E : En} {S : Nat → Prop}
theorem PktAt.keepT {p : Pkt} {A : Option Addr} {c : Nat} (h : PktAt w p A c) (ht : Tn w w' L L' S) (h0 : ¬ S 0) (hA : ∀ a, A = some a → a.block < w.heap.size ∧ L a.block = 0) : PktAt w' p A c :=
  { h with rd := rd_trn h.rd ht.trn (fun a e => by rw [(hA a e).2]; exact h0) }
theorem PkSee.keep {v : Value} {qs : List Pkt} (h : PkSee w L v qs) (ht : Tn w w' L L' S) (h0 : ¬ S 0) : PkSee w' L' v qs := by
  obtain ⟨A, c, ns, rfl, h1, h2, h3, h4⟩ := h
  refine ⟨A, c, ns, rfl, h1, ⟨fun m hm => (h2.each m hm).keepT ht h0 (h4 m hm), ?_⟩, fun a e => ⟨Nat.lt_of_lt_of_le (h3 a e).1 ht.size, ht.lab (h3 a e).2 (h3 a e).1⟩, fun m hm a e => ⟨Nat.lt_of_lt_of_le (h4 m hm a e).1 ht.size, ht.lab (h4 m hm a e).2 (h4 m hm a e).1⟩⟩
  rcases h2.lie with h | ⟨g, o, e, h⟩
  · exact .inl h
  · have hg := h3 _ e
    refine .inr ⟨g, o, e, fun i hi => ⟨Nat.lt_of_lt_of_le hg.1 ht.size, fun j u hu => ?_⟩⟩
    have hbk : w'.heap[g]? = w.heap[g]? := ht.block hg.2 h0 hg.1
    have h9 := (h i hi).2 j u hu
    rw [← h9]
    exact World.cell?_of_block hbk
theorem PkSee.nil (w : World) (L : Lab) : PkSee w L (.slice none 0 0) [] := ⟨none, 0, [], rfl, rfl, ⟨by simp, .inl rfl⟩, by simp, by simp⟩
theorem PkSee.lit (w : World) (L : Lab) (ms : List PkM) (hm : ∀ m ∈ ms, PktAt w m.p m.A m.c) (hl : ∀ m ∈ ms, ∀ a, m.A = some a → a.block < w.heap.size ∧ L a.block = 0) :
    PkSee (w.alloc (.cells (pks ms).toArray 32)) (relab L w.heap.size 0) (.slice (some ⟨w.heap.size, 0, none⟩) ms.length ms.length) (ms.map PkM.p) := by
  refine ⟨_, _, ms, rfl, rfl, ⟨fun m hx => (hm m hx).alloc _, .inr ⟨w.heap.size, 0, rfl, fun i hi => ⟨by simp, fun j u hu => ?_⟩⟩⟩, fun a e => ?_, fun m hx a e => ⟨?_, ?_⟩⟩
  · have hj : j < 9 := by
      have := (List.getElem?_eq_some_iff.1 hu).1
      rwa [PkM.cs_len] at this
    refine alloc_rangeE w (pks ms) 32 (0 + i * 9 + j) u ?_ |> fun h => by rw [Nat.zero_add] at h; exact h
    rw [Nat.zero_add, pks_get ms i hi j hj]
    exact hu
  · injection e with e
    subst e
    exact ⟨by simp, relab_new (Nat.le_refl _)⟩
  · have := (hl m hx a e).1
    simp
    omega
  · rw [relab_old (hl m hx a e).1]
    exact (hl m hx a e).2
theorem packets_see {i : Nat} {va vb : Value} {ps qs : List Pkt} (ha : PkLs w L i va ps) (hb : PkSee w L' vb qs) (hm : ps.length ≤ maxLen) :
    Calls Tryz.prog 56 #[va, vb] w fun e w' => e = .returned (.bool (decide (ps = qs))) ∧ Below w.heap.size w w' := by
  obtain ⟨A, c, rfl⟩ := ha.form
  obtain ⟨ms, rfl, ha⟩ := ha
  obtain ⟨B, d, ns, rfl, rfl, h2, _, _⟩ := hb
  rw [List.length_map] at ha hm
  have := packets_any ms ns A B c d w ha.toPks.2 h2 hm
  simpa only [List.length_map] using this
theorem EV.said (h : EV w0 w L K b E n) (hn : n ≤ 40000) {v : Value} {qs : List Pkt} (hv : PkSee w L v qs) (hl : E.out.length ≤ maxLen) {r : Bool} (hr : decide (E.out = qs) = r) :
    Calls Tryz.prog 19 #[.pointer (some ⟨b, 0, none⟩), v] w (EvA w0 w L K b E.taken n (.bool r)) := by
  subst hr
  obtain ⟨A, k, c, hvf⟩ : ∃ A k c, v = .slice A k c := by
    obtain ⟨A, c, ns, h, _⟩ := hv
    exact ⟨A, _, c, h⟩
  subst hvf
  have HX := Lib.hid h
  have HV := Lib.hid hv
  have HL := Lib.hid hl
  obtain ⟨ps, hps⟩ : ∃ ps, E.out = ps := ⟨_, rfl⟩
  have HT := Lib.hid (h.take hn hps rfl)
  have HE := Lib.hid hps
  clear h hv hl hps
  go_enter Tryz.func19, Tryz.ntmps19
  go_wp2_with fail
  refine HT.out.mono ?_
  rintro e w2 ⟨A2, c2, L2, rfl, hls, hx, ht⟩
  have h0 := hx.relab0
  have HP := Lib.hid (packets_see hls (HV.out.keep ht h0) (by rw [← HE.out]; exact HL.out))
  have HX2 := Lib.hid (And.intro hx ht)
  clear HT hls hx ht h0 HV HX
  go_wp2_with fail
  refine HP.out.mono ?_
  rintro e w3 ⟨rfl, hb⟩
  have HF := Lib.hid (show EvA w0 w L K b E.taken n (.bool (decide (E.out = qs))) (.returned (.bool (decide (ps = qs)))) w3 from ⟨by rw [HE.out], _, HX2.out.1.later hb, HX2.out.2.trans (Tn.of_below hb L2 0 (Es K))⟩)
  clear hb HP HX2
  go_wp2
  go_ret
  exact HF.out
theorem EV.saidLit (h : EV w0 w L K b E n) (hn : n ≤ 40000) (ms : List PkM) (hm : ∀ m ∈ ms, PktAt w m.p m.A m.c) (hla : ∀ m ∈ ms, ∀ a, m.A = some a → a.block < w.heap.size ∧ L a.block = 0) {cs : Array Value} {m q : Nat} (hcs : cs = (pks ms).toArray) (hq : w.heap.size = q) (hml : ms.length = m) (hl : E.out.length ≤ maxLen) {r : Bool} (hr : decide (E.out = ms.map PkM.p) = r) :
    Calls Tryz.prog 19 #[.pointer (some ⟨b, 0, none⟩), .slice (some ⟨q, 0, none⟩) m m] (w.alloc (.cells cs 32)) (EvA w0 w L K b E.taken n (.bool r)) := by
  subst hcs; subst hq; subst hml
  have hb := (Below.refl w.heap.size w).alloc (Nat.le_refl _) (.cells (pks ms).toArray 32)
  refine ((h.later hb).said hn (PkSee.lit w L ms hm hla) hl hr).mono ?_
  rintro e w' ⟨rfl, L', h1, h2⟩
  exact ⟨rfl, L', h1, (Tn.of_below hb L 0 (Es K)).trans h2⟩
theorem EV.saidNil (h : EV w0 w L K b E n) (hn : n ≤ 40000) {r : Bool} (hl : E.out.length ≤ maxLen) (hr : decide (E.out = []) = r) :
    Calls Tryz.prog 19 #[.pointer (some ⟨b, 0, none⟩), .slice none 0 0] w (EvA w0 w L K b E.taken n (.bool r)) := h.said hn (PkSee.nil w L) hl hr
end
end Go.Proofs.YtpjlnpnadkbakaaGreat
namespace Go.Proofs.YtpjlnpnadkbakaaGreat
set_option maxRecDepth 10000
open Go.RowKit
def joinP : Pkt := ⟨1, 0, 0, 0, 0, [], false, 0, 0⟩
def joinedP : Pkt := ⟨2, 0, 0, 0, 0, [], false, 0, 0⟩
noncomputable def upE (c : Cg) : En := (((En.new c 0).up 0).taken.come joinedP).taken
theorem pktAt_plain (w : World) (k pa nu ofn fr se li : Int) (h : ∀ x ∈ [k, pa, nu, ofn, fr, se, li], -9223372036854775808 ≤ x ∧ x ≤ 9223372036854775807) : PktAt w ⟨k, pa, nu, ofn, fr, [], false, se, li⟩ none 0 :=
  ⟨.inl rfl, by simp, by simp, fun _ => rfl, by simp, h k (by simp), h pa (by simp), h nu (by simp), h ofn (by simp), h fr (by simp), h se (by simp), h li (by simp)⟩
theorem pkB_plain (k pa nu ofn fr se li : Int) (h : ∀ x ∈ [k, pa, nu, ofn, fr, se, li], -4611686018427387904 ≤ x ∧ x ≤ 4611686018427387904) : PkB ⟨k, pa, nu, ofn, fr, [], false, se, li⟩ := by
  have h1 := h k (by simp); have h2 := h pa (by simp); have h3 := h nu (by simp); have h4 := h ofn (by simp); have h5 := h fr (by simp); have h6 := h se (by simp); have h7 := h li (by simp)
  exact ⟨by simp, by simp, by simp only; omega, by simp only; omega, by simp only; omega, by simp only; omega, by simp only; omega, by simp only; omega, by simp only; omega⟩
theorem join_at (w : World) (B : Option Addr) (d : Nat) (h : PktAt w joinP B d) : PktAt w joinP B d := h
set_option maxHeartbeats 4000000 in
theorem up_any {w0 : World} (n : Nat) (buf win chk most first sched : Int) (w : World) (L : Lab) (K : Nat) (hK : K ≠ 0) (hb0 : Below w0.heap.size w0 w) (hok : Cg.ok ⟨(n : Int), buf, win, chk, most, first, sched⟩ = true) (hL : ∀ k, k < w.heap.size → ¬ Es K (L k))
    (r1 : (En.new ⟨(n : Int), buf, win, chk, most, first, sched⟩ 0).mayU 0 = true) (r2 : ((En.new ⟨(n : Int), buf, win, chk, most, first, sched⟩ 0).up 0).out = [joinP]) (r3 : ((En.new ⟨(n : Int), buf, win, chk, most, first, sched⟩ 0).up 0).taken.mayC joinedP = true) (r4 : (((En.new ⟨(n : Int), buf, win, chk, most, first, sched⟩ 0).up 0).taken.come joinedP).out = []) :
    Calls Tryz.prog 16 #[.agg #[.int .i64 (n : Int), .int .i64 buf, .int .i64 win, .int .i64 chk, .int .i64 most, .int .i64 first, .int .i64 sched]] w fun e w' => ∃ b L', e = .returned (.tuple #[.pointer (some ⟨b, 0, none⟩), .bool true]) ∧ EV w0 w' L' K b (upE ⟨(n : Int), buf, win, chk, most, first, sched⟩) 2 ∧ Tn w w' L L' No := by
  obtain ⟨w1, hw1⟩ : ∃ w1, w.alloc (.cells #[.int .i64 (n : Int), .int .i64 buf, .int .i64 win, .int .i64 chk, .int .i64 most, .int .i64 first, .int .i64 sched] 26) = w1 := ⟨_, rfl⟩
  have hr0 : w1.rangeAt w.heap.size 0 [.int .i64 (n : Int), .int .i64 buf, .int .i64 win, .int .i64 chk, .int .i64 most, .int .i64 first, .int .i64 sched] := by rw [← hw1]; exact alloc_rangeE w [.int .i64 (n : Int), .int .i64 buf, .int .i64 win, .int .i64 chk, .int .i64 most, .int .i64 first, .int .i64 sched] _
  have hb1 : Below w.heap.size w w1 := by rw [← hw1]; exact (Below.refl _ _).alloc (Nat.le_refl _) _
  have z0 : w1.cell? ⟨w.heap.size, 0, none⟩ = some (.int .i64 (n : Int)) := hr0 0 _ rfl
  have z1 : w1.cell? ⟨w.heap.size, 0 + 1, none⟩ = some (.int .i64 buf) := hr0 1 _ rfl
  have z2 : w1.cell? ⟨w.heap.size, 0 + 2, none⟩ = some (.int .i64 win) := hr0 2 _ rfl
  have z3 : w1.cell? ⟨w.heap.size, 0 + 3, none⟩ = some (.int .i64 chk) := hr0 3 _ rfl
  have z4 : w1.cell? ⟨w.heap.size, 0 + 4, none⟩ = some (.int .i64 most) := hr0 4 _ rfl
  have z5 : w1.cell? ⟨w.heap.size, 0 + 5, none⟩ = some (.int .i64 first) := hr0 5 _ rfl
  have z6 : w1.cell? ⟨w.heap.size, 0 + 6, none⟩ = some (.int .i64 sched) := hr0 6 _ rfl
  have ht1 : Tn w w1 L (relab L w.heap.size 0) No := Tn.of_below hb1 L 0 No
  have hL1 : ∀ k, k < w1.heap.size → ¬ Es K (relab L w.heap.size 0 k) := fun k _ => by
    by_cases h : k < w.heap.size
    · rw [relab_old h]; exact hL k h
    · rw [relab_new (by omega)]; unfold Es; omega
  have HNEW := Lib.hid (ev_new (w0 := w0) w1 K n hK buf win chk most first sched 0 (hb0.trans (hb1.mono hb0.size)) hok (.inl rfl) (relab L w.heap.size 0) hL1)
  have HT := Lib.hid (And.intro ht1 hL)
  have HR3 := Lib.hid r3
  have HR4 := Lib.hid r4
  clear hr0 hb1 ht1 hL1 hL hb0 hok hK r3 r4
  go_enter Tryz.func16, Tryz.ntmps16
  go_wp2_with fail
  try rw [hw1]
  clear z0 z1 z2 z3 z4 z5 z6
  refine HNEW.out.mono ?_
  rintro e w2 ⟨b, L2, rfl, hx, ht⟩
  have HX := Lib.hid (And.intro hx (HT.out.1.trans ht))
  clear hx ht HNEW hw1
  go_wp2_with fail
  refine (HX.out.1.up (by omega) 0 r1).mono ?_
  rintro e w3 ⟨rfl, L3, hx, ht⟩
  have HY := Lib.hid (And.intro hx (Tn.no HX.out.2 ht HT.out.2))
  clear hx ht HX r1
  go_wp2_with fail
  refine (HY.out.1.take (by omega) (m := 1) r2 rfl).mono ?_
  rintro e w4 ⟨A4, c4, L4, rfl, hls, hx, ht⟩
  obtain ⟨g, rfl, hg, hLg, hat⟩ := hls.look rfl (by omega)
  obtain ⟨B, d, hr, hpa, -, -⟩ := hat 0 (by omega)
  have y0 : w4.cell? ⟨g, 0, none⟩ = some (.int .i64 1) := hr 0 _ rfl
  have y1 : w4.cell? ⟨g, 0 + 1, none⟩ = some (.int .i64 0) := hr 1 _ rfl
  have y2 : w4.cell? ⟨g, 0 + 2, none⟩ = some (.int .i64 0) := hr 2 _ rfl
  have y3 : w4.cell? ⟨g, 0 + 3, none⟩ = some (.int .i64 0) := hr 3 _ rfl
  have y4 : w4.cell? ⟨g, 0 + 4, none⟩ = some (.int .i64 0) := hr 4 _ rfl
  have y5 : w4.cell? ⟨g, 0 + 5, none⟩ = some (.slice B 0 d) := hr 5 _ rfl
  have y6 : w4.cell? ⟨g, 0 + 6, none⟩ = some (.bool false) := hr 6 _ rfl
  have y7 : w4.cell? ⟨g, 0 + 7, none⟩ = some (.int .i64 0) := hr 7 _ rfl
  have y8 : w4.cell? ⟨g, 0 + 8, none⟩ = some (.int .i64 0) := hr 8 _ rfl
  have HSM := Lib.hid (show Calls Tryz.prog 63 #[.agg #[.int .i64 1, .int .i64 0, .int .i64 0, .int .i64 0, .int .i64 0, .slice B 0 d, .bool false, .int .i64 0, .int .i64 0], .agg #[.int .i64 1, .int .i64 0, .int .i64 0, .int .i64 0, .int .i64 0, .slice none 0 0, .bool false, .int .i64 0, .int .i64 0]] w4 fun e w' => e = .returned (.bool true) ∧ Below w4.heap.size w4 w' from refSame_any joinP joinP B none d 0 w4 hpa (pktAt_plain w4 1 0 0 0 0 0 0 (by decide)))
  have HX := Lib.hid (And.intro hx (Tn.no HY.out.2 ht HT.out.2))
  clear hx ht HY r2 hls hat hr hpa hLg hg
  go_wp2_with fail
  refine HSM.out.mono ?_
  rintro e w5 ⟨rfl, hb⟩
  have HY := Lib.hid (And.intro (HX.out.1.later hb) (Tn.no HX.out.2 (Tn.of_below hb L4 0 No) (fun _ _ => id)))
  clear hb HX HSM y0 y1 y2 y3 y4 y5 y6 y7 y8
  have HCM := Lib.hid (show Calls Tryz.prog 22 #[.pointer (some ⟨b, 0, none⟩), .agg #[.int .i64 2, .int .i64 0, .int .i64 0, .int .i64 0, .int .i64 0, .slice none 0 0, .bool false, .int .i64 0, .int .i64 0]] w5 _ from HY.out.1.come (by omega) joinedP none 0 (pktAt_plain w5 2 0 0 0 0 0 0 (by decide)) (fun a e => by cases e) (pkB_plain 2 0 0 0 0 0 0 (by decide)) HR3.out)
  go_wp2_with fail
  refine HCM.out.mono ?_
  rintro e w6 ⟨rfl, L6, hx, ht⟩
  have HX := Lib.hid (And.intro hx (Tn.no HY.out.2 ht HT.out.2))
  clear hx ht HY HCM
  go_wp2_with fail
  refine (HX.out.1.take (by omega) (m := 0) HR4.out rfl).mono ?_
  rintro e w7 ⟨A7, c7, L7, rfl, hls, hx, ht⟩
  have HFIN := Lib.hid (And.intro hx (Tn.no HX.out.2 ht HT.out.2))
  clear hx ht HX hls
  go_wp2
  go_ret2
  exact ⟨b, L7, rfl, HFIN.out.1, HFIN.out.2⟩
end Go.Proofs.YtpjlnpnadkbakaaGreat
namespace Go.Proofs.YtpjlnpnadkbakaaGreat
set_option maxRecDepth 10000
open Go.RowKit
def sb (s : ByteArray) : List Int := s.data.toList.map fun b => (b.toNat : Int)
theorem sb_len (s : ByteArray) : (sb s).length = s.size := by unfold sb; rw [List.length_map, Array.length_toList]; rfl
theorem sb_byte (s : ByteArray) : ∀ x ∈ sb s, 0 ≤ x ∧ x < 256 := fun x hx => by
  simp only [sb, List.mem_map] at hx
  obtain ⟨b, _, rfl⟩ := hx
  have := b.toNat_lt
  omega
theorem rd_bytesWorld (w : World) (e : TypeId) (s : ByteArray) : Rd .u8 (Lib.bytesWorld w e s) (some ⟨w.heap.size, 0, none⟩) (sb s) := by
  refine .inr ⟨_, _, rfl, fun i hi => ?_⟩
  rw [sb_len] at hi
  rw [Nat.zero_add, Lib.bytesWorld_cell w e s i hi]
  have hi2 : i < s.data.toList.length := by rw [Array.length_toList]; exact hi
  have e1 : (sb s).getD i 0 = ((s.data.toList.getD i 0).toNat : Int) := by
    unfold sb
    rw [List.getD_eq_getElem?_getD, List.getElem?_map, List.getElem?_eq_getElem hi2, List.getD_eq_getElem?_getD, List.getElem?_eq_getElem hi2]
    rfl
  rw [e1]
theorem below_bytesWorld (w : World) (e : TypeId) (s : ByteArray) : Below w.heap.size w (Lib.bytesWorld w e s) :=
  ⟨rfl, rfl, rfl, by rw [Lib.bytesWorld_size]; omega, fun j hj => Lib.bytesWorld_at_old w e s j hj⟩
theorem PkV.resP {w : World} {q : Nat} {p : Pkt} {A : Option Addr} {c : Nat} (h : PkV w q p A c) (p' : Pkt) (A' : Option Addr) (c' : Nat) :
    (loadVar 32 ⟨q, 0, none⟩).run Tryz.prog (w.setCells q 0 (p'.cs A' c')) = .ok (p'.val A' c') (w.setCells q 0 (p'.cs A' c')) :=
  run_loadVar_mid _ q 0 32 (p'.cs A' c') _ (World.rangeAt_setCells_same w q 0 (p'.cs A' c') h.there) Tryz.underlying32 rfl (by kernel_rfl)
def PkStr (w : World) (p : Pkt) (e : Ending) (w' : World) : Prop := ∃ q c, e = .returned (p.val (some ⟨q, 0, none⟩) c) ∧ w.heap.size ≤ q ∧ q < w'.heap.size ∧ p.da.length ≤ c ∧ Rd .u8 w' (some ⟨q, 0, none⟩) p.da ∧ Below w.heap.size w w'
theorem data_any (num fr : Int) (s : ByteArray) (fin : Bool) (w : World) :
    Calls Tryz.prog 20 #[.int .i64 num, .int .i64 fr, .string s, .bool fin] w (PkStr w ⟨3, 0, num, 0, fr, sb s, fin, 0, 0⟩) := by
  have hcv := fun W : World => Lib.run_convert_string_bytes (P := Tryz.prog) W 9 29 5 s Tryz.underlying9 Tryz.underlying29 Tryz.underlying5
  simp only [← sb_len s] at hcv
  have hv0 := PkV.new w Pkt.zero none 0
  have hb0 : Below w.heap.size w (w.alloc (.cells (Pkt.zero.cs none 0).toArray 32)) := (Below.refl _ _).alloc (Nat.le_refl _) _
  change PkV (w.alloc (.cells #[.int .i64 0, .int .i64 0, .int .i64 0, .int .i64 0, .int .i64 0, .slice none 0 0, .bool false, .int .i64 0, .int .i64 0] 32)) _ _ _ _ at hv0
  change Below _ _ (w.alloc (.cells #[.int .i64 0, .int .i64 0, .int .i64 0, .int .i64 0, .int .i64 0, .slice none 0 0, .bool false, .int .i64 0, .int .i64 0] 32)) at hb0
  have hz : (w.alloc (.cells #[.int .i64 0, .int .i64 0, .int .i64 0, .int .i64 0, .int .i64 0, .slice none 0 0, .bool false, .int .i64 0, .int .i64 0] 32)).heap.size = w.heap.size + 1 := by simp
  obtain ⟨w1, hw1⟩ : ∃ w1, w.alloc (.cells #[.int .i64 0, .int .i64 0, .int .i64 0, .int .i64 0, .int .i64 0, .slice none 0 0, .bool false, .int .i64 0, .int .i64 0] 32) = w1 := ⟨_, rfl⟩
  rw [hw1] at hv0 hb0 hz
  have hb2 := below_bytesWorld w1 5 s
  have hv2 := hv0.later hb2
  have hr2 := rd_bytesWorld w1 5 s
  have hsz := Lib.bytesWorld_size w1 5 s
  rw [hz] at hr2 hsz
  have hB := hb0.trans (hb2.mono hb0.size)
  have hcap : (sb s).length ≤ grownCap w1 (sb s).length 0 5 := grownCap_ge _ _ _ _
  have fz := hv2.fr
  obtain ⟨x0, x1, x2, x3, x4, x5, x6, x7, x8⟩ := hv2.cells
  simp only [Pkt.zero, List.length_nil] at x0 x1 x2 x3 x4 x5 x6 x7 x8
  have HQ := Lib.hid (And.intro hv2 (And.intro hr2 (And.intro hB (And.intro hsz hcap))))
  clear hv0 hb0 hb2 hv2 hr2 hB hsz hcap
  go_enter Tryz.func20, Tryz.ntmps20
  go_wp2_with fail
  obtain ⟨hv2, hr2, hB, hsz, hcap⟩ := HQ.out
  have hg := setCells_one w.heap.size ((⟨3, 0, num, 0, fr, sb s, fin, 0, 0⟩ : Pkt).cs (some ⟨w.heap.size + 1, 0, none⟩) (grownCap w1 (sb s).length 0 5)) 0 (Lib.bytesWorld w1 5 s)
  have h9 := hv2.resP ⟨3, 0, num, 0, fr, sb s, fin, 0, 0⟩ (some ⟨w.heap.size + 1, 0, none⟩) (grownCap w1 (sb s).length 0 5)
  change bodyPost _ _ _ _ _ ((Lib.bytesWorld w1 5 s).setCells w.heap.size 0 ((⟨3, 0, num, 0, fr, sb s, fin, 0, 0⟩ : Pkt).cs (some ⟨w.heap.size + 1, 0, none⟩) (grownCap w1 (sb s).length 0 5)))
  refine bodyPost_ret (v := (⟨3, 0, num, 0, fr, sb s, fin, 0, 0⟩ : Pkt).val (some ⟨w.heap.size + 1, 0, none⟩) (grownCap w1 (sb s).length 0 5)) ?_ rfl ⟨w.heap.size + 1, _, rfl, by omega, Nat.lt_of_lt_of_le (by omega) hg.size, hcap, rd_trn hr2 (Trn.of_grown hg) (fun a e e2 => by injection e with e; subst e; have := Option.some.inj e2; simp at this), hB.grown hg hB.size (by intro g e; simp at e; omega)⟩
  clear x0 x1 x2 x3 x4 x5 x6 x7 x8 fz
  simp [results, Tryz.results20, asAddr, h9]
theorem lack_any (of seen limit : Int) (w : World) : Calls Tryz.prog 23 #[.int .i64 of, .int .i64 seen, .int .i64 limit] w fun e w' => e = .returned (.agg #[.int .i64 4, .int .i64 0, .int .i64 0, .int .i64 of, .int .i64 0, .slice none 0 0, .bool false, .int .i64 seen, .int .i64 limit]) ∧ Below w.heap.size w w' := by
  go_enter Tryz.func23, Tryz.ntmps23
  go_wp2_with fail
  refine bodyPost_ret (v := .agg #[.int .i64 4, .int .i64 0, .int .i64 0, .int .i64 of, .int .i64 0, .slice none 0 0, .bool false, .int .i64 seen, .int .i64 limit]) ?_ rfl ⟨rfl, (Below.refl _ _).alloc (Nat.le_refl _) _⟩
  simp [results, Tryz.results23, go_sem]
end Go.Proofs.YtpjlnpnadkbakaaGreat

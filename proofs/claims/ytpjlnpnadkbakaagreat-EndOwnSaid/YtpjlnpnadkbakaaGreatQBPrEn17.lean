/-
  PrEn17 · EnCalls · PrEv · PrLaw.
-/
import Derived.Test.YtpjlnpnadkbakaaGreatQBPrEn14
import Derived.Deep.CutBlock
import Derived.Test.YtpjlnpnadkbakaaGreatQBFresh
import Derived.Test.YtpjlnpnadkbakaaGreatQBPrEn16
import Derived.Test.YtpjlnpnadkbakaaGreatQBPrEn15
import Derived.Lib.SlBytesConst
namespace Go.Proofs.YtpjlnpnadkbakaaGreat
set_option maxRecDepth 10000
open Go.RowKit
theorem run_make12 (n : Nat) (hn : n ≤ 274877906944) : ∃ zs : Array Value, zs.size = n * 12 ∧ ∀ w, (Instr.makeSlice 51 (.int .i64 (n : Int)) (.int .i64 (n : Int))).run Tryz.prog w = .ok (.slice (some ⟨w.heap.size, 0, none⟩) n n) (w.alloc (.cells zs 88)) := by
  obtain ⟨i, hi, hz0, hz2, hz3⟩ := info_parts info_ev
  refine ⟨madeCells (Ev.zero.val none 0 none 0).cells (n * 12), size_madeCells _ _, fun w => ?_⟩
  have hr := run_make (P := Tryz.prog) w 51 88 i _ Tryz.underlying51 hi hz0 .i64 .i64 (n : Int) (n : Int) (by omega) (Int.le_refl _) (by rw [hz3]; omega) (by omega)
  rw [hz2, Int.toNat_natCast] at hr
  exact hr
theorem rowIs_cells (b : Nat) (t : TypeId) (n : Nat) : ∀ (vs : List Value) (o : Nat) (w : World) (f : Nat → Value), w.rowIs b t n f → ∃ f', (w.setCells b o vs).rowIs b t n f' ∧ (∀ j, j < o ∨ o + vs.length ≤ j → f' j = f j) ∧ ∀ j u, vs[j]? = some u → f' (o + j) = u
  | [], o, w, f, h => ⟨f, h, fun _ _ => rfl, fun j u hu => by simp at hu⟩
  | v :: r, o, w, f, h => by
    obtain ⟨f', h1, h2, h3⟩ := rowIs_cells b t n r (o + 1) (w.setCell ⟨b, o, none⟩ v) _ (World.rowIs.set h o v)
    refine ⟨f', h1, fun j hj => ?_, fun j u hu => ?_⟩
    · rw [List.length_cons] at hj
      rw [h2 j (by omega), if_neg (by omega)]
    · cases j with
      | zero =>
        simp at hu
        rw [Nat.add_zero, h2 o (by omega), if_pos rfl, hu]
      | succ j => rw [show o + (j + 1) = o + 1 + j by omega]; exact h3 j u (by simpa using hu)
theorem evRow_of {w : World} {B g n : Nat} {f : Nat → Value} {ks : List EvM} (h : w.rowIs g 88 (n * 12) f) (hn : ks.length = n) (hm : n ≤ 274877906944) (hf : ∀ p, p < n * 12 → (evs ks)[p]? = some (f p)) (hB : B ≤ g) (he : ∀ m ∈ ks, m.own w B) : EvRow w B (.slice (some ⟨g, 0, none⟩) n n) ks := by
  subst hn
  obtain ⟨c, hb, hc, hcc⟩ := h
  refine ⟨⟨evs_len ks, .inr ⟨g, ks.length, c, rfl, hB, hb, Nat.le_refl _, by unfold maxLen; omega, hc, ?_⟩⟩, he⟩
  apply List.ext_getElem?
  intro p
  rw [List.take_of_length_le (by rw [Array.length_toList]; omega), Array.getElem?_toList]
  by_cases hp : p < ks.length * 12
  · rw [hcc p hp, hf p hp]
  · rw [List.getElem?_eq_none (by rw [evs_len]; omega), Array.getElem?_eq_none (by omega)]
theorem own_not_evrow {w : World} {B0 g n : Nat} {v : Value} {ys : List Int} {f : Nat → Value} (h : Own .u8 5 w B0 v ys) (hr : w.rowIs g 88 n f) : v.ownBlock = none ∨ v.ownBlock ≠ some g := own_not_row8 h (by decide) hr
theorem evs_take {es : List Ev} {ks : List EvM} {j : Nat} {x : Ev} (h : ks.map EvM.e = es.take j) (hx : es[j]? = some x) (m : EvM) (hm : m.e = x) : (ks ++ [m]).map EvM.e = es.take (j + 1) := by
  obtain ⟨hlt, hx⟩ := List.getElem?_eq_some_iff.1 hx
  rw [List.take_succ_eq_append_getElem hlt, List.map_append, h, hx, ← hm]
  rfl
structure EvHalf (wr : World) (B g n : Nat) (es : List Ev) (j : Nat) (ks : List EvM) (F : Nat → Value) : Prop where
  map : ks.map EvM.e = es.take j
  len : ks.length = j
  row : wr.rowIs g 88 (n * 12) F
  cel : ∀ p, p < j * 12 → (evs ks)[p]? = some (F p)
  own : ∀ m ∈ ks, m.own wr B
theorem EvHalf.later {w w' : World} {B g n j : Nat} {es : List Ev} {ks : List EvM} {F : Nat → Value} (h : EvHalf w B g n es j ks F) (hb : Below w.heap.size w w') : EvHalf w' B g n es j ks F :=
  ⟨h.map, h.len, World.rowIs.of_block h.row (hb.block g (World.rowIs.lt h.row)), h.cel, fun m hm => (h.own m hm).later hb⟩
theorem EvHalf.put {w : World} {B g n j : Nat} {es : List Ev} {ks : List EvM} {F : Nat → Value} (h : EvHalf w B g n es j ks F) {m : EvM} (hm : m.own w B) (hx : es[j]? = some m.e) : ∃ F', EvHalf (w.setCells g (j * 12) m.cs) B g n es (j + 1) (ks ++ [m]) F' := by
  obtain ⟨F', h1, h2, h3⟩ := rowIs_cells g 88 (n * 12) m.cs (j * 12) w F h.row
  have hg := setCells_one g m.cs (j * 12) w
  refine ⟨F', evs_take h.map hx m rfl, by rw [List.length_append, h.len]; rfl, h1, fun p hp => ?_, fun k hk => ?_⟩
  · rw [evs_app]
    by_cases hp1 : p < j * 12
    · rw [List.getElem?_append_left (by rw [evs_len, h.len]; exact hp1), h.cel p hp1, h2 p (.inl hp1)]
    · rw [List.getElem?_append_right (by rw [evs_len, h.len]; omega), evs_len, h.len]
      have hlt : p - j * 12 < m.cs.length := by rw [EvM.cs_len]; omega
      have e9 : evs [m] = m.cs := by simp [evs]
      rw [e9, List.getElem?_eq_getElem hlt]
      have := h3 (p - j * 12) _ (List.getElem?_eq_getElem hlt)
      rw [show j * 12 + (p - j * 12) = p by omega] at this
      rw [this]
  · have hk' : k.own w B := by
      rcases List.mem_append.1 hk with hk | hk
      · exact h.own k hk
      · simp at hk
        subst hk
        exact hm
    exact ⟨hk'.bd, hk'.o1.kept hg (own_not_evrow hk'.o1 h.row), hk'.o2.kept hg (own_not_evrow hk'.o2 h.row)⟩
def EeEv (w : World) (E : En) (e : Ending) (w' : World) : Prop := ∃ (ms : List EvM) (v : Value), e = .returned v ∧ ms.map EvM.e = E.ev ∧ EvRow w' w.heap.size v ms ∧ Below w.heap.size w w'
set_option maxHeartbeats 4000000 in
theorem eeevents_any {w : World} {L : Lab} {K b : Nat} {s : EeS} {E : En} (h : EE w L K b s E) {N : Nat} (hc : E.cap N) (hN : N ≤ 274877906944) :
    Calls Tryz.prog 37 #[.pointer (some ⟨b, 0, none⟩)] w (EeEv w E) := by
  obtain ⟨q, h⟩ := h
  obtain ⟨n, hn⟩ : ∃ n, E.ev.length = n := ⟨_, rfl⟩
  have hnN : n ≤ 274877906944 := by have := hc.ev; omega
  obtain ⟨ms, Ae, ce, hme, hml, hqe, hnc, hlie, hat⟩ := h.evAt hn
  obtain ⟨zs, hzl, hmk⟩ := run_make12 n hnN
  have c16 : w.cell? ⟨b, 0 + 16, none⟩ = some (.slice Ae n ce) := by rw [← hqe]; exact h.cell 16 (by omega)
  obtain ⟨W, hW⟩ : ∃ W, w.alloc (.cells zs 88) = W := ⟨_, rfl⟩
  have hbW : Below w.heap.size w W := by rw [← hW]; exact (Below.refl _ _).alloc (Nat.le_refl _) _
  have hrW : W.rowIs w.heap.size 88 (n * 12) (fun i => zs.getD i undef) := by
    rw [← hW, ← hzl]
    exact World.rowIs_alloc w zs 88 _ (fun i hi => by simp [Array.getD, hi])
  have d16 : W.cell? ⟨b, 0 + 16, none⟩ = some (.slice Ae n ce) := by rw [← hqe]; exact (h.grow hbW 0).cell 16 (by omega)
  have HA := Lib.hid hlie
  have HAT := Lib.hid hat
  have HX := Lib.hid (show ∀ j, j < n → E.ev[j]? = some (ms.getD j default).e from fun j hj => by
    have h1 : E.ev[j]? = (ms.map EvM.e)[j]? := by rw [hme]
    rw [h1, List.getElem?_map, List.getElem?_eq_getElem (by omega)]
    simp [List.getD, show j < ms.length by omega])
  have HN := Lib.hid (And.intro hn hnN)
  have HST := Lib.hid (And.intro hbW (show EvHalf W w.heap.size w.heap.size n E.ev 0 [] _ from ⟨by simp, rfl, hrW, fun p hp => by omega, by simp⟩))
  clear h hc hN hn hnN hme hml hqe hnc hlie hat hzl hbW hrW
  go_enter Tryz.func37, Tryz.ntmps37
  go_wp2_with fail
  try rw [hW]
  clear hmk c16 hW d16
  go_loopw [17] (fun iv wr => ∃ (j : Nat) (ks : List EvM) (F : Nat → Value), j ≤ n ∧ iv = .int .i64 j ∧ Hid (EvHalf wr w.heap.size w.heap.size n E.ev j ks F ∧ Below w.heap.size w wr)) (fun iv _ => n - (intOf iv).toNat)
  case atStart => exact ⟨0, [], _, by omega, rfl, Lib.hid ⟨HST.out.2, HST.out.1⟩⟩
  case round =>
    obtain ⟨j, ks, F, hj, rfl, hmid⟩ := hrel
    by_cases hjm : j < n
    · obtain ⟨hh, hbl⟩ := hmid.out
      have hnn := HN.out
      obtain ⟨g, rfl, hg, hrr⟩ := HA.out.resolve_left (by omega)
      have hr := hrr j hjm
      obtain ⟨x, hx⟩ : ∃ x, ms.getD j default = x := ⟨_, rfl⟩
      obtain ⟨hxa, hxb⟩ := HAT.out j hjm
      have hnx := HX.out j hjm
      rw [hx] at hr hxa hxb hnx
      obtain ⟨x, A, c, B, d⟩ := x
      have hxa : EvAt w x A c B d := hxa
      have hxb : EvB x := hxb
      have hnx : E.ev[j]? = some x := hnx
      have hcs := evIn_of (rangeAt_later hr hbl hg)
      obtain ⟨y0, y1, y2, y3, y4, y5, y6, y7, y8, y9, y10, y11⟩ := hcs
      simp only [] at y0 y1 y2 y3 y4 y5 y6 y7 y8 y9 y10 y11
      have hvz := EvV.new wr Ev.zero none 0 none 0
      obtain ⟨wz, hwz⟩ : ∃ wz, wr.alloc (.cells #[.int .i64 0, .int .i64 0, .slice none 0 0, .int .i64 0, .int .i64 0, .int .i64 0, .int .i64 0, .int .i64 0, .slice none 0 0, .bool false, .int .i64 0, .int .i64 0] 88) = wz := ⟨_, rfl⟩
      rw [show wr.alloc (.cells (Ev.zero.cs none 0 none 0).toArray 88) = wz from hwz] at hvz
      have hbz : Below wr.heap.size wr wz := by rw [← hwz]; exact (Below.refl _ _).alloc (Nat.le_refl _) _
      have hva := hvz.all x A c B d
      obtain ⟨wa, hwa⟩ : ∃ wa, wz.setCells wr.heap.size 0 (x.cs A c B d) = wa := ⟨_, rfl⟩
      rw [hwa] at hva
      have hba : Below wr.heap.size wr wa := by
        rw [← hwa]
        exact hbz.grown (setCells_one wr.heap.size (x.cs A c B d) 0 wz) hbz.size (by intro g e; simp at e; omega)
      obtain ⟨z0, z1, z2, z3, z4, z5, z6, z7, z8, z9, z10, z11⟩ := hvz.cells
      obtain ⟨x0, x1, x2, x3, x4, x5, x6, x7, x8, x9, x10, x11⟩ := hva.cells
      simp only [Nat.zero_add, Ev.zero, Pkt.zero, List.length_nil] at z0 z1 z2 z3 z4 z5 z6 z7 z8 z9 z10 z11
      simp only [Nat.zero_add] at x0 x1 x2 x3 x4 x5 x6 x7 x8 x9 x10 x11
      have fz := hvz.fr
      have hbwa := hbl.trans (hba.mono hbl.size)
      have i1 : (j : Int) < (n : Int) := by omega
      have i2 : (0 : Int) ≤ (j : Int) := by omega
      have HJ := Lib.hid (And.intro hjm (show j ≤ 274877906944 by omega))
      have HIW := Lib.hid (show wrap64 ((j : Int) + 1) = ((j + 1 : Nat) : Int) from wrap_atS (by omega) (by omega) (by omega))
      have HCP := Lib.hid (show Calls Tryz.prog 99 #[.agg #[.int .i64 x.k, .int .i64 x.n, .slice A x.da.length c, .int .i64 x.pk.k, .int .i64 x.pk.pa, .int .i64 x.pk.nu, .int .i64 x.pk.ofn, .int .i64 x.pk.fr, .slice B x.pk.da.length d, .bool x.pk.fin, .int .i64 x.pk.se, .int .i64 x.pk.li]] wa _ from copied_any x A c B d wa (hxa.later (hbwa.mono (Nat.le_refl _))) hxb.len (by have := hxb.pk.len; omega))
      have HR := Lib.hid (And.intro (hh.later hba) (And.intro hbwa (And.intro hxb hnx)))
      clear hnn hg hrr hr hx hxa hxb hnx hvz hbz hva hba hbwa hmid hj hjm hh hbl
      go_upto_region 5 with (fail)
      change Code.wp _ _ _ _ (wz.setCells wr.heap.size 0 (x.cs A c B d))
      rw [hwa]
      clear y0 y1 y2 y3 y4 y5 y6 y7 y8 y9 y10 y11 z0 z1 z2 z3 z4 z5 z6 z7 z8 z9 z10 z11 fz hwa hwz
      go_wp2_with fail
      refine HCP.out.mono ?_
      rintro e w2 ⟨A3, c3, B3, d3, rfl, o1, o2, hb2⟩
      obtain ⟨hh, hbwa, hxb, hnx⟩ := HR.out
      have hbw2 := hbwa.trans (hb2.mono hbwa.size)
      have hh2 := hh.later hb2
      have hpm : (⟨x, A3, c3, B3, d3⟩ : EvM).own w2 w.heap.size := ⟨hxb, o1.less hbwa.size, o2.less hbwa.size⟩
      have hjl : j * 12 + 11 < n * 12 := by have := HJ.out.1; omega
      have ft := World.rowIs.frozen hh2.row
      have v0 := World.rowIs.cell (i := j * 12) hh2.row (by omega)
      have v1 := World.rowIs.cell (i := j * 12 + 1) hh2.row (by omega)
      have v2 := World.rowIs.cell (i := j * 12 + 2) hh2.row (by omega)
      have v3 := World.rowIs.cell (i := j * 12 + 3) hh2.row (by omega)
      have v4 := World.rowIs.cell (i := j * 12 + 4) hh2.row (by omega)
      have v5 := World.rowIs.cell (i := j * 12 + 5) hh2.row (by omega)
      have v6 := World.rowIs.cell (i := j * 12 + 6) hh2.row (by omega)
      have v7 := World.rowIs.cell (i := j * 12 + 7) hh2.row (by omega)
      have v8 := World.rowIs.cell (i := j * 12 + 8) hh2.row (by omega)
      have v9 := World.rowIs.cell (i := j * 12 + 9) hh2.row (by omega)
      have v10 := World.rowIs.cell (i := j * 12 + 10) hh2.row (by omega)
      have v11 := World.rowIs.cell (i := j * 12 + 11) hh2.row (by omega)
      obtain ⟨F2, hput⟩ := hh2.put hpm hnx
      have hgp := setCells_one w.heap.size (⟨x, A3, c3, B3, d3⟩ : EvM).cs (j * 12) w2
      have HREL := Lib.hid (And.intro hput (hbw2.grown hgp hbw2.size (by intro g e; simp at e; omega)))
      clear hh hbwa hxb hnx hbw2 hh2 hpm hput hgp o1 o2 hb2 HR HCP x0 x1 x2 x3 x4 x5 x6 x7 x8 x9 x10 x11 hjl
      go_wp2_with fail
      go_roundw
      case rel => exact ⟨j + 1, _, F2, by have := HJ.out; omega, by first | rfl | rw [HIW.out], HREL⟩
      case measure => (try rw [HIW.out]); have := HJ.out; simp [intOf]; omega
    · have e : j = n := by omega
      subst e
      obtain ⟨hh, hbl⟩ := hmid.out
      have k1 : ¬ ((j : Int) < (j : Int)) := by omega
      have HFIN := Lib.hid (show EeEv w E (.returned (.slice (some ⟨w.heap.size, 0, none⟩) j j)) wr from ⟨ks, _, rfl, by rw [hh.map, List.take_of_length_le (by rw [HN.out.1]; omega)], evRow_of hh.row hh.len HN.out.2 hh.cel (Nat.le_refl _) hh.own, hbl⟩)
      clear hh hbl hmid hj hjm HA HAT HX HST
      go_wp2
      go_ret
      exact HFIN.out
end Go.Proofs.YtpjlnpnadkbakaaGreat
namespace Go.Proofs.YtpjlnpnadkbakaaGreat
set_option maxRecDepth 10000
namespace En
variable {E : En} {N : Nat}
theorem new_fine (f m now s : Int) : (Pa.new f m).fine now s := ⟨Pa.new_ok f m, by simp [Pa.new], by simp [Pa.new]⟩
theorem ok.new {c : Cg} {side : Int} (hn : 1 ≤ c.np ∧ c.np ≤ 3) (hw : 1 ≤ c.win ∧ c.win ≤ 400) (hc : 1 ≤ c.chk ∧ c.chk ≤ 64) (hf : 1 ≤ c.first ∧ c.first ≤ 64) (hs : side = 0 ∨ side = 1) : (En.new c side).ok where
  np1 := by simp [En.new]; omega
  np3 := by simp [En.new]; omega
  npc := by simp [En.new]; omega
  nd := by simp [En.new]
  side := hs
  c1 := hc
  c2 := hf
  n0 := by simp [En.new]
  n1 := by simp [En.new]
  ps := fun P hP => by
    rw [show P = Pa.new c.first c.most from List.eq_of_mem_replicate hP]
    exact new_fine _ _ _ _
  du := fun d hd => by
    rw [show d = 0 from List.eq_of_mem_replicate hd]
    omega
  l0 := by simp [En.new]; omega
  l1 := by simp [En.new]; omega
  o := Ou.new_ok _
  pl := Pl.new_ok
  sp := (Ou.new_ok _ : (Ou.new c.buf).ok) |> fun h => by simp [En.new, Pl.new, Ou.new, Ou.places]
  ap := by simp [En.new, Pl.new, Ou.new]
  i := In.new_ok _
  ib := fun k hk => by simp [En.new, In.new] at hk
  by1 := by simp [En.new, Ou.new]
  by2 := fun k x hk => by simp [En.new, In.new] at hk
  la := by simp [En.new]
theorem cap.new (c : Cg) (side : Int) : (En.new c side).cap 0 := ⟨by simp [En.new], by simp [En.new], fun j => by simp [En.new]⟩
theorem takes_400 (h : E.ok) (ys : List Int) : E.takes ys ≤ 4096 := by
  have h1 := takes_eq h ys
  have h2 := Ou.room_range h.o
  omega
theorem ok.write (h : E.ok) {ys : List Int} (hy : ∀ x ∈ ys, 0 ≤ x ∧ x < 256) : (E.write ys).ok := by
  unfold En.write
  split
  · exact (((h.moreO hy).note _).count _ _).pump
  · exact h.moreO hy
theorem cap.write (hok : E.ok) (h : E.cap N) {ys : List Int} (hy : ∀ x ∈ ys, 0 ≤ x ∧ x < 256) : (E.write ys).cap (N + 5000000) := by
  have hk := takes_400 hok ys
  have hO : (E.setO (E.o.more (ys.take (E.takes ys)))).cap N := h.of_eq rfl rfl rfl
  unfold En.write
  split
  · exact (cap.pump' (((hok.moreO hy).note _).count _ _) ((hO.note _).count 5 (by omega) (Int.le_refl _))).mono (by omega)
  · exact hO.mono (by omega)
theorem ok.close (h : E.ok) : E.close.ok := by
  unfold En.close
  split
  · exact h
  · exact ((h.shutO).note _).pump
theorem cap.close (hok : E.ok) (h : E.cap N) : E.close.cap (N + 5000000) := by
  unfold En.close
  split
  · exact h.mono (by omega)
  · have hC : (E.setO E.o.shut).cap N := h.of_eq rfl rfl rfl
    exact (cap.pump' (hok.shutO.note _) (hC.note _)).mono (by omega)
theorem ok.read (h : E.ok) (n : Int) : (E.read n).ok := by
  unfold En.read
  split
  · exact ((h.readI n).note _).count _ _
  · exact h.readI n
theorem cap.read (hok : E.ok) (h : E.cap N) (n : Int) : (E.read n).cap (N + 5000000) := by
  have h1 := (In.many_le hok.i n).2
  have h2 := ready_le hok
  have hI : (E.setI (E.i.read (E.i.many n))).cap N := h.of_eq rfl rfl rfl
  unfold En.read
  split
  · exact ((hI.note _).count 6 (by omega) (Int.le_refl _)).mono (by omega)
  · exact hI.mono (by omega)
theorem mayU_lt {i : Int} (h : E.mayU i = true) : 0 ≤ i ∧ i.toNat < E.ps.length := by
  unfold mayU there at h
  simp only [Bool.and_eq_true, decide_eq_true_eq] at h
  omega
theorem mayD_lt {i : Int} (h : E.mayD i = true) : 0 ≤ i ∧ i.toNat < E.ps.length := by
  unfold mayD there at h
  simp only [Bool.and_eq_true, decide_eq_true_eq] at h
  omega
theorem ok.up (h : E.ok) (i : Int) : (E.up i).ok := by
  unfold En.up
  split
  · next hm =>
    have hl := mayU_lt hm
    have hF : ((E.note ⟨7, i, [], Pkt.zero⟩).setP i.toNat ((E.pa i.toNat).setUp true)).ok := (h.note _).setP _ ((h.pa hl.2).setUp true)
    dsimp only
    split
    · exact hF.join (by simpa [En.setP, En.note] using hl.2)
    · exact hF.pump
  · exact h
theorem cap.up (hok : E.ok) (h : E.cap N) (i : Int) : (E.up i).cap (N + 5000000) := by
  unfold En.up
  split
  · next hm =>
    have hl := mayU_lt hm
    have hF : ((E.note ⟨7, i, [], Pkt.zero⟩).setP i.toNat ((E.pa i.toNat).setUp true)).ok := (hok.note _).setP _ ((hok.pa hl.2).setUp true)
    have hC : ((E.note ⟨7, i, [], Pkt.zero⟩).setP i.toNat ((E.pa i.toNat).setUp true)).cap (N + 1) := (h.note _).of_eq rfl rfl rfl
    dsimp only
    split
    · exact (hC.join _).mono (by omega)
    · exact (hC.pump' hF).mono (by omega)
  · exact h.mono (by omega)
theorem ok.down (h : E.ok) (i : Int) : (E.down i).ok := by
  unfold En.down
  split
  · next hm =>
    have hl := mayD_lt hm
    exact (((h.note _).setP _ (h.pa hl.2).down).given _).pump
  · exact h
theorem cap.down (hok : E.ok) (h : E.cap N) (i : Int) : (E.down i).cap (N + 5000000) := by
  unfold En.down
  split
  · next hm =>
    have hl := mayD_lt hm
    have hf := hok.pa hl.2
    have h1 := hf.len
    have h2 := hf.ok.s2
    have hC : (((E.note ⟨8, i, [], Pkt.zero⟩).setP i.toNat (E.pa i.toNat).down).given (E.pa i.toNat).fl).cap (N + 1 + (E.pa i.toNat).fl.length) := cap.given _ ((h.note _).of_eq rfl rfl rfl)
    exact (hC.pump' (((hok.note _).setP _ hf.down).given _)).mono (by omega)
  · exact h.mono (by omega)
theorem mayT_le {now : Int} (h : E.mayT now = true) : E.now < now ∧ now ≤ 1048576 := by
  unfold mayT at h
  simpa using h
theorem ok.tick (h : E.ok) (now : Int) : (E.tick now).ok := by
  unfold En.tick
  split
  · next hm =>
    have hl := mayT_le hm
    exact ((((h.setNow (by omega) hl.2).note _).tickN _ (Nat.le_refl _)).pump).probe
  · exact h
theorem cap.tick (hok : E.ok) (h : E.cap N) (now : Int) : (E.tick now).cap (N + 5000000) := by
  unfold En.tick
  split
  · next hm =>
    have hl := mayT_le hm
    have h1 := ((hok.setNow (now := now) (by omega) hl.2).note ⟨3, now, [], Pkt.zero⟩)
    have hC0 : (E.setNow now).cap N := h.of_eq rfl rfl rfl
    have hC : ((E.setNow now).note ⟨3, now, [], Pkt.zero⟩).cap (N + 1) := hC0.note _
    have h2 := h1.tickN _ (Nat.le_refl _)
    have hC2 := hC.tickN h1 _ (Nat.le_refl _)
    have hn : ((E.setNow now).note ⟨3, now, [], Pkt.zero⟩).ps.length ≤ 3 := h1.np3
    exact ((hC2.pump' h2).probe h2.pump).mono (by
      have : 1048642 * ((E.setNow now).note ⟨3, now, [], Pkt.zero⟩).ps.length ≤ 1048642 * 3 := Nat.mul_le_mul_left _ hn
      have e : ((E.setNow now).note ⟨3, now, [], Pkt.zero⟩).ps.length = E.ps.length := rfl
      omega)
  · exact h.mono (by omega)
theorem ok.taken (h : E.ok) : E.taken.ok := { h with }
theorem cap.taken (h : E.cap N) : E.taken.cap N := ⟨h.ev, Nat.zero_le _, h.m⟩
end En
end Go.Proofs.YtpjlnpnadkbakaaGreat
namespace Go.Proofs.YtpjlnpnadkbakaaGreat
set_option maxRecDepth 10000
open Go.RowKit
theorem Below.of_trn {w0 w w' : World} {F : Nat → Prop} (hb : Below w0.heap.size w0 w) (h : Trn w w' F) (hF : ∀ k, k < w0.heap.size → ¬ F k) : Below w0.heap.size w0 w' :=
  ⟨h.os.trans hb.os, h.tape.trans hb.tape, h.output.trans hb.output, Nat.le_trans hb.size h.size, fun k hk => (h.block k (Nat.lt_of_lt_of_le hk hb.size) (hF k hk)).trans (hb.block k hk)⟩
structure EV (w0 w : World) (L : Lab) (K b : Nat) (E : En) (n : Nat) : Prop where
  ee : ∃ s, EE w L K b s E
  k0 : K ≠ 0
  ok : E.ok
  cap : E.cap (n * 5000000)
  low : ∀ k, k < w0.heap.size → ¬ Es K (L k)
  bel : Below w0.heap.size w0 w
section
variable {w0 w w' : World} {L L' : Lab} {K b n : Nat} {E : En}
theorem EV.turn {E' : En} {n' : Nat} (h : EV w0 w L K b E n) {s : EeS} (he : EE w' L' K b s E') (ht : Tn w w' L L' (Es K)) (hok : E'.ok) (hc : E'.cap (n' * 5000000)) : EV w0 w' L' K b E' n' :=
  ⟨⟨s, he⟩, h.k0, hok, hc, fun k hk => by rw [ht.old k (Nat.lt_of_lt_of_le hk h.bel.size)]; exact h.low k hk, Below.of_trn h.bel ht.trn (fun k hk => h.low k hk)⟩
theorem EV.keep {S : Nat → Prop} (h : EV w0 w L K b E n) (ht : Tn w w' L L' S) (h1 : ∀ x, Es K x → ¬ S x) (h0 : ¬ S 0) (hS : ∀ k, k < w0.heap.size → ¬ S (L k)) : EV w0 w' L' K b E n := by
  obtain ⟨s, he⟩ := h.ee
  exact ⟨⟨s, he.keep ht h1 h0⟩, h.k0, h.ok, h.cap, fun k hk => by rw [ht.old k (Nat.lt_of_lt_of_le hk h.bel.size)]; exact h.low k hk, Below.of_trn h.bel ht.trn (fun k hk => hS k hk)⟩
theorem EV.later (h : EV w0 w L K b E n) (hb : Below w.heap.size w w') : EV w0 w' (relab L w.heap.size 0) K b E n :=
  h.keep (Tn.of_below hb L 0 (fun _ => False)) (fun _ _ => id) id (fun _ _ => id)
theorem EV.cap1 (h : EV w0 w L K b E n) (hn : n ≤ 40000) : ∃ N, E.cap N ∧ N ≤ 200000000000 := ⟨_, h.cap, by omega⟩
theorem ev_new (w : World) (K np : Nat) (hK : K ≠ 0) (buf win chk most first sched side : Int) (hb : Below w0.heap.size w0 w) (hok : Cg.ok ⟨(np : Int), buf, win, chk, most, first, sched⟩ = true) (hsd : side = 0 ∨ side = 1) (L : Lab) (hL : ∀ k, k < w.heap.size → ¬ Es K (L k)) :
    Calls Tryz.prog 31 #[.agg #[.int .i64 (np : Int), .int .i64 buf, .int .i64 win, .int .i64 chk, .int .i64 most, .int .i64 first, .int .i64 sched], .int .i64 side] w fun e w' => ∃ b L', e = .returned (.tuple #[.pointer (some ⟨b, 0, none⟩), .int .i64 0]) ∧ EV w0 w' L' K b (En.new ⟨(np : Int), buf, win, chk, most, first, sched⟩ side) 0 ∧ Tn w w' L L' No := by
  refine (newee_any np buf win chk most first sched side w L K hK hok hsd hL).mono ?_
  rintro e w' ⟨b, s, L', rfl, hlb, he, ht⟩
  refine ⟨b, L', rfl, ⟨⟨s, he⟩, hK, ?_, En.cap.new _ _, fun k hk => ?_, Below.of_trn hb ht.trn (fun k hk => id)⟩, ht⟩
  · unfold Cg.ok inR at hok
    simp only [Bool.and_eq_true, decide_eq_true_eq] at hok
    exact En.ok.new (by simp only; omega) (by simp only; omega) (by simp only; omega) (by simp only; omega) hsd
  · rw [ht.old k (Nat.lt_of_lt_of_le hk hb.size)]
    exact hL k (Nat.lt_of_lt_of_le hk hb.size)
def EvA (w0 w : World) (L : Lab) (K b : Nat) (E : En) (n : Nat) (v : Value) (e : Ending) (w' : World) : Prop := e = .returned v ∧ ∃ L', EV w0 w' L' K b E n ∧ Tn w w' L L' (Es K)
theorem EV.up (h : EV w0 w L K b E n) (hn : n ≤ 40000) (i : Int) {r : Bool} (hr : E.mayU i = r) : Calls Tryz.prog 32 #[.pointer (some ⟨b, 0, none⟩), .int .i64 i] w (EvA w0 w L K b (E.up i) (n + 1) (.bool r)) := by
  obtain ⟨s, he⟩ := h.ee
  subst hr
  refine (eeup_any he h.k0 h.ok i h.cap (by omega)).mono ?_
  rintro e w' ⟨rfl, L', h1, h2⟩
  exact ⟨rfl, L', h.turn h1 h2 (h.ok.up i) ((h.cap.up h.ok i).mono (by omega)), h2⟩
theorem EV.down (h : EV w0 w L K b E n) (hn : n ≤ 40000) (i : Int) {r : Bool} (hr : E.mayD i = r) : Calls Tryz.prog 34 #[.pointer (some ⟨b, 0, none⟩), .int .i64 i] w (EvA w0 w L K b (E.down i) (n + 1) (.bool r)) := by
  obtain ⟨s, he⟩ := h.ee
  subst hr
  refine (eedown_any he h.k0 h.ok i h.cap (by omega)).mono ?_
  rintro e w' ⟨rfl, L', h1, h2⟩
  exact ⟨rfl, L', h.turn h1 h2 (h.ok.down i) ((h.cap.down h.ok i).mono (by omega)), h2⟩
theorem EV.close (h : EV w0 w L K b E n) (hn : n ≤ 40000) {r : Bool} (hr : (!E.o.cl) = r) : Calls Tryz.prog 21 #[.pointer (some ⟨b, 0, none⟩)] w (EvA w0 w L K b E.close (n + 1) (.bool r)) := by
  obtain ⟨s, he⟩ := h.ee
  subst hr
  refine (eeclose_any he h.k0 h.ok h.cap (by omega)).mono ?_
  rintro e w' ⟨rfl, L', h1, h2⟩
  exact ⟨rfl, L', h.turn h1 h2 h.ok.close ((h.cap.close h.ok).mono (by omega)), h2⟩
theorem EV.write (h : EV w0 w L K b E n) (hn : n ≤ 40000) (A : Option Addr) (m c : Nat) (ys : List Int) (hm : ys.length = m) (hr : Rd .u8 w A ys) (hle : m ≤ c) (hm2 : m ≤ 4611686018427387904) (hnil : A = none → c = 0) (hyb : ∀ x ∈ ys, 0 ≤ x ∧ x < 256) (hap : ∀ a, A = some a → ¬ Es K (L a.block)) {r : Nat} (hk : E.takes ys = r) :
    Calls Tryz.prog 18 #[.pointer (some ⟨b, 0, none⟩), .slice A m c] w (EvA w0 w L K b (E.write ys) (n + 1) (.int .i64 (r : Int))) := by
  obtain ⟨s, he⟩ := h.ee
  subst hk
  refine (eewrite_any he h.k0 h.ok A m c ys hm hr hle hm2 hnil hyb hap h.cap (by omega)).mono ?_
  rintro e w' ⟨rfl, L', h1, h2⟩
  exact ⟨rfl, L', h.turn h1 h2 (h.ok.write hyb) ((h.cap.write h.ok hyb).mono (by omega)), h2⟩
theorem EV.read (h : EV w0 w L K b E n) (hn : n ≤ 40000) (i : Int) {xs : List Int} {m : Nat} (hx : E.readN i = xs) (hm : xs.length = m) :
    Calls Tryz.prog 30 #[.pointer (some ⟨b, 0, none⟩), .int .i64 i] w fun e w' => ∃ A c L', e = .returned (.slice A m c) ∧ Byt w' L' A c xs ∧ EV w0 w' L' K b (E.read i) (n + 1) ∧ Tn w w' L L' (Es K) := by
  obtain ⟨s, he⟩ := h.ee
  have hl := En.readN_len h.ok i
  subst hx
  refine (eeread_any he h.k0 h.ok i h.cap (by omega)).mono ?_
  rintro e w' ⟨A, c, rfl, L', h0, h1, h2⟩
  exact ⟨A, c, L', by rw [← hl, hm], h0, h.turn h1 h2 (h.ok.read i) ((h.cap.read h.ok i).mono (by omega)), h2⟩
theorem EV.take (h : EV w0 w L K b E n) (hn : n ≤ 40000) {ps : List Pkt} {m : Nat} (hx : E.out = ps) (hm : ps.length = m) :
    Calls Tryz.prog 54 #[.pointer (some ⟨b, 0, none⟩)] w fun e w' => ∃ A c L', e = .returned (.slice A m c) ∧ PkLs w' L' 0 (.slice A m c) ps ∧ EV w0 w' L' K b E.taken n ∧ Tn w w' L L' (Es K) := by
  obtain ⟨s, he⟩ := h.ee
  subst hx
  refine (eetake_any he h.k0 h.cap (by omega)).mono ?_
  rintro e w' ⟨ms, v, rfl, hms, hro, hj⟩
  obtain ⟨A, c, rfl⟩ := hro.form
  have hl : ms.length = m := by rw [← hm, ← hms, List.length_map]
  obtain ⟨h1, h2⟩ := hj 0
  have hls := hro.ls (L := relab L w.heap.size 0) (i := 0) (fun k hk => relab_new hk) rfl
  rw [hms, hl] at hls
  exact ⟨A, c, _, by rw [hl], hls, h.turn h1 h2 h.ok.taken h.cap.taken, h2⟩
theorem EV.events (h : EV w0 w L K b E n) (hn : n ≤ 40000) {es : List Ev} {m : Nat} (hx : E.ev = es) (hm : es.length = m) :
    Calls Tryz.prog 37 #[.pointer (some ⟨b, 0, none⟩)] w fun e w' => ∃ (ms : List EvM) (A : Option Addr) (c : Nat) (L' : Lab), e = .returned (.slice A m c) ∧ ms.map EvM.e = es ∧ EvRow w' w.heap.size (.slice A m c) ms ∧ EV w0 w' L' K b E n ∧ Tn w w' L L' (Es K) := by
  obtain ⟨s, he⟩ := h.ee
  subst hx
  refine (eeevents_any he h.cap (by omega)).mono ?_
  rintro e w' ⟨ms, v, rfl, hms, hro, hb⟩
  obtain ⟨A, c, rfl⟩ := hro.form
  have hl : ms.length = m := by rw [← hm, ← hms, List.length_map]
  rw [hl] at hro
  exact ⟨ms, A, c, _, by rw [hl], hms, hro, h.later hb, Tn.of_below hb L 0 (Es K)⟩
theorem EV.done (h : EV w0 w L K b E n) {r : Bool} (hr : E.done = r) :
    Calls Tryz.prog 24 #[.pointer (some ⟨b, 0, none⟩)] w (EvA w0 w L K b E n (.bool r)) := by
  obtain ⟨s, he⟩ := h.ee
  subst hr
  refine (eedone_any he).mono ?_
  rintro e w' ⟨rfl, k, rfl⟩
  exact ⟨rfl, L, h.keep (Tn.drewN w L k (fun _ => False)) (fun _ _ => id) id (fun _ _ => id), Tn.drewN w L k (Es K)⟩
end
end Go.Proofs.YtpjlnpnadkbakaaGreat
namespace Go.Proofs.YtpjlnpnadkbakaaGreat
set_option maxRecDepth 10000
open Go.RowKit
theorem Rd.newF (w : World) (xs : List Int) (t : TypeId) (fr : Nat × Nat) : Rd .u8 (w.alloc (.cells (bts xs) t fr)) (some ⟨w.heap.size, 0, none⟩) xs := by
  refine .inr ⟨_, _, rfl, fun i hi => ?_⟩
  rw [Nat.zero_add, World.cell?_alloc_mark]
  simp [bts, List.getD, hi]
theorem plain_any (w : World) : Calls Tryz.prog 17 #[] w fun e w' => e = .returned (.agg #[.int .i64 ((2 : Nat) : Int), .int .i64 60, .int .i64 50, .int .i64 10, .int .i64 4, .int .i64 3, .int .i64 1]) ∧ Below w.heap.size w w' := by
  go_enter Tryz.func17, Tryz.ntmps17
  go_wp2_with fail
  refine bodyPost_ret (v := .agg #[.int .i64 ((2 : Nat) : Int), .int .i64 60, .int .i64 50, .int .i64 10, .int .i64 4, .int .i64 3, .int .i64 1]) ?_ rfl ⟨rfl, (Below.refl _ _).alloc (Nat.le_refl _) _⟩
  simp [results, Tryz.results17, go_sem]
section
variable {w0 w w' : World} {L L' : Lab} {K b n : Nat} {E : En}
theorem EV.relab0 (h : EV w0 w L K b E n) : ¬ Es K 0 := by have := h.k0; unfold Es; omega
theorem EV.writeLit (h : EV w0 w L K b E n) (hn : n ≤ 40000) {cs : Array Value} {m q : Nat} {fr : Nat × Nat} {ys : List Int} (hcs : cs = bts ys) (hq : w.heap.size = q) (hm : ys.length = m) (hmm : m ≤ 1048576) (hyb : ∀ x ∈ ys, 0 ≤ x ∧ x < 256) {r : Nat} (hk : E.takes ys = r) :
    Calls Tryz.prog 18 #[.pointer (some ⟨b, 0, none⟩), .slice (some ⟨q, 0, none⟩) m m] (w.alloc (.cells cs 5 fr)) (EvA w0 w L K b (E.write ys) (n + 1) (.int .i64 (r : Int))) := by
  subst hcs; subst hq
  have hb := (Below.refl w.heap.size w).alloc (Nat.le_refl _) (.cells (bts ys) 5 fr)
  refine ((h.later hb).write hn (some ⟨w.heap.size, 0, none⟩) m m ys hm (Rd.newF w ys _ fr) (Nat.le_refl _) (by omega) (fun e => by cases e) hyb (fun a ha => ?_) hk).mono ?_
  · injection ha with ha
    subst ha
    rw [relab_new (Nat.le_refl _)]
    exact h.relab0
  · rintro e w' ⟨rfl, L', h1, h2⟩
    exact ⟨rfl, L', h1, (Tn.of_below hb L 0 (Es K)).trans h2⟩
end
theorem PkLs.look {w : World} {L : Lab} {i : Nat} {A : Option Addr} {n c : Nat} {ps : List Pkt} (h : PkLs w L i (.slice A n c) ps) (hn : ps.length = n) (h0 : 0 < n) :
    ∃ g, A = some ⟨g, 0, none⟩ ∧ g < w.heap.size ∧ L g = i ∧ ∀ j, j < n → ∃ B d, w.rangeAt g (j * 9) ((ps.getD j Pkt.zero).cs B d) ∧ PktAt w (ps.getD j Pkt.zero) B d ∧ PkB (ps.getD j Pkt.zero) ∧ OfV L 0 (.slice B (ps.getD j Pkt.zero).da.length d) := by
  obtain ⟨ms, rfl, h⟩ := h
  rw [List.length_map] at hn
  subst hn
  rcases h.row.2 with ⟨_, h1⟩ | ⟨g, cap, cur, hv, _⟩
  · omega
  · injection hv with hA _ hc
    subst hA; subst hc
    have hgb : (Value.slice (some ⟨g, 0, none⟩) ms.length c).ownBlock = some g := rfl
    refine ⟨g, rfl, (World.ownsRow.lt h.row g hgb).2, h.lab g hgb, fun j hj => ?_⟩
    have hm : ms.getD j default ∈ ms := by simp [List.getD, hj]
    have hq : (ms.map PkM.p).getD j Pkt.zero = (ms.getD j default).p := by simp [List.getD, hj]
    have hmm := h.each _ hm
    rw [hq]
    refine ⟨(ms.getD j default).A, (ms.getD j default).c, fun k u hu => ?_, hmm.at, hmm.bd, hmm.by_.lab⟩
    have hk : k < 9 := by
      have := (List.getElem?_eq_some_iff.1 hu).1
      rwa [show ((ms.getD j default).p.cs (ms.getD j default).A (ms.getD j default).c).length = 9 from rfl] at this
    rw [World.ownsRow.cellAt h.row (j * 9 + k) (by have : (j + 1) * 9 ≤ ms.length * 9 := Nat.mul_le_mul_right 9 hj; omega), pks_get ms j hj k hk]
    exact hu
theorem ev_wakes : En.takes (En.new ⟨((2 : Nat) : Int), 60, 50, 10, 4, 3, 1⟩ 0) [104, 101, 108, 108, 111] = 5 ∧ En.mayU ((En.new ⟨((2 : Nat) : Int), 60, 50, 10, 4, 3, 1⟩ 0).write [104, 101, 108, 108, 111]) 1 = true ∧
    (((En.new ⟨((2 : Nat) : Int), 60, 50, 10, 4, 3, 1⟩ 0).write [104, 101, 108, 108, 111]).up 1).out = [⟨1, 1, 0, 0, 0, [], false, 0, 0⟩] ∧
    (((En.new ⟨((2 : Nat) : Int), 60, 50, 10, 4, 3, 1⟩ 0).write [104, 101, 108, 108, 111]).up 1).taken.ev.length = 3 ∧
    (((En.new ⟨((2 : Nat) : Int), 60, 50, 10, 4, 3, 1⟩ 0).write [104, 101, 108, 108, 111]).up 1).taken.done = false := by
  refine ⟨?_, ?_, ?_, ?_, ?_⟩ <;> kernel_rfl
set_option maxHeartbeats 2000000 in
theorem wakes19_any (w : World) : Calls Tryz.prog 26 #[] w fun e w' => e = .returned (.bool true) ∧ Below w.heap.size w w' := by
  obtain ⟨r1, r2, r3, r4, r5⟩ := ev_wakes
  have kc := fun (w : World) (C : Array Value) (n c : Nat) => Lib.run_convert_bytes_const (P := Tryz.prog) w 29 5 C n c Tryz.underlying29 Tryz.underlying5
  go_enter Tryz.func26, Tryz.ntmps26
  go_wp2_with fail
  refine (plain_any _).mono ?_
  rintro e w1 ⟨rfl, hb⟩
  have HB1 := Lib.hid hb
  clear hb
  go_wp2_with fail
  refine (ev_new (w0 := w) w1 1 2 (by omega) 60 50 10 4 3 1 0 HB1.out rfl (.inl rfl) (fun _ => 0) (fun k _ => by unfold Es; omega)).mono ?_
  rintro e w2 ⟨b, L2, rfl, hx, -⟩
  have HX := Lib.hid hx
  clear hx HB1
  go_wp2_with fail
  refine (HX.out.events (by omega) (es := []) (m := 0) rfl rfl).mono ?_
  rintro e w3 ⟨ms, A3, c3, L3, rfl, -, -, hx, -⟩
  have HY := Lib.hid hx
  clear hx HX
  go_wp2_with fail
  refine (HY.out.writeLit (by omega) (m := 5) (ys := [104, 101, 108, 108, 111]) rfl rfl rfl (by omega) (by decide) r1).mono ?_
  rintro e w4 ⟨rfl, L4, hx, -⟩
  have HX := Lib.hid hx
  clear hx HY
  go_wp2_with fail
  refine (HX.out.up (by omega) 1 r2).mono ?_
  rintro e w5 ⟨rfl, L5, hx, -⟩
  have HY := Lib.hid hx
  clear hx HX
  go_wp2_with fail
  refine (HY.out.take (by omega) (m := 1) r3 rfl).mono ?_
  rintro e w6 ⟨A6, c6, L6, rfl, hls, hx, ht⟩
  obtain ⟨g, rfl, hg, hLg, hat⟩ := hls.look rfl (by omega)
  obtain ⟨B, d, hr, -, -, -⟩ := hat 0 (by omega)
  have z0 : w6.cell? ⟨g, 0, none⟩ = some (.int .i64 1) := hr 0 _ rfl
  have z1 : w6.cell? ⟨g, 0 + 1, none⟩ = some (.int .i64 1) := hr 1 _ rfl
  have HX := Lib.hid hx
  clear hx HY hls ht hat hr hLg hg
  go_wp2_with fail
  refine (HX.out.events (by omega) (m := 3) rfl r4).mono ?_
  rintro e w7 ⟨ms7, A7, c7, L7, rfl, -, -, hx, -⟩
  have HY := Lib.hid hx
  clear hx HX z0 z1
  go_wp2_with fail
  refine (HY.out.done r5).mono ?_
  rintro e w8 ⟨rfl, L8, hx, -⟩
  have HFIN := Lib.hid hx.bel
  clear hx HY r1 r2 r3 r4 r5 kc
  go_wp2
  go_ret
  exact ⟨rfl, HFIN.out⟩
end Go.Proofs.YtpjlnpnadkbakaaGreat

/-
  AppTwo · PrEn4 · PrEn5.
-/
import Derived.Test.YtpjlnpnadkbakaaGreatRows
import Derived.Test.YtpjlnpnadkbakaaGreatQEcDocIn
import Derived.Test.YtpjlnpnadkbakaaGreatQEcPathAt
import Derived.Test.YtpjlnpnadkbakaaGreatQEcRowN
import Derived.Test.YtpjlnpnadkbakaaGreatQEcPrEn3
namespace Go.Proofs.YtpjlnpnadkbakaaGreat
set_option maxRecDepth 10000
open Go.RowKit

theorem info_intT : (Tryz.prog.info? 3).map (fun i => (i.zero, i.size, i.bytes)) = some (some (.int .i64 0), 1, 8) := by kernel_rfl

/-- append of one number onto a row of the call's own, beside another one. -/
theorem app_two {w : World} {B : Nat} {v v' : Value} {xs ys : List Int} (h : Own .i64 3 w B v xs) (h' : Own .i64 3 w B v' ys) (ha : ∀ g, v'.ownBlock = some g → v.ownBlock ≠ some g) (x : Int) (n : Nat) (hn : xs.length = n) (hl : n ≤ 1048576) (hB : B ≤ w.heap.size) :
    ∃ A' c' w', (Builtin.append_ #[49, 49] 49 #[v, .slice (some ⟨w.heap.size, 0, none⟩) 1 1]).run Tryz.prog (w.alloc (.cells #[.int .i64 x] 3)) = .ok (.slice A' (n + 1) c') w' ∧ Own .i64 3 w' B (.slice A' (n + 1) c') (xs ++ [x]) ∧ Own .i64 3 w' B v' ys ∧ (∀ g, v'.ownBlock = some g → (Value.slice A' (n + 1) c').ownBlock ≠ some g) ∧ Below B w w' := by
  subst hn
  obtain ⟨A', c', w', h1, h2, h3, h4⟩ := run_append_f (P := Tryz.prog) (w.alloc (.cells #[.int .i64 x] 3)) .i64 49 49 3 (.int .i64 0) 8 Tryz.underlying49 info_intT rfl B v xs (h.alloc _) (some ⟨w.heap.size, 0, none⟩) 1 1 [x] rfl (rd_lit .i64 w [x] 3 (0, 0)) (by unfold maxLen; omega) (by omega) (by simp; omega)
  refine ⟨A', c', w', h1, h2, (h'.alloc _).kept h3 ?_, fun g hg e => ?_, ?_⟩
  · by_cases e : v'.ownBlock = none
    · exact .inl e
    · right
      intro e2
      obtain ⟨g, hg⟩ := Option.ne_none_iff_exists'.1 e
      exact ha g hg (by rw [← e2]; exact hg)
  · rcases h4 g e with h5 | h5
    · exact ha g hg h5
    · have := (h'.lt g hg).2
      simp at h5
      omega
  · have hb := (Below.refl B w).alloc hB (.cells #[.int .i64 x] 3)
    exact hb.grown h3 (by simp; omega) (fun g hg => (h.lt g hg).1)

end Go.Proofs.YtpjlnpnadkbakaaGreat
namespace Go.Proofs.YtpjlnpnadkbakaaGreat
set_option maxRecDepth 10000
open Go.RowKit

theorem eesay_any {w : World} {L : Lab} {K b : Nat} {s : EeS} {E : En} (h : EE w L K b s E) (hK : K ≠ 0) (hok : E.ok) (i : Nat) (hi : i < E.ps.length) (k nu ofn fr : Int) (da : List Int) (fin : Bool) (se li : Int) (A : Option Addr) (c : Nat) (hp : PktAt w ⟨k, (i : Int), nu, ofn, fr, da, fin, se, li⟩ A c) (ha : Aps w L K A) (hbd : PkB ⟨k, (i : Int), (E.pa i).sent, ofn, fr, da, fin, se, li⟩) {N : Nat} (hc : E.cap N) (hN : N ≤ 274877906944) :
    Calls Tryz.prog 71 #[.pointer (some ⟨b, 0, none⟩), .agg #[.int .i64 k, .int .i64 (i : Int), .int .i64 nu, .int .i64 ofn, .int .i64 fr, .slice A da.length c, .bool fin, .int .i64 se, .int .i64 li]] w fun e w' => (∃ x y, e = .returned (.tuple #[.int .i64 x, .bool y])) ∧ ∃ L', EE w' L' K b s (E.say i ⟨k, (i : Int), nu, ofn, fr, da, fin, se, li⟩) ∧ Tn w w' L L' (Es K) := by
  by_cases hs : (E.pa i).sent ≤ 65535
  · refine (eesay_yes h hK i hi hs (hok.pa hi).ok.s1 k nu ofn fr da fin se li A c hp ha hbd hc hN).mono ?_
    rintro e w' ⟨rfl, L', h1, h2⟩
    exact ⟨⟨_, _, rfl⟩, L', by unfold En.say; rw [if_pos hs]; exact h1, h2⟩
  · refine (eesay_no h hK i hi (by omega) k nu ofn fr da fin se li A c hp ha).mono ?_
    rintro e w' ⟨rfl, L', h1, h2⟩
    exact ⟨⟨_, _, rfl⟩, L', by unfold En.say; rw [if_neg hs]; exact h1, h2⟩
theorem eeout_any {w : World} {L : Lab} {K b : Nat} {s : EeS} {E : En} (h : EE w L K b s E) (hK : K ≠ 0) (i : Nat) (hi : i < E.ps.length) (hok : (E.pa i).ok) (x y z u : Int) (hno : NoneQ (E.pa i).fl x) :
    Calls Tryz.prog 225 #[.pointer (some ⟨s.pb.getD i 0, 0, none⟩), .agg #[.int .i64 x, .int .i64 y, .int .i64 z, .int .i64 u]] w fun e w' => e = .returned (.bool true) ∧ ∃ L', EE w' L' K b s (E.setP i ((E.pa i).out ⟨x, y, z, u⟩)) ∧ Tn w w' L L' (Es K) := by
  obtain ⟨q, h⟩ := h
  refine (paout_yes (h.pth i hi) hok x y z u hno).mono ?_
  rintro e w' ⟨rfl, v', h1, h2⟩
  obtain ⟨h3, h4⟩ := h.path hK hi h1 h2
  have h5 := h.p.n3
  have hi2 : i < E.view.ps.length := hi
  exact ⟨rfl, _, ⟨_, h3⟩, h4.mono (fun x hx => by subst hx; exact ⟨by omega, by omega⟩)⟩

set_option maxHeartbeats 2000000 in
theorem eesend_any {w : World} {L : Lab} {K b : Nat} {s : EeS} {E : En} (h : EE w L K b s E) (hK : K ≠ 0) (hok : E.ok) (i : Nat) (hi : i < E.ps.length) (k nu ofn fr : Int) (da : List Int) (fin : Bool) (se li to : Int) (A : Option Addr) (c : Nat) (hp : PktAt w ⟨k, (i : Int), nu, ofn, fr, da, fin, se, li⟩ A c) (ha : Aps w L K A) (hbd : PkB ⟨k, (i : Int), (E.pa i).sent, ofn, fr, da, fin, se, li⟩) {N : Nat} (hc : E.cap N) (hN : N ≤ 274877906944) :
    Calls Tryz.prog 145 #[.pointer (some ⟨b, 0, none⟩), .agg #[.int .i64 k, .int .i64 (i : Int), .int .i64 nu, .int .i64 ofn, .int .i64 fr, .slice A da.length c, .bool fin, .int .i64 se, .int .i64 li], .int .i64 to] w (EEnd w L K b s (E.sayOut i ⟨k, (i : Int), nu, ofn, fr, da, fin, se, li⟩ fr to)) := by
  have hsy := Sy.new hp ha
  obtain ⟨w0, hw0⟩ : ∃ w0, w.alloc (.cells #[.int .i64 k, .int .i64 (i : Int), .int .i64 nu, .int .i64 ofn, .int .i64 fr, .slice A da.length c, .bool fin, .int .i64 se, .int .i64 li] 32) = w0 := ⟨_, rfl⟩
  rw [show w.alloc (.cells (Pkt.cs ⟨k, (i : Int), nu, ofn, fr, da, fin, se, li⟩ A c).toArray 32) = w0 from hw0] at hsy
  have hb0 : Below w.heap.size w w0 := by rw [← hw0]; exact (Below.refl _ _).alloc (Nat.le_refl _) _
  have h1 := h.grow hb0 (K + 13)
  have ha0 : Aps w0 (relab L w.heap.size (K + 13)) K A := fun a e => ⟨Nat.lt_of_lt_of_le (ha a e).1 hb0.size, by rw [relab_old (ha a e).1]; exact (ha a e).2⟩
  obtain ⟨L0, hL0⟩ : ∃ L0, relab L w.heap.size (K + 13) = L0 := ⟨_, rfl⟩
  obtain ⟨b0, hb0'⟩ : ∃ b0, w.heap.size = b0 := ⟨_, rfl⟩
  rw [hL0] at h1 hsy ha0
  obtain ⟨x0, x1, x2, x3, x4, x5, x6, x7, x8⟩ := hsy.v.cells
  simp only [] at x0 x1 x2 x3 x4 x5 x6 x7 x8
  rw [hb0'] at hsy
  by_cases hs : (E.pa i).sent ≤ 65535
  · have HSAY := Lib.hid (eesay_yes h1 hK i hi hs (hok.pa hi).ok.s1 k nu ofn fr da fin se li A c hsy.at_ ha0 hbd hc hN)
    have HQ := Lib.hid (And.intro hsy (And.intro hok (And.intro hi hs)))
    have HB := Lib.hid hb0'
    clear h hp ha hsy h1 ha0 hbd hc hL0 hb0 hok hi hs hb0'
    go_enter Tryz.func145, Tryz.ntmps145
    go_wp2_with fail
    try rw [HB.out]
    clear x0 x1 x2 x3 x4 x5 x6 x7 x8
    refine HSAY.out.mono ?_
    rintro e w1 ⟨rfl, L1, h1, ht1⟩
    obtain ⟨hsy, hok, hi, hs⟩ := HQ.out
    have hfi := hok.pa hi
    have hsy1 := hsy.turn ht1
    have hi2 : i < (E.say1 i ⟨k, (i : Int), nu, ofn, fr, da, fin, se, li⟩).ps.length := by rw [(En.keep_say1 i _).len]; exact hi
    have hpa := En.pa_say1 hi ⟨k, (i : Int), nu, ofn, fr, da, fin, se, li⟩
    have hno : NoneQ ((E.say1 i ⟨k, (i : Int), nu, ofn, fr, da, fin, se, li⟩).pa i).fl (E.pa i).sent := by rw [hpa]; exact hfi.none
    have hE : (E.say1 i ⟨k, (i : Int), nu, ofn, fr, da, fin, se, li⟩).setP i (((E.say1 i ⟨k, (i : Int), nu, ofn, fr, da, fin, se, li⟩).pa i).out ⟨(E.pa i).sent, fr, to, E.now⟩) = E.sayOut i ⟨k, (i : Int), nu, ofn, fr, da, fin, se, li⟩ fr to := by rw [En.sayOut_yes hs, hpa]
    have HOUT := Lib.hid (show ∀ W, W = w1.drew → Calls Tryz.prog 225 #[.pointer (some ⟨s.pb.getD i 0, 0, none⟩), .agg #[.int .i64 (E.pa i).sent, .int .i64 fr, .int .i64 to, .int .i64 E.now]] W fun e w' => e = .returned (.bool true) ∧ ∃ L', EE w' L' K b s (E.sayOut i ⟨k, (i : Int), nu, ofn, fr, da, fin, se, li⟩ fr to) ∧ Tn w w' L L' (Es K) from fun W hW => by
      rw [← hE]
      refine (eeout_any (w := W) (by rw [hW]; exact h1.drewN 1) hK i hi2 (by rw [hpa]; exact hfi.ok.num hs) _ fr to E.now hno).mono ?_
      rintro e w' ⟨rfl, L', h2, ht2⟩
      exact ⟨rfl, L', h2, (hsy1.drewN 1).tn.trans (by rw [show w1.drewN 1 = W from hW.symm]; exact ht2)⟩)
    obtain ⟨n3, hn3⟩ : ∃ n, (E.say1 i ⟨k, (i : Int), nu, ofn, fr, da, fin, se, li⟩).ps.length = n := ⟨_, rfl⟩
    obtain ⟨g, cp, hpv, c10, hg, _, _⟩ := h1.look hn3 (i := i) (by omega)
    have y1 := hg i (by omega)
    obtain ⟨pb, hpb⟩ : ∃ pb, s.pb.getD i 0 = pb := ⟨_, rfl⟩
    rw [hpb] at y1 HOUT
    obtain ⟨q, hq⟩ := h1
    have c8 : w1.cell? ⟨b, 0 + 8, none⟩ = some (.int .i64 E.now) := hq.cell 8 (by omega)
    have z1 : w1.cell? ⟨b0, 0 + 1, none⟩ = some (.int .i64 (i : Int)) := hsy1.v.cells.c1
    have z4 : w1.cell? ⟨b0, 0 + 4, none⟩ = some (.int .i64 fr) := hsy1.v.cells.c4
    have i1 : (i : Int) < (n3 : Int) := by omega
    have i2 : (0 : Int) ≤ (i : Int) := by omega
    have i3 : n3 ≤ 3 := by rw [← hn3]; exact hq.p.n3
    clear hsy hok hi hs ht1 hfi hsy1 hi2 hpa hno hE hn3 hpv hg hpb hq HSAY HQ HB
    go_wp2_with fail
    refine still_tail 17 (by kernel_rfl) (by kernel_rfl) ?_
    intro W hW
    have d10 : W.cell? ⟨b, 0 + 10, none⟩ = some (.slice (some ⟨g, 0, none⟩) n3 cp) := by rw [hW]; exact c10
    have d8 : W.cell? ⟨b, 0 + 8, none⟩ = some (.int .i64 E.now) := by rw [hW]; exact c8
    have d1 : W.cell? ⟨g, i, none⟩ = some (.pointer (some ⟨pb, 0, none⟩)) := by rw [hW]; exact y1
    have e1 : W.cell? ⟨b0, 0 + 1, none⟩ = some (.int .i64 (i : Int)) := by rw [hW]; exact z1
    have e4 : W.cell? ⟨b0, 0 + 4, none⟩ = some (.int .i64 fr) := by rw [hW]; exact z4
    have HA2 := Lib.hid (HOUT.out W hW)
    clear hW c10 c8 y1 z1 z4 HOUT
    simp only [List.take_succ_cons, List.take_zero, List.drop_succ_cons, List.drop_zero]
    repeat still_step
    refine wpStill_nil ?_
    go_wp2_with fail
    refine HA2.out.mono ?_
    rintro e w3 ⟨rfl, L3, h3, ht3⟩
    have HFIN := Lib.hid (show EEnd w L K b s (E.sayOut i ⟨k, (i : Int), nu, ofn, fr, da, fin, se, li⟩ fr to) (.returned (.tuple #[])) w3 from ⟨rfl, L3, h3, ht3⟩)
    clear h3 ht3 d10 d8 d1 e1 e4 HA2
    go_wp2
    go_end0
    exact HFIN.out
  · have HSAY := Lib.hid (eesay_no h1 hK i hi (by omega) k nu ofn fr da fin se li A c hsy.at_ ha0)
    have HQ := Lib.hid (And.intro hsy (En.sayOut_no (show 65535 < (E.pa i).sent by omega) ⟨k, (i : Int), nu, ofn, fr, da, fin, se, li⟩ fr to))
    have HB := Lib.hid hb0'
    clear h hp ha hsy h1 ha0 hbd hc hL0 hb0 hok hi hs hb0'
    go_enter Tryz.func145, Tryz.ntmps145
    go_wp2_with fail
    try rw [HB.out]
    clear x0 x1 x2 x3 x4 x5 x6 x7 x8
    refine HSAY.out.mono ?_
    rintro e w1 ⟨rfl, L1, h1, ht1⟩
    obtain ⟨hsy, hE⟩ := HQ.out
    have HFIN := Lib.hid (show EEnd w L K b s (E.sayOut i ⟨k, (i : Int), nu, ofn, fr, da, fin, se, li⟩ fr to) (.returned (.tuple #[])) w1 from ⟨rfl, L1, by rw [hE]; exact h1, (hsy.turn ht1).tn⟩)
    clear hsy hE h1 ht1 HSAY HQ HB
    go_wp2
    go_end0
    exact HFIN.out

set_option maxHeartbeats 2000000 in
theorem eeusable_any {w : World} {L : Lab} {K b : Nat} {s : EeS} {E : En} (h : EE w L K b s E) (hok : E.ok) : Calls Tryz.prog 141 #[.pointer (some ⟨b, 0, none⟩)] w fun e w' => e = .returned (.bool E.usable) ∧ ∃ k, w' = w.drewN k := by
  obtain ⟨n, hn⟩ : ∃ n, E.ps.length = n := ⟨_, rfl⟩
  have hn3 : n ≤ 3 := by rw [← hn]; exact hok.np3
  have hn1 : 1 ≤ n := by rw [← hn]; exact hok.np1
  obtain ⟨g, c, hpv, c10, hg, _, _⟩ := h.look hn (i := 0) (by omega)
  have HROW := Lib.hid (show ∀ k i, i < n → (w.drewN k).cell? ⟨g, i, none⟩ = some (.pointer (some ⟨s.pb.getD i 0, 0, none⟩)) from fun k i hi => hg i hi)
  obtain ⟨q, hq⟩ := h
  have HU := Lib.hid (show ∀ k i, i < n → Calls Tryz.prog 217 #[.pointer (some ⟨s.pb.getD i 0, 0, none⟩)] (w.drewN k) fun e w' => e = .returned (.bool (E.pa i).usable) ∧ ∃ k', w' = (w.drewN k).drewN k' from fun k i hi => pausable_any ((hq.drewN k).pth i (by omega)) (hok.pa (by omega)).ok)
  have HYES := Lib.hid (fun i (hi : i < n) => En.usable_yes (E := E) (i := i) (by omega))
  have HNO := Lib.hid (fun (hh : ∀ j, j < n → (E.pa j).usable = false) => En.usable_no (E := E) (by rw [hn]; exact hh))
  clear hq hpv hg hn hok hn1
  go_enter Tryz.func141, Tryz.ntmps141
  go_wp2
  go_loopw [10] (fun iv wr => ∃ (i k : Nat), i ≤ n ∧ iv = .int .i64 i ∧ wr = w.drewN k ∧ Hid (∀ j, j < i → (E.pa j).usable = false)) (fun iv _ => n - (intOf iv).toNat)
  case atStart => exact ⟨0, 0, by omega, rfl, rfl, Lib.hid (fun j hj => by omega)⟩
  case round =>
    obtain ⟨i, k, hi, rfl, rfl, hall⟩ := hrel
    by_cases hin : i < n
    · have y := HROW.out k i hin
      have hc := HU.out k i hin
      obtain ⟨pb, hpb⟩ : ∃ pb, s.pb.getD i 0 = pb := ⟨_, rfl⟩
      rw [hpb] at y hc
      have i1 : (i : Int) < (n : Int) := by omega
      have i2 : (0 : Int) ≤ (i : Int) := by omega
      have HI := Lib.hid hin
      have HIW := Lib.hid (show wrap64 ((i : Int) + 1) = ((i + 1 : Nat) : Int) from wrap_atS (by omega) (by omega) (by omega))
      obtain ⟨u, hu⟩ : ∃ u, (E.pa i).usable = u := ⟨_, rfl⟩
      have HUU := Lib.hid hu
      rw [hu] at hc
      have HC := Lib.hid hc
      clear hu hc hpb hi hin
      go_wp2_with fail
      refine HC.out.mono ?_
      rintro e w1 ⟨rfl, k', rfl⟩
      rw [World.drewN_drewN]
      cases u
      · go_wp2
        go_roundw
        case rel => exact ⟨i + 1, _, by have := HI.out; omega, by first | rfl | rw [HIW.out], rfl, Lib.hid (fun j hj => by
            by_cases e : j = i
            · rw [e]; exact HUU.out
            · exact hall.out j (by omega))⟩
        case measure => (try rw [HIW.out]); have := HI.out; simp [intOf]; omega
      · have HE := Lib.hid (HYES.out i HI.out HUU.out)
        go_wp2
        go_ret
        rw [HE.out]
        exact ⟨rfl, _, rfl⟩
    · have e : i = n := by omega
      subst e
      have HE := Lib.hid (HNO.out hall.out)
      have j1 : ¬ ((i : Int) < (i : Int)) := by omega
      clear hi hin hall
      go_wp2
      go_ret
      rw [HE.out]
      exact ⟨rfl, _, rfl⟩
end Go.Proofs.YtpjlnpnadkbakaaGreat
namespace Go.Proofs.YtpjlnpnadkbakaaGreat
set_option maxRecDepth 10000
open Go.RowKit

/-- What a choice leaves: the paths that are chosen, in a row that nobody stores into. -/
def EeCho (w : World) (L : Lab) (K b : Nat) (s : EeS) (E : En) (e : Ending) (w' : World) : Prop :=
  ∃ A n c, e = .returned (.slice A n c) ∧ E.chosen.length = n ∧ ∃ L', Own .i64 3 w' 0 (.slice A n c) E.chosen ∧ OfV L' 0 (.slice A n c) ∧ EE w' L' K b s E.choose ∧ Tn w w' L L' (Es K)
set_option maxHeartbeats 4000000 in
theorem eechoose_any {w : World} {L : Lab} {K b : Nat} {s : EeS} {E : En} (h : EE w L K b s E) (hK : K ≠ 0) (hok : E.ok) : Calls Tryz.prog 144 #[.pointer (some ⟨b, 0, none⟩)] w (EeCho w L K b s E) := by
  obtain ⟨n, hn⟩ : ∃ n, E.ps.length = n := ⟨_, rfl⟩
  have hn3 : n ≤ 3 := by rw [← hn]; exact hok.np3
  have hn1 : 1 ≤ n := by rw [← hn]; exact hok.np1
  obtain ⟨g, c, hpv, c10, hg, _, _⟩ := h.look hn (i := 0) (by omega)
  have HROW := Lib.hid (show ∀ W, Below w.heap.size w W → ∀ i, i < n → W.cell? ⟨g, i, none⟩ = some (.pointer (some ⟨s.pb.getD i 0, 0, none⟩)) from fun W hb i hi => cell_later hb (hg i hi))
  obtain ⟨q, hq⟩ := h
  have HPT := Lib.hid (show ∀ W, Below w.heap.size w W → ∀ i, i < n → PaAt W 0 (s.pb.getD i 0) (s.pg i) (s.pw i) (s.pf i) (q.fv i) (E.pa i) from fun W hb i hi => (hq.pth i (by omega)).later hb)
  have HPO := Lib.hid (show ∀ i, i < n → (E.pa i).ok from fun i hi => (hok.pa (by omega)).ok)
  have HN := Lib.hid hn
  have H := Lib.hid (And.intro hq hok)
  clear hq hpv hg hn hok hn1
  go_enter Tryz.func144, Tryz.ntmps144
  go_wp2
  go_loopw [3, 4, 14] (fun bv mv iv wr => ∃ (i : Nat) (A1 : Option Addr) (c1 : Nat) (A2 : Option Addr) (n2 c2 : Nat), i ≤ n ∧ iv = .int .i64 i ∧ mv = .slice A1 i c1 ∧ bv = .slice A2 n2 c2 ∧ Hid (Own .i64 3 wr w.heap.size (.slice A1 i c1) (E.means.take i) ∧ Own .i64 3 wr w.heap.size (.slice A2 n2 c2) (canF E.bs i) ∧ (canF E.bs i).length = n2 ∧ Below w.heap.size w wr ∧ ∀ g, (Value.slice A2 n2 c2).ownBlock = some g → (Value.slice A1 i c1).ownBlock ≠ some g)) (fun _ _ iv _ => n - (intOf iv).toNat)
  case atStart => exact ⟨0, none, 0, none, 0, 0, by omega, rfl, rfl, rfl, Lib.hid ⟨Own.nil _ _ _ _, Own.nil _ _ _ _, rfl, Below.refl _ _, fun g hg => by simp [Value.ownBlock] at hg⟩⟩
  case round =>
    obtain ⟨i, A1, c1, A2, n2, c2, hi, rfl, rfl, rfl, hmid⟩ := hrel
    by_cases hin : i < n
    · obtain ⟨m1, m2, m3, m4, m6⟩ := hmid.out
      have y := HROW.out wr m4 i hin
      have hd := HPT.out wr m4 i hin
      have hc := pausable_any hd (HPO.out i hin)
      obtain ⟨pb, hpb⟩ : ∃ pb, s.pb.getD i 0 = pb := ⟨_, rfl⟩
      rw [hpb] at y hc
      have i1 : (i : Int) < (n : Int) := by omega
      have i2 : (0 : Int) ≤ (i : Int) := by omega
      have HI := Lib.hid (And.intro hin (show i < E.ps.length by have := HN.out; omega))
      have HIW := Lib.hid (show wrap64 ((i : Int) + 1) = ((i + 1 : Nat) : Int) from wrap_atS (by omega) (by omega) (by omega))
      have hmt := En.take_meansS HI.out.2
      have hmv := En.means_at HI.out.2
      have hbs := En.bs_at HI.out.2
      have hml : (E.means.take i).length = i := by rw [List.length_take, En.means_len]; have := HI.out.2; omega
      have hnc : n2 ≤ i := by rw [← m3]; exact canF_len _ _
      obtain ⟨u, hu⟩ : ∃ u, (E.pa i).usable = u := ⟨_, rfl⟩
      rw [hu] at hc hmv hbs
      have HC := Lib.hid hc
      have HPB := Lib.hid hpb
      have HM := Lib.hid (And.intro hmt (And.intro hmv (And.intro hbs (And.intro hml hnc))))
      have HMID := Lib.hid (And.intro m1 (And.intro m2 (And.intro m3 (And.intro m4 m6))))
      clear hu hc hpb hi hin m1 m2 m3 m4 m6 hmt hmv hbs hml hnc hmid hd
      go_wp2_with fail
      refine HC.out.mono ?_
      rintro e w1 ⟨rfl, k, rfl⟩
      obtain ⟨w1, hw1⟩ : ∃ w1, wr.drewN k = w1 := ⟨_, rfl⟩
      rw [hw1]
      obtain ⟨m1, m2, m3, m4, m6⟩ := HMID.out
      have hbk : Below wr.heap.size wr w1 := by rw [← hw1]; exact below_drS wr k
      have hbw : Below w.heap.size w w1 := m4.trans (hbk.mono m4.size)
      have n3 : n2 ≤ 1048576 ∧ i ≤ 1048576 := by have := HI.out.1; have := HM.out.2.2.2.2; omega
      have o1 := m1.later hbk
      have o2 := m2.later hbk
      clear hw1 hbk HMID HC m1 m2 m4
      cases u
      · obtain ⟨hmt, hmv, hbs, hml, hnc⟩ := HM.out
        simp only [Bool.false_and, Bool.false_eq_true, if_false] at hmv hbs
        rw [hmv] at hmt
        have hcf := canF_no (ms := E.bs) (i := i) (by rw [hbs]; decide)
        obtain ⟨A', c', w3, hrun, r1, r2, r3, r4⟩ := app_two o1 o2 m6 (-1) i hml n3.2 hbw.size
        have HREL := Lib.hid (show Own .i64 3 w3 w.heap.size (.slice A' (i + 1) c') (E.means.take (i + 1)) ∧ Own .i64 3 w3 w.heap.size (.slice A2 n2 c2) (canF E.bs (i + 1)) ∧ (canF E.bs (i + 1)).length = n2 ∧ Below w.heap.size w w3 ∧ ∀ g, (Value.slice A2 n2 c2).ownBlock = some g → (Value.slice A' (i + 1) c').ownBlock ≠ some g from ⟨by rw [hmt]; exact r1, by rw [hcf]; exact r2, by rw [hcf]; exact m3, hbw.trans r4, r3⟩)
        clear o1 o2 hmt hmv hbs hml hnc hcf r1 r2 r3 r4 hbw m3 m6 n3 HM
        go_wp2_with (at_builtin; refine Lib.wpList_append_run _ rfl _ _ _ _ rfl _ _ rfl rfl _ _ hrun ?_)
        clear hrun
        go_roundw
        case rel => exact ⟨i + 1, A', c', A2, n2, c2, by have := HI.out; omega, by first | rfl | rw [HIW.out], rfl, rfl, HREL⟩
        case measure => (try rw [HIW.out]); have := HI.out; simp [intOf]; omega
      · have hd1 := HPT.out w1 hbw i HI.out.1
        obtain ⟨be, hbe⟩ : ∃ be, (E.pa i).be = be := ⟨_, rfl⟩
        have hbc := pabehind_any hd1
        rw [HPB.out, hbe] at hbc
        have HBC := Lib.hid hbc
        have HBE := Lib.hid hbe
        have HW1 := Lib.hid (And.intro hbw (And.intro o1 (And.intro o2 (And.intro m3 (And.intro m6 n3)))))
        clear hd1 hbe hbc hbw o1 o2 m3 m6 n3
        go_wp2_with fail
        refine HBC.out.mono ?_
        rintro e w2 ⟨rfl, k2, rfl⟩
        obtain ⟨w2, hw2⟩ : ∃ w2, w1.drewN k2 = w2 := ⟨_, rfl⟩
        rw [hw2]
        obtain ⟨hbw, o1, o2, m3, m6, n3⟩ := HW1.out
        have hbk : Below w1.heap.size w1 w2 := by rw [← hw2]; exact below_drS w1 k2
        have hbw2 : Below w.heap.size w w2 := hbw.trans (hbk.mono hbw.size)
        have o1 := o1.later hbk
        have o2 := o2.later hbk
        obtain ⟨hmt, hmv, hbs, hml, hnc⟩ := HM.out
        rw [HBE.out] at hmv hbs
        clear hw2 hbk hbw HW1 HBC HBE HM
        cases be
        · simp only [Bool.not_false, Bool.and_self, if_true, Bool.and_false, Bool.false_eq_true, if_false] at hmv hbs
          rw [hmv] at hmt
          have hcf := canF_no (ms := E.bs) (i := i) (by rw [hbs]; decide)
          have hd2 := HPT.out w2 hbw2 i HI.out.1
          obtain ⟨me, hme⟩ : ∃ me, (E.pa i).g.mean = me := ⟨_, rfl⟩
          have hmc := pamean_any hd2
          rw [HPB.out, hme] at hmc
          rw [hme] at hmt
          have HMC := Lib.hid hmc
          have HW2 := Lib.hid (And.intro hbw2 (And.intro o1 (And.intro o2 (And.intro m3 (And.intro m6 (And.intro n3 (And.intro hmt (And.intro hml hcf))))))))
          clear hd2 hme hmc hbw2 o1 o2 m3 m6 n3 hmt hmv hbs hml hnc hcf
          go_wp2_with fail
          refine HMC.out.mono ?_
          rintro e w3 ⟨rfl, k3, rfl⟩
          obtain ⟨w3, hw3⟩ : ∃ w3, w2.drewN k3 = w3 := ⟨_, rfl⟩
          rw [hw3]
          obtain ⟨hbw, o1, o2, m3, m6, n3, hmt, hml, hcf⟩ := HW2.out
          have hbk : Below w2.heap.size w2 w3 := by rw [← hw3]; exact below_drS w2 k3
          have hbw3 : Below w.heap.size w w3 := hbw.trans (hbk.mono hbw.size)
          have o1 := o1.later hbk
          have o2 := o2.later hbk
          obtain ⟨A', c', w4, hrun, r1, r2, r3, r4⟩ := app_two o1 o2 m6 me i hml n3.2 hbw3.size
          have HREL := Lib.hid (show Own .i64 3 w4 w.heap.size (.slice A' (i + 1) c') (E.means.take (i + 1)) ∧ Own .i64 3 w4 w.heap.size (.slice A2 n2 c2) (canF E.bs (i + 1)) ∧ (canF E.bs (i + 1)).length = n2 ∧ Below w.heap.size w w4 ∧ ∀ g, (Value.slice A2 n2 c2).ownBlock = some g → (Value.slice A' (i + 1) c').ownBlock ≠ some g from ⟨by rw [hmt]; exact r1, by rw [hcf]; exact r2, by rw [hcf]; exact m3, hbw3.trans r4, r3⟩)
          clear hw3 hbk hbw hbw3 o1 o2 m3 m6 n3 hmt hml hcf r1 r2 r3 r4 HW2 HMC
          go_wp2_with (at_builtin; refine Lib.wpList_append_run _ rfl _ _ _ _ rfl _ _ rfl rfl _ _ hrun ?_)
          clear hrun
          go_roundw
          case rel => exact ⟨i + 1, A', c', A2, n2, c2, by have := HI.out; omega, by first | rfl | rw [HIW.out], rfl, rfl, HREL⟩
          case measure => (try rw [HIW.out]); have := HI.out; simp [intOf]; omega
        · simp only [Bool.not_true, Bool.and_false, Bool.and_self, Bool.false_eq_true, if_false, if_true] at hmv hbs
          rw [hmv] at hmt
          have hcf := canF_yes (ms := E.bs) (i := i) (by rw [hbs]; decide)
          obtain ⟨A3, c3, w3, hrun1, r1, r2, r3, r4⟩ := app_two o2 o1 (fun g hg e => m6 g e hg) (i : Int) n2 m3 n3.1 hbw2.size
          have hb3 := hbw2.trans r4
          obtain ⟨A', c', w4, hrun2, s1, s2, s3, s4⟩ := app_two r2 r1 (fun g hg e => r3 g e hg) (-1) i hml n3.2 hb3.size
          have HREL := Lib.hid (show Own .i64 3 w4 w.heap.size (.slice A' (i + 1) c') (E.means.take (i + 1)) ∧ Own .i64 3 w4 w.heap.size (.slice A3 (n2 + 1) c3) (canF E.bs (i + 1)) ∧ (canF E.bs (i + 1)).length = n2 + 1 ∧ Below w.heap.size w w4 ∧ ∀ g, (Value.slice A3 (n2 + 1) c3).ownBlock = some g → (Value.slice A' (i + 1) c').ownBlock ≠ some g from ⟨by rw [hmt]; exact s1, by rw [hcf]; exact s2, by rw [hcf, List.length_append, m3]; rfl, hb3.trans s4, s3⟩)
          clear o1 o2 hmt hmv hbs hml hnc hcf r1 r2 r3 r4 hbw2 m3 m6 n3 hb3 s1 s2 s3 s4
          go_wp2_with (at_builtin; first | refine Lib.wpList_append_run _ rfl (.tmp 28) (.tmp 30) _ _ rfl _ _ rfl rfl _ _ hrun1 ?_ | refine Lib.wpList_append_run _ rfl (.tmp 32) (.tmp 34) _ _ rfl _ _ rfl rfl _ _ hrun2 ?_)
          clear hrun1 hrun2
          go_roundw
          case rel => exact ⟨i + 1, A', c', A3, n2 + 1, c3, by have := HI.out; omega, by first | rfl | rw [HIW.out], rfl, rfl, HREL⟩
          case measure => (try rw [HIW.out]); have := HI.out; simp [intOf]; omega
    · have e : i = n := by omega
      subst e
      obtain ⟨m1, m2, m3, m4, m6⟩ := hmid.out
      obtain ⟨hq, hok⟩ := H.out
      have hml : (E.means.take i).length = i := by rw [List.length_take, En.means_len]; have := HN.out; omega
      have hme : E.means.take i = E.means := List.take_of_length_le (by rw [En.means_len]; have := HN.out; omega)
      rw [hme] at m1 hml
      have hq1 := hq.grow m4 0
      have hla := hok.la
      have HPK := Lib.hid (show Calls Tryz.prog 224 #[.pointer (some ⟨s.sb, 0, none⟩), .slice A1 i c1] wr _ from pick_any hq1.p.sch A1 i c1 E.means hml m1.rd (by show -1 ≤ E.l ∧ E.l ≤ 1048576; omega) (by omega))
      have c12 : wr.cell? ⟨b, 0 + 12, none⟩ = some (.pointer (some ⟨s.sb, 0, none⟩)) := hq1.cell 12 (by omega)
      have HQ := Lib.hid (And.intro hq1 (And.intro m2 (And.intro m3 (And.intro m4 hok))))
      have j1 : ¬ ((i : Int) < (i : Int)) := by omega
      clear hq hok m1 m2 m3 m4 m6 hml hme hq1 hla hmid hi hin H
      go_wp2_with fail
      clear c12
      refine HPK.out.mono ?_
      rintro e w1 ⟨A', c', LL, l', rfl, ho, hpick, hsc', hsc⟩
      obtain ⟨hq1, m2, m3, m4, hok⟩ := HQ.out
      obtain ⟨h2, ht2⟩ := hq1.turnS hK 0 hsc' hsc
      have ht := (Tn.of_below m4 L 0 (Es K)).trans (ht2.mono (fun x hx => by subst hx; exact ⟨by omega, by omega⟩))
      by_cases hf : E.fresh = true
      · obtain ⟨p1, p2, p3⟩ := En.pick_fresh hok hf hpick
        rw [p2] at h2
        subst p1
        have HFIN := Lib.hid (show EeCho w L K b s E (.returned (.slice A' E.chosen.length c')) w1 from ⟨A', _, c', rfl, rfl, _, ho.less (Nat.zero_le _), OfV.new (fun g hg => (ho.lt g hg).1), ⟨_, h2⟩, ht⟩)
        obtain ⟨nn, hnn⟩ : ∃ nn, E.chosen.length = nn := ⟨_, rfl⟩
        rw [hnn] at HFIN p3 ⊢
        have i1 : (nn : Int) > 0 := by omega
        clear hq1 m2 m3 m4 hok h2 ht2 ht p2 p3 ho hpick hsc' hsc hf HQ HPK hnn
        go_wp2
        go_ret
        exact HFIN.out
      · have hf : E.fresh = false := by simpa using hf
        obtain ⟨p1, p2, p3⟩ := En.pick_stale hf hpick
        rw [p2] at h2
        subst p1
        have hob : Own .i64 3 w1 0 (.slice A2 n2 c2) E.chosen ∧ OfV (relab (relab L w.heap.size 0) wr.heap.size 0) 0 (.slice A2 n2 c2) := by
          rw [← p3, HN.out]
          have hv2 : OfV (relab L w.heap.size 0) 0 (.slice A2 n2 c2) := OfV.new (fun g hg => (m2.lt g hg).1)
          exact ⟨ht2.own (m2.less (Nat.zero_le _)) hv2 (by omega), hv2.keep ht2 (own_lt m2)⟩
        have HFIN := Lib.hid (show EeCho w L K b s E (.returned (.slice A2 n2 c2)) w1 from ⟨A2, n2, c2, rfl, by rw [← p3, HN.out]; exact m3, _, hob.1, hob.2, ⟨_, h2⟩, ht⟩)
        simp only [List.length_nil]
        clear hq1 m2 m3 m4 hok h2 ht2 ht p2 p3 ho hpick hsc' hsc hf HQ HPK hob
        go_wp2
        go_ret
        exact HFIN.out
end Go.Proofs.YtpjlnpnadkbakaaGreat

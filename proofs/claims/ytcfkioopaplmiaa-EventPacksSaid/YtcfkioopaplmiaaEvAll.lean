/-
  What package event's All answers of two lists of events: a contract over the program.
-/
import Derived.Test.YtcfkioopaplmiaaEvList
import Derived.Test.YtcfkioopaplmiaaEvSame
import Derived.Deep.LoopGhost
import Derived.Deep.DeepCutAuto
import Derived.Handy
namespace Go.Proofs.Ytcfkioopaplmiaa
open Go.RowKit

theorem eqFunc_len (A B : Option Addr) (n m c d : Nat) (g : Value) (w : World) (h : n ≠ m) :
    Calls Try.prog 32 #[.slice A n c, .slice B m d, g] w fun x w' => x = .returned (.bool false) ∧ Below w.heap.size w w' := by
  have hne : ((n : Int) != (m : Int)) = true := by rw [bne_iff_ne]; omega
  clear h
  go_enter Try.func32, Try.ntmps32
  go_wp2
  go_ret
  exact ⟨rfl, Below.refl _ _⟩

set_option maxRecDepth 100000 in
set_option maxHeartbeats 2000000 in
theorem eqFunc_any (ms ns : List EvM) (A B : Option Addr) (c d : Nat) (w : World) (hx : Evs w A ms) (hy : Evs w B ns) (hm : ms.length ≤ maxLen) :
    Calls Try.prog 32 #[.slice A ms.length c, .slice B ns.length d, .func (.func 22) #[] #[]] w fun x w' =>
      x = .returned (.bool (decide (ms.map EvM.e = ns.map EvM.e))) ∧ Below w.heap.size w w' := by
  by_cases hl : ms.length = ns.length
  · obtain ⟨n, hn⟩ : ∃ n, ms.length = n := ⟨_, rfl⟩
    rw [← hl, hn]
    rw [hn] at hm hl
    unfold maxLen at hm
    have HX := Lib.hid hx
    have HY := Lib.hid hy
    have HN := Lib.hid hn
    have HL := Lib.hid hl
    clear hx hy hn hl
    go_enter Try.func32, Try.ntmps32
    go_wp2
    go_loopw [17] (fun i wr => ∃ k : Nat, k ≤ n ∧ i = .int .i64 k ∧ Hid (Below w.heap.size w wr) ∧ Hid (∀ j, j < k → (ms.getD j default).e = (ns.getD j default).e)) (fun i _ => n - (intOf i).toNat)
    case atStart => exact ⟨0, by omega, rfl, Below.refl _ _, fun j hj => absurd hj (by omega)⟩
    case round =>
      obtain ⟨k, hk, rfl, hB, hp⟩ := hrel
      by_cases hlt : k < n
      · have hx2 := HX.out.later hB.out
        have hy2 := HY.out.later hB.out
        have hka : k < ms.length := by rw [HN.out]; exact hlt
        have hkb : k < ns.length := by rw [← HL.out]; exact hlt
        have x1 := hx2.get hka
        have y1 := hy2.get hkb
        obtain ⟨b1, o1, rfl, hx3⟩ : ∃ b off, A = some ⟨b, off, none⟩ ∧ ∀ i, i < ms.length → (ms.getD i default).lies wr b (off + i * 12) := by
          rcases hx2.lie with h | h
          · subst h; simp at hka
          · exact h
        obtain ⟨b2, o2, rfl, hy3⟩ : ∃ b off, B = some ⟨b, off, none⟩ ∧ ∀ i, i < ns.length → (ns.getD i default).lies wr b (off + i * 12) := by
          rcases hy2.lie with h | h
          · subst h; simp at hkb
          · exact h
        have x3 := hx3 k hka
        have y3 := hy3 k hkb
        obtain ⟨x, hx9⟩ : ∃ x, ms.getD k default = x := ⟨_, rfl⟩
        obtain ⟨y, hy9⟩ : ∃ x, ns.getD k default = x := ⟨_, rfl⟩
        rw [hx9] at x1 x3
        rw [hy9] at y1 y3
        have y4 := y3.later ((Below.refl _ _).alloc (Nat.le_refl _) (.cells x.cs.toArray 28))
        have E1 := Lib.hid hx9
        have E2 := Lib.hid hy9
        have hb2 : Below wr.heap.size wr ((wr.alloc (.cells x.cs.toArray 28)).alloc (.cells y.cs.toArray 28)) :=
          have h1 := (Below.refl wr.heap.size wr).alloc (Nat.le_refl _) (.cells x.cs.toArray 28)
          h1.alloc h1.size _
        have X1 := Lib.hid (EvM.at.later x1 hb2)
        have Y1 := Lib.hid (EvM.at.later y1 hb2)
        have HB2 := Lib.hid (hB.out.trans (hb2.mono hB.out.size))
        clear hx2 hy2 hx3 hy3 hka hkb x1 y1 hb2 hx9 hy9 y3
        obtain ⟨c0, c1, c2, c3, c4, c5, c6, c7, c8, c9, c10, c11⟩ := x3
        unfold EvM.cs Ev.cs at X1 Y1 HB2 y4
        obtain ⟨d0, d1, d2, d3, d4, d5, d6, d7, d8, d9, d10, d11⟩ := y4
        have i1 : (k : Int) < (n : Int) := by omega
        have i2 : (0 : Int) ≤ (k : Int) := by omega
        have hs := fun W (h1 : EvAt W x.e x.A x.c x.B x.d) (h2 : EvAt W y.e y.A y.c y.B y.d) => sameE_any x.e y.e x.A x.c x.B x.d y.A y.c y.B y.d W h1 h2
        obtain ⟨z, hz⟩ : ∃ z, x.e.same y.e = z := ⟨_, rfl⟩
        simp only [hz] at hs
        have HS := Lib.hid hs
        have HZ := Lib.hid hz
        clear hs hz
        go_wp2_with fail
        refine (HS.out _ X1.out Y1.out).mono ?_
        rintro e w2 ⟨rfl, hb⟩
        have HB3 := Lib.hid (HB2.out.trans (hb.mono HB2.out.size))
        clear hb c0 c1 c2 c3 c4 c5 c6 c7 c8 c9 c10 c11 d0 d1 d2 d3 d4 d5 d6 d7 d8 d9 d10 d11
        cases z
        · go_wp2_with fail
          go_ret
          refine ⟨ret_b ?_, HB3.out⟩
          rw [eq_comm, decide_eq_false_iff_not]
          refine evs_ne (i := k) (by rw [HN.out]; exact hlt) ?_ (by rw [HN.out, HL.out])
          rw [E1.out, E2.out]
          intro e9
          have := HZ.out
          rw [Ev.same_dec, decide_eq_false_iff_not] at this
          exact this e9
        · go_wp2_with fail
          go_roundw
          case rel => exact ⟨k + 1, by omega, by go_num, HB3.out, fun j hj => by
            by_cases h : j < k
            · exact hp.out j h
            · have : j = k := by omega
              subst this
              rw [E1.out, E2.out]
              have := HZ.out
              rw [Ev.same_dec, decide_eq_true_eq] at this
              exact this⟩
          case measure => simp [intOf]; omega
      · go_wp2_with fail
        go_ret
        refine ⟨ret_b ?_, hB.out⟩
        rw [eq_comm, decide_eq_true_eq]
        have hkn : k = n := by omega
        subst hkn
        exact evs_ext (by rw [HN.out, HL.out]) (fun i hi => hp.out i (by rw [← HN.out]; exact hi))
  · rw [show decide (ms.map EvM.e = ns.map EvM.e) = false by
      rw [decide_eq_false_iff_not]
      intro e9
      have := congrArg List.length e9
      simp at this
      exact hl this]
    exact eqFunc_len A B _ _ c d _ w hl

set_option maxHeartbeats 400000 in
theorem allE_any (ms ns : List EvM) (A B : Option Addr) (c d : Nat) (w : World) (hx : Evs w A ms) (hy : Evs w B ns) (hm : ms.length ≤ maxLen) :
    Calls Try.prog 13 #[.slice A ms.length c, .slice B ns.length d] w fun x w' => x = .returned (.bool (decide (ms.map EvM.e = ns.map EvM.e))) ∧ Below w.heap.size w w' := by
  have h := eqFunc_any ms ns A B c d w hx hy hm
  obtain ⟨z, hz⟩ : ∃ z, decide (ms.map EvM.e = ns.map EvM.e) = z := ⟨_, rfl⟩
  rw [hz] at h ⊢
  have H := Lib.hid h
  clear h hz hx hy
  go_enter Try.func13, Try.ntmps13
  go_wp2_with fail
  refine H.out.mono ?_
  rintro e w2 ⟨rfl, hb⟩
  go_wp2_with fail
  go_ret
  exact ⟨rfl, hb⟩
end Go.Proofs.Ytcfkioopaplmiaa

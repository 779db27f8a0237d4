/-
  Picks whose answer is told ahead; what a Pick leaves as it is; wakes of chapter 17.
-/
import Derived.Test.YtffofgockddpiaaSched2
import Derived.Test.YtffofgockddpiaaSameInt
namespace Go.Proofs.Ytffofgockddpiaa
open Go.RowKit

section
variable {ty : TypeId} {w w' w0 : World} {b : Nat} {k l : Int}
theorem sc_own {q : IntKind} {e : TypeId} {B : Nat} {v : Value} {xs : List Int} (hsc : SC w w' (fun j => j = b) (fun j => j = b)) (h : Own q e w B v xs) (hs : ScA ty w b k l) (ht : e ≠ ty) : Own q e w' B v xs :=
  hsc.trn.own h (fun g hg e => own_ne_sc h hs ht (by rw [hg, e]))
theorem sc_sc {ty' : TypeId} {b' : Nat} {k' l' : Int} (hsc : SC w w' (fun j => j = b) (fun j => j = b)) (h : ScA ty' w b' k' l') (hne : b' ≠ b) : ScA ty' w' b' k' l' := h.kept hsc.trn hne
/-- A Pick whose answer is told ahead. -/
theorem pick_is (h : ScS w b k l) {A : Option Addr} {n c : Nat} {ms : List Int} (hm : ms.length = n) (hr : Rd .i64 w A ms) (hl : -1 ≤ l ∧ l ≤ 1048576) (hn : n ≤ 1048576) {L : List Int} {l0 : Int} {N : Nat} (hP : IsPick k l ms L l0) (hN : L.length = N) :
    Calls Try.prog 8 #[.pointer (some ⟨b, 0, none⟩), .slice A n c] w fun e w' => ∃ A' c', e = .returned (.slice A' N c') ∧ Own .i64 3 w' w.heap.size (.slice A' N c') L ∧ ScS w' b k l0 ∧ SC w w' (fun j => j = b) (fun j => j = b) := by
  refine (pick_any h A n c ms hm hr hl hn).mono ?_
  rintro e w' ⟨A', c', L', l', rfl, h1, h2, h3, h4⟩
  obtain ⟨rfl, rfl⟩ := h2.eq hP
  rw [hN] at h1 ⊢
  exact ⟨A', c', rfl, h1, h3, h4⟩
theorem sc_bel {B : Nat} (hsc : SC w w' (fun j => j = b) (fun j => j = b)) (hB : B ≤ w.heap.size) (hb : B ≤ b) : Below B w w' := hsc.below hB (fun k hk => by rw [hk]; exact hb)
end

theorem none_nil (k l : Int) : IsPick k l [] [] l := .inl ⟨fun i hi => by simp at hi, rfl, rfl⟩
theorem quick_523 : QuickP [5, -1, 3] 2 := ⟨by decide, by decide, fun j hj hu => by
  have : j = 0 ∨ j = 1 ∨ j = 2 := by simp at hj; omega
  rcases this with rfl | rfl | rfl
  · exact ⟨by decide, fun _ => by decide⟩
  · exact absurd hu (by decide)
  · exact ⟨by decide, fun x => by omega⟩⟩
theorem pick_523 (l : Int) : IsPick 1 l [5, -1, 3] [2] l := .inr ⟨fun h => by have := h 0 (by decide); revert this; decide, .inr (.inr ⟨by decide, by decide, 2, quick_523, rfl, rfl⟩)⟩

set_option maxHeartbeats 1000000 in
theorem wakesS17_any (w : World) : Calls Try.prog 9 #[] w fun e w' => e = .returned (.bool true) ∧ Below w.heap.size w w' := by
  have HN := Lib.hid (newsc_any 1 w)
  obtain ⟨b, hb⟩ : ∃ b, w.heap.size = b := ⟨_, rfl⟩
  rw [hb] at HN
  have HZ := Lib.hid hb
  clear hb
  go_enter Try.func9, Try.ntmps9
  go_wp2_with fail
  refine HN.out.mono ?_
  rintro e w1 ⟨rfl, hs, hb⟩
  have HS := Lib.hid hs
  have HB := Lib.hid hb
  have HZ1 := Lib.hid (show b ≤ w1.heap.size by have := hb.size; have := HZ.out; omega)
  clear hs hb HN
  go_wp2_with fail
  refine (pick_is (HS.out.later ((Below.refl _ _).alloc (Nat.le_refl _) (.cells (cel .i64 [5, -1, 3]).toArray 3))) (n := 3) (ms := [5, -1, 3]) rfl (Rd.newK .i64 w1 [5, -1, 3] 3 (0, 0)) (by omega) (by omega) (pick_523 _) (N := 1) rfl).mono ?_
  rintro e w2 ⟨A2, c2, rfl, ho, hs, hsc⟩
  have HS2 := Lib.hid hs
  have HO := Lib.hid ho
  have HB2 := Lib.hid ((HB.out.alloc HZ1.out (.cells (cel .i64 [5, -1, 3]).toArray 3)).trans (sc_bel hsc (by have := HZ1.out; simp; omega) (Nat.le_refl _)))
  clear hs ho hsc HS
  go_wp2_with fail
  refine (sameI_true [2] rfl rfl (HO.out.rd.alloc _) (Rd.newK .i64 w2 [2] 3 (0, 0)) (by unfold maxLen; decide)).mono ?_
  rintro e w3 ⟨rfl, k3, rfl⟩
  have HS3 : Hid (ScS ((w2.alloc (.cells (cel .i64 [2]).toArray 3)).drewN k3) b 1 (-1)) := Lib.hid (ScA.later (w := w2.alloc (.cells (cel .i64 [2]).toArray 3)) (HS2.out.later ((Below.refl _ _).alloc (Nat.le_refl _) _)) (below_drS _ k3))
  have HB3 : Hid (Below b w ((w2.alloc (.cells (cel .i64 [2]).toArray 3)).drewN k3)) := Lib.hid (by
    have h1 : Below b w (w2.alloc (.cells (cel .i64 [2]).toArray 3)) := HB2.out.alloc (by have := HB2.out.size; have := HZ.out; omega) _
    exact ⟨h1.os, h1.tape, h1.output, h1.size, h1.block⟩)
  clear HS2 HO HB2
  go_wp2_with fail
  refine (pick_is HS3.out (n := 0) (ms := []) rfl (.inl rfl) (by omega) (by omega) (none_nil _ _) (N := 0) rfl).mono ?_
  rintro e w4 ⟨A4, c4, rfl, -, -, hsc⟩
  have HFIN := Lib.hid (HB3.out.trans (sc_bel hsc (by have := HB3.out.size; have := HZ.out; omega) (Nat.le_refl _)))
  clear hsc HS3 HB3
  go_wp2
  go_ret
  exact ⟨rfl, by rw [HZ.out]; exact HFIN.out⟩
end Go.Proofs.Ytffofgockddpiaa

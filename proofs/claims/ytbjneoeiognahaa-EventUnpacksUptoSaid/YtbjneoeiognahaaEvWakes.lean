/-
  The document's example of chapter 7, and an event: what the statements' wakes answers.
-/
import Derived.Test.YtbjneoeiognahaaEvPack
import Derived.Test.YtbjneoeiognahaaEvUnpack
import Derived.Test.YtbjneoeiognahaaBase
namespace Go.Proofs.Ytbjneoeiognahaa
open Go.RowKit

set_option maxRecDepth 10000 in
theorem Evs.one {w : World} {m : EvM} (h : m.at w) (t : TypeId) : Evs (w.alloc (.cells m.cs.toArray t)) (some ⟨w.heap.size, 0, none⟩) [m] := by
  refine ⟨fun x hx => ?_, .inr ⟨w.heap.size, 0, rfl, fun i hi => ?_⟩⟩
  · simp at hx; subst hx; exact EvAt.alloc h _
  · have : i = 0 := by simpa using hi
    subst this
    exact evIn_of (Ev.range w m.e m.A m.c m.B m.d t)
/-- The event of the example. -/
def tick5 : EvM := ⟨⟨3, 5, [], Pkt.zero⟩, none, 0, none, 0⟩
set_option maxRecDepth 10000 in
theorem tick5_at (w : World) : tick5.at w := ⟨.inl rfl, by decide, by decide, fun _ => rfl, by intro x hx; simp [tick5] at hx, by decide, by decide, (EvAt.zero w).pk⟩

set_option maxRecDepth 10000 in
set_option maxHeartbeats 1000000 in
theorem wakesE_any (w : World) : Calls Try.prog 41 #[] w fun e w' => e = .returned (.bool true) ∧ Below w.heap.size w w' := by
  have h1 := fun W => unpackE_any none 0 0 [] W rfl (.inl rfl) (by omega) (fun _ => ⟨rfl, rfl⟩) (by simp)
  have hu : unE [] (0 + 1) 0 [] = ([], 0, true) := rfl
  simp only [hu, if_true] at h1
  have h2 := fun W (h : Evs W (some ⟨(W.heap.size - 1), 0, none⟩) [tick5]) => packE_any [tick5] _ 1 W h (by decide) (by decide)
  have hp : packO ([tick5].map EvM.e) = [3, 5] := by decide
  have ho : okL ([tick5].map EvM.e) = true := by decide
  simp only [hp, ho, if_true] at h2
  have H1 := Lib.hid h1
  have H2 := Lib.hid h2
  clear h1 h2 hu hp ho
  go_enter Try.func41, Try.ntmps41
  go_wp2_with fail
  refine (H1.out _).mono ?_
  rintro e w1 ⟨v, ls, rfl, hrow, hls, hb⟩
  obtain ⟨A1, hA1⟩ := hrow.form
  obtain ⟨c1, rfl⟩ := hA1
  have hl0 : ls = [] := by simpa using hls
  subst hl0
  have HB := Lib.hid hb
  have HE := Lib.hid (Evs.one (tick5_at w1) 60)
  have HAB := Lib.hid ((Below.refl w1.heap.size w1).alloc (Nat.le_refl _) (.cells tick5.cs.toArray 60))
  clear hrow hls hb
  simp only [List.length_nil]
  go_wp2_with fail
  have h3 := H2.out (w1.alloc (.cells tick5.cs.toArray 60)) (by simpa using HE.out)
  simp only [World.size_alloc, Nat.add_sub_cancel] at h3
  refine h3.mono ?_
  rintro e w2 ⟨A2, c2, rfl, ho, hb⟩
  have HB2 := Lib.hid ((HB.out.trans (HAB.out.mono HB.out.size)).trans (hb.mono (Nat.le_trans HB.out.size (Nat.le_succ _))))
  have HO := Lib.hid ho
  clear ho hb
  go_wp2_with fail
  refine (same_true [3, 5] rfl rfl (HO.out.rd.alloc _) (Rd.new w2 [3, 5] 5) (by decide)).mono ?_
  rintro e w' ⟨rfl, kq, rfl⟩
  go_wp2_with fail
  go_ret
  exact ⟨rfl, below_drewN' (HB2.out.trans (((Below.refl _ _).alloc (Nat.le_refl _) _).mono HB2.out.size)) kq⟩
end Go.Proofs.Ytbjneoeiognahaa

/-
  What the document's SameEvent answers of two events: a contract over the program.
-/
import Derived.Test.YtbjneoeiognahaaEvMath
import Derived.Test.YtbjneoeiognahaaRefSame
namespace Go.Proofs.Ytbjneoeiognahaa
open Go.RowKit

set_option maxRecDepth 10000 in
set_option maxHeartbeats 2000000 in
theorem refSameEv_any (e f : Ev) (A : Option Addr) (c : Nat) (B : Option Addr) (d : Nat) (A2 : Option Addr) (c2 : Nat) (B2 : Option Addr) (d2 : Nat) (w : World) (he : EvAt w e A c B d) (hf : EvAt w f A2 c2 B2 d2) :
    Calls Try.prog 78 #[e.val A c B d, f.val A2 c2 B2 d2] w fun x w' => x = .returned (.bool (e.same f)) ∧ Below w.heap.size w w' := by
  have hbel : ∀ a b, Below w.heap.size w ((w.alloc a).alloc b) := fun a b =>
    have h1 := (Below.refl w.heap.size w).alloc (Nat.le_refl _) a
    h1.alloc h1.size b
  have hs := strEq e.da f.da he.byt hf.byt
  have r1 := fun a b => conv_rd (w := (w.alloc a).alloc b) c rfl ((he.rd.alloc a).alloc b)
  have r2 := fun a b => conv_rd (w := (w.alloc a).alloc b) c2 rfl ((hf.rd.alloc a).alloc b)
  have hsm := fun W (h1 : PktAt W e.pk B d) (h2 : PktAt W f.pk B2 d2) => refSame_any e.pk f.pk B B2 d d2 W h1 h2
  have P1 := Lib.hid he.pk
  have P2 := Lib.hid hf.pk
  clear he hf
  obtain ⟨k, n, da, pk⟩ := e
  obtain ⟨k', n', da', pk'⟩ := f
  unfold Ev.val Ev.same
  simp only at hs r1 r2 hsm ⊢
  obtain ⟨l, hl⟩ : ∃ n, da.length = n := ⟨_, rfl⟩
  obtain ⟨m, hm⟩ : ∃ m, da'.length = m := ⟨_, rfl⟩
  simp only [hl] at r1
  simp only [hm] at r2
  rw [hl, hm]
  obtain ⟨z, hz⟩ : ∃ z, pk.same pk' = z := ⟨_, rfl⟩
  simp only [hz] at hsm ⊢
  have HS := Lib.hid hsm
  unfold Pkt.val at HS
  clear hl hm hz hsm
  cases hd : decide (da = da')
  · rw [hd] at hs
    go_enter Try.func78, Try.ntmps78
    go_wp2_with fail
    all_goals (go_ret; exact ⟨ret_b (by simp [*]), hbel _ _⟩)
  · rw [hd] at hs
    go_enter Try.func78, Try.ntmps78
    go_wp2_with fail
    · refine (HS.out _ ((P1.out.alloc _).alloc _) ((P2.out.alloc _).alloc _)).mono ?_
      rintro x w2 ⟨rfl, hb9⟩
      go_wp2_with fail
      go_ret
      exact ⟨ret_b (by rw [Bool.eq_iff_iff]; simp [*]), (hbel _ _).trans (hb9.mono (by simp; omega))⟩
    all_goals (go_ret; exact ⟨ret_b (by simp [*]), hbel _ _⟩)
end Go.Proofs.Ytbjneoeiognahaa

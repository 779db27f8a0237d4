/-
  What the document's Same and nothing answer of packets: contracts over the program.
-/
import Derived.Test.YtbjneoeiognahaaRefPkt
import Derived.Test.YtbjneoeiognahaaBase
import Derived.Test.YtbjneoeiognahaaPktVar
namespace Go.Proofs.Ytbjneoeiognahaa
open Go.RowKit

set_option maxRecDepth 10000 in
theorem strEq (xs ys : List Int) (bx : ∀ x ∈ xs, 0 ≤ x ∧ x < 256) (by' : ∀ x ∈ ys, 0 ≤ x ∧ x < 256) : ((strOfNums xs).toList == (strOfNums ys).toList) = decide (xs = ys) := by
  by_cases e : xs = ys
  · subst e; simp
  · have : ¬ (strOfNums xs).toList = (strOfNums ys).toList := fun h => e (by
      rw [Lib.toList_data, Lib.toList_data] at h
      exact map_byte_inj _ _ bx by' (by simpa [strOfNums] using h))
    rw [beq_eq_false_iff_ne.2 this, decide_eq_false e]

set_option maxRecDepth 10000 in
set_option maxHeartbeats 1000000 in
theorem refSame_any (p q : Pkt) (A B : Option Addr) (c d : Nat) (w : World) (hp : PktAt w p A c) (hq : PktAt w q B d) :
    Calls Try.prog 85 #[p.val A c, q.val B d] w fun e w' => e = .returned (.bool (p.same q)) ∧ Below w.heap.size w w' := by
  have hbel : ∀ a b, Below w.heap.size w ((w.alloc a).alloc b) := fun a b =>
    have h1 := (Below.refl w.heap.size w).alloc (Nat.le_refl _) a
    h1.alloc h1.size b
  have hs := strEq p.da q.da hp.byt hq.byt
  have r1 := fun a b => conv_rd (w := (w.alloc a).alloc b) c rfl ((hp.rd.alloc a).alloc b)
  have r2 := fun a b => conv_rd (w := (w.alloc a).alloc b) d rfl ((hq.rd.alloc a).alloc b)
  clear hp hq
  obtain ⟨k, pa, nu, o, fr, da, fin, se, li⟩ := p
  obtain ⟨k', pa', nu', o', fr', da', fin', se', li'⟩ := q
  unfold Pkt.val Pkt.same
  simp only at hs r1 r2 ⊢
  obtain ⟨n, hn⟩ : ∃ n, da.length = n := ⟨_, rfl⟩
  obtain ⟨m, hm⟩ : ∃ m, da'.length = m := ⟨_, rfl⟩
  simp only [hn] at r1
  simp only [hm] at r2
  rw [hn, hm]
  clear hn hm
  cases hd : decide (da = da')
  · rw [hd] at hs
    go_enter Try.func85, Try.ntmps85
    go_wp2_with fail
    all_goals (go_ret; exact ⟨ret_b (by simp [*]), hbel _ _⟩)
  · rw [hd] at hs
    go_enter Try.func85, Try.ntmps85
    go_wp2_with fail
    all_goals (go_ret; exact ⟨ret_b (by rw [Bool.eq_iff_iff]; simp [*]), hbel _ _⟩)

set_option maxRecDepth 10000 in
theorem PktAt.zero (w : World) : PktAt w Pkt.zero none 0 := ⟨.inl rfl, by decide, by decide, fun _ => rfl, by intro x hx; simp [Pkt.zero] at hx, by decide, by decide, by decide, by decide, by decide, by decide, by decide⟩

set_option maxRecDepth 10000 in
set_option maxHeartbeats 1000000 in
theorem nothing_any (p : Pkt) (A : Option Addr) (c : Nat) (w : World) (hp : PktAt w p A c) :
    Calls Try.prog 64 #[p.val A c] w fun e w' => e = .returned (.bool (p.same Pkt.zero)) ∧ Below w.heap.size w w' := by
  have hs := fun W (h : PktAt W p A c) => refSame_any p Pkt.zero A none c 0 W h (PktAt.zero W)
  have HS := Lib.hid hs
  have HP := Lib.hid hp
  clear hs hp
  unfold Pkt.val at HS ⊢
  go_enter Try.func64, Try.ntmps64
  go_wp2_with fail
  refine (HS.out _ (HP.out.alloc _)).mono ?_
  rintro e w1 ⟨rfl, hb⟩
  go_wp2_with fail
  go_ret
  exact ⟨rfl, ((Below.refl w.heap.size w).alloc (Nat.le_refl _) _).trans (hb.mono (by simp))⟩
end Go.Proofs.Ytbjneoeiognahaa

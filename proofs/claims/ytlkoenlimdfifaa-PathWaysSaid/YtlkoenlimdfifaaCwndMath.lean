/-
  How many may be out, as mathematics: what a Window holds, what an Ack and a Loss make of it. No program.
-/
import Derived.Test.YtlkoenlimdfifaaRows
import Derived.Test.YtlkoenlimdfifaaClamp
import Derived.IntWalk
namespace Go.Proofs.Ytlkoenlimdfifaa

/-- A window: the most that it is, its size, its turn, the Acks counted. -/
structure Wn where
  most : Int
  size : Int
  turn : Int
  count : Int

/-- What holds of every window. -/
structure Wn.ok (g : Wn) : Prop where
  m1 : 1 ≤ g.most
  m2 : g.most ≤ 16
  s1 : 1 ≤ g.size
  s2 : g.size ≤ g.most
  t1 : 1 ≤ g.turn
  t2 : g.turn ≤ g.most
  k1 : 0 ≤ g.count
  k2 : g.count < g.size

def Wn.new (m : Int) : Wn := ⟨clampI m 1 16, min 2 (clampI m 1 16), clampI m 1 16, 0⟩
def Wn.ack (g : Wn) : Wn :=
  if g.size < g.turn then ⟨g.most, g.size + 1, g.turn, g.count⟩
  else if g.count + 1 = g.size then ⟨g.most, min (g.size + 1) g.most, g.turn, 0⟩
  else ⟨g.most, g.size, g.turn, g.count + 1⟩
def Wn.loss (g : Wn) : Wn := ⟨g.most, max (g.size / 2) 1, max (g.size / 2) 1, 0⟩

theorem Wn.new_ok (m : Int) : (Wn.new m).ok := by
  refine ⟨?_, ?_, ?_, ?_, ?_, ?_, ?_, ?_⟩ <;> simp only [Wn.new, clampI] <;> omega
theorem Wn.ack_ok {g : Wn} (h : g.ok) : g.ack.ok := by
  obtain ⟨most, size, turn, count⟩ := g
  obtain ⟨h1, h2, h3, h4, h5, h6, h7, h8⟩ := h
  simp only at h1 h2 h3 h4 h5 h6 h7 h8
  unfold Wn.ack
  simp only
  split
  · refine ⟨?_, ?_, ?_, ?_, ?_, ?_, ?_, ?_⟩ <;> simp only <;> omega
  · split
    · refine ⟨?_, ?_, ?_, ?_, ?_, ?_, ?_, ?_⟩ <;> simp only <;> omega
    · refine ⟨?_, ?_, ?_, ?_, ?_, ?_, ?_, ?_⟩ <;> simp only <;> omega
theorem Wn.loss_ok {g : Wn} (h : g.ok) : g.loss.ok := by
  obtain ⟨most, size, turn, count⟩ := g
  obtain ⟨h1, h2, h3, h4, h5, h6, h7, h8⟩ := h
  simp only at h1 h2 h3 h4 h5 h6 h7 h8
  refine ⟨?_, ?_, ?_, ?_, ?_, ?_, ?_, ?_⟩ <;> simp only [Wn.loss] <;> omega

theorem Wn.ack_most (g : Wn) : g.ack.most = g.most := by
  unfold Wn.ack
  split
  · rfl
  · split <;> rfl
theorem Wn.ack_turn (g : Wn) : g.ack.turn = g.turn := by
  unfold Wn.ack
  split
  · rfl
  · split <;> rfl
/-- An answer makes the size no less, by one at most. -/
theorem Wn.ack_size {g : Wn} (h : g.ok) : g.ack.size = g.size ∨ g.ack.size = g.size + 1 := by
  have := h.s2
  unfold Wn.ack
  split
  · exact .inr rfl
  · split
    · show min (g.size + 1) g.most = _ ∨ min (g.size + 1) g.most = _
      omega
    · exact .inl rfl
/-- Ahead of any Loss. -/
theorem Wn.ack_fast {g : Wn} (h : g.ok) (ht : g.turn = g.most) : g.ack.size = min (g.size + 1) g.most := by
  have := h.s2
  unfold Wn.ack
  rw [ht]
  split
  · show g.size + 1 = _
    omega
  · split
    · rfl
    · show g.size = _
      omega
/-- At its turn, or behind it, as long as fewer were counted than its size less one. -/
theorem Wn.ack_slow {g : Wn} (ht : g.turn ≤ g.size) (hc : g.count + 1 < g.size) : g.ack = ⟨g.most, g.size, g.turn, g.count + 1⟩ := by
  unfold Wn.ack
  rw [if_neg (by omega), if_neg (by omega)]
theorem Wn.ack_up {g : Wn} (ht : g.turn ≤ g.size) (hc : g.count + 1 = g.size) : g.ack = ⟨g.most, min (g.size + 1) g.most, g.turn, 0⟩ := by
  unfold Wn.ack
  rw [if_neg (by omega), if_pos hc]

/-- Twice as many Acks as are wanted yet, at the most, until it is at its most. -/
def Wn.far (g : Wn) : Int := g.most * (g.most - 1) - g.size * (g.size - 1) - 2 * g.count

theorem sq_step (s : Int) : (s + 1) * (s + 1 - 1) = s * (s - 1) + 2 * s := by
  rw [show s + 1 - 1 = s by omega, Int.add_mul, Int.mul_sub]
  omega
theorem sq_le {a b : Int} (h1 : 1 ≤ a) (h : a ≤ b) : a * (a - 1) ≤ b * (b - 1) := Int.mul_le_mul h (by omega) (by omega) (by omega)

theorem Wn.far_le {g : Wn} (h : g.ok) : g.far ≤ 240 := by
  have h1 := sq_le h.m1 h.m2
  have h2 := sq_le (a := 1) (b := g.size) (by decide) h.s1
  have := h.k1
  unfold Wn.far
  omega
theorem Wn.far_pos {g : Wn} (h : g.ok) (hs : g.size < g.most) : 0 < g.far := by
  have h1 := sq_le (a := g.size + 1) (b := g.most) (by have := h.s1; omega) (by omega)
  rw [sq_step] at h1
  have := h.k2
  unfold Wn.far
  omega
theorem Wn.ack_far {g : Wn} (h : g.ok) (hs : g.size < g.most) : g.ack.far ≤ g.far - 2 := by
  have h1 := h.s1
  have h2 := h.k2
  have e := sq_step g.size
  unfold Wn.ack Wn.far
  split
  · simp only
    omega
  · split
    · rw [show min (g.size + 1) g.most = g.size + 1 by omega]
      simp only
      omega
    · simp only
      omega
theorem Wn.ack_full {g : Wn} (h : g.ok) (hs : g.size = g.most) : g.ack.size = g.ack.most := by
  have := h.t2
  unfold Wn.ack
  split
  · omega
  · split
    · show min (g.size + 1) g.most = g.most
      omega
    · exact hs
/-- Behind j Acks of 200: at its most, or so near. -/
def Wn.near (g : Wn) (j : Nat) : Prop := g.size = g.most ∨ g.far ≤ 240 - 2 * (j : Int)
theorem Wn.near_next {g : Wn} {j : Nat} (h : g.ok) (hn : g.near j) : g.ack.near (j + 1) := by
  by_cases hs : g.size = g.most
  · exact .inl (Wn.ack_full h hs)
  · have := Wn.ack_far h (by have := h.s2; omega)
    rcases hn with hn | hn
    · exact absurd hn hs
    · refine .inr ?_
      omega
theorem Wn.near_end {g : Wn} (h : g.ok) (hn : g.near 200) : g.size = g.most := by
  by_cases hs : g.size = g.most
  · exact hs
  · have := Wn.far_pos h (by have := h.s2; omega)
    rcases hn with hn | hn
    · exact hn
    · omega
end Go.Proofs.Ytlkoenlimdfifaa

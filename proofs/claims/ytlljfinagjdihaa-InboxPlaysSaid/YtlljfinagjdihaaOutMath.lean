/-
  An outbox as mathematics. No program.
-/
import Derived.RowKit
namespace Go.Proofs.Ytlljfinagjdihaa
open Go.RowKit

/-- An outbox: how much it holds, its bytes, whether it is closed, the first place that is not acknowledged. -/
structure Ou where
  buf : Int
  xs : List Int
  cl : Bool
  ak : Int

namespace Ou
def places (o : Ou) : Int := (o.xs.length : Int) + (if o.cl then 1 else 0)
def room (o : Ou) : Int := if o.cl then 0 else min (o.buf - ((o.xs.length : Int) - o.ak)) (4096 - (o.xs.length : Int))
def more (o : Ou) (ys : List Int) : Ou := ⟨o.buf, o.xs ++ ys, o.cl, o.ak⟩
def shut (o : Ou) : Ou := ⟨o.buf, o.xs, true, o.ak⟩
def may (o : Ou) (n : Int) : Bool := decide (0 ≤ n ∧ n ≤ o.places)
def ack (o : Ou) (n : Int) : Ou := if 0 ≤ n ∧ n ≤ o.places then ⟨o.buf, o.xs, o.cl, max o.ak n⟩ else o
def till (o : Ou) (n : Int) : Int := if (o.xs.length : Int) ≤ n then o.places else max n 0
/-- The bytes at the places from f to below t; whether its end is among these. -/
def cut (o : Ou) (f t : Int) : List Int := (o.xs.take t.toNat).drop f.toNat
def fin (o : Ou) (f t : Int) : Bool := decide (f ≤ (o.xs.length : Int)) && decide ((o.xs.length : Int) < t)
def has (o : Ou) (f t : Int) : Bool := decide (0 ≤ f ∧ f ≤ t ∧ t ≤ o.places)
def new (n : Int) : Ou := ⟨min (max n 1) 400, [], false, 0⟩

structure ok (o : Ou) : Prop where
  b1 : 1 ≤ o.buf
  b2 : o.buf ≤ 400
  a1 : 0 ≤ o.ak
  a2 : o.ak ≤ o.places
  l : (o.xs.length : Int) ≤ 4096
  w : (o.xs.length : Int) - o.ak ≤ o.buf

variable {o : Ou}
theorem new_ok (n : Int) : (new n).ok := ⟨by simp [new]; omega, by simp [new]; omega, by simp [new], by simp [new, places], by simp [new], by simp [new]; omega⟩
theorem places_range (h : o.ok) : 0 ≤ o.places ∧ o.places ≤ 4097 := by
  have := h.l
  unfold places
  split <;> omega
theorem room_range (h : o.ok) : 0 ≤ o.room ∧ o.room ≤ 400 + 1 := by
  have h1 := h.l
  have h2 := h.w
  have h3 := h.b2
  have h4 := h.a2
  unfold room
  unfold places at h4
  cases hc : o.cl
  · simp only [hc, Bool.false_eq_true, if_false] at h4 ⊢
    omega
  · simp
theorem room_open (h : o.cl = false) : o.room = min (o.buf - ((o.xs.length : Int) - o.ak)) (4096 - (o.xs.length : Int)) := by unfold room; simp [h]
theorem room_shut (h : o.cl = true) : o.room = 0 := by unfold room; simp [h]
theorem places_open (h : o.cl = false) : o.places = (o.xs.length : Int) := by unfold places; simp [h]
theorem places_shut (h : o.cl = true) : o.places = (o.xs.length : Int) + 1 := by unfold places; simp [h]
/-- As many of the first bytes as fit. -/
theorem more_ok (h : o.ok) {ys : List Int} (hl : (ys.length : Int) ≤ o.room) : (o.more ys).ok := by
  have h1 := h.l
  have h2 := h.w
  have h4 := h.a2
  have h0 := room_range h
  refine ⟨h.b1, h.b2, h.a1, ?_, ?_, ?_⟩
  · show o.ak ≤ (((o.xs ++ ys).length : Nat) : Int) + (if o.cl then 1 else 0)
    rw [List.length_append]
    unfold places at h4
    omega
  · show (((o.xs ++ ys).length : Nat) : Int) ≤ 4096
    rw [List.length_append]
    cases hc : o.cl
    · rw [room_open hc] at hl; omega
    · rw [room_shut hc] at hl; omega
  · show (((o.xs ++ ys).length : Nat) : Int) - o.ak ≤ o.buf
    rw [List.length_append]
    cases hc : o.cl
    · rw [room_open hc] at hl; omega
    · rw [room_shut hc] at hl; omega
theorem shut_ok (h : o.ok) : o.shut.ok := ⟨h.b1, h.b2, h.a1, by
  have := h.a2
  unfold places at this
  show o.ak ≤ (o.xs.length : Int) + (if true then 1 else 0)
  split at this <;> simp <;> omega, h.l, h.w⟩
theorem ack_ok (h : o.ok) (n : Int) : (o.ack n).ok := by
  unfold ack
  split
  · rename_i hn
    refine ⟨h.b1, h.b2, ?_, ?_, h.l, ?_⟩
    · show 0 ≤ max o.ak n
      have := h.a1
      omega
    · show max o.ak n ≤ o.places
      have := h.a2
      omega
    · show (o.xs.length : Int) - max o.ak n ≤ o.buf
      have := h.w
      omega
  · exact h
theorem ack_xs (n : Int) : (o.ack n).xs = o.xs := by unfold ack; split <;> rfl
theorem ack_cl (n : Int) : (o.ack n).cl = o.cl := by unfold ack; split <;> rfl
theorem ack_buf (n : Int) : (o.ack n).buf = o.buf := by unfold ack; split <;> rfl
end Ou
end Go.Proofs.Ytlljfinagjdihaa

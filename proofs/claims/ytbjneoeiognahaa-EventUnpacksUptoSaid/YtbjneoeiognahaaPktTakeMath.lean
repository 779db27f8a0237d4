/-
  What is read of bytes as a packet: plain functions; each field's call in their words. Contracts over the program.
-/
import Derived.Test.YtbjneoeiognahaaPktPlain
import Derived.Test.YtbjneoeiognahaaSpan
namespace Go.Proofs.Ytbjneoeiognahaa
open Go.RowKit

/-- A number at a place (and whether the Reader is bad), and where it stands then. -/
def rdN (xs : List Int) (s : Nat × Bool) : Int × Nat × Bool := ((numT xs s.1 s.2).1, s.1 + (numT xs s.1 s.2).2.1.toNat, !(numT xs s.1 s.2).2.2)
/-- Bytes at a place. -/
def rdB (m : Int) (xs : List Int) (s : Nat × Bool) : List Int × Nat × Bool := bytT xs s.1 s.2 m
/-- One byte at a place. -/
def rdO (xs : List Int) (s : Nat × Bool) : Int × Nat × Bool := oneT xs s.1 s.2
/-- What is read at a place as a packet, and whether its mark is one. -/
def readP (xs : List Int) (s : Nat × Bool) : Pkt × Bool × Nat × Bool :=
  let k := rdO xs s
  let pa := rdN xs k.2
  let nu := rdN xs pa.2
  if k.1 = 2 then
    let o := rdN xs nu.2
    (⟨k.1, pa.1, nu.1, o.1, 0, [], false, 0, 0⟩, true, o.2)
  else if k.1 = 3 then
    let fr := rdN xs nu.2
    let da := rdB 64 xs fr.2
    let fi := rdO xs da.2
    (⟨k.1, pa.1, nu.1, 0, fr.1, da.1, decide (fi.1 = 1), 0, 0⟩, decide (fi.1 ≤ 1), fi.2)
  else if k.1 = 4 then
    let o := rdN xs nu.2
    let se := rdN xs o.2
    let li := rdN xs se.2
    (⟨k.1, pa.1, nu.1, o.1, 0, [], false, se.1, li.1⟩, true, li.2)
  else (⟨k.1, pa.1, nu.1, 0, 0, [], false, 0, 0⟩, true, nu.2)
/-- No packet. -/
def Pkt.zero : Pkt := ⟨0, 0, 0, 0, 0, [], false, 0, 0⟩
/-- What is taken at a place as a packet. -/
def takeP (xs : List Int) (s : Nat × Bool) : Pkt × Bool × Nat × Bool :=
  if ((readP xs s).2.1 && !(readP xs s).2.2.2 && (readP xs s).1.ok) = true then ((readP xs s).1, true, (readP xs s).2.2) else (Pkt.zero, false, (readP xs s).2.2)

set_option maxRecDepth 10000 in
theorem rdN_bd {xs : List Int} {s : Nat × Bool} (h : s.1 ≤ xs.length) : 0 ≤ (rdN xs s).1 ∧ (rdN xs s).1 ≤ 4611686018427387903 ∧ (rdN xs s).2.1 ≤ xs.length := by
  unfold rdN
  rcases numT_cases (bad := s.2) h with e | ⟨n, m, e, _, _, _, h3, h4⟩
  · rw [e]; simp; omega
  · rw [e]; simp; omega
set_option maxRecDepth 10000 in
theorem rdO_bd {xs : List Int} {s : Nat × Bool} (h : s.1 ≤ xs.length) (hb : ∀ x ∈ xs, 0 ≤ x ∧ x < 256) : 0 ≤ (rdO xs s).1 ∧ (rdO xs s).1 < 256 ∧ (rdO xs s).2.1 ≤ xs.length := by
  unfold rdO oneT
  split
  · simp; exact h
  · rename_i h9
    have hl : s.1 < xs.length := by simp at h9; omega
    have hm : xs.getD s.1 0 ∈ xs := by simp [List.getD, hl]
    have := hb _ hm
    simp only
    omega
set_option maxRecDepth 10000 in
theorem rdB_bd {xs : List Int} {s : Nat × Bool} {m : Int} (h : s.1 ≤ xs.length) (hb : ∀ x ∈ xs, 0 ≤ x ∧ x < 256) : (∀ x ∈ (rdB m xs s).1, 0 ≤ x ∧ x < 256) ∧ (rdB m xs s).2.1 ≤ xs.length ∧ ((rdB m xs s).1.length : Int) ≤ max m 0 := by
  unfold rdB
  rcases bytT_cases (bad := s.2) m h with ⟨_, e⟩ | ⟨n, k, _, _, _, _, h3, _, h4⟩
  · rw [e]; simp; omega
  · rcases h4 with ⟨_, e⟩ | ⟨_, _, e⟩ | ⟨h5, h6, e⟩
    · rw [e]; simp; omega
    · rw [e]; simp; omega
    · rw [e]
      refine ⟨fun x hx => hb x (List.mem_of_mem_drop (List.mem_of_mem_take hx)), by simp; omega, by simp; omega⟩

section
variable {w : World} {p : Nat} {A : Option Addr} {c : Nat} {xs : List Int} {a : Nat} {bad : Bool}
set_option maxRecDepth 10000 in
theorem rdN_call {v : Int} {a' : Nat} {b' : Bool} (h : Rdr w p A c xs a bad) (hv : rdN xs (a, bad) = (v, a', b')) :
    Calls Try.prog 90 #[.pointer (some ⟨p, 0, none⟩)] w fun e w' => e = .returned (.int .i64 v) ∧ Rdr w' p A c xs a' b' ∧ w.grownBy w' (some p) := by
  unfold rdN at hv
  simp only [Prod.mk.injEq] at hv
  obtain ⟨rfl, rfl, rfl⟩ := hv
  exact numberX_any h
set_option maxRecDepth 10000 in
theorem rdO_call {v : Int} {a' : Nat} {b' : Bool} (h : Rdr w p A c xs a bad) (hv : rdO xs (a, bad) = (v, a', b')) :
    Calls Try.prog 88 #[.pointer (some ⟨p, 0, none⟩)] w fun e w' => e = .returned (.int .u8 v) ∧ Rdr w' p A c xs a' b' ∧ w.grownBy w' (some p) := by
  unfold rdO at hv
  simp only at hv
  have := byteX_any h
  rw [hv] at this
  exact this
set_option maxRecDepth 10000 in
theorem rdB_call {m : Int} {v : List Int} {a' : Nat} {b' : Bool} (h : Rdr w p A c xs a bad) (hv : rdB m xs (a, bad) = (v, a', b')) :
    Calls Try.prog 89 #[.pointer (some ⟨p, 0, none⟩), .int .i64 m] w fun e w' =>
      ∃ A' c', e = .returned (.slice A' v.length c') ∧ Own .u8 5 w' w.heap.size (.slice A' v.length c') v ∧ Rdr w' p A c xs a' b' ∧ w.grownBy w' (some p) := by
  unfold rdB at hv
  simp only at hv
  have := bytesX_any m h
  rw [hv] at this
  exact this
end

set_option maxRecDepth 10000 in
theorem flag_any (b : Int) (w : World) : Calls Try.prog 100 #[.int .u8 b] w fun e w' => e = .returned (.tuple #[.bool (decide (b = 1)), .bool (decide (b ≤ 1))]) ∧ w = w' := by
  go_enter Try.func100, Try.ntmps100
  go_wp2
  go_ret2
  exact ⟨rfl, rfl⟩

end Go.Proofs.Ytbjneoeiognahaa

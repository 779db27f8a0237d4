/-
  EndOwn: what an end makes of bytes that are any, one to ten of them: reckoned for each length, the bytes being letters.
-/
import Derived.Test.YtpjlnpnadkbakaaGreatQBXOw
import Derived.Test.YtpjlnpnadkbakaaGreatQBZPrState
namespace Go.Proofs.YtpjlnpnadkbakaaGreat
set_option maxRecDepth 10000
open Go.RowKit
noncomputable def ow1 (xs : List Int) : En := ((upE plC).write xs).taken
def owP (xs : List Int) : Pkt := ⟨3, 0, 0, 0, 0, xs, false, 0, 0⟩
noncomputable def ow2 (xs : List Int) : En := (ow1 xs).cameC (owP xs)
def owZ : Ev := ⟨0, 0, [], Pkt.zero⟩
structure OwF (xs : List Int) : Prop where
  takes : (upE plC).takes xs = xs.length
  out : ((upE plC).write xs).out = [⟨3, 0, 1, 0, 0, xs, false, 0, 0⟩]
  up : ((ow1 xs).pa 0).up = true
  jo : ((ow1 xs).pa 0).jo = true
  np : (ow1 xs).ps.length = 2
  evn : (ow2 xs).ev.length = 7
  ev3 : (ow2 xs).ev.getD 3 owZ = ⟨1, 0, xs, Pkt.zero⟩
  ev4 : (ow2 xs).ev.getD 4 owZ = evP 5 ⟨3, 0, 1, 0, 0, xs, false, 0, 0⟩
  ev5 : (ow2 xs).ev.getD 5 owZ = evP 4 (owP xs)
  wr : (ow2 xs).o.xs = xs
  st : (ow2 xs).state.getD 0 7 = 0
  stn : (ow2 xs).state.length = 33
  rd : (ow2 xs).readN 20 = xs
theorem owF : ∀ xs : List Int, 1 ≤ xs.length → xs.length ≤ 10 → OwF xs
  | [], h, _ => by simp at h
  | [a], _, _ => by refine ⟨?_, ?_, ?_, ?_, ?_, ?_, ?_, ?_, ?_, ?_, ?_, ?_, ?_⟩ <;> kernel_rfl
  | [a, b], _, _ => by refine ⟨?_, ?_, ?_, ?_, ?_, ?_, ?_, ?_, ?_, ?_, ?_, ?_, ?_⟩ <;> kernel_rfl
  | [a, b, c], _, _ => by refine ⟨?_, ?_, ?_, ?_, ?_, ?_, ?_, ?_, ?_, ?_, ?_, ?_, ?_⟩ <;> kernel_rfl
  | [a, b, c, d], _, _ => by refine ⟨?_, ?_, ?_, ?_, ?_, ?_, ?_, ?_, ?_, ?_, ?_, ?_, ?_⟩ <;> kernel_rfl
  | [a, b, c, d, e], _, _ => by refine ⟨?_, ?_, ?_, ?_, ?_, ?_, ?_, ?_, ?_, ?_, ?_, ?_, ?_⟩ <;> kernel_rfl
  | [a, b, c, d, e, f], _, _ => by refine ⟨?_, ?_, ?_, ?_, ?_, ?_, ?_, ?_, ?_, ?_, ?_, ?_, ?_⟩ <;> kernel_rfl
  | [a, b, c, d, e, f, g], _, _ => by refine ⟨?_, ?_, ?_, ?_, ?_, ?_, ?_, ?_, ?_, ?_, ?_, ?_, ?_⟩ <;> kernel_rfl
  | [a, b, c, d, e, f, g, h], _, _ => by refine ⟨?_, ?_, ?_, ?_, ?_, ?_, ?_, ?_, ?_, ?_, ?_, ?_, ?_⟩ <;> kernel_rfl
  | [a, b, c, d, e, f, g, h, i], _, _ => by refine ⟨?_, ?_, ?_, ?_, ?_, ?_, ?_, ?_, ?_, ?_, ?_, ?_, ?_⟩ <;> kernel_rfl
  | [a, b, c, d, e, f, g, h, i, j], _, _ => by refine ⟨?_, ?_, ?_, ?_, ?_, ?_, ?_, ?_, ?_, ?_, ?_, ?_, ?_⟩ <;> kernel_rfl
  | _ :: _ :: _ :: _ :: _ :: _ :: _ :: _ :: _ :: _ :: _ :: _, _, h => by simp at h
theorem ow_may {xs : List Int} (h1 : 1 ≤ xs.length) (h2 : xs.length ≤ 10) : (ow1 xs).mayC (owP xs) = true := by
  obtain ⟨-, -, hu, hj, hn, -, -, -, -, -, -, -, -⟩ := owF xs h1 h2
  have hok : (owP xs).ok = true := by
    simp [owP, Pkt.ok, Pkt.known, Pkt.same, Pkt.bare, Pkt.bounded, inB]
    exact ⟨decide_eq_true (by omega), by omega⟩
  unfold En.mayC
  rw [hok]
  simp [owP, hu, hj, hn]
theorem ow_come {xs : List Int} (h1 : 1 ≤ xs.length) (h2 : xs.length ≤ 10) : (ow1 xs).comeC (owP xs) = ow2 xs := by
  unfold En.comeC
  rw [if_pos (ow_may h1 h2)]
  rfl
end Go.Proofs.YtpjlnpnadkbakaaGreat

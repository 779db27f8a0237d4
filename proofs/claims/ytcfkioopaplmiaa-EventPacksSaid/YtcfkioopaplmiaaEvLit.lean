/-
  A literal of events: what it lays, and that these are read there. No function of the program.
-/
import Derived.Test.YtcfkioopaplmiaaEvRow
import Derived.Test.YtcfkioopaplmiaaAnyInv
import Derived.Great.BuildSlice
namespace Go.Proofs.Ytcfkioopaplmiaa
open Go.RowKit

theorem evs_flat (ms : List EvM) : ((ms.map EvM.val).flatMap fun v => v.cells.toList) = evs ms := by
  induction ms with
  | nil => rfl
  | cons m ms ih => rw [List.map_cons, List.flatMap_cons, ih, evs_cons]; rfl
theorem run_litE (w : World) (parts : Array (Nat × Value)) (ms : List EvM) (n : Nat) (hn : ms.length = n) (hpos : 0 < n) (hmost : n ≤ 1000)
    (hp : parts.toList = ((ms.map EvM.val).zipIdx 0).map fun x => (x.2, x.1)) :
    (Instr.buildSlice 29 n parts).run Try.prog w = .ok (.slice (some ⟨w.heap.size, 0, none⟩) n n) (w.alloc (.cells (evs ms).toArray 28)) := by
  obtain ⟨i, hi, hz0, hz2, hz3⟩ := info_parts info_ev
  refine run_buildSlice w _ _ n parts _ i _ Try.underlying29 hi hz0 (by rw [hz2]; omega) (by rw [hz2]; omega) ?_
  rw [hz2, hp, Great.fill_whole (by omega) (ms.map EvM.val) _ (by
    intro v hv
    obtain ⟨m, _, rfl⟩ := List.mem_map.1 hv
    rfl) (by simp [hn]), evs_flat]
theorem Evs.new (w : World) (ms : List EvM) (t : TypeId) (h : ∀ m ∈ ms, m.at w) : Evs (w.alloc (.cells (evs ms).toArray t)) (some ⟨w.heap.size, 0, none⟩) ms := by
  refine ⟨fun m hm => EvAt.alloc (h m hm) _, .inr ⟨w.heap.size, 0, rfl, fun i hi => evIn_of fun j u hu => ?_⟩⟩
  have hj : j < 12 := (List.getElem?_eq_some_iff.1 hu).1
  have h := World.rangeAt_of_block (C := (evs ms).toArray) (t := t) (fr := (0, 0)) (heap_alloc_new w _) 0 (evs ms).length
  have h2 := h (i * 12 + j) u (by
    simp
    rw [evs_get ms i hi j hj]
    exact hu)
  simpa [Nat.add_assoc] using h2
/-- An event without bytes. -/
theorem evAt_bare (w : World) (k n : Int) (p : Pkt) (B : Option Addr) (d : Nat) (h1 : -9223372036854775808 ≤ k ∧ k ≤ 9223372036854775807) (h2 : -9223372036854775808 ≤ n ∧ n ≤ 9223372036854775807) (hp : PktAt w p B d) : EvAt w ⟨k, n, [], p⟩ none 0 B d :=
  ⟨.inl rfl, by simp, by simp, fun _ => rfl, by simp, h1, h2, hp⟩
/-- An event with bytes. -/
theorem evAt_data (w : World) (k n : Int) (da : List Int) (b c : Nat) (p : Pkt) (B : Option Addr) (d : Nat) (h1 : -9223372036854775808 ≤ k ∧ k ≤ 9223372036854775807) (h2 : -9223372036854775808 ≤ n ∧ n ≤ 9223372036854775807) (hp : PktAt w p B d)
    (hr : Rd .u8 w (some ⟨b, 0, none⟩) da) (hc : da.length ≤ c) (hl : da.length ≤ 9223372036854775807) (hb : ∀ x ∈ da, 0 ≤ x ∧ x < 256) : EvAt w ⟨k, n, da, p⟩ (some ⟨b, 0, none⟩) c B d :=
  ⟨hr, hl, hc, fun e => by (cases e), hb, h1, h2, hp⟩
theorem pktAt_bare (w : World) (k a b c d s l : Int) (f : Bool) (h1 : -9223372036854775808 ≤ k ∧ k ≤ 9223372036854775807) (h2 : -9223372036854775808 ≤ a ∧ a ≤ 9223372036854775807) (h3 : -9223372036854775808 ≤ b ∧ b ≤ 9223372036854775807)
    (h4 : -9223372036854775808 ≤ c ∧ c ≤ 9223372036854775807) (h5 : -9223372036854775808 ≤ d ∧ d ≤ 9223372036854775807) (h6 : -9223372036854775808 ≤ s ∧ s ≤ 9223372036854775807) (h7 : -9223372036854775808 ≤ l ∧ l ≤ 9223372036854775807) :
    PktAt w ⟨k, a, b, c, d, [], f, s, l⟩ none 0 :=
  ⟨.inl rfl, by simp, by simp, fun _ => rfl, by simp, h1, h2, h3, h4, h5, h6, h7⟩
theorem arr_ext {xs : Array Value} {n : Nat} (h : xs.size = n) : xs = ((List.range n).map fun k => xs.getD k undef).toArray := by
  apply Array.ext
  · simp [h]
  · intro i h1 h2
    simp [Array.getD, h1]
theorem wpAnyH_via {P : Program} {ops : Array Oper} {Q : Exit → Act → World → Prop} {md : Region.Mode} {S : World → Prop} (D : Act → World → Prop) {fuel : Nat} {listed : Array Bool} {a : Act} {w : World}
    (h : ∀ Q' : Exit → Act → World → Prop, (∀ a w, D a w → Q' .normal a w) → wpAnyH P md ops Q' S fuel listed a w) (h2 : ∀ a w, D a w → Q .normal a w) : wpAnyH P md ops Q S fuel listed a w := h Q h2
end Go.Proofs.Ytcfkioopaplmiaa

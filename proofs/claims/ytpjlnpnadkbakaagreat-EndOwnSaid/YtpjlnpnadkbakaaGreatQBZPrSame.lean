/-
  What a law reads of an end: bytes beside bytes that were just laid, the counters, a Write of a string's bytes; the closures of EndAnswers, EndJoins.
-/
import Derived.Test.YtpjlnpnadkbakaaGreatQBXOw
import Derived.Test.YtpjlnpnadkbakaaGreatQBPrEvK
import Derived.Test.YtpjlnpnadkbakaaGreatQBZKeep
import Derived.Test.YtpjlnpnadkbakaaGreatQBZSameInt
namespace Go.Proofs.YtpjlnpnadkbakaaGreat
set_option maxRecDepth 10000
open Go.RowKit
section
variable {w0 w w' : World} {L L' : Lab} {K b n : Nat} {E : En}
theorem EV.sameLit (h : EV w0 w L K b E n) {A : Option Addr} {c : Nat} {xs : List Int} (hb : Byt w L A c xs) {cs : Array Value} {m q : Nat} {fl : Nat × Nat} (hcs : cs = bts xs) (hq : w.heap.size = q) (hm : xs.length = m) (hml : m ≤ 1000) :
    Calls Tryz.prog 29 #[.slice A m c, .slice (some ⟨q, 0, none⟩) m m] (w.alloc (.cells cs 5 fl)) (EvA w0 w L K b E n (.bool true)) := by
  subst hcs; subst hq; subst hm
  have hb1 := (Below.refl w.heap.size w).alloc (Nat.le_refl _) (.cells (bts xs) 5 fl)
  have h2 := hb.keep (Tn.of_below hb1 L 0 (fun _ => False)) id
  refine (same_any xs xs A (some ⟨w.heap.size, 0, none⟩) c xs.length _ h2.rd (Rd.newF w xs _ fl) (by unfold maxLen; omega)).mono ?_
  rintro e w' ⟨rfl, k, rfl⟩
  have h3 := h.later hb1
  exact ⟨by rw [decide_eq_true rfl], _, h3.keep (Tn.drewN _ _ k (fun _ => False)) (fun _ _ => id) id (fun _ _ => id), (Tn.of_below hb1 L 0 (Es K)).trans (Tn.drewN _ _ k (Es K))⟩
theorem EV.meter (h : EV w0 w L K b E n) {xs : List Int} (hx : E.meter = xs) :
    Calls Tryz.prog 36 #[.pointer (some ⟨b, 0, none⟩)] w fun e w' => ∃ g L', e = .returned (.slice (some ⟨g, 0, none⟩) 8 8) ∧ Rd .i64 w' (some ⟨g, 0, none⟩) xs ∧ L' g = 0 ∧ EV w0 w' L' K b E n ∧ Tn w w' L L' (Es K) := by
  obtain ⟨s, he⟩ := h.ee
  subst hx
  refine (eemeter_any he).mono ?_
  rintro e w' ⟨g, hg, rfl, hr, hj⟩
  obtain ⟨h1, h2⟩ := hj 0
  exact ⟨g, _, rfl, hr, relab_new hg, h.turn h1 h2 h.ok h.cap, h2⟩
theorem EV.sameInts (h : EV w0 w L K b E n) {g : Nat} {xs : List Int} (hr : Rd .i64 w (some ⟨g, 0, none⟩) xs) {cs : Array Value} {m q c d : Nat} {fl : Nat × Nat} (hcs : cs = (xs.map fun x => Value.int .i64 x).toArray) (hq : w.heap.size = q) (hm : xs.length = m) (hml : m ≤ 1000) (h0 : 0 < m) :
    Calls Tryz.prog 35 #[.slice (some ⟨g, 0, none⟩) m c, .slice (some ⟨q, 0, none⟩) m d] (w.alloc (.cells cs 3 fl)) (EvA w0 w L K b E n (.bool true)) := by
  subst hcs; subst hq
  have hg : g < w.heap.size := by
    rcases hr with h1 | ⟨b1, o1, h1, h2⟩
    · subst h1; simp at hm; omega
    · injection h1 with h1
      injection h1 with h3 h4
      subst h3
      exact World.block_lt_of_cell? w _ (h2 0 (by omega))
  have hb1 := (Below.refl w.heap.size w).alloc (Nat.le_refl _) (.cells (xs.map fun x => Value.int .i64 x).toArray 3 fl)
  have hn : Rd .i64 (w.alloc (.cells (xs.map fun x => Value.int .i64 x).toArray 3 fl)) (some ⟨w.heap.size, 0, none⟩) xs := by
    refine .inr ⟨_, _, rfl, fun i hi => ?_⟩
    rw [Nat.zero_add, World.cell?_alloc_mark]
    simp [List.getD, hi]
  have ho := rd_trn hr (Tn.of_below hb1 L 0 (fun _ => False)).trn (fun a e => id)
  refine (sameI_true xs hm hm ho hn (by unfold maxLen; omega)).mono ?_
  rintro e w' ⟨rfl, k, rfl⟩
  have h3 := h.later hb1
  exact ⟨rfl, _, h3.keep (Tn.drewN _ _ k (fun _ => False)) (fun _ _ => id) id (fun _ _ => id), (Tn.of_below hb1 L 0 (Es K)).trans (Tn.drewN _ _ k (Es K))⟩
theorem EV.writeStr (h : EV w0 w L K b E n) (hn : n ≤ 40000) (s : ByteArray) {ys : List Int} {m q c : Nat} (hs : sb s = ys) (hm : ys.length = m) (hq : w.heap.size = q) (hc : m ≤ c) (hmm : m ≤ 1048576) {r : Nat} (hk : E.takes ys = r) :
    Calls Tryz.prog 18 #[.pointer (some ⟨b, 0, none⟩), .slice (some ⟨q, 0, none⟩) m c] (Lib.bytesWorld w 5 s) (EvA w0 w L K b (E.write ys) (n + 1) (.int .i64 (r : Int))) := by
  subst hs; subst hq
  have hb := below_bytesWorld w 5 s
  refine ((h.later hb).write hn (some ⟨w.heap.size, 0, none⟩) m c (sb s) hm (rd_bytesWorld w _ s) hc (by omega) (fun e => by cases e) (sb_byte s) (fun a ha => ?_) hk).mono ?_
  · injection ha with ha
    subst ha
    rw [relab_new (Nat.le_refl _)]
    exact h.relab0
  · rintro e w' ⟨rfl, L', h1, h2⟩
    exact ⟨rfl, L', h1, (Tn.of_below hb L 0 (Es K)).trans h2⟩
end
theorem ansP_any (num ofn seen lim : Int) (w : World) : Calls Tryz.prog 28 #[.int .i64 num, .int .i64 ofn, .int .i64 seen, .int .i64 lim] w fun e w' => e = .returned (.agg #[.int .i64 4, .int .i64 0, .int .i64 num, .int .i64 ofn, .int .i64 0, .slice none 0 0, .bool false, .int .i64 seen, .int .i64 lim]) ∧ Below w.heap.size w w' := by
  have hv0 := PkV.new w Pkt.zero none 0
  have hb0 : Below w.heap.size w (w.alloc (.cells (Pkt.zero.cs none 0).toArray 32)) := (Below.refl _ _).alloc (Nat.le_refl _) _
  change PkV (w.alloc (.cells #[.int .i64 0, .int .i64 0, .int .i64 0, .int .i64 0, .int .i64 0, .slice none 0 0, .bool false, .int .i64 0, .int .i64 0] 32)) _ _ _ _ at hv0
  change Below _ _ (w.alloc (.cells #[.int .i64 0, .int .i64 0, .int .i64 0, .int .i64 0, .int .i64 0, .slice none 0 0, .bool false, .int .i64 0, .int .i64 0] 32)) at hb0
  obtain ⟨w1, hw1⟩ : ∃ w1, w.alloc (.cells #[.int .i64 0, .int .i64 0, .int .i64 0, .int .i64 0, .int .i64 0, .slice none 0 0, .bool false, .int .i64 0, .int .i64 0] 32) = w1 := ⟨_, rfl⟩
  rw [hw1] at hv0 hb0
  have fz := hv0.fr
  obtain ⟨x0, x1, x2, x3, x4, x5, x6, x7, x8⟩ := hv0.cells
  simp only [Pkt.zero, List.length_nil] at x0 x1 x2 x3 x4 x5 x6 x7 x8
  have HQ := Lib.hid (And.intro hv0 hb0)
  clear hv0 hb0
  go_enter Tryz.func28, Tryz.ntmps28
  go_wp2_with fail
  obtain ⟨hv2, hB⟩ := HQ.out
  have hg := setCells_one w.heap.size ((⟨4, 0, num, ofn, 0, [], false, seen, lim⟩ : Pkt).cs none 0) 0 w1
  have h9 := hv2.resP ⟨4, 0, num, ofn, 0, [], false, seen, lim⟩ none 0
  change bodyPost _ _ _ _ _ (w1.setCells w.heap.size 0 ((⟨4, 0, num, ofn, 0, [], false, seen, lim⟩ : Pkt).cs none 0))
  refine bodyPost_ret (v := (⟨4, 0, num, ofn, 0, [], false, seen, lim⟩ : Pkt).val none 0) ?_ rfl ⟨rfl, hB.grown hg hB.size (by intro g e; simp at e; omega)⟩
  clear x0 x1 x2 x3 x4 x5 x6 x7 x8 fz
  simp [results, Tryz.results28, asAddr, h9]
theorem joinsP_any (num : Int) (w : World) : Calls Tryz.prog 33 #[.int .i64 num] w fun e w' => e = .returned (.agg #[.int .i64 1, .int .i64 1, .int .i64 num, .int .i64 0, .int .i64 0, .slice none 0 0, .bool false, .int .i64 0, .int .i64 0]) ∧ Below w.heap.size w w' := by
  have hv0 := PkV.new w Pkt.zero none 0
  have hb0 : Below w.heap.size w (w.alloc (.cells (Pkt.zero.cs none 0).toArray 32)) := (Below.refl _ _).alloc (Nat.le_refl _) _
  change PkV (w.alloc (.cells #[.int .i64 0, .int .i64 0, .int .i64 0, .int .i64 0, .int .i64 0, .slice none 0 0, .bool false, .int .i64 0, .int .i64 0] 32)) _ _ _ _ at hv0
  change Below _ _ (w.alloc (.cells #[.int .i64 0, .int .i64 0, .int .i64 0, .int .i64 0, .int .i64 0, .slice none 0 0, .bool false, .int .i64 0, .int .i64 0] 32)) at hb0
  obtain ⟨w1, hw1⟩ : ∃ w1, w.alloc (.cells #[.int .i64 0, .int .i64 0, .int .i64 0, .int .i64 0, .int .i64 0, .slice none 0 0, .bool false, .int .i64 0, .int .i64 0] 32) = w1 := ⟨_, rfl⟩
  rw [hw1] at hv0 hb0
  have fz := hv0.fr
  obtain ⟨x0, x1, x2, x3, x4, x5, x6, x7, x8⟩ := hv0.cells
  simp only [Pkt.zero, List.length_nil] at x0 x1 x2 x3 x4 x5 x6 x7 x8
  have HQ := Lib.hid (And.intro hv0 hb0)
  clear hv0 hb0
  go_enter Tryz.func33, Tryz.ntmps33
  go_wp2_with fail
  obtain ⟨hv2, hB⟩ := HQ.out
  have hg := setCells_one w.heap.size ((⟨1, 1, num, 0, 0, [], false, 0, 0⟩ : Pkt).cs none 0) 0 w1
  have h9 := hv2.resP ⟨1, 1, num, 0, 0, [], false, 0, 0⟩ none 0
  change bodyPost _ _ _ _ _ (w1.setCells w.heap.size 0 ((⟨1, 1, num, 0, 0, [], false, 0, 0⟩ : Pkt).cs none 0))
  refine bodyPost_ret (v := (⟨1, 1, num, 0, 0, [], false, 0, 0⟩ : Pkt).val none 0) ?_ rfl ⟨rfl, hB.grown hg hB.size (by intro g e; simp at e; omega)⟩
  clear x0 x1 x2 x3 x4 x5 x6 x7 x8 fz
  simp [results, Tryz.results33, asAddr, h9]
end Go.Proofs.YtpjlnpnadkbakaaGreat

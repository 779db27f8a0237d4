/-
  data of haulierlaw19 once more: its bytes may be stored into.
-/
import Derived.Test.YtpjlnpnadkbakaaGreatQBXOw
import Derived.Test.YtpjlnpnadkbakaaGreatQBZOwnR
import Derived.Test.YtpjlnpnadkbakaaGreatQBZEndOwnF
import Derived.Lib.ConvBytes
import Derived.Laws.IdiomCopy
namespace Go.Proofs.YtpjlnpnadkbakaaGreat
set_option maxRecDepth 10000
open Go.RowKit
theorem frozen_bytesWorld (w : World) (e : TypeId) (s : ByteArray) (i : Nat) (hi : i < s.size) : (Lib.bytesWorld w e s).frozen? ⟨w.heap.size, i, none⟩ = false := by
  have h : i < (Lib.bytesCells w e s).size := by
    have : s.data.size = s.size := rfl
    simp [Lib.bytesCells]
    omega
  simp only [World.frozen?, Lib.bytesWorld_at_new]
  simp
  omega
def PkStrF (w : World) (p : Pkt) (e : Ending) (w' : World) : Prop := ∃ q c, e = .returned (p.val (some ⟨q, 0, none⟩) c) ∧ w.heap.size ≤ q ∧ q < w'.heap.size ∧ p.da.length ≤ c ∧ Rd .u8 w' (some ⟨q, 0, none⟩) p.da ∧ Below w.heap.size w w' ∧ ∀ i, i < p.da.length → w'.frozen? ⟨q, i, none⟩ = false
theorem dataF_any (num fr : Int) (s : ByteArray) (fin : Bool) (w : World) :
    Calls Tryz.prog 20 #[.int .i64 num, .int .i64 fr, .string s, .bool fin] w (PkStrF w ⟨3, 0, num, 0, fr, sb s, fin, 0, 0⟩) := by
  have hcv := fun W : World => Lib.run_convert_string_bytes (P := Tryz.prog) W 9 29 5 s Tryz.underlying9 Tryz.underlying29 Tryz.underlying5
  simp only [← sb_len s] at hcv
  have hv0 := PkV.new w Pkt.zero none 0
  have hb0 : Below w.heap.size w (w.alloc (.cells (Pkt.zero.cs none 0).toArray 32)) := (Below.refl _ _).alloc (Nat.le_refl _) _
  change PkV (w.alloc (.cells #[.int .i64 0, .int .i64 0, .int .i64 0, .int .i64 0, .int .i64 0, .slice none 0 0, .bool false, .int .i64 0, .int .i64 0] 32)) _ _ _ _ at hv0
  change Below _ _ (w.alloc (.cells #[.int .i64 0, .int .i64 0, .int .i64 0, .int .i64 0, .int .i64 0, .slice none 0 0, .bool false, .int .i64 0, .int .i64 0] 32)) at hb0
  have hz : (w.alloc (.cells #[.int .i64 0, .int .i64 0, .int .i64 0, .int .i64 0, .int .i64 0, .slice none 0 0, .bool false, .int .i64 0, .int .i64 0] 32)).heap.size = w.heap.size + 1 := by simp
  obtain ⟨w1, hw1⟩ : ∃ w1, w.alloc (.cells #[.int .i64 0, .int .i64 0, .int .i64 0, .int .i64 0, .int .i64 0, .slice none 0 0, .bool false, .int .i64 0, .int .i64 0] 32) = w1 := ⟨_, rfl⟩
  rw [hw1] at hv0 hb0 hz
  have hb2 := below_bytesWorld w1 5 s
  have hv2 := hv0.later hb2
  have hr2 := rd_bytesWorld w1 5 s
  have hfz := fun i (hi : i < s.size) => frozen_bytesWorld w1 5 s i hi
  have hsz := Lib.bytesWorld_size w1 5 s
  rw [hz] at hr2 hsz hfz
  have hB := hb0.trans (hb2.mono hb0.size)
  have hcap : (sb s).length ≤ grownCap w1 (sb s).length 0 5 := grownCap_ge _ _ _ _
  have fz := hv2.fr
  obtain ⟨x0, x1, x2, x3, x4, x5, x6, x7, x8⟩ := hv2.cells
  simp only [Pkt.zero, List.length_nil] at x0 x1 x2 x3 x4 x5 x6 x7 x8
  have HQ := Lib.hid (And.intro hv2 (And.intro hr2 (And.intro hB (And.intro hsz (And.intro hcap hfz)))))
  clear hv0 hb0 hb2 hv2 hr2 hB hsz hcap hfz
  go_enter Tryz.func20, Tryz.ntmps20
  go_wp2_with fail
  obtain ⟨hv2, hr2, hB, hsz, hcap, hfz⟩ := HQ.out
  have hg := setCells_one w.heap.size ((⟨3, 0, num, 0, fr, sb s, fin, 0, 0⟩ : Pkt).cs (some ⟨w.heap.size + 1, 0, none⟩) (grownCap w1 (sb s).length 0 5)) 0 (Lib.bytesWorld w1 5 s)
  have h9 := hv2.resP ⟨3, 0, num, 0, fr, sb s, fin, 0, 0⟩ (some ⟨w.heap.size + 1, 0, none⟩) (grownCap w1 (sb s).length 0 5)
  change bodyPost _ _ _ _ _ ((Lib.bytesWorld w1 5 s).setCells w.heap.size 0 ((⟨3, 0, num, 0, fr, sb s, fin, 0, 0⟩ : Pkt).cs (some ⟨w.heap.size + 1, 0, none⟩) (grownCap w1 (sb s).length 0 5)))
  refine bodyPost_ret (v := (⟨3, 0, num, 0, fr, sb s, fin, 0, 0⟩ : Pkt).val (some ⟨w.heap.size + 1, 0, none⟩) (grownCap w1 (sb s).length 0 5)) ?_ rfl ⟨w.heap.size + 1, _, rfl, by omega, Nat.lt_of_lt_of_le (by omega) hg.size, hcap, rd_trn hr2 (Trn.of_grown hg) (fun a e e2 => by injection e with e; subst e; have := Option.some.inj e2; simp at this), hB.grown hg hB.size (by intro g e; simp at e; omega), fun i hi => by rw [World.frozen?_setCells]; exact hfz i (by rw [← sb_len]; exact hi)⟩
  clear x0 x1 x2 x3 x4 x5 x6 x7 x8 fz
  simp [results, Tryz.results20, asAddr, h9]
section
variable {w0 w w' : World} {L L' : Lab} {b n J : Nat} {E : En}
theorem frozen_keep {S : Nat → Prop} {q i : Nat} (ht : Tn w w' L L' S) (hq : q < w.heap.size) (hS : ¬ S (L q)) (h : w.frozen? ⟨q, i, none⟩ = false) : w'.frozen? ⟨q, i, none⟩ = false := by
  unfold World.frozen? at *
  rw [show w'.heap[q]? = w.heap[q]? from ht.block rfl hS hq]
  exact h
theorem rd_first {xs : List Int} {q : Nat} (h : Rd .u8 w (some ⟨q, 0, none⟩) xs) (h0 : 0 < xs.length) : w.cell? ⟨q, 0, none⟩ = some (.int .u8 (xs.getD 0 0)) := by
  obtain ⟨g, o, e, hc⟩ := h.some_ h0
  injection e with e
  injection e with e1 e2
  subst e1; subst e2
  exact hc 0 h0
theorem JV.dataF (h : JV w0 w L b E n J) (s : ByteArray) (xs : List Int) (k : Nat) (hs : sb s = xs) (hk : xs.length = k) (hml : k ≤ 64) :
    Calls Tryz.prog 20 #[.int .i64 0, .int .i64 0, .string s, .bool false] w fun e w' => ∃ q c L', e = .returned (.agg #[.int .i64 3, .int .i64 0, .int .i64 0, .int .i64 0, .int .i64 0, .slice (some ⟨q, 0, none⟩) k c, .bool false, .int .i64 0, .int .i64 0]) ∧ JV w0 w' L' b E n J ∧ (∀ g, w.heap.size ≤ g → L' g = J) ∧ PktAt w' (owP xs) (some ⟨q, 0, none⟩) c ∧ q < w'.heap.size ∧ w.heap.size ≤ q ∧ (∀ i, i < k → w'.frozen? ⟨q, i, none⟩ = false) ∧ Tn w w' L L' (fun _ => False) := by
  refine (dataF_any 0 0 s false w).mono ?_
  rintro e w' ⟨q, c, rfl, hq, hq2, hc, hr, hbl, hfz⟩
  have hbt := sb_byte s
  simp only at hc hr hfz
  rw [hs] at hr hc hbt hfz ⊢
  subst hk
  have z : (-9223372036854775808 : Int) ≤ 0 ∧ (0 : Int) ≤ 9223372036854775807 := by decide
  exact ⟨q, c, _, rfl, h.later hbl J, fun g hg => relab_new hg, ⟨hr, by show xs.length ≤ _; omega, hc, fun e => (by cases e), hbt, (by show (-9223372036854775808 : Int) ≤ 3 ∧ (3 : Int) ≤ 9223372036854775807; decide), z, z, z, z, z, z⟩, hq2, hq, hfz, Tn.of_below hbl L J _⟩
structure OwE (w : World) (L : Lab) (J ge q3 d3 q4 d4 q5 d5 k : Nat) (xs : List Int) : Prop where
  c0 : ∃ x : Int, w.cell? ⟨ge, 0, none⟩ = some (.int .i64 x)
  c3 : w.cell? ⟨ge, 38, none⟩ = some (.slice (some ⟨q3, 0, none⟩) k d3)
  c4 : w.cell? ⟨ge, 56, none⟩ = some (.slice (some ⟨q4, 0, none⟩) k d4)
  c5 : w.cell? ⟨ge, 68, none⟩ = some (.slice (some ⟨q5, 0, none⟩) k d5)
  r3 : ByJ w L J (some ⟨q3, 0, none⟩) d3 xs
  r4 : ByJ w L J (some ⟨q4, 0, none⟩) d4 xs
  r5 : ByJ w L J (some ⟨q5, 0, none⟩) d5 xs
  lg : L ge = J
theorem OwE.keep {ge q3 d3 q4 d4 q5 d5 k : Nat} {xs : List Int} {S : Nat → Prop} (h : OwE w L J ge q3 d3 q4 d4 q5 d5 k xs) (ht : Tn w w' L L' S) (hJ : ¬ S J) : OwE w' L' J ge q3 d3 q4 d4 q5 d5 k xs := by
  have hg : ¬ S (L ge) := by rw [h.lg]; exact hJ
  obtain ⟨x, hx⟩ := h.c0
  exact ⟨⟨x, ht.cellAt hx hg⟩, ht.cellAt h.c3 hg, ht.cellAt h.c4 hg, ht.cellAt h.c5 hg, h.r3.keep ht hJ, h.r4.keep ht hJ, h.r5.keep ht hJ, ht.lab h.lg (World.block_lt_of_cell? w _ hx)⟩
theorem ow_row {B : Nat} {A : Option Addr} {c : Nat} {xs : List Int} (h : Own .u8 5 w B (.slice A xs.length c) xs) (h0 : 0 < xs.length) (hJ : ∀ g, B ≤ g → L g = J) : ∃ q, A = some ⟨q, 0, none⟩ ∧ ByJ w L J (some ⟨q, 0, none⟩) c xs := by
  obtain ⟨q, rfl, -⟩ := h.block h0
  exact ⟨q, rfl, ⟨h.less (Nat.zero_le _), fun g hg => hJ g (h.lt g hg).1⟩⟩
theorem ow_events {B : Nat} {A : Option Addr} {c k : Nat} {ms : List EvM} {xs : List Int} (hro : EvRow w B (.slice A 7 c) ms) (hms : ms.map EvM.e = (ow2 xs).ev) (hF : OwF xs) (hk : xs.length = k) (h1 : 0 < k) (hJ : ∀ g, B ≤ g → L g = J) :
    ∃ ge q3 d3 q4 d4 q5 d5, A = some ⟨ge, 0, none⟩ ∧ OwE w L J ge q3 d3 q4 d4 q5 d5 k xs := by
  have hl : ms.length = 7 := by
    have := congrArg List.length hms
    rwa [List.length_map, hF.evn] at this
  have he : ∀ i, i < 7 → (ms.getD i default).e = (ow2 xs).ev.getD i owZ := fun i hi => by
    rw [← hms]
    simp [List.getD, hl, hi]
  have hmem : ∀ i, i < 7 → ms.getD i default ∈ ms := fun i hi => by simp [List.getD, hl, hi]
  have e3 := (he 3 (by omega)).trans hF.ev3
  have e4 := (he 4 (by omega)).trans hF.ev4
  have e5 := (he 5 (by omega)).trans hF.ev5
  obtain ⟨ge, rfl, hc⟩ := evRow_at hro hl (by omega)
  have o3 := (hro.each _ (hmem 3 (by omega))).o1
  have o4 := (hro.each _ (hmem 4 (by omega))).o2
  have o5 := (hro.each _ (hmem 5 (by omega))).o2
  have x0 := (hc 0 (by omega)).trans (evs_get ms 0 (by omega) 0 (by omega))
  have x3 := (hc 38 (by omega)).trans (evs_get ms 3 (by omega) 2 (by omega))
  have x4 := (hc 56 (by omega)).trans (evs_get ms 4 (by omega) 8 (by omega))
  have x5 := (hc 68 (by omega)).trans (evs_get ms 5 (by omega) 8 (by omega))
  have y3 : w.cell? ⟨ge, 38, none⟩ = some (.slice (ms.getD 3 default).A (ms.getD 3 default).e.da.length (ms.getD 3 default).c) := x3
  have y4 : w.cell? ⟨ge, 56, none⟩ = some (.slice (ms.getD 4 default).B (ms.getD 4 default).e.pk.da.length (ms.getD 4 default).d) := x4
  have y5 : w.cell? ⟨ge, 68, none⟩ = some (.slice (ms.getD 5 default).B (ms.getD 5 default).e.pk.da.length (ms.getD 5 default).d) := x5
  rw [e3] at y3 o3
  rw [e4] at y4 o4
  rw [e5] at y5 o5
  simp only [evP, owP] at y3 y4 y5 o3 o4 o5
  obtain ⟨q3, a3, r3⟩ := ow_row o3 (by omega) hJ
  obtain ⟨q4, a4, r4⟩ := ow_row o4 (by omega) hJ
  obtain ⟨q5, a5, r5⟩ := ow_row o5 (by omega) hJ
  rw [a3, hk] at y3
  rw [a4, hk] at y4
  rw [a5, hk] at y5
  have hgB : B ≤ ge := by
    rcases hro.row.2 with ⟨_, h2⟩ | ⟨g, _, _, h2, hg, _⟩
    · rw [hl] at h2; omega
    · injection h2 with h2
      injection h2 with h2
      injection h2 with h2
      subst h2
      exact hg
  exact ⟨ge, q3, _, q4, _, q5, _, rfl, ⟨_, x0⟩, y3, y4, y5, r3, r4, r5, hJ ge hgB⟩
structure OwB (w : World) (L : Lab) (J ge q d pos k : Nat) : Prop where
  c0 : ∃ x : Int, w.cell? ⟨ge, 0, none⟩ = some (.int .i64 x)
  c : w.cell? ⟨ge, pos, none⟩ = some (.slice (some ⟨q, 0, none⟩) k d)
  b : ∃ x : Int, w.cell? ⟨q, 0, none⟩ = some (.int .u8 x)
  fz : ∀ i, w.frozen? ⟨q, i, none⟩ = false
  l : L q = J
theorem OwB.ne {ge q d pos k : Nat} (h : OwB w L J ge q d pos k) : ge ≠ q := by
  rintro rfl
  obtain ⟨x, hx⟩ := h.c0
  obtain ⟨y, hy⟩ := h.b
  rw [hx] at hy
  injection hy with hy
  injection hy with hy _
  cases hy
theorem OwB.put {ge q d pos k g : Nat} {S : Nat → Prop} {v : Int} (h : OwB w L J ge q d pos k) (hge : ge ≠ g) (ht : Tn w (w.setCell ⟨g, 0, none⟩ (.int .u8 v)) L L' S) : OwB (w.setCell ⟨g, 0, none⟩ (.int .u8 v)) L' J ge q d pos k := by
  obtain ⟨x, hx⟩ := h.c0
  obtain ⟨y, hy⟩ := h.b
  refine ⟨⟨x, (World.cell?_setCell_other w _ _ _ (fun e => hge ?_)).trans hx⟩, (World.cell?_setCell_other w _ _ _ (fun e => hge ?_)).trans h.c, byte_there hy, fun i => by rw [World.frozen?_setCell]; exact h.fz i, ht.lab h.l (World.block_lt_of_cell? w _ hy)⟩
  · injection e with e _
    exact e.symm
  · injection e with e _
    exact e.symm
theorem OwE.b3 {ge q3 d3 q4 d4 q5 d5 k : Nat} {xs : List Int} (h : OwE w L J ge q3 d3 q4 d4 q5 d5 k xs) (h0 : 0 < xs.length) : OwB w L J ge q3 d3 38 k ∧ OwB w L J ge q4 d4 56 k ∧ OwB w L J ge q5 d5 68 k := by
  obtain ⟨a3, f3, l3⟩ := h.r3.first h0
  obtain ⟨a4, f4, l4⟩ := h.r4.first h0
  obtain ⟨a5, f5, l5⟩ := h.r5.first h0
  exact ⟨⟨h.c0, h.c3, a3, f3, l3⟩, ⟨h.c0, h.c4, a4, f4, l4⟩, ⟨h.c0, h.c5, a5, f5, l5⟩⟩
theorem JV.state (h : JV w0 w L b E n J) {m : Nat} (hm : E.state.length = m) :
    Calls Tryz.prog 58 #[.pointer (some ⟨b, 0, none⟩)] w fun e w' => ∃ A c L', e = .returned (.slice A m c) ∧ Own .i64 3 w' 0 (.slice A m c) E.state ∧ OfV L' J (.slice A m c) ∧ JV w0 w' L' b E n J ∧ Tn w w' L L' (fun _ => False) := by
  obtain ⟨s, he⟩ := h.ev.ee
  subst hm
  refine (eestate_any he h.ev.ok).mono ?_
  rintro e w' ⟨A, m, c, rfl, rfl, ho, hb⟩
  exact ⟨A, c, _, rfl, ho.less (Nat.zero_le _), fun g hg => relab_new (ho.lt g hg).1, h.later hb J, Tn.of_below hb L J _⟩
theorem JV.writtenK (h : JV w0 w L b E n J) {xs : List Int} {k : Nat} (hx : E.o.xs = xs) (hk : xs.length = k) :
    Calls Tryz.prog 62 #[.pointer (some ⟨b, 0, none⟩)] w fun e w' => ∃ A c L', e = .returned (.slice A k c) ∧ ByJ w' L' J A c xs ∧ JV w0 w' L' b E n J ∧ Tn w w' L L' (fun _ => False) := by
  subst hk
  exact h.written hx
theorem ByJ.at {A : Option Addr} {c : Nat} {xs : List Int} (h : ByJ w L J A c xs) (h0 : 0 < xs.length) : ∃ q, A = some ⟨q, 0, none⟩ := by
  obtain ⟨q, e, -⟩ := h.own.block h0
  exact ⟨q, e⟩
end
end Go.Proofs.YtpjlnpnadkbakaaGreat

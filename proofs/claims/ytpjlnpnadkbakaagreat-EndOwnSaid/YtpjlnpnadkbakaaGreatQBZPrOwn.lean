/-
  Rows of a law's own that are stored into, beside an end: their blocks have the label J, which no call of the end turns; what is stored into them leaves the end.
-/
import Derived.Test.YtpjlnpnadkbakaaGreatQBXOw
import Derived.Test.YtpjlnpnadkbakaaGreatQBZPrState
import Derived.Test.YtpjlnpnadkbakaaGreatQBZPrSame
namespace Go.Proofs.YtpjlnpnadkbakaaGreat
set_option maxRecDepth 10000
open Go.RowKit
theorem lab_overJ (L : Lab) (n : Nat) : ∃ K : Nat, 17 ≤ K ∧ ∀ k, k < n → L k < K := by
  induction n with
  | zero => exact ⟨17, Nat.le_refl _, fun k hk => by omega⟩
  | succ n ih =>
    obtain ⟨K, h1, h2⟩ := ih
    refine ⟨K + L n + 1, by omega, fun k hk => ?_⟩
    by_cases e : k = n
    · subst e; omega
    · have := h2 k (by omega)
      omega
structure JV (w0 w : World) (L : Lab) (b : Nat) (E : En) (n J : Nat) : Prop where
  ev : EV w0 w L 1 b E n
  low : ∀ k, k < w0.heap.size → L k ≠ J
  j17 : 17 ≤ J
section
variable {w0 w w' : World} {L L' : Lab} {b n n' J g : Nat} {E E' : En}
theorem JV.of (h : EV w0 w L 1 b E n) : ∃ J, JV w0 w L b E n J := by
  obtain ⟨J, h1, h2⟩ := lab_overJ L w.heap.size
  exact ⟨J, h, fun k hk => by have := h2 k (Nat.lt_of_lt_of_le hk h.bel.size); omega, h1⟩
theorem JV.esJ (h : JV w0 w L b E n J) : ¬ Es 1 J := by have := h.j17; unfold Es; omega
theorem JV.j0 (h : JV w0 w L b E n J) : ¬ (0 = J) := by have := h.j17; omega
theorem JV.keep (h : JV w0 w L b E n J) {S : Nat → Prop} (hx : EV w0 w' L' 1 b E' n') (ht : Tn w w' L L' S) : JV w0 w' L' b E' n' J :=
  ⟨hx, fun k hk => by rw [ht.old k (Nat.lt_of_lt_of_le hk h.ev.bel.size)]; exact h.low k hk, h.j17⟩
theorem JV.later (h : JV w0 w L b E n J) (hb : Below w.heap.size w w') (i : Nat) : JV w0 w' (relab L w.heap.size i) b E n J :=
  h.keep (h.ev.keep (Tn.of_below hb L i (fun _ => False)) (fun _ _ => id) id (fun _ _ => id)) (Tn.of_below hb L i (fun _ => False))
theorem JV.store (h : JV w0 w L b E n J) (hg : w.grownBy w' (some g)) (hl : L g = J) : JV w0 w' (relab L w.heap.size J) b E n J ∧ Tn w w' L (relab L w.heap.size J) (fun x => x = J) := by
  have ht : Tn w w' L (relab L w.heap.size J) (fun x => x = J) := Tn.of_grown hg hl rfl
  have := h.j17
  exact ⟨h.keep (h.ev.keep ht (fun x hx e => by unfold Es at hx; omega) (fun e => by omega) (fun k hk => h.low k hk)) ht, ht⟩
structure ByJ (w : World) (L : Lab) (J : Nat) (A : Option Addr) (c : Nat) (xs : List Int) : Prop where
  own : Own .u8 5 w 0 (.slice A xs.length c) xs
  lab : OfV L J (.slice A xs.length c)
theorem ByJ.keep {A : Option Addr} {c : Nat} {xs : List Int} {S : Nat → Prop} (h : ByJ w L J A c xs) (ht : Tn w w' L L' S) (hJ : ¬ S J) : ByJ w' L' J A c xs := ⟨ht.own h.own h.lab hJ, h.lab.keep ht (own_lt h.own)⟩
theorem ByJ.rd {A : Option Addr} {c : Nat} {xs : List Int} (h : ByJ w L J A c xs) : Rd .u8 w A xs := h.own.rd
theorem JV.write (h : JV w0 w L b E n J) (hn : n ≤ 40000) {A : Option Addr} {c : Nat} {xs : List Int} (hx : ByJ w L J A c xs) (hm : xs.length ≤ 1048576) (hb : ∀ x ∈ xs, 0 ≤ x ∧ x < 256) {r : Nat} (hk : E.takes xs = r) :
    Calls Tryz.prog 18 #[.pointer (some ⟨b, 0, none⟩), .slice A xs.length c] w fun e w' => e = .returned (.int .i64 (r : Int)) ∧ ∃ L', JV w0 w' L' b (E.write xs) (n + 1) J ∧ Tn w w' L L' (Es 1) := by
  have hcap : xs.length ≤ c := hx.own.cap
  refine (h.ev.write hn A xs.length c xs rfl hx.rd hcap (by omega) (fun e => by subst e; exact (hx.own.none_len rfl).1) hb (fun a ha => ?_) hk).mono ?_
  · subst ha
    have := hx.lab a.block rfl
    rw [this]
    exact h.esJ
  · rintro e w' ⟨rfl, L', h1, h2⟩
    exact ⟨rfl, L', h.keep h1 h2, h2⟩
theorem JV.take (h : JV w0 w L b E n J) (hn : n ≤ 40000) {ps : List Pkt} {m : Nat} (hx : E.out = ps) (hm : ps.length = m) :
    Calls Tryz.prog 54 #[.pointer (some ⟨b, 0, none⟩)] w fun e w' => ∃ ms A c L', e = .returned (.slice A m c) ∧ ms.map PkM.p = ps ∧ PkRo w' w.heap.size (.slice A m c) ms ∧ (∀ k, w.heap.size ≤ k → L' k = J) ∧ JV w0 w' L' b E.taken n J ∧ Tn w w' L L' (Es 1) := by
  obtain ⟨s, he⟩ := h.ev.ee
  subst hx
  refine (eetake_any he h.ev.k0 h.ev.cap (by omega)).mono ?_
  rintro e w' ⟨ms, v, rfl, hms, hro, hj⟩
  obtain ⟨A, c, rfl⟩ := hro.form
  have hl : ms.length = m := by rw [← hm, ← hms, List.length_map]
  obtain ⟨h1, h2⟩ := hj J
  rw [hl] at hro
  exact ⟨ms, A, c, _, by rw [hl], hms, hro, fun k hk => relab_new hk, h.keep (h.ev.turn h1 h2 h.ev.ok.taken h.ev.cap.taken) h2, h2⟩
theorem JV.events (h : JV w0 w L b E n J) (hn : n ≤ 40000) {es : List Ev} {m : Nat} (hx : E.ev = es) (hm : es.length = m) :
    Calls Tryz.prog 37 #[.pointer (some ⟨b, 0, none⟩)] w fun e w' => ∃ (ms : List EvM) (A : Option Addr) (c : Nat) (L' : Lab), e = .returned (.slice A m c) ∧ ms.map EvM.e = es ∧ EvRow w' w.heap.size (.slice A m c) ms ∧ (∀ k, w.heap.size ≤ k → L' k = J) ∧ JV w0 w' L' b E n J ∧ Tn w w' L L' (fun _ => False) := by
  obtain ⟨s, he⟩ := h.ev.ee
  subst hx
  refine (eeevents_any he h.ev.cap (by omega)).mono ?_
  rintro e w' ⟨ms, v, rfl, hms, hro, hb⟩
  obtain ⟨A, c, rfl⟩ := hro.form
  have hl : ms.length = m := by rw [← hm, ← hms, List.length_map]
  rw [hl] at hro
  exact ⟨ms, A, c, _, by rw [hl], hms, hro, fun k hk => relab_new hk, h.later hb J, Tn.of_below hb L J _⟩
theorem JV.written (h : JV w0 w L b E n J) {xs : List Int} (hx : E.o.xs = xs) :
    Calls Tryz.prog 62 #[.pointer (some ⟨b, 0, none⟩)] w fun e w' => ∃ A c L', e = .returned (.slice A xs.length c) ∧ ByJ w' L' J A c xs ∧ JV w0 w' L' b E n J ∧ Tn w w' L L' (fun _ => False) := by
  obtain ⟨s, he⟩ := h.ev.ee
  subst hx
  refine (eewritten_any he).mono ?_
  rintro e w' ⟨A, c, rfl, ho, hb⟩
  exact ⟨A, c, _, rfl, ⟨ho.less (Nat.zero_le _), fun g hg => relab_new (ho.lt g hg).1⟩, h.later hb J, Tn.of_below hb L J _⟩
theorem JV.data (h : JV w0 w L b E n J) (num fr : Int) (s : ByteArray) (fin : Bool) (xs : List Int) (hs : sb s = xs) (hb : ∀ x ∈ [num, fr], -1000000 ≤ x ∧ x ≤ 1000000) (hml : xs.length ≤ 64) :
    Calls Tryz.prog 20 #[.int .i64 num, .int .i64 fr, .string s, .bool fin] w fun e w' => ∃ q c L', e = .returned (.agg #[.int .i64 3, .int .i64 0, .int .i64 num, .int .i64 0, .int .i64 fr, .slice (some ⟨q, 0, none⟩) xs.length c, .bool fin, .int .i64 0, .int .i64 0]) ∧ JV w0 w' L' b E n J ∧ L' q = J ∧ PktAt w' ⟨3, 0, num, 0, fr, xs, fin, 0, 0⟩ (some ⟨q, 0, none⟩) c ∧ q < w'.heap.size ∧ w.heap.size ≤ q ∧ Tn w w' L L' (fun _ => False) := by
  have h2 := hb num (by simp)
  have h3 := hb fr (by simp)
  refine (data_any num fr s fin w).mono ?_
  rintro e w' ⟨q, c, rfl, hq, hq2, hc, hr, hbl⟩
  have hbt := sb_byte s
  simp only at hc hr
  rw [hs] at hr hc hbt ⊢
  have z : (-9223372036854775808 : Int) ≤ 0 ∧ (0 : Int) ≤ 9223372036854775807 := by decide
  exact ⟨q, c, _, rfl, h.later hbl J, relab_new hq, ⟨hr, by show xs.length ≤ _; omega, hc, fun e => (by cases e), hbt, (by show (-9223372036854775808 : Int) ≤ 3 ∧ (3 : Int) ≤ 9223372036854775807; decide), z, by show _ ≤ num ∧ num ≤ _; omega, z, by show _ ≤ fr ∧ fr ≤ _; omega, z, z⟩, hq2, hq, Tn.of_below hbl L J _⟩
theorem JV.come (h : JV w0 w L b E n J) (hn : n ≤ 40000) (p : Pkt) (q c : Nat) (hp : PktAt w p (some ⟨q, 0, none⟩) c) (hl : p.da.length ≤ 80) (hq : q < w.heap.size) (hJ : L q = J) (hr : E.mayC p = true) :
    Calls Tryz.prog 22 #[.pointer (some ⟨b, 0, none⟩), p.val (some ⟨q, 0, none⟩) c] w fun e w' => e = .returned (.bool true) ∧ ∃ L', JV w0 w' L' b (E.comeC p) (n + 1) J ∧ Tn w w' L L' (Es 1) := by
  refine (h.ev.comeC hn p (some ⟨q, 0, none⟩) c hp (fun a e => ?_) ⟨hp.byt, hl, hp.bk, hp.bp, hp.bn, hp.bo, hp.bf, hp.bs, hp.bl⟩ hr).mono ?_
  · injection e with e
    subst e
    exact ⟨hq, by show ¬ Es 1 (L q); rw [hJ]; exact h.esJ⟩
  · rintro e w' ⟨rfl, L', h1, h2⟩
    exact ⟨rfl, L', h.keep h1 h2, h2⟩
end
theorem byte_there {w : World} {a q : Addr} {v y : Int} (h : w.cell? q = some (.int .u8 y)) : ∃ z, (w.setCell a (.int .u8 v)).cell? q = some (.int .u8 z) := by
  by_cases e : a = q
  · subst e
    exact ⟨v, World.cell?_setCell_same w a _ h⟩
  · exact ⟨y, (World.cell?_setCell_other w a q _ e).trans h⟩
theorem sb_str {xs : List Int} (h : ∀ x ∈ xs, 0 ≤ x ∧ x < 256) : sb (strOfNums xs) = xs := by
  unfold sb strOfNums
  simp only [List.map_map]
  conv => rhs; rw [← List.map_id xs]
  refine List.map_congr_left fun x hx => ?_
  have := h x hx
  simp
  omega
end Go.Proofs.YtpjlnpnadkbakaaGreat

/-
  The inbox of package inbox in a walk: 'IM' (its blocks a letter F), 'WM' (all since w0 lies behind it), 'WV' (it holds bytes of one text): a contract a call.
-/
import Derived.Test.YtlljfinagjdihaaInbox3
import Derived.Test.YtlljfinagjdihaaInView
import Derived.Test.YtlljfinagjdihaaSep
namespace Go.Proofs.Ytlljfinagjdihaa
open Go.RowKit

theorem SC.congr {w w' : World} {F F' G G' : Nat → Prop} (h : SC w w' G G') (h1 : ∀ k, F k ↔ G k) (h2 : ∀ k, F' k ↔ G' k) : SC w w' F F' :=
  ⟨h.trn.mono (fun k _ hk => (h1 k).2 hk), fun k hk => (h.sub k ((h2 k).1 hk)).imp (h1 k).2 id⟩

/-- Block p is the inbox s; its blocks are F. -/
structure IM (w : World) (B p : Nat) (F : Nat → Prop) (s : In) : Prop where
  h : ∃ q g n v xs ps, IbAt w B p q g n v xs ps s ∧ ∀ k, F k ↔ Ibf p q g v k
section
variable {w w' : World} {B p : Nat} {F G : Nat → Prop} {s : In}
theorem IM.foot_lt (h : IM w B p F s) : ∀ k, F k → B ≤ k ∧ k < w.heap.size := by
  obtain ⟨q, g, n, v, xs, ps, h1, h2⟩ := h.h
  exact fun k hk => h1.foot_lt k ((h2 k).1 hk)
theorem IM.size (h : IM w B p F s) : B ≤ w.heap.size := by
  obtain ⟨q, g, n, v, xs, ps, h1, h2⟩ := h.h
  exact h1.size
theorem IM.ok (h : IM w B p F s) : s.ok := by
  obtain ⟨q, g, n, v, xs, ps, h1, h2⟩ := h.h
  exact h1.ok
theorem IM.kept (h : IM w B p F s) (ht : Trn w w' G) (hf : ∀ k, F k → ¬ G k) : IM w' B p F s := by
  obtain ⟨q, g, n, v, xs, ps, h1, h2⟩ := h.h
  exact ⟨q, g, n, v, xs, ps, h1.kept ht (fun k hk => hf k ((h2 k).2 hk)), h2⟩
theorem IM.later (h : IM w B p F s) (hb : Below w.heap.size w w') : IM w' B p F s := h.kept (Trn.of_below (F := fun _ => False) hb) (fun _ _ => id)
theorem im_new (m : Int) (w : World) : Calls Try.prog 11 #[.int .i64 m] w fun e w' => ∃ p F, e = .returned (.pointer (some ⟨p, 0, none⟩)) ∧ IM w' w.heap.size p F (In.new m) ∧ Below w.heap.size w w' :=
  (newib_any m w).mono fun _ _ ⟨p, q, g, n, h1, h2, h3⟩ => ⟨p, Ibf p q g (.slice none 0 0), h1, ⟨q, g, n, _, _, _, h2, fun _ => Iff.rfl⟩, h3⟩
theorem IM.put (h : IM w B p F s) {f : Int} {A : Option Addr} {m c : Nat} {ys : List Int} (hm : ys.length = m) (hr : Rd .u8 w A ys) (hd : ∀ a, A = some a → 0 < m → ¬ F a.block) (b : Bool) (hf : -9223372036854775808 ≤ f ∧ f ≤ 9223372036854775807) (hmm : m ≤ 1048576) (hlim : s.tk + s.win ≤ 8192) :
    Calls Try.prog 13 #[.pointer (some ⟨p, 0, none⟩), .int .i64 f, .slice A m c, .bool b] w fun e w' => e = .returned (.int .i64 (s.new_ f ys)) ∧ ∃ F', IM w' B p F' (s.put f ys b) ∧ SC w w' F F' := by
  obtain ⟨q, g, n, v, xs, ps, h1, h2⟩ := h.h
  refine (ibput_any h1 f A m c ys hm hr (fun a ha h0 hx => hd a ha h0 ((h2 _).2 hx)) b hf hmm hlim).mono ?_
  rintro e w' ⟨rfl, v', xs', us, h3, h4⟩
  exact ⟨rfl, Ibf p q g v', ⟨q, g, n, v', xs', us, h3, fun _ => Iff.rfl⟩, h4.congr h2 (fun _ => Iff.rfl)⟩
theorem IM.limit (h : IM w B p F s) (ht : s.tk ≤ 1099511627776) : Calls Try.prog 12 #[.pointer (some ⟨p, 0, none⟩)] w fun e w' => e = .returned (.int .i64 (s.tk + s.win)) ∧ Below w.heap.size w w' := by
  obtain ⟨q, g, n, v, xs, ps, h1, h2⟩ := h.h
  refine (iblimit_any h1 ht 0).mono ?_
  rintro e w' ⟨rfl, k, rfl⟩
  exact ⟨rfl, rfl, rfl, rfl, Nat.le_refl _, fun _ _ => rfl⟩
theorem IM.taken (h : IM w B p F s) : Calls Try.prog 18 #[.pointer (some ⟨p, 0, none⟩)] w fun e w' => e = .returned (.int .i64 s.tk) ∧ Below w.heap.size w w' := by
  obtain ⟨q, g, n, v, xs, ps, h1, h2⟩ := h.h
  refine (ibtaken_any h1).mono ?_
  rintro e w' ⟨rfl, rfl⟩
  exact ⟨rfl, Below.refl _ _⟩
theorem IM.done (h : IM w B p F s) : Calls Try.prog 19 #[.pointer (some ⟨p, 0, none⟩)] w fun e w' => e = .returned (.bool (decide (0 ≤ s.en ∧ s.tk = s.en))) ∧ Below w.heap.size w w' := by
  obtain ⟨q, g, n, v, xs, ps, h1, h2⟩ := h.h
  refine (ibdone_any h1 0).mono ?_
  rintro e w' ⟨rfl, k, rfl⟩
  exact ⟨rfl, rfl, rfl, rfl, Nat.le_refl _, fun _ _ => rfl⟩
theorem IM.seen (h : IM w B p F s) {f : Int} (hf : Front s.g f) (hb : f ≤ 1099511627776) : Calls Try.prog 14 #[.pointer (some ⟨p, 0, none⟩)] w fun e w' => e = .returned (.int .i64 (if f = s.en then f + 1 else f)) ∧ Below w.heap.size w w' := by
  obtain ⟨q, g, n, v, xs, ps, h1, h2⟩ := h.h
  exact ibseen_any h1 f hf hb
theorem IM.ready (h : IM w B p F s) {f : Int} (hf : Front s.g f) (hb : f ≤ 1099511627776 ∧ s.tk ≤ 1099511627776) : Calls Try.prog 15 #[.pointer (some ⟨p, 0, none⟩)] w fun e w' => e = .returned (.int .i64 (f - s.tk)) ∧ Below w.heap.size w w' := by
  obtain ⟨q, g, n, v, xs, ps, h1, h2⟩ := h.h
  exact ibready_any h1 f hf hb
theorem IM.read (h : IM w B p F s) {m f : Int} (hf : Front s.g f) (k : Nat) (hk : (k : Int) = min (max m 0) (f - s.tk)) (hb : f ≤ 1048576) :
    Calls Try.prog 17 #[.pointer (some ⟨p, 0, none⟩), .int .i64 m] w fun e w' => ∃ A' c' L, e = .returned (.slice A' k c') ∧ Own .u8 5 w' w.heap.size (.slice A' k c') L ∧ IsRead s.g s.tk k L ∧ IM w' B p F (s.read k) ∧ SC w w' F F := by
  obtain ⟨q, g, n, v, xs, ps, h1, h2⟩ := h.h
  refine (ibread_any h1 m f hf k hk hb).mono ?_
  rintro e w' ⟨A', c', L, rfl, h3, h4, h5, h6⟩
  exact ⟨A', c', L, rfl, h3, h4, ⟨q, g, n, v, xs, ps, h5, h2⟩, h6.congr h2 h2⟩
end

/-- The inbox holds bytes of the text xs; all that it has lies behind w0, and what is below stays. -/
structure WV (w0 w : World) (p : Nat) (F : Nat → Prop) (W t e : Int) (P : Int → Prop) (xs : List Int) : Prop where
  h : ∃ s, IM w w0.heap.size p F s ∧ Vw s W t e P xs
  bel : Below w0.heap.size w0 w
section
variable {w0 w w' : World} {p : Nat} {F G : Nat → Prop} {W t e : Int} {P : Int → Prop} {xs : List Int}
theorem WV.foot (h : WV w0 w p F W t e P xs) : ∀ k, F k → w0.heap.size ≤ k ∧ k < w.heap.size := by
  obtain ⟨s, h1, _⟩ := h.h
  exact h1.foot_lt
theorem WV.later (h : WV w0 w p F W t e P xs) (hb : Below w.heap.size w w') : WV w0 w' p F W t e P xs := by
  obtain ⟨s, h1, h2⟩ := h.h
  exact ⟨⟨s, h1.later hb, h2⟩, h.bel.trans (hb.mono h.bel.size)⟩
theorem WV.other (h : WV w0 w p F W t e P xs) {G' : Nat → Prop} (hsc : SC w w' G G') (hf : Sep F G) (hg : ∀ k, G k → w0.heap.size ≤ k) : WV w0 w' p F W t e P xs ∧ Sep F G' := by
  obtain ⟨s, h1, h2⟩ := h.h
  exact ⟨⟨⟨s, h1.kept hsc.trn hf, h2⟩, h.bel.trans (hsc.below h.bel.size hg)⟩, hf.step hsc (fun k hk => (h1.foot_lt k hk).2)⟩
theorem WV.congr (h : WV w0 w p F W t e P xs) {P' : Int → Prop} (hp : ∀ k, P' k ↔ P k) : WV w0 w p F W t e P' xs := by
  obtain ⟨s, h1, h2⟩ := h.h
  exact ⟨⟨s, h1, h2.congr hp⟩, h.bel⟩
theorem WV.range (h : WV w0 w p F W t e P xs) : 1 ≤ W ∧ W ≤ 400 ∧ 0 ≤ t ∧ -1 ≤ e ∧ e ≤ 4096 ∧ (∀ k, P k → 0 ≤ k ∧ k < t + W) ∧ (0 ≤ e → ∀ k, P k → k < e) ∧ ∀ k, 0 ≤ k → k < t → P k := by
  obtain ⟨s, h1, h2⟩ := h.h
  have h3 := h1.ok
  have e1 := h2.win
  have e2 := h2.tk
  have e3 := h2.en
  subst e1; subst e2; subst e3
  have hp : ∀ k, P k → s.g k ≠ none := fun k hk => by rw [h2.yes k hk]; simp
  refine ⟨h3.w0, h3.w1, h3.t0, h3.e0, h3.e1, fun k hk => h3.rng k (hp k hk), fun he k hk => h3.end_ he k (hp k hk), fun k k1 k2 => ?_⟩
  have := h3.had k k1 k2
  rw [Ne, h2.iff] at this
  exact Classical.byContradiction this
/-- What was there already is read as it was, and lies elsewhere. -/
theorem WV.old (h : WV w0 w p F W t e P xs) {A : Option Addr} {ys : List Int} (hr : Rd .u8 w0 A ys) : Rd .u8 w A ys ∧ ∀ a, A = some a → 0 < ys.length → ¬ F a.block := by
  rcases hr with rfl | ⟨b, off, rfl, hc⟩
  · exact ⟨.inl rfl, fun a _ h0 => by simp at h0⟩
  · refine ⟨.inr ⟨b, off, rfl, fun i hi => ?_⟩, fun a ha h0 hF => ?_⟩
    · have := hc i hi
      rw [← this]
      exact World.cell?_of_block (h.bel.block b (World.block_lt_of_cell? w0 _ this))
    · injection ha with ha
      have h1 := World.block_lt_of_cell? w0 _ (hc 0 h0)
      have h2 := (h.foot _ hF).1
      rw [← ha] at h2
      simp only [] at h1 h2
      omega
theorem wv_new (m : Int) (xs : List Int) (w : World) (hW : min (max m 1) 400 = W) : Calls Try.prog 11 #[.int .i64 m] w fun e w' => ∃ p F, e = .returned (.pointer (some ⟨p, 0, none⟩)) ∧ WV w w' p F W 0 (-1) (fun k => 0 ≤ k ∧ k < 0) xs :=
  (im_new m w).mono fun _ _ ⟨p, F, h1, h2, h3⟩ => ⟨p, F, h1, ⟨_, h2, (hW ▸ Vw.new0 m xs : Vw _ W 0 (-1) (fun _ => False) xs).congr (fun k => ⟨fun x => by omega, fun x => x.elim⟩)⟩, h3⟩
theorem WV.put (h : WV w0 w p F W t e P xs) {f : Int} {A : Option Addr} {m c : Nat} {ys : List Int} (hm : ys.length = m) (hr : Rd .u8 w A ys) (hd : ∀ a, A = some a → 0 < m → ¬ F a.block) (b : Bool) (hf : -9223372036854775808 ≤ f ∧ f ≤ 9223372036854775807) (hmm : m ≤ 1048576) (hlim : t + W ≤ 8192)
    (e' : Int) (P' : Int → Prop) (a c2 N : Int)
    (hP : ∀ k, P' k ↔ P k ∨ (f ≤ k ∧ k < f + (m : Int) ∧ 0 ≤ k ∧ k < t + W ∧ (e < 0 ∨ k < e)))
    (hy : ∀ k, f ≤ k → k < f + (m : Int) → 0 ≤ k → k < t + W → (e < 0 ∨ k < e) → ¬ P k → ys.getD (k - f).toNat 0 = xs.getD k.toNat 0)
    (he : (b = true ∧ e < 0 ∧ 0 ≤ f + (m : Int) ∧ f + (m : Int) ≤ 4096 ∧ (∀ j, f + (m : Int) ≤ j → ¬ P j) ∧ e' = f + (m : Int)) ∨ ((b = false ∨ ¬ e < 0 ∨ f + (m : Int) < 0 ∨ 4096 < f + (m : Int) ∨ ∃ j, f + (m : Int) ≤ j ∧ P j) ∧ e' = e))
    (hac : a ≤ c2) (hc : ∀ k, (f ≤ k ∧ k < f + (m : Int) ∧ 0 ≤ k ∧ k < t + W ∧ (e < 0 ∨ k < e) ∧ ¬ P k) ↔ (a ≤ k ∧ k < c2)) (hN : c2 - a = N) :
    Calls Try.prog 13 #[.pointer (some ⟨p, 0, none⟩), .int .i64 f, .slice A m c, .bool b] w fun x w' => x = .returned (.int .i64 N) ∧ ∃ F', WV w0 w' p F' W t e' P' xs ∧ SC w w' F F' := by
  obtain ⟨s, h1, h2⟩ := h.h
  refine (h1.put hm hr hd b hf hmm (by rw [h2.win, h2.tk]; exact hlim)).mono ?_
  rintro x w' ⟨rfl, F', h3, h4⟩
  exact ⟨by rw [h2.new hm a c2 hac hc, hN], F', ⟨⟨_, h3, h2.put hm hP hy he⟩, h.bel.trans (h4.below h.bel.size (fun k hk => (h.foot k hk).1))⟩, h4⟩
theorem WV.limit (h : WV w0 w p F W t e P xs) (ht : t ≤ 8192) : Calls Try.prog 12 #[.pointer (some ⟨p, 0, none⟩)] w fun x w' => x = .returned (.int .i64 (t + W)) ∧ Below w.heap.size w w' := by
  obtain ⟨s, h1, h2⟩ := h.h
  have := h1.limit (by rw [h2.tk]; omega)
  rw [h2.win, h2.tk] at this
  exact this
theorem WV.taken (h : WV w0 w p F W t e P xs) : Calls Try.prog 18 #[.pointer (some ⟨p, 0, none⟩)] w fun x w' => x = .returned (.int .i64 t) ∧ Below w.heap.size w w' := by
  obtain ⟨s, h1, h2⟩ := h.h
  have := h1.taken
  rw [h2.tk] at this
  exact this
theorem WV.done (h : WV w0 w p F W t e P xs) (b : Bool) (hb : b = decide (0 ≤ e ∧ t = e)) : Calls Try.prog 19 #[.pointer (some ⟨p, 0, none⟩)] w fun x w' => x = .returned (.bool b) ∧ Below w.heap.size w w' := by
  obtain ⟨s, h1, h2⟩ := h.h
  have := h1.done
  rw [h2.tk, h2.en, ← hb] at this
  exact this
theorem WV.seen (h : WV w0 w p F W t e P xs) (f N : Int) (h0 : 0 ≤ f) (all : ∀ k, 0 ≤ k → k < f → P k) (no : ¬ P f) (hb : f ≤ 1048576) (hN : (f = e ∧ N = f + 1) ∨ (f ≠ e ∧ N = f)) : Calls Try.prog 14 #[.pointer (some ⟨p, 0, none⟩)] w fun x w' => x = .returned (.int .i64 N) ∧ Below w.heap.size w w' := by
  obtain ⟨s, h1, h2⟩ := h.h
  have := h1.seen (h2.front f h0 all no) (by omega)
  rw [h2.en, show (if f = e then f + 1 else f) = N from by rcases hN with ⟨a, b⟩ | ⟨a, b⟩; rw [if_pos a, b]; rw [if_neg a, b]] at this
  exact this
theorem WV.ready (h : WV w0 w p F W t e P xs) (f N : Int) (h0 : 0 ≤ f) (all : ∀ k, 0 ≤ k → k < f → P k) (no : ¬ P f) (hb : f ≤ 1048576 ∧ t ≤ 1048576) (hN : f - t = N) : Calls Try.prog 15 #[.pointer (some ⟨p, 0, none⟩)] w fun x w' => x = .returned (.int .i64 N) ∧ Below w.heap.size w w' := by
  obtain ⟨s, h1, h2⟩ := h.h
  have := h1.ready (h2.front f h0 all no) (by rw [h2.tk]; omega)
  rw [h2.tk, hN] at this
  exact this
theorem WV.read (h : WV w0 w p F W t e P xs) (m f : Int) (T k : Nat) (h0 : 0 ≤ f) (all : ∀ k, 0 ≤ k → k < f → P k) (no : ¬ P f) (ht : t = T) (hk : (k : Int) = min (max m 0) (f - t)) (hb : f ≤ 1048576) (hl : f ≤ xs.length) (t' : Int) (ht' : t' = t + k) :
    Calls Try.prog 17 #[.pointer (some ⟨p, 0, none⟩), .int .i64 m] w fun x w' => ∃ A' c', x = .returned (.slice A' k c') ∧ Own .u8 5 w' w.heap.size (.slice A' k c') ((xs.drop T).take k) ∧ WV w0 w' p F W t' e P xs ∧ SC w w' F F := by
  have htf : t ≤ f := by
    have hr := h.range
    by_cases hc : t ≤ f
    · exact hc
    · exact absurd (hr.2.2.2.2.2.2.2 f h0 (by omega)) no
  obtain ⟨s, h1, h2⟩ := h.h
  refine (h1.read (h2.front f h0 all no) k (by rw [h2.tk]; exact hk) hb).mono ?_
  rintro x w' ⟨A', c', L, rfl, h3, h4, h5, h6⟩
  have hL := h4.eq (h2.isread ht (fun j j1 j2 => all j (by have := h.range.2.2.1; omega) (by omega)) (by omega))
  rw [hL] at h3
  exact ⟨A', c', rfl, h3, ⟨⟨_, h5, by rw [ht']; exact h2.read k⟩, h.bel.trans (h6.below h.bel.size (fun k hk => (h.foot k hk).1))⟩, h6⟩
end
end Go.Proofs.Ytlljfinagjdihaa

/-
  State as a law sees it, calls that do nothing, a row of packets of a law's own.
-/
import Derived.Test.YtpjlnpnadkbakaaGreatQBXOw
import Derived.Test.YtpjlnpnadkbakaaGreatQBPrEvK
import Derived.Test.YtpjlnpnadkbakaaGreatQBZPrEn18
import Derived.Test.YtpjlnpnadkbakaaGreatQBZSameInt
namespace Go.Proofs.YtpjlnpnadkbakaaGreat
set_option maxRecDepth 10000
open Go.RowKit
structure RdS (w : World) (L : Lab) (A : Option Addr) (xs : List Int) : Prop where
  rd : Rd .i64 w A xs
  bl : ∀ a, A = some a → a.block < w.heap.size ∧ L a.block = 0
theorem RdS.keep {w w' : World} {L L' : Lab} {S : Nat → Prop} {A : Option Addr} {xs : List Int} (h : RdS w L A xs) (ht : Tn w w' L L' S) (h0 : ¬ S 0) : RdS w' L' A xs :=
  ⟨rd_trn h.rd ht.trn (fun a e => by rw [(h.bl a e).2]; exact h0), fun a e => ⟨Nat.lt_of_lt_of_le (h.bl a e).1 ht.size, ht.lab (h.bl a e).2 (h.bl a e).1⟩⟩
structure RowS (w : World) (L : Lab) (g : Nat) (ns : List PkM) : Prop where
  rg : ∀ i, i < ns.length → w.rangeAt g (i * 9) (ns.getD i default).cs
  se : ∀ m ∈ ns, See w L m
  lt : g < w.heap.size
  lab : L g = 0
theorem RowS.keep {w w' : World} {L L' : Lab} {S : Nat → Prop} {g : Nat} {ns : List PkM} (h : RowS w L g ns) (ht : Tn w w' L L' S) (h0 : ¬ S 0) : RowS w' L' g ns :=
  ⟨fun i hi j u hu => by
    have hbk : w'.heap[g]? = w.heap[g]? := ht.block h.lab h0 h.lt
    rw [← h.rg i hi j u hu]
    exact World.cell?_of_block hbk, fun m hm => (h.se m hm).keep ht h0, Nat.lt_of_lt_of_le h.lt ht.size, ht.lab h.lab h.lt⟩
theorem RowS.lit (w : World) (L : Lab) (ms : List PkM) (hm : ∀ m ∈ ms, See w L m) : RowS (w.alloc (.cells (pks ms).toArray 32)) (relab L w.heap.size 0) w.heap.size ms := by
  have hb := (Below.refl w.heap.size w).alloc (Nat.le_refl _) (.cells (pks ms).toArray 32)
  refine ⟨fun i hi j u hu => ?_, fun m h => (hm m h).keep (Tn.of_below hb L 0 (fun _ => False)) id, by simp, relab_new (Nat.le_refl _)⟩
  have hj : j < 9 := by
    have := (List.getElem?_eq_some_iff.1 hu).1
    rwa [PkM.cs_len] at this
  refine alloc_rangeE w (pks ms) 32 (0 + i * 9 + j) u ?_ |> fun h => by rw [Nat.zero_add, Nat.zero_add] at h; exact h
  rw [Nat.zero_add, pks_get ms i hi j hj]
  exact hu
theorem See.lit1 (w : World) (L : Lab) (k pa nu ofn fr : Int) (xs : List Int) (fin : Bool) (se li : Int) (fl : Nat × Nat) (hb : ∀ x ∈ [k, pa, nu, ofn, fr, se, li], -9223372036854775808 ≤ x ∧ x ≤ 9223372036854775807) (hx : ∀ x ∈ xs, 0 ≤ x ∧ x < 256) (hl : xs.length ≤ 80) :
    See (w.alloc (.cells (bts xs) 5 fl)) (relab L w.heap.size 0) ⟨⟨k, pa, nu, ofn, fr, xs, fin, se, li⟩, some ⟨w.heap.size, 0, none⟩, xs.length⟩ := by
  refine ⟨⟨Rd.newF w xs _ fl, by show xs.length ≤ _; omega, Nat.le_refl _, fun e => (by cases e), hx, hb k (by simp), hb pa (by simp), hb nu (by simp), hb ofn (by simp), hb fr (by simp), hb se (by simp), hb li (by simp)⟩, fun a e => ?_⟩
  injection e with e
  subst e
  exact ⟨by simp, relab_new (Nat.le_refl _)⟩
section
variable {w0 w w' : World} {L L' : Lab} {K b n : Nat} {E : En}
theorem EV.state (h : EV w0 w L K b E n) {xs : List Int} {m : Nat} (hx : E.state = xs) (hm : xs.length = m) :
    Calls Tryz.prog 58 #[.pointer (some ⟨b, 0, none⟩)] w fun e w' => ∃ A c L', e = .returned (.slice A m c) ∧ RdS w' L' A xs ∧ EV w0 w' L' K b E n ∧ Tn w w' L L' (Es K) := by
  obtain ⟨s, he⟩ := h.ee
  subst hx
  subst hm
  refine (eestate_any he h.ok).mono ?_
  rintro e w' ⟨A, m, c, rfl, rfl, ho, hb⟩
  refine ⟨A, c, _, rfl, ⟨ho.rd, fun a e => ?_⟩, h.later hb, Tn.of_below hb L 0 _⟩
  subst e
  have := ho.lt a.block rfl
  exact ⟨this.2, relab_new this.1⟩
theorem EV.sameRows (h : EV w0 w L K b E n) {A B : Option Addr} {xs : List Int} {m c d : Nat} (hm : xs.length = m) (hA : RdS w L A xs) (hB : RdS w L B xs) (hl : m ≤ 1000) :
    Calls Tryz.prog 35 #[.slice A m c, .slice B m d] w (EvA w0 w L K b E n (.bool true)) := by
  refine (sameI_true xs hm hm hA.rd hB.rd (by unfold maxLen; omega)).mono ?_
  rintro e w' ⟨rfl, k, rfl⟩
  exact ⟨rfl, L, h.keep (Tn.drewN w L k (fun _ => False)) (fun _ _ => id) id (fun _ _ => id), Tn.drewN w L k (Es K)⟩
theorem EV.tickNo (h : EV w0 w L K b E n) (hn : n ≤ 40000) (now : Int) (hr : E.mayT now = false) : Calls Tryz.prog 27 #[.pointer (some ⟨b, 0, none⟩), .int .i64 now] w (EvA w0 w L K b E (n + 1) (.bool false)) := by
  have := h.tick hn now hr
  rwa [show E.tick now = E by unfold En.tick; rw [if_neg (by rw [hr]; decide)]] at this
theorem EV.upNo (h : EV w0 w L K b E n) (hn : n ≤ 40000) (i : Int) (hr : E.mayU i = false) : Calls Tryz.prog 32 #[.pointer (some ⟨b, 0, none⟩), .int .i64 i] w (EvA w0 w L K b E (n + 1) (.bool false)) := by
  have := h.up hn i hr
  rwa [show E.up i = E by unfold En.up; rw [if_neg (by rw [hr]; decide)]] at this
theorem EV.downNo (h : EV w0 w L K b E n) (hn : n ≤ 40000) (i : Int) (hr : E.mayD i = false) : Calls Tryz.prog 34 #[.pointer (some ⟨b, 0, none⟩), .int .i64 i] w (EvA w0 w L K b E (n + 1) (.bool false)) := by
  have := h.down hn i hr
  rwa [show E.down i = E by unfold En.down; rw [if_neg (by rw [hr]; decide)]] at this
theorem EV.closeNo (h : EV w0 w L K b E n) (hn : n ≤ 40000) (hr : E.o.cl = true) : Calls Tryz.prog 21 #[.pointer (some ⟨b, 0, none⟩)] w (EvA w0 w L K b E (n + 1) (.bool false)) := by
  have := h.close hn (r := false) (by rw [hr]; rfl)
  rwa [show E.close = E by unfold En.close; rw [if_pos hr]] at this
theorem EV.now (h : EV w0 w L K b E n) {x : Int} (hx : E.now = x) : Calls Tryz.prog 59 #[.pointer (some ⟨b, 0, none⟩)] w fun e w' => e = .returned (.int .i64 x) ∧ w = w' := by
  obtain ⟨s, he⟩ := h.ee
  subst hx
  exact eenow_any he
theorem EV.comeVar (h : EV w0 w L K b E n) (hn : n ≤ 40000) (m : PkM) (hs : See w L m) (hl : m.p.da.length ≤ 80) (hr : E.mayC m.p = false) {cs : Array Value} (hcs : cs = m.cs.toArray) :
    Calls Tryz.prog 22 #[.pointer (some ⟨b, 0, none⟩), m.p.val m.A m.c] (w.alloc (.cells cs 32)) (EvA w0 w L K b (E.count 4 1) (n + 1) (.bool false)) := by
  subst hcs
  have hb := (Below.refl w.heap.size w).alloc (Nat.le_refl _) (.cells m.cs.toArray 32)
  have := (h.later hb).comeSee hn m (hs.keep (Tn.of_below hb L 0 (fun _ => False)) id) hl hr
  rw [show E.comeC m.p = E.count 4 1 by unfold En.comeC; rw [if_neg (by rw [hr]; decide)]] at this
  refine this.mono ?_
  rintro e w' ⟨rfl, L', h1, h2⟩
  exact ⟨rfl, L', h1, (Tn.of_below hb L 0 (Es K)).trans h2⟩
end
end Go.Proofs.YtpjlnpnadkbakaaGreat

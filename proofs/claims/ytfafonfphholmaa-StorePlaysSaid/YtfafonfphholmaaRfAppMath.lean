/-
  The document's store: what Append lays, where the block is new and where it is there. No function of the program.
-/
import Derived.Test.YtfafonfphholmaaRfDrop
namespace Go.Proofs.Ytfafonfphholmaa
open Go.RowKit

/-- A new block, before its bytes. -/
def RE.new (n : Int) : RE := ⟨⟨n, [], 0, false⟩, none, 0⟩

section
variable {w w' : World} {B p : Nat} {lv : Value} {L : List RE} {de ar : Bool} {nn : Int} {s : St} {F : Nat → Prop}

theorem ins_split (n : Int) (hr : L.Pairwise (fun x y => x.k.n < y.k.n)) (k : Nat) (h1 : ∀ j x, j < k → L[j]? = some x → x.k.n < n) (h2 : ∀ x, L[k]? = some x → n < x.k.n) :
    (L.take k ++ ([RE.new n] ++ L.drop k)).map (·.k) = insB (·.n) ⟨n, [], 0, false⟩ (L.map (·.k)) := by
  induction L generalizing k with
  | nil => simp [insB, RE.new]
  | cons y r ih =>
    obtain ⟨ha, hb⟩ := List.pairwise_cons.1 hr
    cases k with
    | zero =>
      have := h2 y (by simp)
      simp [insB, RE.new, this]
    | succ k =>
      have := h1 0 y (by omega) (by simp)
      have h3 := ih hb k (fun j x hj hx => h1 (j + 1) x (by omega) (by simpa using hx)) (fun x hx => h2 x (by simpa using hx))
      simp only [List.take_succ_cons, List.drop_succ_cons, List.cons_append, List.map_cons, insB]
      rw [if_neg (by omega)]
      exact congrArg (y.k :: ·) h3
theorem ins_rise (n : Int) (hr : L.Pairwise (fun x y => x.k.n < y.k.n)) (k : Nat) (h1 : ∀ j x, j < k → L[j]? = some x → x.k.n < n) (h2 : ∀ x, L[k]? = some x → n < x.k.n) :
    (L.take k ++ ([RE.new n] ++ L.drop k)).Pairwise (fun x y => x.k.n < y.k.n) := by
  induction L generalizing k with
  | nil => simp
  | cons y r ih =>
    obtain ⟨ha, hb⟩ := List.pairwise_cons.1 hr
    cases k with
    | zero =>
      have := h2 y (by simp)
      simp only [List.take_zero, List.nil_append, List.drop_zero, List.singleton_append]
      refine List.pairwise_cons.2 ⟨fun z hz => ?_, hr⟩
      rcases List.mem_cons.1 hz with rfl | hz'
      · exact this
      · have := ha z hz'
        show n < z.k.n
        omega
    | succ k =>
      have h0 := h1 0 y (by omega) (by simp)
      have h3 := ih hb k (fun j x hj hx => h1 (j + 1) x (by omega) (by simpa using hx)) (fun x hx => h2 x (by simpa using hx))
      simp only [List.take_succ_cons, List.drop_succ_cons, List.cons_append]
      refine List.pairwise_cons.2 ⟨fun z hz => ?_, h3⟩
      rcases List.mem_append.1 hz with hz | hz
      · exact ha z (List.mem_of_mem_take hz)
      · have hz : z ∈ [RE.new n] ++ List.drop k r := hz
        rcases List.mem_append.1 hz with hz | hz
        · rw [List.mem_singleton] at hz
          subst hz
          exact h0
        · exact ha z (List.mem_of_mem_drop hz)

/-- What the store of the new list leaves. -/
theorem ref_ins (h : RefAt w B p lv L de ar nn) (n : Int) (k : Nat) (h1 : ∀ j x, j < k → L[j]? = some x → x.k.n < n) (h2 : ∀ x, L[k]? = some x → n < x.k.n) (hm : L.length < 1048576) (w5 : World) (lv' : Value)
    (hl : w5.ownsRow B 53 4 lv' (L.take k ++ ([RE.new n] ++ L.drop k)).length (rcs (L.take k ++ ([RE.new n] ++ L.drop k)))) (hb : Below w.heap.size w w5) (hnew : ∀ k, lv'.ownBlock = some k → w.heap.size ≤ k) :
    RefAt (w5.setCell ⟨p, 0, none⟩ lv') B p lv' (L.take k ++ ([RE.new n] ++ L.drop k)) de ar nn ∧ SC w (w5.setCell ⟨p, 0, none⟩ lv') (RFoot p lv L) (RFoot p lv' (L.take k ++ ([RE.new n] ++ L.drop k))) := by
  have h5 := h.later hb
  have hmem : ∀ e ∈ L.take k ++ ([RE.new n] ++ L.drop k), e ∈ L ∨ e = RE.new n := fun e he => by
    rcases List.mem_append.1 he with h9 | h9
    · exact .inl (List.mem_of_mem_take h9)
    · rcases List.mem_append.1 h9 with h9 | h9
      · rw [List.mem_singleton] at h9; exact .inr h9
      · exact .inl (List.mem_of_mem_drop h9)
  have hlen : (L.take k ++ ([RE.new n] ++ L.drop k)).length = L.length + 1 := by
    rw [List.length_append, List.length_append, List.length_take, List.length_drop, List.length_singleton]; omega
  refine ⟨h5.setL lv' _ hl (fun e he => ?_) (ins_rise n h.rise k h1 h2) (by rw [hlen]; omega), ⟨(Trn.of_below (F := fun _ => False) hb).trans (trn_set w5 p 0 lv') (fun _ h => h.elim) (fun k _ hk => .inl hk), fun q hq => ?_⟩⟩
  · rcases hmem e he with h9 | rfl
    · exact ⟨h5.each e h9, h5.len e h9, h5.sle e h9⟩
    · exact ⟨Own.nil _ _ _ _, by simp [RE.new], by simp [RE.new]⟩
  · rcases hq with h9 | h9 | ⟨e, he, h9⟩
    · exact .inl (.inl h9)
    · exact .inr (hnew q h9)
    · rcases hmem e he with h8 | rfl
      · exact .inl (.inr (.inr ⟨e, h8, h9⟩))
      · simp [RE.new, RE.v, Value.ownBlock] at h9
theorem ins_at (n : Int) (k : Nat) (hk : k ≤ L.length) : (L.take k ++ ([RE.new n] ++ L.drop k))[k]? = some (RE.new n) := by
  rw [List.getElem?_append_right (by rw [List.length_take]; omega), List.length_take, Nat.min_eq_left hk, Nat.sub_self]
  rfl

/-- What the store of a block's bytes leaves. -/
theorem ref_more (h : RefAt w B p lv L de ar nn) {g c : Nat} (hv : lv = .slice (some ⟨g, 0, none⟩) L.length c) (i : Nat) (x : RE) (hx : L[i]? = some x) (ys : List Int) (w3 : World) (A' : Option Addr) (c' N : Nat) (hN : N = (x.k.xs ++ ys).length)
    (ho : Own .u8 5 w3 B (.slice A' N c') (x.k.xs ++ ys)) (hb : Below w.heap.size w w3) (hnew : ∀ k, (Value.slice A' N c').ownBlock = some k → w.heap.size ≤ k) (hl : N ≤ 1099511627776) :
    RefAt (w3.setCell ⟨g, i * 4 + 1, none⟩ (.slice A' N c')) B p lv (L.set i ⟨x.k.more ys, A', c'⟩) de ar nn ∧ SC w (w3.setCell ⟨g, i * 4 + 1, none⟩ (.slice A' N c')) (RFoot p lv L) (RFoot p lv (L.set i ⟨x.k.more ys, A', c'⟩)) := by
  subst hN
  have h4 := h.later hb
  have hs := h.sle x (List.mem_of_getElem? hx)
  have hve : (RE.mk (x.k.more ys) A' c').v = .slice A' (x.k.xs ++ ys).length c' := rfl
  have hg : lv.ownBlock = some g := by rw [hv]; rfl
  refine ⟨h4.upd hv i x ⟨x.k.more ys, A', c'⟩ hx 1 (by omega) _ rfl ho hl (by show x.k.s ≤ (x.k.xs ++ ys).length; rw [List.length_append]; omega) rfl,
    ⟨(Trn.of_below (F := fun _ => False) hb).trans (trn_set w3 g (i * 4 + 1) _) (fun _ h => h.elim) (fun k _ hk => .inr (.inl (by rw [hg, hk]))), fun q hq => ?_⟩⟩
  exact set_foot (e' := ⟨x.k.more ys, A', c'⟩) hx (fun k hk => .inr (hnew k hk)) q hq

/-- Append's blocks as mathematics. -/
theorem appB_there (hr : L.Pairwise (fun x y => x.k.n < y.k.n)) (i : Nat) (x : RE) (hx : L[i]? = some x) (ys : List Int) (A' : Option Addr) (c' : Nat) (bs : List Blk) (n : Int) (hn : x.k.n = n)
    (hk : L.map (·.k) = if bs.any (fun k => decide (k.n = n)) then bs else insB (·.n) ⟨n, [], 0, false⟩ bs) : (L.set i ⟨x.k.more ys, A', c'⟩).map (·.k) = appB n ys bs := by
  unfold appB
  rw [← hk]
  subst hn
  exact set_updB hr i x _ hx (fun k => k.more ys) rfl
end
end Go.Proofs.Ytfafonfphholmaa

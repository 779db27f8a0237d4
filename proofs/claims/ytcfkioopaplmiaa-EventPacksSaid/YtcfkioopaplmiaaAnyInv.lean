/-
  A region that draws its order, by an invariant: each operation, whenever it may come up, is shown once. No function of the program.
-/
import Derived.Test.YtcfkioopaplmiaaBase
import Derived.Deep.RegionHeld
namespace Go.Proofs.Ytcfkioopaplmiaa
open Go.RowKit

section
variable {P : Program} {ops : Array Oper} {Q : Exit → Act → World → Prop} {md : Region.Mode} {S : World → Prop}

theorem getD_set {α : Type} (xs : Array α) (i k : Nat) (v d : α) : (xs.setIfInBounds i v).getD k d = if i = k ∧ k < xs.size then v else xs.getD k d := by
  rw [Array.getD_eq_getD_getElem?, Array.getElem?_setIfInBounds, Array.getD_eq_getD_getElem?]
  by_cases h : i = k
  · subst h
    by_cases h2 : i < xs.size
    · simp [h2]
    · simp [h2]
  · simp [h]
theorem ready_spec {listed : Array Bool} {i : Nat} (h : i ∈ Region.ready md ops listed) :
    i < ops.size ∧ listed.getD i true = false ∧ ∀ o, ops[i]? = some o → ∀ e ∈ o.after, Region.binds md e = true → listed.getD e.on false = true := by
  unfold Region.ready at h
  rw [List.mem_filter, List.mem_range] at h
  obtain ⟨h1, h2⟩ := h
  rw [Bool.and_eq_true] at h2
  refine ⟨h1, by simpa using h2.1, fun o ho e he hb => ?_⟩
  have h3 := h2.2
  rw [ho] at h3
  simp only [Option.map_some, Option.getD_some, Array.all_eq_true', Bool.or_eq_true, Bool.not_eq_true'] at h3
  rcases h3 e he with h4 | h4
  · rw [hb] at h4; cases h4
  · exact h4
theorem ready_of {listed : Array Bool} {i : Nat} {o : Oper} (ho : ops[i]? = some o) (h1 : listed.getD i true = false) (h2 : ∀ e ∈ o.after, listed.getD e.on false = true) : i ∈ Region.ready md ops listed := by
  unfold Region.ready
  rw [List.mem_filter, List.mem_range]
  refine ⟨(Array.getElem?_eq_some_iff.1 ho).1, ?_⟩
  rw [Bool.and_eq_true, ho]
  refine ⟨by rw [h1]; rfl, ?_⟩
  simp only [Option.map_some, Option.getD_some, Array.all_eq_true', Bool.or_eq_true]
  exact fun e he => .inr (h2 e he)
/-- Nothing may come up any more: all have. -/
theorem ready_nil {listed : Array Bool} (hn : listed.size = ops.size) (hd : ∀ (i : Nat) (o : Oper), ops[i]? = some o → ∀ e ∈ o.after, e.on < i) (h : Region.ready md ops listed = []) : ∀ i, i < ops.size → listed.getD i false = true := by
  intro i
  induction i using Nat.strongRecOn with
  | _ i ih =>
    intro hi
    cases h9 : listed.getD i false with
    | true => rfl
    | false =>
      have ho : ops[i]? = some ops[i] := by simp [hi]
      have h1 : listed.getD i true = false := by
        have hl : i < listed.size := by omega
        simp [Array.getD, hl] at h9 ⊢
        exact h9
      have := ready_of (md := md) ho h1 (fun e he => ih e.on (hd i _ ho e he) (by have := hd i _ ho e he; omega))
      rw [h] at this
      cases this
theorem wpAnyH_inv (I : Array Bool → Act → World → Prop)
    (hstep : ∀ listed a w i, I listed a w → i ∈ Region.ready md ops listed → wpOp P ops Q i (fun a' w' => S w' ∧ I (listed.setIfInBounds i true) a' w') a w)
    (hdone : ∀ listed a w, I listed a w → Region.ready md ops listed = [] → Q .normal a w) :
    ∀ fuel listed a w, listed.toList.count false ≤ fuel → I listed a w → wpAnyH P md ops Q S fuel listed a w := by
  intro fuel
  induction fuel with
  | zero =>
    intro listed a w hc hI
    have hr : Region.ready md ops listed = [] := by
      rw [List.eq_nil_iff_forall_not_mem]
      intro i hi
      obtain ⟨_, h2, _⟩ := ready_spec hi
      have hl : i < listed.size := by
        rcases Nat.lt_or_ge i listed.size with h | h
        · exact h
        · simp [Array.getD, Nat.not_lt.2 h] at h2
      have hm : false ∈ listed.toList := by
        simp [Array.getD, hl] at h2
        rw [← h2]
        simp
      have := List.count_pos_iff.2 hm
      omega
    exact ⟨hr, hdone listed a w hI hr⟩
  | succ fuel ih =>
    intro listed a w hc hI
    refine ⟨hdone listed a w hI, fun i hi => wpOp_mono (fun a' w' h => ⟨h.1, ih _ a' w' ?_ h.2⟩) (hstep listed a w i hI hi)⟩
    obtain ⟨_, h2, _⟩ := ready_spec hi
    have hl : i < listed.toList.length := by
      rcases Nat.lt_or_ge i listed.size with h | h
      · simpa using h
      · simp [Array.getD, Nat.not_lt.2 h] at h2
    have h3 : listed.toList[i] = false := by
      have hl2 : i < listed.size := by simpa using hl
      simp [Array.getD, hl2] at h2
      simpa using h2
    rw [Array.toList_setIfInBounds, List.count_set hl, h3]
    have hm : false ∈ listed.toList := by rw [← h3]; exact List.getElem_mem hl
    have := List.count_pos_iff.2 hm
    have hb : (false == false) = true := rfl
    have hb2 : (true == false) = false := rfl
    rw [if_pos hb, hb2]
    simp only [Bool.false_eq_true, if_false]
    omega

/-- Operations 0 .. n - 1 lay what they yield into the slots c .. c + n - 1; of each that has come up V says what it yielded; R is held of the world. -/
structure AnyI (n c : Nat) (t0 : Array Value) (V : Array Bool → Nat → World → Value → Prop) (R : World → Prop) (listed : Array Bool) (a : Act) (w : World) : Prop where
  sz : a.tmps.size = t0.size
  df : a.defers = []
  ln : listed.size = n
  r : R w
  old : ∀ k, k < c ∨ c + n ≤ k → a.tmps.getD k undef = t0.getD k undef
  val : ∀ j, listed.getD j false = true → V listed j w (a.tmps.getD (c + j) undef)

variable {n c : Nat} {t0 : Array Value} {V : Array Bool → Nat → World → Value → Prop} {R : World → Prop} {listed : Array Bool} {a : Act} {w w' : World} {i : Nat} {v : Value}
theorem AnyI.put (h : AnyI n c t0 V R listed a w) (hi : i < n) (hc : c + n ≤ t0.size) (hV : V (listed.setIfInBounds i true) i w' v) (hR : R w')
    (hm : ∀ j x, j ≠ i → listed.getD j false = true → V listed j w x → V (listed.setIfInBounds i true) j w' x) : AnyI n c t0 V R (listed.setIfInBounds i true) (a.put (some (c + i)) v) w' := by
  have hsz := h.sz
  have hp : ∀ k, (a.put (some (c + i)) v).tmps.getD k undef = if c + i = k ∧ k < a.tmps.size then v else a.tmps.getD k undef := fun k => getD_set _ _ _ _ _
  refine ⟨by simp [Act.put, hsz], h.df, by simp [h.ln], hR, fun k hk => ?_, fun j hj => ?_⟩
  · rw [← h.old k hk, hp, if_neg (by omega)]
  · rw [hp]
    by_cases he : j = i
    · subst he
      rw [if_pos ⟨rfl, by omega⟩]
      exact hV
    · rw [if_neg (by omega)]
      rw [getD_set, if_neg (fun e => he e.1.symm)] at hj
      exact hm j _ he hj (h.val j hj)
/-- A step that runs to a value. -/
theorem AnyI.step (h : AnyI n c t0 V R listed a w) {o : Oper} (ho : ops[i]? = some o) (hg : o.guard = none) (hd : o.dst = some (c + i)) (hi : i < n) (hc : c + n ≤ t0.size)
    (hrun : (execOp a.eval o).run P w = .ok (.value v) w') (hV : V (listed.setIfInBounds i true) i w' v) (hR : R w') (hS : S w')
    (hm : ∀ j x, j ≠ i → listed.getD j false = true → V listed j w x → V (listed.setIfInBounds i true) j w' x) :
    wpOp P ops Q i (fun a' w' => S w' ∧ AnyI n c t0 V R (listed.setIfInBounds i true) a' w') a w := by
  unfold wpOp
  rw [ho]
  simp only [Region.wanted, hg, if_true]
  refine .inl ?_
  unfold Oper.wp
  rw [hrun]
  simp only [Oper.upon]
  rw [hd]
  exact ⟨hS, h.put hi hc hV hR hm⟩
theorem AnyI.at (h : AnyI n c t0 V R listed a w) (j : Nat) (hj : listed.getD j false = true) : V listed j w (a.eval (.tmp (c + j))) := h.val j hj
end
end Go.Proofs.Ytcfkioopaplmiaa

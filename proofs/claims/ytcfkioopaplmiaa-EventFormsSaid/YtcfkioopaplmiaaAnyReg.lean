/-
  A region that draws, by an invariant: the whole of it ('region_inv'): each operation is shown once. No function of the program.
-/
import Derived.Test.YtcfkioopaplmiaaAnyYv
namespace Go.Proofs.Ytcfkioopaplmiaa
open Go.RowKit

theorem lt_cases {T : Nat → Prop} {n : Nat} (h : ∀ i, i < n → T i) (hn : T n) : ∀ i, i < n + 1 → T i := fun i hi => by
  by_cases he : i = n
  · rw [he]; exact hn
  · exact h i (by omega)
/-- Each operation waits for elder ones alone. -/
def elder (ops : Array Oper) : Bool := ops.toList.zipIdx.all fun x => x.1.after.toList.all fun e => decide (e.on < x.2)
theorem elder_spec {ops : Array Oper} (h : elder ops = true) (i : Nat) (o : Oper) (ho : ops[i]? = some o) (e : Edge) (he : e ∈ o.after) : e.on < i := by
  unfold elder at h
  rw [List.all_eq_true] at h
  have h1 := h (o, i) (by
    rw [List.mem_zipIdx_iff_getElem?]
    simpa using ho)
  rw [List.all_eq_true] at h1
  exact of_decide_eq_true (h1 e (by simpa using he))
theorem region_inv {P : Program} {ops : Array Oper} {Q : Exit → Act → World → Prop} {id : Nat} {a : Act} {w : World} (n c : Nat) (ys : List Yv) (W0 : World) (hm : P.follows .mixedOrders = true)
    (hc : c + n ≤ a.tmps.size) (hn : ops.size = n) (hel : elder ops = true) (hdf : a.defers = []) (hb : Below W0.heap.size W0 w)
    (hstep : ∀ t0 : Array Value, (∀ k, t0.getD k undef = a.tmps.getD k undef) → c + n ≤ t0.size → ∀ listed a' w' Q', AnyY n c t0 ys W0 listed a' w' → ∀ i, i < n →
      (∀ o, ops[i]? = some o → ∀ e ∈ o.after, Region.binds .any e = true → listed.getD e.on false = true) → wpOp P ops Q' i (fun a'' w'' => True ∧ AnyY n c t0 ys W0 (listed.setIfInBounds i true) a'' w'') a' w')
    (hdone : ∀ a' w', a'.tmps.size = a.tmps.size → a'.defers = [] → Below W0.heap.size W0 w' → (∀ k, k < c ∨ c + n ≤ k → a'.tmps.getD k undef = a.tmps.getD k undef) →
      (∀ j, j < n → (ys.getD j Yv.any).p w' (a'.tmps.getD (c + j) undef)) → Q .normal a' w') : (Code.region id ops true).wp P Q a w := by
  refine wp_region_held_drew (S := fun _ => True) hm trivial (fun _ => ?_)
  refine wpAnyH_inv (AnyY n c a.tmps ys W0) (fun listed a' w' i hI hi => ?_) (fun listed a' w' hI hr => ?_) _ _ _ _ (by simp) (by rw [hn]; exact AnyI.begin n c _ ys W0 _ _ rfl hdf hb.drew)
  · obtain ⟨h1, _, h3⟩ := ready_spec hi
    exact hstep a.tmps (fun _ => rfl) hc listed a' w' Q hI i (by omega) h3
  · have hall := ready_nil (by rw [hI.ln, hn]) (elder_spec hel) hr
    exact hdone a' w' hI.sz hI.df hI.r hI.old (fun j hj => hI.val j (hall j (by omega)))
end Go.Proofs.Ytcfkioopaplmiaa

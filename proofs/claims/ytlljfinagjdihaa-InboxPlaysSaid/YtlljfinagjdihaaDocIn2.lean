/-
  What Put of the document's own inbox does: contract over the program.
-/
import Derived.Test.YtlljfinagjdihaaDocIn
import Derived.Test.YtlljfinagjdihaaFresh
import Derived.Deep.LoopGhost
namespace Go.Proofs.Ytlljfinagjdihaa
open Go.RowKit

theorem info_byteI : (Try.prog.info? 5).map (fun i => (i.zero, i.size, i.bytes)) = some (some (.int .u8 0), 1, 1) := by kernel_rfl

section
variable {xs : List Int} {ps : List (Int × Int)} {g : Int → Option Int}
/-- A byte where none is there yet. -/
theorem Rep.set (h : Rep xs ps g) (k : Nat) (x : Int) (hk : ¬ ins ps k) : Rep (xs.set k x) ps g := by
  refine ⟨h.norm, fun j hj => ?_, h.no⟩
  obtain ⟨h1, h2, h3⟩ := h.yes j hj
  refine ⟨h1, by rw [List.length_set]; exact h2, ?_⟩
  rw [h3]
  congr 1
  have hne : k ≠ j.toNat := fun e => hk (by rw [e, Int.toNat_of_nonneg h1]; exact hj)
  simp [List.getD, hne]
/-- It is there. -/
theorem Rep.lay (h : Rep xs ps g) (k : Nat) (x : Int) (hl : k < xs.length) (hk : (k : Int) < 1099511627776) : Rep (xs.set k x) (addN ps k (k + 1)) (fun j => if j = k then some x else g j) := by
  have hn := addN_norm h.norm (k : Int) (k + 1)
  have hi : ∀ j : Int, ins (addN ps k (k + 1)) j ↔ ins ps j ∨ j = k := fun j => by
    rw [hn.2]
    constructor
    · rintro (h1 | h1)
      · exact .inl h1
      · exact .inr (by omega)
    · rintro (h1 | h1)
      · exact .inl h1
      · exact .inr (by omega)
  refine ⟨hn.1, fun j hj => ?_, fun j hj => ?_⟩
  · by_cases e : j = k
    · subst e
      refine ⟨by omega, by rw [List.length_set]; omega, ?_⟩
      rw [if_pos rfl]
      simp [List.getD, hl]
    · have hj' := ((hi j).1 hj).resolve_right e
      obtain ⟨h1, h2, h3⟩ := h.yes j hj'
      refine ⟨h1, by rw [List.length_set]; exact h2, ?_⟩
      rw [if_neg e, h3]
      congr 1
      have hne : k ≠ j.toNat := fun e' => e (by rw [e', Int.toNat_of_nonneg h1])
      simp [List.getD, hne]
  · have e : j ≠ k := fun e => hj ((hi j).2 (.inr e))
    rw [if_neg e]
    exact h.no j (fun h1 => hj ((hi j).2 (.inl h1)))
end

section
variable {w w' : World} {B b : Nat} {bv gv : Value} {xs : List Int} {ps : List (Int × Int)} {s : In}
/-- A byte is stored where none is there yet. -/
theorem DiAt.byte {g n c : Nat} (h : DiAt w B b (.slice (some ⟨g, 0, none⟩) n c) gv xs ps s) (hn : xs.length = n) (k : Nat) (hk : ¬ ins ps k) (x : Int) :
    DiAt (w.setCell ⟨g, k, none⟩ (.int .u8 x)) B b (.slice (some ⟨g, 0, none⟩) n c) gv (xs.set k x) ps s ∧ SC w (w.setCell ⟨g, k, none⟩ (.int .u8 x)) (Dif b (.slice (some ⟨g, 0, none⟩) n c) gv) (Dif b (.slice (some ⟨g, 0, none⟩) n c) gv) := by
  have hg : Trn w (w.setCell ⟨g, k, none⟩ (.int .u8 x)) (fun j => j = g) := (Trn.of_grown (setCell_one w g k _)).mono (fun j _ hj => (Option.some.inj hj).symm)
  refine ⟨⟨h.sf.kept hg ?_, h.own.stored hn k x, h.rep.set k x hk, h.ok⟩, hg.mono (fun j _ hj => .inr (.inr (by rw [hj]; rfl))), fun j hj => .inl hj⟩
  rintro j (rfl | hj) e
  · exact h.nb (by rw [e]; rfl)
  · exact h.ng g rfl (by rw [← e]; exact hj)
theorem sc_later {F : Nat → Prop} (hb : Below w.heap.size w w') : SC w w' F F := SC.of_below hb
end
theorem In.fin_no {s : In} {k : Int} {b : Bool} (h : ¬ (b = true ∧ s.ends k)) : s.fin k b = s := by
  unfold In.fin
  rw [if_neg h]
theorem In.fin_yes {s : In} {k : Int} (h : s.ends k) : s.fin k true = s.shut k := by
  unfold In.fin
  rw [if_pos ⟨rfl, h⟩]
/-- Behind the last place that is there. -/
def topOf (ps : List (Int × Int)) : Int := match ps.getLast? with | none => 0 | some q => q.2
theorem top_iff {xs : List Int} {ps : List (Int × Int)} {g : Int → Option Int} (h : Rep xs ps g) (k : Int) (hk : 0 ≤ k) : topOf ps ≤ k ↔ ∀ j, k ≤ j → g j = none := by
  unfold topOf
  rcases List.eq_nil_or_concat ps with rfl | ⟨qs, q, rfl⟩
  · simp only [List.getLast?_nil]
    exact ⟨fun _ j _ => h.no j (ins_nil j), fun _ => hk⟩
  · simp only [List.concat_eq_append] at h ⊢
    simp only [List.getLast?_append, List.getLast?_singleton, Option.some_or]
    have hq := h.norm.each q (by simp)
    have hlast : ∀ r ∈ qs ++ [q], r.2 ≤ q.2 := fun r hr => by
      rcases List.mem_append.1 hr with h1 | h1
      · have hp := (List.pairwise_append.1 h.norm.gap).2.2 r h1 q (by simp)
        have := (h.norm.each r hr)
        omega
      · have : r = q := by simpa using h1
        rw [this]; omega
    constructor
    · intro h1 j hj
      refine h.no j ?_
      rintro ⟨r, hr, h2, h3⟩
      have := hlast r hr
      omega
    · intro h1
      by_cases hc : q.2 ≤ k
      · exact hc
      · have hy := (h.yes (max k q.1) ⟨q, by simp, by omega, by omega⟩).2.2
        rw [h1 _ (by omega)] at hy
        cases hy
theorem top_get {ps : List (Int × Int)} {n : Nat} (hn : ps.length = n + 1) : topOf ps = (ps.getD n (0, 0)).2 := by
  unfold topOf
  rw [List.getLast?_eq_getElem?, hn]
  simp [List.getD, hn]
/-- What a Put has done so far. -/
def DMid (w0 wr : World) (B b : Nat) (bv gv : Value) (s : In) : Prop := ∃ bv' gv' xs' ps', DiAt wr B b bv' gv' xs' ps' s ∧ SC w0 wr (Dif b bv gv) (Dif b bv' gv') ∧ xs'.length ≤ 8192
end Go.Proofs.Ytlljfinagjdihaa

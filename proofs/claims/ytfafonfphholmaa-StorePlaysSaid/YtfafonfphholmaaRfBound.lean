/-
  How large a store may grow, act by act. No program.
-/
import Derived.Test.YtfafonfphholmaaStCrash
namespace Go.Proofs.Ytfafonfphholmaa

/-- At most k blocks of at most 20 k bytes each. -/
def Small (s : St) (k : Nat) : Prop := s.bs.length ≤ k ∧ ∀ b ∈ s.bs, b.xs.length ≤ 20 * k

theorem Small.more {s : St} {k : Nat} (h : Small s k) : Small s (k + 1) := ⟨Nat.le_succ_of_le h.1, fun b hb => by have := h.2 b hb; omega⟩
theorem Small.act {s : St} {k : Nat} (h : Small s k) (e : Int) (bs : List Blk) (h1 : bs.length ≤ k) (h2 : ∀ b ∈ bs, b.xs.length ≤ 20 * k) : Small (s.act e bs).1 k := by
  unfold St.act
  split
  · exact h
  · split
    · exact h
    · exact ⟨h1, h2⟩
theorem Small.append {s : St} {k : Nat} (h : Small s k) (n : Int) (ys : List Int) (hy : ys.length ≤ 20) : Small (s.append n ys).1 (k + 1) := by
  unfold St.append
  refine Small.act h.more _ _ ?_ ?_
  · unfold appB
    rw [List.length_map]
    split
    · exact Nat.le_succ_of_le h.1
    · rw [length_insB]; have := h.1; omega
  · intro b hb
    unfold appB at hb
    obtain ⟨c, hc, rfl⟩ := List.mem_map.1 hb
    have hcl : c.xs.length ≤ 20 * k := by
      split at hc
      · exact h.2 c hc
      · rcases mem_insB.1 hc with rfl | h9
        · simp
        · exact h.2 c h9
    split
    · unfold Blk.more
      simp only [List.length_append]
      omega
    · omega
theorem Small.upd {s : St} {k : Nat} (h : Small s k) (e n : Int) (g : Blk → Blk) (hg : ∀ b, (g b).xs.length ≤ b.xs.length) : Small (s.act e (updB n g s.bs)).1 k := by
  refine Small.act h _ _ (by unfold updB; rw [List.length_map]; exact h.1) (fun b hb => ?_)
  unfold updB at hb
  obtain ⟨c, hc, rfl⟩ := List.mem_map.1 hb
  have := h.2 c hc
  have := hg c
  split <;> omega
theorem Small.sync {s : St} {k : Nat} (h : Small s k) (n : Int) : Small (s.sync n).1 k := by
  unfold St.sync
  exact h.upd _ _ _ (fun b => Nat.le_refl _)
theorem Small.cut {s : St} {k : Nat} (h : Small s k) (n j : Int) : Small (s.cut n j).1 k := by
  unfold St.cut
  exact h.upd _ _ _ (fun b => by unfold Blk.cut; simp only [List.length_take]; omega)
theorem Small.drop {s : St} {k : Nat} (h : Small s k) (n : Int) : Small (s.drop n).1 k := by
  unfold St.drop
  refine Small.act h _ _ (Nat.le_trans (List.length_filter_le _ _) h.1) (fun b hb => h.2 b (List.mem_filter.1 hb).1)
theorem Small.fuse {s : St} {k : Nat} (h : Small s k) (fu : Bool) (lf : Int) (de : Bool) : Small ⟨s.bs, fu, lf, de⟩ k := h
theorem Small.crash {s : St} {k : Nat} (h : Small s k) (keep : Int) : Small (s.crash keep) k := by
  unfold St.crash crashB
  refine ⟨?_, fun b hb => ?_⟩
  · show ((List.map _ (List.filter _ (List.map _ s.bs)))).length ≤ k
    rw [List.length_map]
    refine Nat.le_trans (List.length_filter_le _ _) ?_
    rw [List.length_map]
    exact h.1
  · obtain ⟨c, hc, rfl⟩ := List.mem_map.1 hb
    obtain ⟨d, hd, rfl⟩ := List.mem_map.1 (List.mem_filter.1 hc).1
    have := h.2 d hd
    show (d.xs.take _).length ≤ _
    rw [List.length_take]
    omega
end Go.Proofs.Ytfafonfphholmaa

/-
  What slices.Insert and slices.Replace make of a list of pairs of the call's own, whatever road they take: contracts over the program.
-/
import Derived.Test.YtlljfinagjdihaaReplace2
namespace Go.Proofs.Ytlljfinagjdihaa
open Go.RowKit

/-- What is left: v', the call's own, in the old block or in a new one. -/
def Left (w : World) (B : Nat) (ob : Option Nat) (ls : List (Int × Int)) (e : Ending) (w' : World) : Prop :=
  ∃ v', e = .returned v' ∧ OwnP 64 w' B v' ls ∧ w.grownBy w' ob ∧ ∀ g, v'.ownBlock = some g → ob = some g ∨ w.heap.size ≤ g

/-- slices.Insert, of something. -/
theorem insert_any (v u : Value) (ps qs : List (Int × Int)) (B i n m : Nat) (w : World) (ob : Option Nat) (h : OwnP 64 w B v ps) (hob : v.ownBlock = ob) (hu : OwnP 64 w B u qs) (hn : ps.length = n) (hm : qs.length = m) (hin : i ≤ n) (h0 : 0 < m) (hne : ∀ g, u.ownBlock = some g → ob ≠ some g) (hb : (n + m) * 16 ≤ 140737488355328) (hB : B ≤ w.heap.size) :
    Calls Try.prog 54 #[v, .int .i64 i, u] w (Left w B ob (ps.take i ++ qs ++ ps.drop i)) := by
  obtain ⟨A, mc, rfl⟩ := hu.form
  rw [hm] at hu ⊢
  by_cases hi : i = n
  · subst hi
    have := insert_end v ps qs B m mc A ob w h hob (by rw [hm] at *; exact hu) h0 (by rw [hn]; exact hb) hB
    rw [hn] at this
    rw [← hn, List.take_length, List.drop_length, List.append_nil, hn]
    exact this
  · rcases h.parts with ⟨_, rfl⟩ | ⟨g, c, cur, rfl, hBg, hg, hnc, hcm, hcl, hct⟩
    · simp at hn; omega
    · rw [hn] at hnc hct ⊢
      obtain ⟨gb, rfl, _⟩ := hu.at h0
      have hng : gb ≠ g := fun e => hne gb rfl (by rw [← hob, e]; rfl)
      have hgl := (h.lt g rfl).2
      by_cases hroom : n + m ≤ c
      · refine (insert_shift g c cur ps qs B i n m mc gb w hg hn hcl hct hBg hcm hu hng h0 (by omega) hroom).mono ?_
        rintro e w' ⟨rfl, h1, h2⟩
        exact ⟨_, rfl, h1, by rw [← hob]; exact h2, fun x hx => .inl (by rw [← hob]; exact hx)⟩
      · refine (insert_grow g c cur ps qs B i n m mc _ w hg hn hcl hct hnc (hu.toSrc _ fun x hx => by have := (hu.lt x hx).2; omega) h0 (by omega) (by omega) hb hB).mono ?_
        rintro e w' ⟨C, rfl, h1, h2⟩
        exact ⟨_, rfl, h1, h2 _, fun x hx => .inr (by simp [Value.ownBlock] at hx; omega)⟩

/-- slices.Replace. -/
theorem replace_any (v u : Value) (ps qs : List (Int × Int)) (B i j n m : Nat) (w : World) (ob : Option Nat) (h : OwnP 64 w B v ps) (hob : v.ownBlock = ob) (hu : OwnP 64 w B u qs) (hn : ps.length = n) (hm : qs.length = m) (hij : i ≤ j) (hjn : j ≤ n) (h0 : i < j ∨ 0 < m) (hne : ∀ g, u.ownBlock = some g → ob ≠ some g) (hb : (n + m) * 16 ≤ 140737488355328) (hB : B ≤ w.heap.size) :
    Calls Try.prog 46 #[v, .int .i64 i, .int .i64 j, u] w (Left w B ob (ps.take i ++ qs ++ ps.drop j)) := by
  by_cases hi : i = j
  · subst hi
    have hI := insert_any v u ps qs B i n m w ob h hob hu hn hm hjn (by omega) hne hb hB
    obtain ⟨A0, c0, hv⟩ := h.form
    have hc := (show OwnP 64 w B (.slice A0 ps.length c0) ps by rw [← hv]; exact h).cap
    rw [hn] at hv hc
    exact replace_ins v i u n _ A0 c0 w hv hjn hc.1 (by rintro e w' ⟨v', rfl, _⟩; exact ⟨v', rfl⟩) hI
  · obtain ⟨A, mc, rfl⟩ := hu.form
    rw [hm] at hu hne ⊢
    have hql := hu.len
    rcases h.parts with ⟨_, rfl⟩ | ⟨g, c, cur, rfl, hBg, hg, hnc, hcm, hcl, hct⟩
    · simp at hn; omega
    · rw [hn] at hnc hct h ⊢
      have hgl := (h.lt g rfl).2
      have hob' : ob = some g := hob.symm
      have hsg : Src w A m qs g := hu.toSrc g fun x hx e => hne x hx (by rw [hob', e])
      have hsN : Src w A m qs w.heap.size := hu.toSrc _ fun x hx => by have := (hu.lt x hx).2; omega
      by_cases hj : j = n
      · subst hj
        rw [show ps.drop j = [] from List.drop_eq_nil_of_le (by omega), List.append_nil]
        have hcut := h.cut i (by omega)
        have hcl' : (ps.take i).length = i := by rw [List.length_take]; omega
        by_cases him : i + m < j
        · obtain ⟨w1, hr1, ho1, hg1⟩ := run_app2_fits (P := Try.prog) w 60 60 64 _ Try.underlying60 info_range B g i c (ps.take i) hcut A m mc qs hql (fun hp => (hsg.pos A hp).2) (by omega)
          obtain ⟨_, cur1, hgc, hl1, ht1, _⟩ := ho1.heap
          obtain ⟨w2, Z, hr2, hZ, hg2, hgb2, _⟩ := run_clear2 (P := Try.prog) w1 60 64 _ Try.underlying60 Try.zeroValue64 rfl (some ⟨g, (i + m) * 2, none⟩) (j - (i + m)) (c - (i + m)) g ((i + m) * 2) cur1 64 hgc (fun _ => rfl) (by rw [hl1]; omega)
          refine (replace_end1 g c i j m mc A w w1 w2 (by omega) hnc him hr1 hr2).mono ?_
          rintro e w' ⟨rfl, rfl⟩
          refine ⟨_, rfl, OwnP.of hBg hg2 ho1.len (by omega) hcm (by rw [length_splice _ _ _ (by rw [hl1, hZ]; omega), hl1]) (by rw [splice_ahead _ _ _ _ (by rw [hl1]; omega) (Nat.le_refl _)]; exact ht1), by rw [hob']; exact hg1.trans hgb2, fun x hx => .inl (by rw [hob']; exact hx)⟩
        · obtain ⟨A', c', w1, hr1, ho1, hg1, hf1⟩ := run_app2 (P := Try.prog) w 60 60 64 _ Try.underlying60 info_range rfl B (.slice (some ⟨g, 0, none⟩) i c) (ps.take i) hcut A m mc qs hql (fun hp => (hsg.pos A hp).2) (by rw [hcl']; omega) hB
          rw [hcl'] at hr1 ho1 hf1
          refine (replace_end0 _ c i j m mc _ A w w1 (by omega) hnc (by omega) A' c' rfl hr1).mono ?_
          rintro e w' ⟨rfl, rfl⟩
          exact ⟨_, rfl, ho1, by rw [hob']; exact hg1, fun x hx => by rw [hob']; exact hf1 x hx⟩
      · by_cases him : i + m ≤ j
        · refine (replace_easy g c i j n m mc _ cur ps qs A B w hg hn hcl hct hBg hnc hcm hsg (by omega) (by omega) him rfl).mono ?_
          rintro e w' ⟨rfl, h1, h2⟩
          exact ⟨_, rfl, h1, by rw [hob']; exact h2, fun x hx => .inl (by rw [hob']; exact hx)⟩
        · by_cases hroom : i + m + (n - j) ≤ c
          · obtain ⟨gb, rfl, _⟩ := hu.at (by omega)
            refine (replace_shift g c i j n m mc _ gb cur ps qs B w hg hn hcl hct hBg hnc hcm hu (fun e => hne gb rfl (by rw [hob', e])) (by omega) (by omega) (by omega) rfl hroom).mono ?_
            rintro e w' ⟨rfl, h1, h2⟩
            exact ⟨_, rfl, h1, by rw [hob']; exact h2, fun x hx => .inl (by rw [hob']; exact hx)⟩
          · refine (replace_grow g c i j n m mc _ cur ps qs A B w hg hn hcl hct hB hnc hcm hsN (by omega) (by omega) rfl (by omega) (by omega)).mono ?_
            rintro e w' ⟨C, rfl, h1, h2⟩
            exact ⟨_, rfl, h1, h2 _, fun x hx => .inr (by simp [Value.ownBlock] at hx; omega)⟩
end Go.Proofs.Ytlljfinagjdihaa

/-
  An inbox as mathematics: the end may be told first; how many bytes are new, counted in a set; a ring of bytes. No program.
-/
import Derived.Test.YtlljfinagjdihaaDocIn2
import Derived.Test.YtlljfinagjdihaaCountMath
namespace Go.Proofs.Ytlljfinagjdihaa

namespace In
variable {s : In}
theorem shut_may {e k : Int} (h : s.en < 0) (hk : k < e) : (s.shut e).may k ↔ s.may k := by
  unfold may shut
  exact ⟨fun ⟨h1, h2, _, h4⟩ => ⟨h1, h2, .inl h, h4⟩, fun ⟨h1, h2, _, h4⟩ => ⟨h1, h2, .inr hk, h4⟩⟩
theorem steps_shut (h : s.en < 0) (f : Int) (ys : List Int) (e : Int) (i : Nat) (hi : f + i ≤ e) : (s.shut e).steps f ys i = ((s.steps f ys i).1.shut e, (s.steps f ys i).2) := by
  induction i with
  | zero => rfl
  | succ i ih =>
    have ih := ih (by omega)
    have hen := (steps_same (s := s) f ys i).2.2
    have hm : ((s.steps f ys i).1.shut e).may (f + i) ↔ (s.steps f ys i).1.may (f + i) := shut_may (by rw [hen]; exact h) (by omega)
    show ((((s.shut e).steps f ys i).1.put1 (f + i) (ys.getD i 0), ((s.shut e).steps f ys i).2 + ((s.shut e).steps f ys i).1.cnt1 (f + i)) : In × Int) = (((s.steps f ys i).1.put1 (f + i) (ys.getD i 0)).shut e, (s.steps f ys i).2 + (s.steps f ys i).1.cnt1 (f + i))
    rw [ih]
    simp only []
    unfold put1 cnt1
    by_cases hc : (s.steps f ys i).1.may (f + i)
    · rw [if_pos hc, if_pos hc, if_pos (hm.2 hc), if_pos (hm.2 hc)]
      rfl
    · rw [if_neg hc, if_neg hc, if_neg (fun x => hc (hm.1 x)), if_neg (fun x => hc (hm.1 x))]
theorem steps_ends (f : Int) (ys : List Int) (i : Nat) : (s.steps f ys i).1.ends (f + i) ↔ s.ends (f + i) := by
  unfold ends
  rw [(steps_same (s := s) f ys i).2.2]
  refine and_congr Iff.rfl (and_congr Iff.rfl (and_congr Iff.rfl (forall_congr' fun j => ?_)))
  refine imp_congr_right fun hj => ?_
  rw [steps_g, if_neg (by omega)]
/-- The end may be told first. -/
theorem put_first (f : Int) (ys : List Int) (b : Bool) : (s.fin (f + ys.length) b).steps f ys ys.length = (s.put f ys b, s.new_ f ys) := by
  unfold put new_
  by_cases h : b = true ∧ s.ends (f + ys.length)
  · obtain ⟨rfl, h⟩ := h
    rw [fin_yes h, fin_yes ((steps_ends f ys _).2 h), steps_shut h.1 f ys _ _ (Int.le_refl _)]
  · rw [fin_no h, fin_no (fun x => h ⟨x.1, (steps_ends f ys _).1 x.2⟩)]
theorem steps_sum (f : Int) (ys : List Int) (i : Nat) : (s.steps f ys i).2 = sumI s.cnt1 f i := by
  induction i with
  | zero => rfl
  | succ i ih => rw [steps_n, ih]; rfl
end In

/-- Places that came in: how many there are then. -/
theorem cnt_put {ps us : List (Int × Int)} (hp : Norm ps) (hu : Norm us) {F : Int} {m : Nat} (h0 : 0 ≤ F) (hm : F + (m : Nat) ≤ 1099511627776) (h : ∀ k, ins us k ↔ ins ps k ∨ (F ≤ k ∧ k < F + (m : Nat))) : cntL us - cntL ps = (m : Nat) - win ps F m := by
  have hq : ∃ qs, Norm qs ∧ ∀ k, ins qs k ↔ ins ps k ∧ ¬ (F ≤ k ∧ k < F + (m : Nat)) := ⟨cutN ps F (F + (m : Nat)), cutN_norm hp _ _⟩
  obtain ⟨qs, hq, hk⟩ := hq
  have e1 := cnt_cut hp hq h0 hm hk
  have e2 := cnt_cut hu hq h0 hm (fun k => by rw [hk, h]; exact ⟨fun ⟨h1, h2⟩ => ⟨.inl h1, h2⟩, fun ⟨h1, h2⟩ => ⟨h1.resolve_right h2, h2⟩⟩)
  have e3 : win us F m = (m : Nat) := sumI_one (fun k h1 h2 => ind_yes ((h k).2 (.inr ⟨h1, h2⟩)))
  omega

/-- How many of some bytes are new, counted in a set: those of its window that are not there. -/
theorem new_cnt {s : In} {ps us : List (Int × Int)} (hp : Norm ps) (hu : Norm us) (hg : ∀ k, ins ps k ↔ s.g k ≠ none) (f : Int) (ys : List Int) (i : Nat) (F T : Int) (h0 : 0 ≤ F) (hT : T ≤ 1099511627776)
    (hw : ∀ k, (F ≤ k ∧ k < T) ↔ (f ≤ k ∧ k < f + i ∧ 0 ≤ k ∧ k < s.tk + s.win ∧ (s.en < 0 ∨ k < s.en))) (h : ∀ k, ins us k ↔ ins ps k ∨ (F ≤ k ∧ k < T)) : cntL us - cntL ps = (s.steps f ys i).2 := by
  rw [In.steps_sum]
  by_cases hFT : F < T
  · obtain ⟨m, hm⟩ : ∃ m : Nat, T = F + (m : Nat) := ⟨(T - F).toNat, by omega⟩
    have hin := (hw F).1 ⟨Int.le_refl _, hFT⟩
    have hin2 := (hw (T - 1)).1 ⟨by omega, by omega⟩
    obtain ⟨a, ha⟩ : ∃ a : Nat, F = f + (a : Nat) := ⟨(F - f).toNat, by omega⟩
    obtain ⟨b, hb⟩ : ∃ b : Nat, i = (a + m) + b := ⟨i - (a + m), by omega⟩
    rw [cnt_put (m := m) hp hu h0 (by omega) (fun k => by rw [h, hm])]
    rw [hb, sumI_app, sumI_app]
    have out : ∀ k, ¬ (F ≤ k ∧ k < T) → f ≤ k → k < f + i → s.cnt1 k = 0 := fun k hk h1 h2 => by
      unfold In.cnt1
      rw [if_neg]
      rintro ⟨m1, m2, m3, _⟩
      exact hk ((hw k).2 ⟨h1, h2, m1, m2, m3⟩)
    rw [sumI_zero (n := a) (fun k h1 h2 => out k (by omega) (by omega) (by omega)), sumI_zero (n := b) (fun k h1 h2 => out k (by omega) (by omega) (by omega)), ← ha]
    have hmid : sumI (fun k => s.cnt1 k + ind (ins ps k)) F m = (m : Nat) := sumI_one fun k h1 h2 => by
      obtain ⟨_, _, m1, m2, m3⟩ := (hw k).1 ⟨h1, by omega⟩
      unfold In.cnt1
      by_cases hk : ins ps k
      · rw [ind_yes hk, if_neg (fun hmay => (hg k).1 hk hmay.2.2.2)]
        rfl
      · rw [ind_no hk, if_pos ⟨m1, m2, m3, by
          by_cases hc : s.g k = none
          · exact hc
          · exact absurd ((hg k).2 hc) hk⟩]
        rfl
    rw [sumI_add] at hmid
    have e : win ps F m = sumI (fun k => ind (ins ps k)) F m := rfl
    have e2 : sumI s.cnt1 F m = sumI (fun k => s.cnt1 k) F m := rfl
    omega
  · have hus : us = ps := Norm.ext hu hp (fun k => by rw [h]; exact ⟨fun x => x.elim id (fun y => by omega), .inl⟩)
    rw [hus, sumI_zero (fun k h1 h2 => ?_)]
    · omega
    · unfold In.cnt1
      rw [if_neg]
      rintro ⟨m1, m2, m3, _⟩
      have := (hw k).2 ⟨h1, h2, m1, m2, m3⟩
      omega

/-- What is there and was not read stands in the ring xs, each byte at its place's remainder. -/
def Ring (xs : List Int) (s : In) : Prop := (xs.length : Int) = s.win ∧ ∀ k x, s.tk ≤ k → s.g k = some x → xs.getD (k % s.win).toNat 0 = x
theorem mod_ne {a b t n : Int} (hn : 0 < n) (h1 : t ≤ a) (h2 : a < t + n) (h3 : t ≤ b) (h4 : b < t + n) (h : a % n = b % n) : a = b := by
  have e1 := Int.emod_add_mul_ediv a n
  have e2 := Int.emod_add_mul_ediv b n
  rw [h] at e1
  have e : a - b = n * (a / n - b / n) := by rw [Int.mul_sub]; omega
  have h5 : a / n - b / n = 0 := by
    by_cases h6 : a / n - b / n ≥ 1
    · have := Int.mul_le_mul_of_nonneg_left h6 (Int.le_of_lt hn)
      omega
    · by_cases h7 : a / n - b / n ≤ -1
      · have := Int.mul_le_mul_of_nonneg_left h7 (Int.le_of_lt hn)
        omega
      · omega
  rw [h5] at e
  omega
/-- What a loop over the places from F on has laid, as far as k. -/
structure Laid (xs : List Int) (s : In) (f : Int) (ys : List Int) (F k : Int) : Prop where
  ring : Ring xs s
  new : ∀ j, F ≤ j → j < k → s.g j = none → xs.getD (j % s.win).toNat 0 = ys.getD (j - f).toNat 0
theorem Laid.start {xs : List Int} {s : In} (h : Ring xs s) (f : Int) (ys : List Int) (F : Int) : Laid xs s f ys F F := ⟨h, fun j h1 h2 => by omega⟩
theorem Laid.skip {xs : List Int} {s : In} {f : Int} {ys : List Int} {F k : Int} (h : Laid xs s f ys F k) (hk : s.g k ≠ none) : Laid xs s f ys F (k + 1) :=
  ⟨h.ring, fun j h1 h2 h3 => h.new j h1 (by
    by_cases e : j = k
    · subst e; exact absurd h3 hk
    · omega) h3⟩
theorem Laid.lay {xs : List Int} {s : In} {f : Int} {ys : List Int} {F k : Int} (hok : s.ok) (h : Laid xs s f ys F k) (h0 : 0 ≤ F) (hF : F ≤ k) (hk : k < s.tk + s.win) (hg : s.g k = .none) : Laid (xs.set (k % s.win).toNat (ys.getD (k - f).toNat 0)) s f ys F (k + 1) := by
  have w0 := hok.w0
  have w1 := hok.w1
  have hl := h.ring.1
  have htk : ∀ j, 0 ≤ j → s.g j = .none → s.tk ≤ j := fun j h1 h2 => by
    by_cases hc : s.tk ≤ j
    · exact hc
    · exact absurd h2 (hok.had j h1 (by omega))
  have hk0 := htk k (by omega) hg
  have b1 := Int.emod_nonneg k (show s.win ≠ 0 by omega)
  have b2 := Int.emod_lt_of_pos k (show 0 < s.win by omega)
  have other : ∀ j, s.tk ≤ j → j < s.tk + s.win → j ≠ k → (xs.set (k % s.win).toNat (ys.getD (k - f).toNat 0)).getD (j % s.win).toNat 0 = xs.getD (j % s.win).toNat 0 := fun j h1 h2 h3 => by
    have hne : (k % s.win).toNat ≠ (j % s.win).toNat := fun e => by
      have c1 := Int.emod_nonneg j (show s.win ≠ 0 by omega)
      exact h3 (mod_ne (t := s.tk) (n := s.win) (by omega) h1 h2 hk0 hk (by omega))
    simp only [List.getD_eq_getElem?_getD, List.getElem?_set_ne hne]
  refine ⟨⟨by rw [List.length_set]; exact hl, fun j x h1 h2 => ?_⟩, fun j h1 h2 h3 => ?_⟩
  · have hr := hok.rng j (by rw [h2]; simp)
    rw [other j h1 hr.2 (fun e => by rw [e, hg] at h2; cases h2)]
    exact h.ring.2 j x h1 h2
  · by_cases e : j = k
    · subst e
      have hlt : (j % s.win).toNat < xs.length := by omega
      simp [List.getD_eq_getElem?_getD, List.getElem?_set_self hlt]
    · rw [other j (htk j (by omega) h3) (by omega) e]
      exact h.new j h1 (by omega) h3
/-- All is laid: the ring of what is there behind it. -/
theorem Laid.all {xs : List Int} {s : In} {f : Int} {ys : List Int} {F T : Int} {i : Nat} (h : Laid xs s f ys F T) (hw : ∀ k, (F ≤ k ∧ k < T) ↔ (f ≤ k ∧ k < f + i ∧ 0 ≤ k ∧ k < s.tk + s.win ∧ (s.en < 0 ∨ k < s.en))) : Ring xs (s.steps f ys i).1 := by
  obtain ⟨e1, e2, _⟩ := In.steps_same (s := s) f ys i
  refine ⟨by rw [e1]; exact h.ring.1, fun k x h1 h2 => ?_⟩
  rw [e2] at h1
  rw [e1]
  rw [In.steps_g] at h2
  by_cases hc : f ≤ k ∧ k < f + i ∧ s.may k
  · rw [if_pos hc] at h2
    injection h2 with h2
    rw [← h2]
    obtain ⟨c1, c2, m1, m2, m3, m4⟩ := hc
    have := (hw k).2 ⟨c1, c2, m1, m2, m3⟩
    exact h.new k this.1 this.2 m4
  · rw [if_neg hc] at h2
    exact h.ring.2 k x h1 h2
/-- The set of what is there behind it. -/
theorem steps_ins {s : In} {ps us : List (Int × Int)} (hg : ∀ k, ins ps k ↔ s.g k ≠ none) {f : Int} {ys : List Int} {F T : Int} {i : Nat} (hw : ∀ k, (F ≤ k ∧ k < T) ↔ (f ≤ k ∧ k < f + i ∧ 0 ≤ k ∧ k < s.tk + s.win ∧ (s.en < 0 ∨ k < s.en))) (h : ∀ k, ins us k ↔ ins ps k ∨ (F ≤ k ∧ k < T)) : ∀ k, ins us k ↔ (s.steps f ys i).1.g k ≠ none := by
  intro k
  rw [In.steps_g, h, hg]
  by_cases hc : f ≤ k ∧ k < f + i ∧ s.may k
  · rw [if_pos hc]
    obtain ⟨c1, c2, m1, m2, m3, m4⟩ := hc
    exact ⟨fun _ => by simp, fun _ => .inr ((hw k).2 ⟨c1, c2, m1, m2, m3⟩)⟩
  · rw [if_neg hc]
    refine ⟨fun x => x.elim id (fun y => fun e => hc ?_), .inl⟩
    obtain ⟨c1, c2, m1, m2, m3⟩ := (hw k).1 y
    exact ⟨c1, c2, m1, m2, m3, e⟩
/-- A list of all bytes that a set's places stand for. -/
theorem rep_of {s : In} {ps : List (Int × Int)} (hp : Norm ps) (hok : s.ok) (hg : ∀ k, ins ps k ↔ s.g k ≠ none) : ∃ xs, Rep xs ps s.g := by
  refine ⟨(List.range (s.tk + s.win).toNat).map (fun k => (s.g (k : Nat)).getD 0), hp, fun k hk => ?_, fun k hk => ?_⟩
  · have h1 := (hg k).1 hk
    have h2 := hok.rng k h1
    refine ⟨h2.1, by rw [List.length_map, List.length_range]; omega, ?_⟩
    obtain ⟨x, hx⟩ := Option.ne_none_iff_exists'.1 h1
    have hlt : k.toNat < (s.tk + s.win).toNat := by omega
    have e : ((k.toNat : Nat) : Int) = k := by omega
    simp only [List.getD_eq_getElem?_getD, List.getElem?_map, List.getElem?_range hlt, Option.map_some, Option.getD_some, e, hx]
  · by_cases hc : s.g k = none
    · exact hc
    · exact absurd ((hg k).2 hc) hk
end Go.Proofs.Ytlljfinagjdihaa

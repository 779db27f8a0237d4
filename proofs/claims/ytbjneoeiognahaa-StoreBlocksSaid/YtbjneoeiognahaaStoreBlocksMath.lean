/-
  What StoreBlocks counts: the blocks' bytes, so many times the same ones. No function of the program.
-/
import Derived.Test.YtbjneoeiognahaaStOne
namespace Go.Proofs.Ytbjneoeiognahaa
open Go.RowKit Go.Maps

/-- A list so many times. -/
def repn (b : List Int) : Nat → List Int
  | 0 => []
  | i + 1 => repn b i ++ b
theorem repn_len (b : List Int) : ∀ i, (repn b i).length = i * b.length
  | 0 => by simp [repn]
  | i + 1 => by simp [repn, repn_len b i, Nat.succ_mul]

/-- What stands in the store, and in the count. -/
structure Counted (i : Nat) (b : List Int) (bs : List Blk) (D : DataW Unit) : Prop where
  there : ∀ k ∈ bs, ∃ c : Nat, 1 ≤ c ∧ c ≤ i ∧ k.xs = repn b c ∧ D.atKey (.int .i64 k.n) (.lit (.int .i64 0)) = .lit (.int .i64 c) ∧ Maps.has D (.int .i64 k.n) = true
  none : ∀ n, (∀ k ∈ bs, k.n ≠ n) → Maps.has D (.int .i64 n) = false
  size : Maps.size D = bs.length
  keys : ∀ k ∈ bs, 1 ≤ k.n ∧ k.n ≤ 9
  many : bs.length ≤ i

theorem Counted.start (b : List Int) : Counted 0 b [] (.map []) := ⟨fun k hk => (by cases hk), fun n _ => rfl, rfl, fun k hk => (by cases hk), Nat.le_refl _⟩

theorem mem_appB {n : Int} {ys : List Int} {bs : List Blk} {k' : Blk} (h : k' ∈ appB n ys bs) :
    (k' ∈ bs ∧ k'.n ≠ n) ∨ (∃ k ∈ bs, k.n = n ∧ k' = k.more ys) ∨ ((∀ k ∈ bs, k.n ≠ n) ∧ k' = ⟨n, ys, 0, false⟩) := by
  unfold appB at h
  obtain ⟨k, hk, rfl⟩ := List.mem_map.1 h
  by_cases ha : bs.any (fun k => decide (k.n = n)) = true
  · rw [if_pos ha] at hk
    by_cases hn : k.n = n
    · exact .inr (.inl ⟨k, hk, hn, by simp [hn]⟩)
    · exact .inl (by simp [hn, hk])
  · rw [if_neg ha] at hk
    have hno : ∀ k ∈ bs, k.n ≠ n := by simpa using ha
    rcases mem_insB.1 hk with rfl | hk'
    · exact .inr (.inr ⟨hno, by simp [Blk.more]⟩)
    · exact .inl (by simp [hno k hk', hk'])
theorem appB_mem {n : Int} {ys : List Int} {bs : List Blk} : (∀ k ∈ bs, k.n ≠ n → k ∈ appB n ys bs) ∧ ∃ k' ∈ appB n ys bs, k'.n = n := by
  unfold appB
  by_cases ha : bs.any (fun k => decide (k.n = n)) = true
  · rw [if_pos ha]
    refine ⟨fun k hk hn => List.mem_map.2 ⟨k, hk, by simp [hn]⟩, ?_⟩
    obtain ⟨k, hk, hn⟩ := List.any_eq_true.1 ha
    have hn' : k.n = n := by simpa using hn
    exact ⟨_, List.mem_map.2 ⟨k, hk, rfl⟩, by simp [hn', Blk.more]⟩
  · rw [if_neg ha]
    exact ⟨fun k hk hn => List.mem_map.2 ⟨k, mem_insB.2 (.inr hk), by simp [hn]⟩, _, List.mem_map.2 ⟨_, mem_insB.2 (.inl rfl), rfl⟩, by simp [Blk.more]⟩
theorem length_appB (n : Int) (ys : List Int) (bs : List Blk) : (appB n ys bs).length = if bs.any (fun k => decide (k.n = n)) then bs.length else bs.length + 1 := by
  unfold appB
  rw [List.length_map]
  split
  · rfl
  · rw [length_insB]

/-- One more. -/
theorem Counted.step {i : Nat} {b : List Int} {bs : List Blk} {D : DataW Unit} (h : Counted i b bs D) (ht : Maps.Tidy D) {n : Int} (hn : 1 ≤ n ∧ n ≤ 9) (hr : bs.Pairwise (fun x y => x.n < y.n)) :
    ∃ c : Nat, c ≤ i ∧ D.atKey (.int .i64 n) (.lit (.int .i64 0)) = .lit (.int .i64 c) ∧ Counted (i + 1) b (appB n b bs) (D.put (.int .i64 n) (.lit (.int .i64 ((c : Int) + 1)))) := by
  have hm := ht.isMap
  have hkey : WideAt.IsKeyLit (.int .i64 n) := trivial
  have other : ∀ {k : Blk}, k.n ≠ n → (Lit.int .i64 k.n) ≠ (Lit.int .i64 n) := fun hk e => by cases e; exact hk rfl
  by_cases ha : ∃ k ∈ bs, k.n = n
  · obtain ⟨k, hk, rfl⟩ := ha
    obtain ⟨c, hc1, hc2, hc3, hc4, hc5⟩ := h.there k hk
    have hany : bs.any (fun x => decide (x.n = k.n)) = true := List.any_eq_true.2 ⟨k, hk, by simp⟩
    refine ⟨c, hc2, hc4, ⟨?_, ?_, ?_, ?_, ?_⟩⟩
    · intro k' hk'
      rcases mem_appB hk' with ⟨h1, h2⟩ | ⟨x, hx, hxn, rfl⟩ | ⟨h1, _⟩
      · obtain ⟨c', e1, e2, e3, e4, e5⟩ := h.there k' h1
        exact ⟨c', e1, by omega, e3, by rw [Maps.atKey_put_other (other h2)]; exact e4, by rw [Maps.has_put_other (other h2)]; exact e5⟩
      · have hxk : x = k := by
          clear h hc1 hc2 hc3 hc4 hc5 hany hk'
          induction bs with
          | nil => cases hx
          | cons z r ih =>
            obtain ⟨b1, b2⟩ := List.pairwise_cons.1 hr
            rcases List.mem_cons.1 hx with rfl | hx'
            · rcases List.mem_cons.1 hk with rfl | hk'
              · rfl
              · have := b1 k hk'; omega
            · rcases List.mem_cons.1 hk with rfl | hk'
              · have := b1 x hx'; omega
              · exact ih b2 hk' hx'
        subst hxk
        refine ⟨c + 1, by omega, by omega, by simp [Blk.more, hc3, repn], ?_, ?_⟩
        · show (D.put (.int .i64 x.n) _).atKey (.int .i64 x.n) _ = _
          rw [Maps.atKey_put_same hm hkey]
          simp
        · exact Maps.has_put_same hm hkey _
      · exact absurd rfl (h1 k hk)
    · intro n' hn'
      have hne : n' ≠ k.n := fun e => by obtain ⟨k', hk', e'⟩ := appB_mem (n := k.n) (ys := b) (bs := bs) |>.2; exact hn' k' hk' (e'.trans e.symm)
      rw [Maps.has_put_other (fun e => by cases e; exact hne rfl)]
      refine h.none n' (fun x hx e => ?_)
      exact hn' x (appB_mem.1 x hx (fun e2 => hne (e.symm.trans e2))) e
    · rw [Maps.size_put ht, hc5, if_pos rfl, length_appB, if_pos hany]
      exact h.size
    · intro k' hk'
      rcases mem_appB hk' with ⟨h1, _⟩ | ⟨x, hx, hxn, rfl⟩ | ⟨_, rfl⟩
      · exact h.keys k' h1
      · exact h.keys x hx
      · exact hn
    · rw [length_appB, if_pos hany]
      have := h.many
      omega
  · have hno : ∀ k ∈ bs, k.n ≠ n := fun k hk e => ha ⟨k, hk, e⟩
    have hany : ¬ bs.any (fun x => decide (x.n = n)) = true := by simpa using hno
    have hhas := h.none n hno
    refine ⟨0, Nat.zero_le _, by rw [Maps.atKey_of_not_has hhas]; rfl, ⟨?_, ?_, ?_, ?_, ?_⟩⟩
    · intro k' hk'
      rcases mem_appB hk' with ⟨h1, h2⟩ | ⟨x, hx, hxn, rfl⟩ | ⟨h1, rfl⟩
      · obtain ⟨c', e1, e2, e3, e4, e5⟩ := h.there k' h1
        exact ⟨c', e1, by omega, e3, by rw [Maps.atKey_put_other (other h2)]; exact e4, by rw [Maps.has_put_other (other h2)]; exact e5⟩
      · exact absurd hxn (hno x hx)
      · refine ⟨1, by omega, by omega, by simp [repn], ?_, ?_⟩
        · show (D.put (.int .i64 n) _).atKey (.int .i64 n) _ = _
          rw [Maps.atKey_put_same hm hkey]
          simp
        · exact Maps.has_put_same hm hkey _
    · intro n' hn'
      have hne : n' ≠ n := fun e => by obtain ⟨k', hk', e'⟩ := appB_mem (n := n) (ys := b) (bs := bs) |>.2; exact hn' k' hk' (e'.trans e.symm)
      rw [Maps.has_put_other (fun e => by cases e; exact hne rfl)]
      refine h.none n' (fun x hx e => ?_)
      exact hn' x (appB_mem.1 x hx (fun e2 => hne (e.symm.trans e2))) e
    · rw [Maps.size_put ht, hhas, length_appB, if_neg hany]
      simp [h.size]
    · intro k' hk'
      rcases mem_appB hk' with ⟨h1, _⟩ | ⟨x, hx, hxn, rfl⟩ | ⟨_, rfl⟩
      · exact h.keys k' h1
      · exact h.keys x hx
      · exact hn
    · rw [length_appB, if_neg hany]
      have := h.many
      omega
theorem repn_mem {b : List Int} {x : Int} : ∀ {i}, x ∈ repn b i → x ∈ b
  | 0, h => by cases h
  | i + 1, h => by
    rcases List.mem_append.1 h with h | h
    · exact repn_mem h
    · exact h
theorem repn_last (b : List Int) (c : Nat) (h : 1 ≤ c) : (repn b c).drop ((repn b c).length - b.length) = b := by
  obtain ⟨d, rfl⟩ : ∃ d, c = d + 1 := ⟨c - 1, by omega⟩
  have h1 : (repn b (d + 1)).length - b.length = (repn b d).length := by simp [repn]
  rw [h1]
  simp [repn]
theorem cut_no (bs : List Blk) (n j : Int) (hn : 1 ≤ n) (h : ∀ k ∈ bs, k.n ≠ n) : (⟨bs, false, 0, false⟩ : St).cut n j = (⟨bs, false, 0, false⟩, 3) := by
  have h1 : ¬ n < 1 := by omega
  have h2 : (bs.any fun k => decide (k.n = n)) = false := by simpa using h
  simp [St.cut, St.act, cutE, mustE, mayE, h1, h2]
theorem sync_no (bs : List Blk) (n : Int) (hn : 1 ≤ n) (h : ∀ k ∈ bs, k.n ≠ n) : (⟨bs, false, 0, false⟩ : St).sync n = (⟨bs, false, 0, false⟩, 3) := by
  have h1 : ¬ n < 1 := by omega
  have h2 : (bs.any fun k => decide (k.n = n)) = false := by simpa using h
  simp [St.sync, St.act, mustE, mayE, h1, h2]
theorem drop_no (bs : List Blk) (n : Int) (hn : 1 ≤ n) (h : ∀ k ∈ bs, k.n ≠ n) : (⟨bs, false, 0, false⟩ : St).drop n = (⟨bs, false, 0, false⟩, 3) := by
  have h1 : ¬ n < 1 := by omega
  have h2 : (bs.any fun k => decide (k.n = n)) = false := by simpa using h
  simp [St.drop, St.act, mustE, mayE, h1, h2]
theorem drop_neg (bs : List Blk) (n : Int) (hn : n < 1) : (⟨bs, false, 0, false⟩ : St).drop n = (⟨bs, false, 0, false⟩, 1) := by
  simp [St.drop, St.act, mustE, mayE, hn]
theorem rd_drop {k : IntKind} {w : World} {g : Nat} {xs : List Int} (h : Rd k w (some ⟨g, 0, none⟩) xs) (n : Nat) : Rd k w (some ⟨g, n, none⟩) (xs.drop n) := by
  rcases h with h | ⟨b, off, hA, h⟩
  · exact .inl (by simp [h])
  · cases hA
    refine .inr ⟨g, n, rfl, fun i hi => ?_⟩
    rw [List.length_drop] at hi
    have := h (n + i) (by omega)
    rw [Nat.zero_add] at this
    rw [this]
    simp [List.getD, List.getElem?_drop]
theorem StoreIs.rise {w : World} {B p : Nat} {s : St} {F : Nat → Prop} (h : StoreIs w B p s F) : s.bs.Pairwise (fun x y => x.n < y.n) := by
  obtain ⟨m, L, h, hk, rfl, hlf⟩ := h
  rw [← hk, List.pairwise_map]
  exact h.rise
theorem append_many (n : Int) (ys : List Int) (bs : List Blk) (h : 1 ≤ n) : (⟨bs, false, 0, false⟩ : St).append n ys = (⟨appB n ys bs, false, 0, false⟩, 0) := by
  have : ¬ n < 1 := by omega
  simp [St.append, St.act, mayE, this, burn]
end Go.Proofs.Ytbjneoeiognahaa

/-
  Where append leaves a slice of numbers of the call's own: in its block, or in a new one ('app_block'); append at a step of a region that draws, which tells it ('step_app_f'). No program.
-/
import Derived.Test.YtlkoenlimdfifaaOwn
import Derived.Deep.OwnRows
namespace Go.Proofs.Ytlkoenlimdfifaa
open Go.RowKit

section
variable {P : Program} (w : World)

set_option maxRecDepth 10000 in
theorem app_block (k : IntKind) (t ty e : TypeId) (z : Value) (bytes : Nat) (ht : P.underlying t = some (.slice e)) (hinfo : (P.info? e).map (fun i => (i.zero, i.size, i.bytes)) = some (some z, 1, bytes)) (hz1 : z.cells.size = 1)
    (B : Nat) (v : Value) (xs : List Int) (hown : Own k e w B v xs) (ad : Addr) (m c : Nat) (ys : List Int) (hm : ys.length = m) (hr : Rd k w (some ad) ys)
    (hmax : xs.length + m ≤ maxLen) (hbytes : (xs.length + m) * bytes ≤ 140737488355328) {v' : Value} {w' : World} (hrun : (Builtin.append_ #[t, t] ty #[v, .slice (some ad) m c]).run P w = .ok v' w') :
    ∀ g, v'.ownBlock = some g → v.ownBlock = some g ∨ w.heap.size ≤ g := by
  obtain ⟨i, hi, hz0, hz2, hz3⟩ := info_parts hinfo
  have hlc : (cel k ys).length = m * i.size := by simp [cel, hm, hz2]
  have hnews := hr.cells ad rfl
  rcases hown.2 with ⟨rfl, h0⟩ | ⟨b, cap, cur, rfl, _, hb, hnc, _, hcs, htake⟩
  · obtain ⟨v2, w2, hrun2, h2, _, _⟩ := run_append_own (P := P) w w.heap.size t ty e i z 1 bytes ht hi hz0 hz2 hz3 hz1 (by omega) (.slice none 0 0) xs.length (cel k xs) ⟨hown.1, .inl ⟨rfl, h0⟩⟩ ad m c (cel k ys) (by simp [cel, hm]) hnews (cel_one k ys) hmax hbytes (Nat.le_refl _)
    rw [hrun2] at hrun
    injection hrun with hv _
    subst hv
    intro g hg
    exact .inr (h2.lt g hg).1
  · by_cases hroom : xs.length + m ≤ cap
    · have hr1 := run_append_room (P := P) w t ty e i ht hi b xs.length cap cur hb ad m c (cel k ys) hlc hnews (cel_one k ys) hroom (by rw [hz2, hcs, cel_len]; omega)
      rw [hr1] at hrun
      injection hrun with hv _
      subst hv
      intro g hg
      exact .inl (by simpa [Value.ownBlock] using hg)
    · have holds := hown.cells (g := b) rfl
      have hr1 := run_append_grow (P := P) w t ty e i z ht hi hz0 ⟨b, 0, none⟩ xs.length cap (cel k xs) (by simp [cel, hz2]) holds ad m c (cel k ys) hlc hnews (by omega) (by unfold maxLen at hmax; omega) (growslice_fits (by omega) (by rw [hz3]; exact hbytes))
      rw [hr1] at hrun
      injection hrun with hv _
      subst hv
      intro g hg
      right
      simp [Value.ownBlock] at hg
      omega

set_option maxRecDepth 10000 in
/-- append at a step of a region that draws its order; it tells where the result lies. -/
theorem step_app_f (k : IntKind) {ops : Array Oper} {o : Oper} {a : Act} {K : Act → World → Prop} {Q : Exit → Act → World → Prop} {E : Prop} (hw : Region.wanted o (yielded ops a.tmps) = true) (s x : Operand) (t : TypeId)
    (ho : o.op = .call { callee := .builtin .append, args := #[s, x], argTypes := #[t, t] })
    (e : TypeId) (z : Value) (bytes : Nat) (ht : P.underlying t = some (.slice e)) (hinfo : (P.info? e).map (fun i => (i.zero, i.size, i.bytes)) = some (some z, 1, bytes)) (hz1 : z.cells.size = 1)
    (B : Nat) (v : Value) (xs : List Int) (n : Nat) (hn : xs.length = n) (hs : a.eval s = v) (hown : Own k e w B v xs) (A : Option Addr) (m c : Nat) (hx : a.eval x = .slice A m c) (ys : List Int) (hm : ys.length = m) (hpos : 0 < m) (hr : Rd k w A ys)
    (hmax : n + m ≤ maxLen) (hbytes : (n + m) * bytes ≤ 140737488355328) (hB : B ≤ w.heap.size)
    (h : ∀ A' c' w', Own k e w' B (.slice A' (n + m) c') (xs ++ ys) → w.grownBy w' v.ownBlock → Below B w w' → (∀ g, (Value.slice A' (n + m) c').ownBlock = some g → v.ownBlock = some g ∨ w.heap.size ≤ g) → K (a.put o.dst (.slice A' (n + m) c')) w') :
    if Region.wanted o (yielded ops a.tmps) = true then Oper.wp P o a w K Q else E := by
  subst hn
  obtain ⟨A', c', w', hrun, h2, h3⟩ := run_app (P := P) w k t o.type e z bytes ht hinfo hz1 B v xs hown A m c ys hm hr hmax hbytes hB
  have hblk : ∀ g, (Value.slice A' (xs.length + m) c').ownBlock = some g → v.ownBlock = some g ∨ w.heap.size ≤ g := by
    obtain ⟨b, off, rfl, _⟩ := hr.some_ (by omega)
    exact app_block (P := P) w k t o.type e z bytes ht hinfo hz1 B v xs hown _ m c ys hm hr hmax hbytes hrun
  rw [if_pos hw]
  unfold Oper.wp execOp
  simp only [ho, resolve, invoke, builtin, Sem.run_bind, Sem.run_pure, Result.andThen_ok, List.map_toArray, List.map_cons, List.map_nil, hs, hx, hrun]
  exact h A' c' w' h2 h3 (grown_below h3 hB (fun g hg => (hown.lt g hg).1)) hblk

set_option maxRecDepth 10000 in
/-- 'append(s, x...)' onto a row of the call's own, whatever x is; it tells where the result lies. -/
theorem run_append_f (k : IntKind) (t ty e : TypeId) (z : Value) (bytes : Nat) (ht : P.underlying t = some (.slice e)) (hinfo : (P.info? e).map (fun i => (i.zero, i.size, i.bytes)) = some (some z, 1, bytes)) (hz1 : z.cells.size = 1)
    (B : Nat) (v : Value) (xs : List Int) (hown : Own k e w B v xs) (A : Option Addr) (m c : Nat) (ys : List Int) (hm : ys.length = m) (hr : Rd k w A ys)
    (hmax : xs.length + m ≤ maxLen) (hbytes : (xs.length + m) * bytes ≤ 140737488355328) (hB : B ≤ w.heap.size) :
    ∃ A' c' w', (Builtin.append_ #[t, t] ty #[v, .slice A m c]).run P w = .ok (.slice A' (xs.length + m) c') w' ∧ Own k e w' B (.slice A' (xs.length + m) c') (xs ++ ys) ∧ w.grownBy w' v.ownBlock ∧
      ∀ g, (Value.slice A' (xs.length + m) c').ownBlock = some g → v.ownBlock = some g ∨ w.heap.size ≤ g := by
  cases A with
  | some ad =>
    obtain ⟨A', c', w', h1, h2, h3⟩ := run_app (P := P) w k t ty e z bytes ht hinfo hz1 B v xs hown (some ad) m c ys hm hr hmax hbytes hB
    exact ⟨A', c', w', h1, h2, h3, app_block (P := P) w k t ty e z bytes ht hinfo hz1 B v xs hown ad m c ys hm hr hmax hbytes h1⟩
  | none =>
    obtain ⟨i, hi, hz0, hz2, hz3⟩ := info_parts hinfo
    have hy : ys = [] := by
      rcases hr with h | ⟨b, off, h, _⟩
      · exact h
      · cases h
    subst hy
    have hm0 : m = 0 := by simpa using hm.symm
    subst hm0
    obtain ⟨A', c', rfl⟩ := hown.form
    have hrun : (Builtin.append_ #[t, t] ty #[.slice A' xs.length c', .slice none 0 c]).run P w = .ok (.slice A' xs.length c') w := by
      rcases hown.2 with ⟨hv, h0⟩ | ⟨g, cap, cur, hv, _, _, hnc, _⟩
      · injection hv with h1 _ h3
        subst h1; subst h3
        rw [h0]
        simp [Builtin.append_, run_underlying ht, sizeOf, typeInfo, hi, Builtin.lenOf, Builtin.firstCells]
      · injection hv with h1 _ h3
        subst h1; subst h3
        simp [Builtin.append_, run_underlying ht, sizeOf, typeInfo, hi, Builtin.lenOf, Builtin.firstCells, hnc, storeCells]
    refine ⟨A', c', w, by simpa using hrun, by simpa using hown, World.grownBy.refl _ _, fun g hg => .inl hg⟩

set_option maxRecDepth 10000 in
theorem wpList_append_f (k : IntKind) {ops : Array Oper} {rest : List Oper} {o : Oper} {a : Act} {Q : Exit → Act → World → Prop} (hgd : o.guard = none) (s x : Operand) (t : TypeId)
    (ho : o.op = .call { callee := .builtin .append, args := #[s, x], argTypes := #[t, t] })
    (e : TypeId) (z : Value) (bytes : Nat) (ht : P.underlying t = some (.slice e)) (hinfo : (P.info? e).map (fun i => (i.zero, i.size, i.bytes)) = some (some z, 1, bytes)) (hz1 : z.cells.size = 1)
    (B : Nat) (v : Value) (xs : List Int) (n : Nat) (hn : xs.length = n) (hs : a.eval s = v) (hown : Own k e w B v xs) (A : Option Addr) (m c : Nat) (hx : a.eval x = .slice A m c) (ys : List Int) (hm : ys.length = m) (hr : Rd k w A ys)
    (hmax : n + m ≤ maxLen) (hbytes : (n + m) * bytes ≤ 140737488355328) (hB : B ≤ w.heap.size)
    (h : ∀ A' c' w', Own k e w' B (.slice A' (n + m) c') (xs ++ ys) → w.grownBy w' v.ownBlock → (∀ g, (Value.slice A' (n + m) c').ownBlock = some g → v.ownBlock = some g ∨ w.heap.size ≤ g) → wpList P ops Q rest (a.put o.dst (.slice A' (n + m) c')) w') : wpList P ops Q (o :: rest) a w := by
  subst hn
  refine wpList_plain hgd fun _ hK => ?_
  obtain ⟨A', c', w', hrun, h2, h3, h4⟩ := run_append_f (P := P) w k t o.type e z bytes ht hinfo hz1 B v xs hown A m c ys hm hr hmax hbytes hB
  unfold Oper.wp execOp
  simp only [ho, resolve, invoke, builtin, Sem.run_bind, Sem.run_pure, Result.andThen_ok, List.map_toArray, List.map_cons, List.map_nil, hs, hx, hrun]
  exact hK _ _ (h A' c' w' h2 h3 h4)

/-- append at a step of a region that draws, by its run. -/
theorem step_append_r {w' : World} {ops : Array Oper} {o : Oper} {a : Act} {K : Act → World → Prop} {Q : Exit → Act → World → Prop} {E : Prop} (hw : Region.wanted o (yielded ops a.tmps) = true) (s x : Operand) (t : TypeId)
    (ho : o.op = .call { callee := .builtin .append, args := #[s, x], argTypes := #[t, t] }) (v vx v' : Value) (hs : a.eval s = v) (hx : a.eval x = vx) (hrun : (Builtin.append_ #[t, t] o.type #[v, vx]).run P w = .ok v' w') (h : K (a.put o.dst v') w') :
    if Region.wanted o (yielded ops a.tmps) = true then Oper.wp P o a w K Q else E := by
  rw [if_pos hw]
  unfold Oper.wp execOp
  simp only [ho, resolve, invoke, builtin, Sem.run_bind, Sem.run_pure, Result.andThen_ok, List.map_toArray, List.map_cons, List.map_nil, hs, hx, hrun]
  exact h
end
end Go.Proofs.Ytlkoenlimdfifaa

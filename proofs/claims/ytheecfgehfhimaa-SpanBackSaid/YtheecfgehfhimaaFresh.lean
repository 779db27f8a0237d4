/-
  Where append leaves a slice of numbers of the call's own: in its block, or in a new one ('app_block'); append at a step of a region that draws, which tells it ('step_app_f'). No program.
-/
import Derived.Test.YtheecfgehfhimaaOwn
import Derived.Deep.OwnRows
namespace Go.Proofs.Ytheecfgehfhimaa
open Go.RowKit

section
variable {P : Program} (w : World)

theorem app_block (k : IntKind) (t ty e : TypeId) (z : Value) (bytes : Nat) (ht : P.underlying t = some (.slice e)) (hinfo : (P.info? e).map (fun i => (i.zero, i.size, i.bytes)) = some (some z, 1, bytes)) (hz1 : z.cells.size = 1)
    (B : Nat) (v : Value) (xs : List Int) (hown : Own k e w B v xs) (ad : Addr) (m c : Nat) (ys : List Int) (hm : ys.length = m) (hr : Rd k w (some ad) ys)
    (hmax : xs.length + m ≤ maxLen) (hbytes : (xs.length + m) * bytes ≤ 140737488355328) {v' : Value} {w' : World} (hrun : (Builtin.append_ #[t, t] ty #[v, .slice (some ad) m c]).run P w = .ok v' w') :
    ∀ g, v'.ownBlock = some g → v.ownBlock = some g ∨ w.heap.size ≤ g := by
  obtain ⟨i, hi, hz0, hz2, hz3⟩ := info_parts hinfo
  have hlc : (cel k ys).length = m * i.size := by simp [cel, hm, hz2]
  have hnews := hr.cells ad rfl
  rcases hown.2 with ⟨rfl, h0⟩ | ⟨b, cap, cur, rfl, _, hb, hnc, _, hcs, htake⟩
  · obtain ⟨v2, w2, hrun2, h2, _, _⟩ := run_append_own (P := P) w w.heap.size t ty e i z 1 bytes ht hi hz0 hz2 hz3 hz1 (by omega) (.slice none 0 0) xs.length (cel k xs) ⟨hown.1, .inl ⟨rfl, h0⟩⟩ ad m c (cel k ys) (by simp [cel, hm]) hnews (cel_one k ys) hmax hbytes (Nat.le_refl _)
    rw [hrun2] at hrun
    injection hrun with hv _
    subst hv
    intro g hg
    exact .inr (h2.lt g hg).1
  · by_cases hroom : xs.length + m ≤ cap
    · have hr1 := run_append_room (P := P) w t ty e i ht hi b xs.length cap cur hb ad m c (cel k ys) hlc hnews (cel_one k ys) hroom (by rw [hz2, hcs, cel_len]; omega)
      rw [hr1] at hrun
      injection hrun with hv _
      subst hv
      intro g hg
      exact .inl (by simpa [Value.ownBlock] using hg)
    · have holds := hown.cells (g := b) rfl
      have hr1 := run_append_grow (P := P) w t ty e i z ht hi hz0 ⟨b, 0, none⟩ xs.length cap (cel k xs) (by simp [cel, hz2]) holds ad m c (cel k ys) hlc hnews (by omega) (by unfold maxLen at hmax; omega) (growslice_fits (by omega) (by rw [hz3]; exact hbytes))
      rw [hr1] at hrun
      injection hrun with hv _
      subst hv
      intro g hg
      right
      simp [Value.ownBlock] at hg
      omega

/-- append at a step of a region that draws its order; it tells where the result lies. -/
theorem step_app_f (k : IntKind) {ops : Array Oper} {o : Oper} {a : Act} {K : Act → World → Prop} {Q : Exit → Act → World → Prop} {E : Prop} (hw : Region.wanted o (yielded ops a.tmps) = true) (s x : Operand) (t : TypeId)
    (ho : o.op = .call { callee := .builtin .append, args := #[s, x], argTypes := #[t, t] })
    (e : TypeId) (z : Value) (bytes : Nat) (ht : P.underlying t = some (.slice e)) (hinfo : (P.info? e).map (fun i => (i.zero, i.size, i.bytes)) = some (some z, 1, bytes)) (hz1 : z.cells.size = 1)
    (B : Nat) (v : Value) (xs : List Int) (n : Nat) (hn : xs.length = n) (hs : a.eval s = v) (hown : Own k e w B v xs) (A : Option Addr) (m c : Nat) (hx : a.eval x = .slice A m c) (ys : List Int) (hm : ys.length = m) (hpos : 0 < m) (hr : Rd k w A ys)
    (hmax : n + m ≤ maxLen) (hbytes : (n + m) * bytes ≤ 140737488355328) (hB : B ≤ w.heap.size)
    (h : ∀ A' c' w', Own k e w' B (.slice A' (n + m) c') (xs ++ ys) → w.grownBy w' v.ownBlock → Below B w w' → (∀ g, (Value.slice A' (n + m) c').ownBlock = some g → v.ownBlock = some g ∨ w.heap.size ≤ g) → K (a.put o.dst (.slice A' (n + m) c')) w') :
    if Region.wanted o (yielded ops a.tmps) = true then Oper.wp P o a w K Q else E := by
  subst hn
  obtain ⟨A', c', w', hrun, h2, h3⟩ := run_app (P := P) w k t o.type e z bytes ht hinfo hz1 B v xs hown A m c ys hm hr hmax hbytes hB
  have hblk : ∀ g, (Value.slice A' (xs.length + m) c').ownBlock = some g → v.ownBlock = some g ∨ w.heap.size ≤ g := by
    obtain ⟨b, off, rfl, _⟩ := hr.some_ (by omega)
    exact app_block (P := P) w k t o.type e z bytes ht hinfo hz1 B v xs hown _ m c ys hm hr hmax hbytes hrun
  rw [if_pos hw]
  unfold Oper.wp execOp
  simp only [ho, resolve, invoke, builtin, Sem.run_bind, Sem.run_pure, Result.andThen_ok, List.map_toArray, List.map_cons, List.map_nil, hs, hx, hrun]
  exact h A' c' w' h2 h3 (grown_below h3 hB (fun g hg => (hown.lt g hg).1)) hblk
end
end Go.Proofs.Ytheecfgehfhimaa

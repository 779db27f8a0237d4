/-
  The document's own plan in memory ('DpAt': its Set is a field of it), and what Add and Cut of its Set do: contracts over the program.
-/
import Derived.Test.YtjpnpaacekdeeaaPlan
namespace Go.Proofs.Ytjpnpaacekdeeaa
open Go.RowKit

abbrev tDPlan : TypeId := 46
abbrev tDR : TypeId := 72
/-- The cells of the document's Plan. -/
def dpF (s : Int) (v : Value) (i : Nat) : Value := if i = 0 then .int .i64 s else v
structure DpAt (w : World) (B b : Nat) (v : Value) (s : Int) (ps : List (Int × Int)) : Prop where
  row : w.rowIs b tDPlan 2 (dpF s v)
  own : OwnP tDR w B v ps
  ge : B ≤ b
  norm : Norm ps
def Dft (b : Nat) (v : Value) (k : Nat) : Prop := k = b ∨ v.ownBlock = some k

theorem info_dr : (Try.prog.info? tDR).map (fun i => (i.zero, i.size, i.bytes)) = some (some (.agg #[.int .i64 0, .int .i64 0]), 2, 16) := by kernel_rfl

section
variable {w w' : World} {B b : Nat} {v v' : Value} {s : Int} {ps : List (Int × Int)} {F : Nat → Prop}
theorem ownP_not_row {e t : TypeId} {b : Nat} {B' : Nat} {u : Value} {qs : List (Int × Int)} (h : OwnP e w B' u qs) {f : Nat → Value} {n : Nat} (hr : w.rowIs b t n f) (ht : e ≠ t) : u.ownBlock ≠ some b := by
  rcases h.parts with ⟨rfl, _⟩ | ⟨g, cap, cur, rfl, _, hh, _⟩
  · simp [Value.ownBlock]
  · intro he
    simp only [Value.ownBlock, Option.some.injEq] at he
    subst he
    obtain ⟨cur', hh', _⟩ := hr
    rw [hh] at hh'
    injection hh' with hh'
    injection hh' with _ ht'
    exact ht ht'
theorem ownP_trn {e : TypeId} (h : OwnP e w B v ps) (ht : Trn w w' F) (hn : ∀ g, v.ownBlock = some g → ¬ F g) : OwnP e w' B v ps := by
  refine ⟨h.1, ?_⟩
  rcases h.2 with h2 | ⟨g, cap, cur, rfl, hB, hg, r⟩
  · exact .inl h2
  · exact .inr ⟨g, cap, cur, rfl, hB, by rw [ht.block g (Array.getElem?_eq_some_iff.1 hg).1 (hn g rfl)]; exact hg, r⟩
theorem DpAt.lt (h : DpAt w B b v s ps) : b < w.heap.size := h.row.lt
theorem DpAt.vb (h : DpAt w B b v s ps) : v.ownBlock ≠ some b := ownP_not_row h.own h.row (by decide)
theorem DpAt.kept (h : DpAt w B b v s ps) (ht : Trn w w' F) (hf : ∀ k, Dft b v k → ¬ F k) : DpAt w' B b v s ps := ⟨ht.rowIs h.row (hf _ (.inl rfl)), ownP_trn h.own ht (fun g hg => hf g (.inr hg)), h.ge, h.norm⟩
theorem DpAt.later (h : DpAt w B b v s ps) (hb : Below w.heap.size w w') : DpAt w' B b v s ps := h.kept (Trn.of_below (F := fun _ => False) hb) (fun _ _ => id)
theorem DpAt.drewN (h : DpAt w B b v s ps) (n : Nat) : DpAt (w.drewN n) B b v s ps := h.later ⟨rfl, rfl, rfl, Nat.le_refl _, fun _ _ => rfl⟩
theorem DpAt.foot_lt (h : DpAt w B b v s ps) : ∀ k, Dft b v k → B ≤ k ∧ k < w.heap.size := by
  rintro k (rfl | hk)
  · exact ⟨h.ge, h.lt⟩
  · exact h.own.lt k hk
theorem DpAt.size (h : DpAt w B b v s ps) : B ≤ w.heap.size := Nat.le_trans h.ge (Nat.le_of_lt h.lt)
theorem DpAt.c0 (h : DpAt w B b v s ps) : w.cell? ⟨b, 0, none⟩ = some (.int .i64 s) := World.rowIs.cell (i := 0) h.row (by omega)
theorem DpAt.c1 (h : DpAt w B b v s ps) : w.cell? ⟨b, 0 + 1, none⟩ = some v := World.rowIs.cell (i := 1) h.row (by omega)
theorem DpAt.fr (h : DpAt w B b v s ps) (i : Nat) : w.frozen? ⟨b, i, none⟩ = false := World.rowIs.frozen h.row i
/-- A new list, of the call's own, is stored. -/
theorem DpAt.put (h : DpAt w B b v s ps) {w1 : World} (hb : Below w.heap.size w w1) {qs : List (Int × Int)} (ho : OwnP tDR w1 w.heap.size v' qs) (hn : Norm qs) : DpAt (w1.setCell ⟨b, 0 + 1, none⟩ v') B b v' s qs ∧ SC w (w1.setCell ⟨b, 0 + 1, none⟩ v') (Dft b v) (Dft b v') := by
  have h1 := h.later hb
  have hlt := h.lt
  have hne : v'.ownBlock ≠ some b := fun e => by have := (ho.lt b e).1; omega
  refine ⟨⟨(h1.row.set 1 _).congr fun i hi => ?_, (ho.kept (setCell_one _ _ _ _) (.inr hne)).less h.size, h.ge, hn⟩, ?_, ?_⟩
  · have : i = 0 ∨ i = 1 := by omega
    rcases this with rfl | rfl <;> simp [dpF]
  · exact (Trn.of_below (F := Dft b v) hb).trans (Trn.of_grown (setCell_one w1 b (0 + 1) v')) (fun _ hk => hk) (fun k _ hk => .inl (Option.some.inj hk).symm)
  · rintro k (rfl | hk)
    · exact .inl (.inl rfl)
    · exact .inr (ho.lt k hk).1
/-- Sent is stored. -/
theorem DpAt.set0 (h : DpAt w B b v s ps) (s' : Int) : DpAt (w.setCell ⟨b, 0, none⟩ (.int .i64 s')) B b v s' ps ∧ SC w (w.setCell ⟨b, 0, none⟩ (.int .i64 s')) (Dft b v) (Dft b v) :=
  ⟨⟨(h.row.set 0 _).congr fun i hi => by
    have : i = 0 ∨ i = 1 := by omega
    rcases this with rfl | rfl <;> simp [dpF], ownP_trn h.own (Trn.of_grown (setCell_one w b 0 _)) (fun g hg e => h.vb (by rw [hg]; exact e.symm)), h.ge, h.norm⟩,
   (Trn.of_grown (setCell_one w b 0 _)).mono (fun _ _ hk => .inl (Option.some.inj hk).symm), fun _ hk => .inl hk⟩
/-- append of one pair onto pairs of the call's own. -/
theorem app_one (h : OwnP tDR w B v ps) (n : Nat) (hn : ps.length = n) (hle : n ≤ 2199023255552) (hB : B ≤ w.heap.size) (x y : Int) : ∃ A' c' w', (Builtin.append_ #[42, 42] 42 #[v, .slice (some ⟨w.heap.size, 0, none⟩) 1 1]).run Try.prog (w.alloc (.cells #[.int .i64 x, .int .i64 y] tDR)) = .ok (.slice A' (n + 1) c') w' ∧ OwnP tDR w' B (.slice A' (n + 1) c') (ps ++ [(x, y)]) ∧ Below B w w' ∧ ∀ k, k < w.heap.size → v.ownBlock ≠ some k → w'.heap[k]? = w.heap[k]? := by
  have h1 : OwnP tDR (w.alloc (.cells #[.int .i64 x, .int .i64 y] tDR)) B v ps := h.alloc _
  obtain ⟨A', c', w', hr, ho, hg, hf⟩ := run_app2 (P := Try.prog) (w.alloc (.cells #[.int .i64 x, .int .i64 y] tDR)) 42 42 tDR _ Try.underlying42 info_dr rfl B v ps h1 (some ⟨w.heap.size, 0, none⟩) 1 1 [(x, y)] rfl
    (fun _ => ⟨_, rfl, fun j u hj => by
      rw [Addr.add_lit, Nat.zero_add]
      have : (prs [(x, y)]) = [.int .i64 x, .int .i64 y] := rfl
      rw [this] at hj
      match j, hj with
      | 0, hj => simp at hj; subst hj; go_simp
      | 1, hj => simp at hj; subst hj; go_simp
      | j + 2, hj => simp at hj⟩) (by omega) (by rw [World.size_alloc]; omega)
  rw [hn] at hr ho
  exact ⟨A', c', w', hr, ho, ((Below.refl B w).alloc hB _).grown hg (by rw [World.size_alloc]; omega) (fun g e => (h1.lt g e).1), fun k hk hn => (hg.block k (by rw [World.size_alloc]; omega) (fun e => hn e.symm)).trans (heap_alloc_old w _ hk)⟩
end

theorem docclip_any (f t F T : Int) (k : Bool) (w : World) (hF : F = max f 0) (hT : T = min t 1099511627776) (hk : decide (F < T) = k) : Calls Try.prog 47 #[.int .i64 f, .int .i64 t] w fun e w' => e = .returned (.tuple #[.int .i64 F, .int .i64 T, .bool k]) ∧ w = w' := by
  have m1 := run_max2 f 0 F hF
  have m2 := run_min2 t 1099511627776 T hT
  have HK := Lib.hid hk
  clear hF hT hk
  go_enter Try.func47, Try.ntmps47
  go_wp2
  go_ret3
  rw [← HK.out]
  exact ⟨rfl, rfl⟩
end Go.Proofs.Ytjpnpaacekdeeaa

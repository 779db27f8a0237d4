/-
  What Blocks of a store tells: a contract over the program.
-/
import Derived.Test.YtfafonfphholmaaStApi2
import Derived.Test.YtfafonfphholmaaStLay
namespace Go.Proofs.Ytfafonfphholmaa
open Go.RowKit Go.Maps Go.Sort Go.Shelf

theorem sortsA (m : Nat) : AnyZI.SortsIn Try.prog sortedA_ren Fence.wide m :=
  ⟨fun blk off cap ss W hH hblk hsz => callsIn_wide.2 (AnyM.slices_Sort_int sortA blk off cap ss W hH hblk hsz),
   fun p cap W => callsIn_wide.2 (AnyM.slices_Sort_int_none sortA p cap W)⟩

theorem keysB (mb : Option Nat) (W : World) : Calls Try.prog 50 #[.map mb] W fun e w' => e = .returned (.func (.func 53) #[] #[.pointer (some ⟨W.heap.size, 0, none⟩)]) ∧ w' = W.alloc (.cells #[.map mb] 44) :=
  (callsIn_wide (n := 5)).1 (AnyZI.keys_in keysA Fence.wide 5 trivial rfl mb W)

/-- The numbers, rising, in a new list. -/
def SortEnd (D0 : DataW Unit) (w : World) (e : Ending) (w' : World) : Prop := ∃ (v : Value) (ss : List Int), e = .returned v ∧ ss.Perm (intKeys D0) ∧
  w'.ownsRow w.heap.size 3 1 v ss.length ((ss.mergeSort (fun x y => decide (x ≤ y))).map encZ) ∧ (v = .slice none 0 0 ↔ ss = []) ∧ Below w.heap.size w w'

set_option maxHeartbeats 1000000 in
theorem sortedB (b nn : Nat) (D0 : DataW Unit) (w : World) (hown : w.ownsMap Try.prog 3 ptr b nn D0) (hmax : Maps.size D0 ≤ maxLen) (hbytes : Maps.size D0 * 8 ≤ 140737488355328) :
    Calls Try.prog 49 #[.func (.func 53) #[] #[.pointer (some ⟨w.heap.size, 0, none⟩)]] (w.alloc (.cells #[.map (some b)] 44)) (SortEnd D0 (w.alloc (.cells #[.map (some b)] 44))) := by
  have hbl := hown.lt
  have hseq : SeqGives Fence.wide 2 Try.prog 53 #[.pointer (some ⟨w.heap.size, 0, none⟩)] encZ (fun ss => ss.Perm (intKeys D0)) (Maps.size D0) (w.alloc (.cells #[.map (some b)] 44)) :=
    AnyZI.keys_gives (ρ := keysA_ren) { keysA with } Fence.wide _ trivial rfl (by omega) w.heap.size b nn D0 _ (by simp) (by simp) (by
      obtain ⟨es, clock, hb, Ft, hs, hD⟩ := hown
      exact ⟨es, clock, (Below.heap_alloc _ _ b hbl).trans hb, Ft, hs, hD⟩)
  have cS := AnyZI.sorted_in sortedA Fence.wide 5 trivial trivial trivial trivial rfl (by omega) (sortsA _) (enters_of Try.func52 (by kernel_rfl) rfl) 53 #[.pointer (some ⟨w.heap.size, 0, none⟩)] trivial (enters_of Try.func53 (by kernel_rfl) rfl) _ _ hmax hbytes _ hseq
  exact (callsIn_wide (n := 5)).1 cS

theorem keys_DL (L : List Ent) : intKeys (DL L) = L.map (·.k.n) := by
  simp only [DL, intKeys, List.map_map]
  rfl

/-- A rising list, come in whatever order, sorted. -/
theorem sort_rise {ss ns : List Int} (hp : ss.Perm ns) (hr : ns.Pairwise (· < ·)) : ss.mergeSort (fun x y => decide (x ≤ y)) = ns := by
  rw [show ss.mergeSort (fun x y => decide (x ≤ y)) = ns.mergeSort leI from mergeSort_of_perm_i hp]
  exact List.mergeSort_of_pairwise (hr.imp (fun {a b} hab => by simp [leI]; omega))

section
variable {w : World} {B p : Nat} {s : St} {F : Nat → Prop}

/-- What Blocks hands out. -/
def BlEnd (w : World) (ns : List Int) (e : Ending) (w' : World) : Prop := ∃ A c, e = .returned (.slice A ns.length c) ∧ Own .i64 3 w' w.heap.size (.slice A ns.length c) ns ∧ Below w.heap.size w w'

set_option maxRecDepth 10000 in
theorem blocks_any (h : StoreIs w B p s F) (hm : s.bs.length ≤ 1099511627776) : Calls Try.prog 44 #[.pointer (some ⟨p, 0, none⟩)] w (BlEnd w (s.bs.map (·.n))) := by
  obtain ⟨m, L, h, hk, rfl, hlf⟩ := h
  have s0 := h.s0
  have HK := Lib.hid (keysB (some m) w)
  have hl : L.length = s.bs.length := by rw [← hk]; simp
  have HS := Lib.hid (sortedB m _ _ w h.map (by rw [DL_size]; unfold maxLen; omega) (by rw [DL_size]; omega))
  have hr : (s.bs.map (·.n)).Pairwise (· < ·) := by
    rw [← hk, List.map_map, List.pairwise_map]
    exact h.rise
  have hkd : intKeys (DL L) = s.bs.map (·.n) := by rw [keys_DL, ← hk, List.map_map]; rfl
  obtain ⟨ns, hns⟩ : ∃ ns, s.bs.map (·.n) = ns := ⟨_, rfl⟩
  rw [hns] at hr hkd ⊢
  have HR := Lib.hid hr
  have HKD := Lib.hid hkd
  clear h hk hlf hl hr hkd hm hns
  go_enter Try.func44, Try.ntmps44
  go_wp2_with fail
  refine HK.out.mono ?_
  rintro e w1 ⟨rfl, rfl⟩
  go_wp2_with fail
  refine HS.out.mono ?_
  rintro e w2 ⟨v, ss, rfl, hperm, hrow, hnil, hb⟩
  rw [HKD.out] at hperm
  rw [sort_rise hperm HR.out, show ss.length = ns.length from hperm.length_eq] at hrow
  have hb2 : Below w.heap.size w w2 := ((Below.refl _ _).alloc (Nat.le_refl _) _).trans (hb.mono (by simp))
  have ho : Own .i64 3 w2 w.heap.size v ns := by
    have h1 : Own .i64 3 w2 (w.alloc (.cells #[.map (some m)] 44)).heap.size v ns := hrow
    exact h1.less (by simp)
  obtain ⟨A, c, rfl⟩ := ho.form
  have HO := Lib.hid ho
  have HB := Lib.hid hb2
  clear hperm hrow hnil hb hb2 ho
  go_wp2_with fail
  go_ret
  exact ⟨A, c, rfl, HO.out, HB.out⟩
end
end Go.Proofs.Ytfafonfphholmaa

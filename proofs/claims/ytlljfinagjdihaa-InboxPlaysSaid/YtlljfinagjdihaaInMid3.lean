/-
  Two inboxes behind one world; bytes of lists. 
-/
import Derived.Test.YtlljfinagjdihaaInMid2
namespace Go.Proofs.Ytlljfinagjdihaa
open Go.RowKit

theorem IbAt.less {w : World} {B B' p q g n : Nat} {v : Value} {xs : List Int} {ps : List (Int × Int)} {s : In} (h : IbAt w B p q g n v xs ps s) (hB : B' ≤ B) : IbAt w B' p q g n v xs ps s :=
  ⟨h.row, ⟨h.set.row, h.set.own.less hB, Nat.le_trans hB h.set.ge, h.set.norm⟩, h.own.less hB, Nat.le_trans hB h.ge, h.win, h.ring, h.iff, h.ok⟩
theorem IM.less {w : World} {B B' p : Nat} {F : Nat → Prop} {s : In} (h : IM w B p F s) (hB : B' ≤ B) : IM w B' p F s := by
  obtain ⟨q, g, n, v, xs, ps, h1, h2⟩ := h.h
  exact ⟨q, g, n, v, xs, ps, h1.less hB, h2⟩
section
variable {w0 w1 w w' : World} {p : Nat} {F G : Nat → Prop} {W t e : Int} {P : Int → Prop} {xs : List Int}
/-- The same behind an elder world. -/
theorem WV.base (h : WV w1 w p F W t e P xs) (hb : Below w0.heap.size w0 w1) : WV w0 w p F W t e P xs := by
  obtain ⟨s, h1, h2⟩ := h.h
  exact ⟨⟨s, h1.less hb.size, h2⟩, hb.trans (h.bel.mono hb.size)⟩
end

theorem WV.limit' {w0 w : World} {p : Nat} {F : Nat → Prop} {W t e : Int} {P : Int → Prop} {xs : List Int} (h : WV w0 w p F W t e P xs) (ht : t ≤ 8192) (N : Int) (hN : t + W = N) : Calls Try.prog 12 #[.pointer (some ⟨p, 0, none⟩)] w fun x w' => x = .returned (.int .i64 N) ∧ Below w.heap.size w w' := hN ▸ h.limit ht
theorem gd_rep (n : Nat) (a b k : Int) (h0 : 0 ≤ k) (h : k < (n : Int)) : (List.replicate n b ++ [a]).getD k.toNat 0 = b := by
  simp only [List.getD_eq_getElem?_getD]
  rw [List.getElem?_append_left (by rw [List.length_replicate]; omega), List.getElem?_replicate, if_pos (by omega)]
  rfl
theorem gd_last (n : Nat) (a b : Int) : (List.replicate n b ++ [a]).getD n 0 = a := by
  simp only [List.getD_eq_getElem?_getD]
  rw [List.getElem?_append_right (by rw [List.length_replicate]; omega), List.length_replicate, Nat.sub_self]
  rfl
end Go.Proofs.Ytlljfinagjdihaa

/-
  Two ends of one law, and a configuration: each one's calls leave the other as it was.
-/
import Derived.Test.YtpjlnpnadkbakaaGreatQBPrEvK
namespace Go.Proofs.YtpjlnpnadkbakaaGreat
set_option maxRecDepth 10000
open Go.RowKit
theorem lab_above (L : Lab) (n : Nat) : ∃ K : Nat, 17 ≤ K ∧ ∀ k, k < n → L k < K := by
  induction n with
  | zero => exact ⟨17, Nat.le_refl _, fun k hk => by omega⟩
  | succ n ih =>
    obtain ⟨K, h1, h2⟩ := ih
    refine ⟨K + L n + 1, by omega, fun k hk => ?_⟩
    by_cases e : k = n
    · subst e; omega
    · have := h2 k (by omega)
      omega
structure Two (w0 w : World) (L : Lab) (K : Nat) (g : Nat) (c : Cf) (p : Nat) (A : En) (m : Nat) (q : Nat) (B : En) (n : Nat) : Prop where
  a : EV w0 w L 1 p A m
  b : EV w0 w L K q B n
  k17 : 17 ≤ K
  cf : CfS w L g c
section
variable {w0 w w' : World} {L L' : Lab} {K g p m q n m' n' : Nat} {c : Cf} {A B A' B' : En}
theorem Two.nextA (h : Two w0 w L K g c p A m q B n) (hx : EV w0 w' L' 1 p A' m') (ht : Tn w w' L L' (Es 1)) : Two w0 w' L' K g c p A' m' q B n :=
  ⟨hx, h.b.keep ht (fun x hx => by have := h.k17; unfold Es at *; omega) h.a.relab0 h.a.low, h.k17, h.cf.keep ht h.a.relab0⟩
theorem Two.nextB (h : Two w0 w L K g c p A m q B n) (hx : EV w0 w' L' K q B' n') (ht : Tn w w' L L' (Es K)) : Two w0 w' L' K g c p A m q B' n' :=
  ⟨h.a.keep ht (fun x hx => by have := h.k17; unfold Es at *; omega) h.b.relab0 h.b.low, hx, h.k17, h.cf.keep ht h.b.relab0⟩
theorem Two.later (h : Two w0 w L K g c p A m q B n) (hb : Below w.heap.size w w') : Two w0 w' (relab L w.heap.size 0) K g c p A m q B n :=
  ⟨h.a.later hb, h.b.later hb, h.k17, h.cf.keep (Tn.of_below hb L 0 (fun _ => False)) id⟩
end
end Go.Proofs.YtpjlnpnadkbakaaGreat

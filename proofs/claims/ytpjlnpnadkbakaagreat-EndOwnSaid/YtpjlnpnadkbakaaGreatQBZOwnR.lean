/-
  Rows that an end has handed out, as EndOwn reads and stores into them.
-/
import Derived.Test.YtpjlnpnadkbakaaGreatQBXOw
import Derived.Test.YtpjlnpnadkbakaaGreatQBZPrOwn
namespace Go.Proofs.YtpjlnpnadkbakaaGreat
set_option maxRecDepth 10000
open Go.RowKit
theorem map_one {ms : List PkM} {p : Pkt} (h : ms.map PkM.p = [p]) : ∃ m, ms = [m] ∧ m.p = p := by
  match ms, h with
  | [m], h => exact ⟨m, rfl, by simpa using h⟩
section
variable {w0 w w' : World} {L L' : Lab} {b n J g B : Nat} {E : En}
theorem Tn.cellAt {S : Nat → Prop} {i : Nat} {v : Value} (ht : Tn w w' L L' S) (h : w.cell? ⟨g, i, none⟩ = some v) (hS : ¬ S (L g)) : w'.cell? ⟨g, i, none⟩ = some v := by
  have hl := World.block_lt_of_cell? w _ h
  rw [World.cell?_of_block (a := ⟨g, i, none⟩) (ht.block rfl hS hl)]
  exact h
theorem ByJ.first {c : Nat} {xs : List Int} (h : ByJ w L J (some ⟨g, 0, none⟩) c xs) (h0 : 0 < xs.length) : (∃ x : Int, w.cell? ⟨g, 0, none⟩ = some (.int .u8 x)) ∧ (∀ i, w.frozen? ⟨g, i, none⟩ = false) ∧ L g = J := by
  obtain ⟨g', e, -, -, -, hc, hf⟩ := h.own.block h0
  injection e with e
  injection e with e _
  subst e
  exact ⟨⟨_, hc 0 h0⟩, hf, h.lab g rfl⟩
theorem PkRo.at1 {A : Option Addr} {c : Nat} {m : PkM} (h : PkRo w B (.slice A 1 c) [m]) : ∃ g, A = some ⟨g, 0, none⟩ ∧ w.cell? ⟨g, 5, none⟩ = some (.slice m.A m.p.da.length m.c) := by
  rcases h.row.2 with ⟨_, h1⟩ | ⟨g, cap, cur, hv, _⟩
  · simp at h1
  · injection hv with hA _ hc
    subst hA; subst hc
    refine ⟨g, rfl, ?_⟩
    rw [World.ownsRow.cellAt h.row 5 (by simp)]
    rfl
theorem evRow_at {A : Option Addr} {k c : Nat} {ms : List EvM} (h : EvRow w B (.slice A k c) ms) (hk : ms.length = k) (h0 : 0 < k) : ∃ g, A = some ⟨g, 0, none⟩ ∧ ∀ i, i < k * 12 → w.cell? ⟨g, i, none⟩ = (evs ms)[i]? := by
  subst hk
  rcases h.row.2 with ⟨_, h1⟩ | ⟨g, cap, cur, hv, _⟩
  · omega
  · injection hv with hA _ hc
    subst hA; subst hc
    exact ⟨g, rfl, fun i hi => World.ownsRow.cellAt h.row i hi⟩
theorem JV.put (h : JV w0 w L b E n J) (v : Value) (hl : L g = J) : ∃ L', JV w0 (w.setCell ⟨g, 0, none⟩ v) L' b E n J ∧ Tn w (w.setCell ⟨g, 0, none⟩ v) L L' (fun x => x = J) := by
  obtain ⟨h1, h2⟩ := h.store (setCell_one w g 0 v) hl
  exact ⟨_, h1, h2⟩
theorem JV.same (h : JV w0 w L b E n J) {A A' : Option Addr} {xs : List Int} {m c d : Nat} (hm : xs.length = m) (hA : Rd .u8 w A xs) (hB : Rd .u8 w A' xs) (hl : m ≤ 1000) :
    Calls Tryz.prog 29 #[.slice A m c, .slice A' m d] w fun e w' => e = .returned (.bool true) ∧ ∃ L', JV w0 w' L' b E n J ∧ Tn w w' L L' (fun _ => False) := by
  subst hm
  refine (same_any xs xs A A' c d w hA hB (by unfold maxLen; omega)).mono ?_
  rintro e w' ⟨rfl, k, rfl⟩
  exact ⟨by rw [decide_eq_true rfl], L, h.keep (h.ev.keep (Tn.drewN w L k (fun _ => False)) (fun _ _ => id) id (fun _ _ => id)) (Tn.drewN w L k (fun _ => False)), Tn.drewN w L k _⟩
end
end Go.Proofs.YtpjlnpnadkbakaaGreat

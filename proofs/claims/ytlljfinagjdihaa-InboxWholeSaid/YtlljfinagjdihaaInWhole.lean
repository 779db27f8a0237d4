/-
  An inbox, the pieces of one text that are given to it, and what was read of it ('WG'); 'give' of chapter 16.
-/
import Derived.Test.YtlljfinagjdihaaInMid3
import Derived.Test.YtlljfinagjdihaaFresh
import Derived.Test.YtlljfinagjdihaaInboxGapsWalk
namespace Go.Proofs.Ytlljfinagjdihaa
open Go.RowKit

section
variable {w0 w w' : World} {p : Nat} {F G : Nat → Prop} {W t e : Int} {P : Int → Prop} {xs : List Int}
/-- A Put of what was there, whatever is new of it. -/
theorem WV.putAny (h : WV w0 w p F W t e P xs) {f : Int} {A : Option Addr} {m c : Nat} {ys : List Int} (hm : ys.length = m) (hr : Rd .u8 w0 A ys) (b : Bool) (hf : -9223372036854775808 ≤ f ∧ f ≤ 9223372036854775807) (hmm : m ≤ 1048576) (hlim : t + W ≤ 8192)
    (e' : Int) (P' : Int → Prop)
    (hP : ∀ k, P' k ↔ P k ∨ (f ≤ k ∧ k < f + (m : Int) ∧ 0 ≤ k ∧ k < t + W ∧ (e < 0 ∨ k < e)))
    (hy : ∀ k, f ≤ k → k < f + (m : Int) → 0 ≤ k → k < t + W → (e < 0 ∨ k < e) → ¬ P k → ys.getD (k - f).toNat 0 = xs.getD k.toNat 0)
    (he : (b = true ∧ e < 0 ∧ 0 ≤ f + (m : Int) ∧ f + (m : Int) ≤ 4096 ∧ (∀ j, f + (m : Int) ≤ j → ¬ P j) ∧ e' = f + (m : Int)) ∨ ((b = false ∨ ¬ e < 0 ∨ f + (m : Int) < 0 ∨ 4096 < f + (m : Int) ∨ ∃ j, f + (m : Int) ≤ j ∧ P j) ∧ e' = e)) :
    Calls Try.prog 13 #[.pointer (some ⟨p, 0, none⟩), .int .i64 f, .slice A m c, .bool b] w fun x w' => (∃ N, x = .returned (.int .i64 N)) ∧ ∃ F', WV w0 w' p F' W t e' P' xs ∧ SC w w' F F' := by
  have ho := h.old hr
  obtain ⟨s, h1, h2⟩ := h.h
  refine (h1.put hm ho.1 (fun a ha h0 => ho.2 a ha (by omega)) b hf hmm (by rw [h2.win, h2.tk]; exact hlim)).mono ?_
  rintro x w' ⟨rfl, F', h3, h4⟩
  exact ⟨⟨_, rfl⟩, F', ⟨⟨_, h3, h2.put hm hP hy he⟩, h.bel.trans (h4.below h.bel.size (fun k hk => (h.foot k hk).1))⟩, h4⟩
end
/-- The first place that is not there. -/
theorem front_ex (P : Int → Prop) (N : Nat) (h : ¬ P N) : ∃ f : Nat, f ≤ N ∧ (∀ k : Int, 0 ≤ k → k < (f : Int) → P k) ∧ ¬ P f := by
  have hh : ∀ n : Nat, (∀ k : Int, 0 ≤ k → k < (n : Int) → P k) ∨ ∃ f : Nat, f < n ∧ (∀ k : Int, 0 ≤ k → k < (f : Int) → P k) ∧ ¬ P f := by
    intro n
    induction n with
    | zero => exact .inl (fun k h1 h2 => by omega)
    | succ n ih =>
      rcases ih with ih | ⟨f, h1, h2⟩
      · by_cases hp : P n
        · refine .inl fun k h1 h2 => ?_
          by_cases e : k = (n : Int)
          · rw [e]; exact hp
          · exact ih k h1 (by omega)
        · exact .inr ⟨n, by omega, ih, hp⟩
      · exact .inr ⟨f, by omega, h2⟩
  rcases hh N with h1 | ⟨f, h1, h2, h3⟩
  · exact ⟨N, Nat.le_refl _, h1, h⟩
  · exact ⟨f, by omega, h2, h3⟩

/-- The inbox, of window V; T bytes of the text b (N of them) were read, and stand in a row of the call's own. -/
structure WG (w0 w : World) (p : Nat) (F : Nat → Prop) (V T : Nat) (e : Int) (P : Int → Prop) (b : List Int) (N : Nat) (GA : Option Addr) (Gc : Nat) : Prop where
  wv : WV w0 w p F (V : Int) (T : Int) e P b
  own : Own .u8 5 w w0.heap.size (.slice GA T Gc) (b.take T)
  ap : Apart (.slice GA T Gc) F
  e1 : e = -1 ∨ e = (N : Int)
  pn : ∀ j, P j → j < (N : Int)
  len : b.length = N
  n1 : N ≤ 60
section
variable {w0 w w' : World} {p : Nat} {F G : Nat → Prop} {V T : Nat} {e : Int} {P : Int → Prop} {b : List Int} {N Gc : Nat} {GA : Option Addr}
theorem WG.later (h : WG w0 w p F V T e P b N GA Gc) (hb : Below w.heap.size w w') : WG w0 w' p F V T e P b N GA Gc := ⟨h.wv.later hb, h.own.later hb, h.ap, h.e1, h.pn, h.len, h.n1⟩
theorem WG.tn (h : WG w0 w p F V T e P b N GA Gc) : T ≤ N := by
  by_cases hc : T ≤ N
  · exact hc
  · have := h.wv.range.2.2.2.2.2.2.2 (N : Int) (by omega) (by omega)
    have := h.pn _ this
    omega
theorem WG.start (h : WV w0 w p F (V : Int) 0 (-1) (fun k => 0 ≤ k ∧ k < 0) b) (hl : b.length = N) (hn : N ≤ 60) : WG w0 w p F V 0 (-1) (fun k => 0 ≤ k ∧ k < 0) b N none 0 :=
  ⟨h, Own.nil _ _ _ _, apart_nil F, .inl rfl, fun j hj => by omega, hl, hn⟩
theorem WG.front (h : WG w0 w p F V T e P b N GA Gc) : ∃ f : Nat, f ≤ N ∧ T ≤ f ∧ f ≤ T + V ∧ (∀ k : Int, 0 ≤ k → k < (f : Int) → P k) ∧ ¬ P f := by
  obtain ⟨f, h1, h2, h3⟩ := front_ex P N (fun x => by have := h.pn _ x; omega)
  have hr := h.wv.range
  refine ⟨f, h1, ?_, ?_, h2, h3⟩
  · by_cases hc : T ≤ f
    · exact hc
    · exact absurd (hr.2.2.2.2.2.2.2 (f : Int) (by omega) (by omega)) h3
  · by_cases hc : f ≤ T + V
    · exact hc
    · have := (hr.2.2.2.2.2.1 _ (h2 ((T : Int) + (V : Int)) (by omega) (by omega))).2
      omega
/-- A piece of the text is put: from the place a to below z. -/
theorem WG.put (h : WG w0 w p F V T e P b N GA Gc) {A : Option Addr} {a z m c : Nat} (hr : Rd .u8 w0 A ((b.drop a).take m)) (haz : a + m = z) (hz : z ≤ N) (fin : Bool) (hfin : fin = true ↔ z = N) :
    Calls Try.prog 13 #[.pointer (some ⟨p, 0, none⟩), .int .i64 (a : Int), .slice A m c, .bool fin] w fun x w' => (∃ N, x = .returned (.int .i64 N)) ∧ ∃ F' e', WG w0 w' p F' V T e' (fun j => P j ∨ ((a : Int) ≤ j ∧ j < (z : Int) ∧ j < (T : Int) + (V : Int))) b N GA Gc ∧ (z = N → e' = N) ∧ (e = N → e' = N) := by
  have hrg := h.wv.range
  have hn := h.n1
  have htn := h.tn
  have hl := h.len
  have hm : ((b.drop a).take m).length = m := by rw [List.length_take, List.length_drop, hl]; omega
  obtain ⟨e', he', hz1, hz2⟩ : ∃ e' : Int, ((fin = true ∧ e < 0 ∧ 0 ≤ (a : Int) + (m : Int) ∧ (a : Int) + (m : Int) ≤ 4096 ∧ (∀ j, (a : Int) + (m : Int) ≤ j → ¬ P j) ∧ e' = (a : Int) + (m : Int)) ∨ ((fin = false ∨ ¬ e < 0 ∨ (a : Int) + (m : Int) < 0 ∨ 4096 < (a : Int) + (m : Int) ∨ ∃ j, (a : Int) + (m : Int) ≤ j ∧ P j) ∧ e' = e)) ∧ (z = N → e' = N) ∧ (e = N → e' = N) := by
    by_cases hzn : z = N
    · rcases h.e1 with e1 | e1
      · exact ⟨N, .inl ⟨hfin.2 hzn, by omega, by omega, by omega, fun j hj hp => by have := h.pn j hp; omega, by omega⟩, fun _ => rfl, fun _ => rfl⟩
      · exact ⟨e, .inr ⟨.inr (.inl (by omega)), rfl⟩, fun _ => e1, id⟩
    · have hff : fin = false := by cases fin with | false => rfl | true => exact absurd (hfin.1 rfl) hzn
      exact ⟨e, .inr ⟨.inl hff, rfl⟩, fun x => absurd x hzn, id⟩
  refine (h.wv.putAny hm hr fin (by omega) (by omega) (by omega) e' (fun j => P j ∨ ((a : Int) ≤ j ∧ j < (z : Int) ∧ j < (T : Int) + (V : Int))) (fun k => ⟨fun x => x.imp id (fun y => ⟨by omega, by omega, by omega, by omega, by rcases h.e1 with e1 | e1 <;> omega⟩), fun x => x.imp id (fun y => ⟨by omega, by omega, by omega⟩)⟩)
    (fun k k1 k2 _ _ _ _ => gd_mid b a m k k1 k2) he').mono ?_
  rintro x w' ⟨hx, F', h1, h2⟩
  refine ⟨hx, F', e', ⟨h1, (keep_own h2 h.own h.ap).1, (keep_own h2 h.own h.ap).2, ?_, ?_, h.len, h.n1⟩, hz1, hz2⟩
  · rcases he' with ⟨_, _, _, _, _, x6⟩ | ⟨_, x2⟩
    · by_cases hzn : z = N
      · exact .inr (by omega)
      · rename_i x1 _ _ _ _
        exact absurd (hfin.1 x1) hzn
    · rw [x2]; exact h.e1
  · rintro j (hj | hj)
    · exact h.pn j hj
    · omega
/-- A Read; the row of what was read is as it was. -/
theorem WG.read (h : WG w0 w p F V T e P b N GA Gc) (m : Int) (f : Nat) (k : Nat) (hfN : f ≤ N) (hTf : T ≤ f) (all : ∀ k : Int, 0 ≤ k → k < (f : Int) → P k) (no : ¬ P f) (hk : (k : Int) = min (max m 0) ((f : Int) - (T : Int))) :
    Calls Try.prog 17 #[.pointer (some ⟨p, 0, none⟩), .int .i64 m] w fun x w' => ∃ A' c', x = .returned (.slice A' k c') ∧ ∃ GA' Gc' w2, (Builtin.append_ #[22, 22] 22 #[.slice GA T Gc, .slice A' k c']).run Try.prog w' = .ok (.slice GA' (T + k) Gc') w2 ∧ WG w0 w2 p F V (T + k) e P b N GA' Gc' := by
  have hn := h.n1
  have hl := h.len
  refine (h.wv.read m (f : Int) T k (by omega) all no rfl hk (by omega) (by omega) (((T + k : Nat) : Int)) (by omega)).mono ?_
  rintro x w1 ⟨A', c', rfl, ho, hx, hsc⟩
  obtain ⟨hg, hap⟩ := keep_own hsc h.own h.ap
  have hlk : ((b.drop T).take k).length = k := by rw [List.length_take, List.length_drop, hl]; omega
  have hlt : (b.take T).length = T := by rw [List.length_take, hl]; omega
  obtain ⟨GA', Gc', w2, hrun, ho2, hg2, hf2⟩ := run_append_f (P := Try.prog) w1 .u8 22 22 5 (.int .u8 0) 1 Try.underlying22 info_byte rfl w0.heap.size (.slice GA T Gc) (b.take T) hg A' k c' ((b.drop T).take k) hlk ho.rd (by rw [hlt]; unfold maxLen; omega) (by rw [hlt]; omega) hx.bel.size
  rw [hlt] at hrun ho2 hf2
  have hcat : b.take T ++ (b.drop T).take k = b.take (T + k) := List.take_add.symm
  rw [hcat] at ho2
  have hot := hx.other (G := fun g => (Value.slice GA T Gc).ownBlock = some g) (G' := fun g => (Value.slice GA' (T + k) Gc').ownBlock = some g) ⟨Trn.of_grown hg2, fun g hg => hf2 g hg⟩ (fun g hF hg => hap g hg hF) (fun g hg' => (hg.lt g hg').1)
  exact ⟨A', c', rfl, GA', Gc', w2, hrun, hot.1, ho2, fun g hg hF => hot.2 g hF hg, h.e1, h.pn, h.len, h.n1⟩

set_option maxHeartbeats 1000000 in
/-- give: the k-th piece. -/
theorem give_any (h : WG w0 w p F V T e P b N GA Gc) {A : Option Addr} {c C k : Nat} (hr : Rd .u8 w0 A b) (hc : N ≤ c) (hC : 1 ≤ C ∧ C ≤ 12) (hk : k * C ≤ N) :
    Calls Try.prog 27 #[.pointer (some ⟨p, 0, none⟩), .slice A N c, .int .i64 C, .int .i64 k] w fun x w' => x = .returned (.tuple #[]) ∧ ∃ F' e', WG w0 w' p F' V T e' (fun j => P j ∨ (((k * C : Nat) : Int) ≤ j ∧ j < ((min (k * C + C) N : Nat) : Int) ∧ j < (T : Int) + (V : Int))) b N GA Gc ∧ (min (k * C + C) N = N → e' = N) ∧ (e = N → e' = N) := by
  have hn := h.n1
  have hl := h.len
  obtain ⟨a, ha⟩ : ∃ a, k * C = a := ⟨_, rfl⟩
  obtain ⟨z, hz⟩ : ∃ z, min (a + C) N = z := ⟨_, rfl⟩
  rw [ha] at hk ⊢
  rw [hz]
  obtain ⟨m, hm⟩ : ∃ m, z = a + m := ⟨z - a, by omega⟩
  obtain ⟨S, hS⟩ : ∃ S, (if c = a then A else A.map (·.add a)) = S := ⟨_, rfl⟩
  have hs := fun W => slice_lhI A N c a z (by omega) (by omega) W
  rw [hS, show z - a = m by omega] at hs
  have hrd := (hr.drop a c (by omega) (by omega)).take m
  rw [hS] at hrd
  have hkC : (k : Int) * (C : Int) = (a : Int) := by rw [← ha]; exact (Int.natCast_mul k C).symm
  have HM1 := Lib.hid (show wrap64 ((k : Int) * (C : Int)) = (a : Int) from wrap_at hkC (by omega) (by omega))
  have HM2 := Lib.hid (show wrap64 ((a : Int) + (C : Int)) = (a : Int) + (C : Int) from wrap_at rfl (by omega) (by omega))
  have m2 := run_min2 ((a : Int) + (C : Int)) (N : Int) (z : Int) (by omega)
  have HP := Lib.hid (fun (fin : Bool) (hfin : fin = true ↔ z = N) => h.put (A := S) (c := c - a) hrd hm.symm (by omega) fin hfin)
  clear h hr hc hC hk hn hl ha hz hm hS hrd hkC
  have hm1 := HM1.out
  have hm2 := HM2.out
  by_cases hzn : z = N
  · have HQ := Lib.hid (HP.out true ⟨fun _ => hzn, fun _ => rfl⟩)
    subst hzn
    clear HP
    go_enter Try.func27, Try.ntmps27
    go_wp2_with fail
    refine HQ.out.mono ?_
    rintro x w1 ⟨⟨v, rfl⟩, F', e', hx⟩
    have HX := Lib.hid hx
    clear hx
    go_wp2
    go_end0
    exact ⟨rfl, F', e', HX.out⟩
  · have HQ := Lib.hid (HP.out false ⟨fun x => (by cases x), fun x => absurd x hzn⟩)
    have hzi : ((z : Int) == (N : Int)) = false := by rw [beq_eq_false_iff_ne]; omega
    clear hzn
    clear HP
    go_enter Try.func27, Try.ntmps27
    go_wp2_with fail
    refine HQ.out.mono ?_
    rintro x w1 ⟨⟨v, rfl⟩, F', e', hx⟩
    have HX := Lib.hid hx
    clear hx
    go_wp2
    go_end0
    exact ⟨rfl, F', e', HX.out⟩
end
end Go.Proofs.Ytlljfinagjdihaa

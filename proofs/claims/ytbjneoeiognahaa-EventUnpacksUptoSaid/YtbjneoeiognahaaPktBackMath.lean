/-
  A packet is taken as it was packed; what is taken packs to the bytes that were read. No function of the program.
-/
import Derived.Test.YtbjneoeiognahaaPktTakeMath
import Derived.Test.YtbjneoeiognahaaRefPkt
import Derived.Test.YtbjneoeiognahaaBase
namespace Go.Proofs.Ytbjneoeiognahaa
open Go.RowKit

section
variable {xs : List Int} {a : Nat}
set_option maxRecDepth 10000 in
theorem rdO_at {c : Int} {r : List Int} (h : xs.drop a = c :: r) : rdO xs (a, false) = (c, a + 1, false) ∧ xs.drop (a + 1) = r :=
  ⟨oneT_at h, drop_more (u := [c]) (by simpa using h)⟩
set_option maxRecDepth 10000 in
theorem rdN_at {z : Int} {r : List Int} (h0 : 0 ≤ z) (h1 : z ≤ 4611686018427387903) (h : xs.drop a = putL z ++ r) : rdN xs (a, false) = (z, a + (putL z).length, false) ∧ xs.drop (a + (putL z).length) = r := by
  refine ⟨?_, drop_more h⟩
  unfold rdN
  rw [numT_at h0 h1 h]
  simp
set_option maxRecDepth 10000 in
theorem rdB_at {t r : List Int} {most : Int} (ht : t.length ≤ 4611686018427387903) (hm : (t.length : Int) ≤ most) (h : xs.drop a = putL (t.length : Int) ++ (t ++ r)) :
    rdB most xs (a, false) = (t, a + (putL (t.length : Int)).length + t.length, false) ∧ xs.drop (a + (putL (t.length : Int)).length + t.length) = r := by
  refine ⟨?_, drop_more (drop_more h)⟩
  unfold rdB
  exact bytT_at ht hm h

set_option maxRecDepth 10000 in
/-- A number that is taken is the bytes that it is taken of. -/
theorem takeV_inv {ys : List Int} {n s : Int} (hb : ∀ x ∈ ys, 0 ≤ x ∧ x < 256) (h : takeV ys = (n, s, true)) : 0 ≤ n ∧ n ≤ 4611686018427387903 ∧ ys = putL n ++ ys.drop s.toNat ∧ s.toNat ≤ ys.length := by
  have hb' : ∀ i, i < ys.length → 0 ≤ ys.getD i 0 ∧ ys.getD i 0 < 256 := fun i hi => hb _ (by simp [List.getD, hi])
  unfold takeV at h
  by_cases h0 : ys.length = 0
  · rw [if_pos h0] at h; simp at h
  · rw [if_neg h0] at h
    by_cases h1 : ys.length < leadV (ys.getD 0 0)
    · rw [if_pos h1] at h; simp at h
    · rw [if_neg h1] at h
      by_cases h2 : szV (numV ys (leadV (ys.getD 0 0))) = leadV (ys.getD 0 0)
      · rw [if_pos h2] at h
        simp only [Prod.mk.injEq, and_true] at h
        obtain ⟨rfl, rfl⟩ := h
        have hp := putL_numV hb' rfl (by omega) (by omega) h2
        have hs : leadV (ys.getD 0 0) = 1 ∨ leadV (ys.getD 0 0) = 2 ∨ leadV (ys.getD 0 0) = 4 ∨ leadV (ys.getD 0 0) = 8 := by unfold leadV; (repeat' split) <;> simp
        refine ⟨?_, ?_, ?_, by rw [Int.toNat_natCast]; omega⟩
        · rcases lt_or_ge' (numV ys (leadV (ys.getD 0 0))) 0 with h9 | h9
          · rw [szV_neg h9] at h2; omega
          · exact h9
        · rcases lt_or_ge' 4611686018427387903 (numV ys (leadV (ys.getD 0 0))) with h9 | h9
          · rw [szV_big h9] at h2; omega
          · exact h9
        · rw [hp, Int.toNat_natCast, List.take_append_drop]
      · rw [if_neg h2] at h; simp at h

set_option maxRecDepth 10000 in
theorem rdN_inv {bad : Bool} {z : Int} {a' : Nat} (hb : ∀ x ∈ xs, 0 ≤ x ∧ x < 256) (h : rdN xs (a, bad) = (z, a', false)) :
    bad = false ∧ 0 ≤ z ∧ z ≤ 4611686018427387903 ∧ xs.drop a = putL z ++ xs.drop a' := by
  unfold rdN at h
  simp only [Prod.mk.injEq, Bool.not_eq_false'] at h
  obtain ⟨h1, h2, h3⟩ := h
  cases bad with
  | true => simp [numT] at h3
  | false =>
    have hn : numT xs a false = takeV (xs.drop a) := rfl
    obtain ⟨n, s, t⟩ : ∃ n s t, takeV (xs.drop a) = (n, s, t) := ⟨_, _, _, rfl⟩
    obtain ⟨t, ht⟩ := t
    rw [hn, ht] at h1 h2 h3
    simp only at h1 h2 h3
    subst h1; subst h2; subst h3
    obtain ⟨g1, g2, g3, _⟩ := takeV_inv (fun x hx => hb x (List.mem_of_mem_drop hx)) ht
    refine ⟨rfl, g1, g2, ?_⟩
    rw [List.drop_drop] at g3
    exact g3
set_option maxRecDepth 10000 in
theorem rdO_inv {bad : Bool} {z : Int} {a' : Nat} (h : rdO xs (a, bad) = (z, a', false)) : bad = false ∧ xs.drop a = z :: xs.drop a' ∧ a' = a + 1 := by
  unfold rdO oneT at h
  simp only at h
  by_cases c : bad = true ∨ xs.length - a = 0
  · rw [if_pos c] at h; simp at h
  · rw [if_neg c] at h
    simp only [Prod.mk.injEq, and_true] at h
    obtain ⟨rfl, rfl⟩ := h
    have hl : a < xs.length := by simp at c; omega
    refine ⟨by simpa using fun e => c (.inl e), ?_, rfl⟩
    rw [List.drop_eq_getElem_cons hl]
    simp [List.getD, hl]
set_option maxRecDepth 10000 in
theorem rdB_inv {bad : Bool} {m : Int} {t : List Int} {a' : Nat} (hb : ∀ x ∈ xs, 0 ≤ x ∧ x < 256) (hle : a ≤ xs.length) (h : rdB m xs (a, bad) = (t, a', false)) :
    bad = false ∧ (t.length : Int) ≤ m ∧ xs.drop a = putL (t.length : Int) ++ (t ++ xs.drop a') := by
  unfold rdB at h
  simp only at h
  rcases bytT_cases (bad := bad) m hle with ⟨_, e⟩ | ⟨n, s, ht, hbad, h1, h2, h3, h4, hc⟩
  · rw [e] at h; simp at h
  · rcases hc with ⟨_, e⟩ | ⟨_, _, e⟩ | ⟨h5, h6, e⟩
    · rw [e] at h; simp at h
    · rw [e] at h; simp at h
    · rw [e] at h
      simp only [Prod.mk.injEq, and_true] at h
      obtain ⟨rfl, rfl⟩ := h
      subst hbad
      have hlen : ((xs.drop (a + s)).take n).length = n := by simp; omega
      have hn : numT xs a false = takeV (xs.drop a) := rfl
      rw [hn] at ht
      obtain ⟨g1, g2, g3, _⟩ := takeV_inv (fun x hx => hb x (List.mem_of_mem_drop hx)) ht
      rw [Int.toNat_natCast, List.drop_drop] at g3
      refine ⟨rfl, by rw [hlen]; exact h5, ?_⟩
      rw [hlen]
      rw [show xs.drop (a + s + n) = (xs.drop (a + s)).drop n by rw [List.drop_drop], List.take_append_drop]
      exact g3
set_option maxRecDepth 10000 in
theorem inB_iff {n g : Int} : inB n g = true ↔ 0 ≤ n ∧ n ≤ g := by unfold inB; simp
set_option maxRecDepth 10000 in
/-- A packet is taken as it was packed, whatever is behind it. -/
theorem takeP_at {pk : Pkt} {r : List Int} (hok : pk.ok = true) (h : xs.drop a = pk.plainL ++ r) : takeP xs (a, false) = (pk, true, a + pk.plainL.length, false) := by
  have hk := Pkt.ok_kind hok
  obtain ⟨k, pa, nu, o, fr, da, fin, se, li⟩ := pk
  simp only at hk
  have key : ∀ p : Pkt, p.ok = true → readP xs (a, false) = (p, true, a + p.plainL.length, false) → takeP xs (a, false) = (p, true, a + p.plainL.length, false) := by
    intro p hp hr
    unfold takeP
    rw [hr]
    simp [hp]
  refine key _ hok ?_
  have hk4 : k = 1 ∨ k = 2 ∨ k = 3 ∨ k = 4 := by omega
  rcases hk4 with rfl | rfl | rfl | rfl
  · have ho := hok
    rw [ok1] at ho
    simp only [Bool.and_eq_true, decide_eq_true_eq, inB_iff, Bool.not_eq_true'] at ho
    obtain ⟨⟨⟨⟨⟨⟨⟨q1, q2⟩, rfl⟩, rfl⟩, q5⟩, rfl⟩, rfl⟩, rfl⟩ := ho
    obtain rfl := List.eq_nil_of_length_eq_zero q5
    simp only [Pkt.plainL, Pkt.fieldsL, List.append_assoc, List.cons_append, List.nil_append] at h ⊢
    simp at h
    obtain ⟨e1, h1⟩ := rdO_at h
    obtain ⟨e2, h2⟩ := rdN_at q1.1 (by omega) h1
    obtain ⟨e3, h3⟩ := rdN_at q2.1 (by omega) h2
    simp [readP, e1, e2, e3]
    omega
  · have ho := hok
    rw [ok2] at ho
    simp only [Bool.and_eq_true, decide_eq_true_eq, inB_iff, Bool.not_eq_true'] at ho
    obtain ⟨⟨⟨⟨⟨⟨⟨q1, q2⟩, q3⟩, rfl⟩, q5⟩, rfl⟩, rfl⟩, rfl⟩ := ho
    obtain rfl := List.eq_nil_of_length_eq_zero q5
    simp only [Pkt.plainL, Pkt.fieldsL, List.append_assoc, List.cons_append, List.nil_append] at h ⊢
    simp at h
    obtain ⟨e1, h1⟩ := rdO_at h
    obtain ⟨e2, h2⟩ := rdN_at q1.1 (by omega) h1
    obtain ⟨e3, h3⟩ := rdN_at q2.1 (by omega) h2
    obtain ⟨e4, h4⟩ := rdN_at q3.1 (by omega) h3
    simp [readP, e1, e2, e3, e4]
    omega
  · have ho := hok
    rw [ok3] at ho
    simp only [Bool.and_eq_true, decide_eq_true_eq, inB_iff] at ho
    obtain ⟨⟨⟨⟨⟨⟨⟨q1, q2⟩, rfl⟩, q4⟩, q5⟩, q6⟩, rfl⟩, rfl⟩ := ho
    simp only [Pkt.plainL, Pkt.fieldsL, List.append_assoc, List.cons_append, List.nil_append] at h ⊢
    simp at h
    obtain ⟨e1, h1⟩ := rdO_at h
    obtain ⟨e2, h2⟩ := rdN_at q1.1 (by omega) h1
    obtain ⟨e3, h3⟩ := rdN_at q2.1 (by omega) h2
    obtain ⟨e4, h4⟩ := rdN_at q4.1 (by omega) h3
    obtain ⟨e5, h5⟩ := rdB_at (most := 64) (by omega) (by omega) h4
    obtain ⟨e6, h6⟩ := rdO_at h5
    cases fin
    · simp [readP, e1, e2, e3, e4, e5, e6, markV]
      omega
    · simp [readP, e1, e2, e3, e4, e5, e6, markV]
      omega
  · have ho := hok
    rw [ok4] at ho
    simp only [Bool.and_eq_true, decide_eq_true_eq, inB_iff, Bool.not_eq_true'] at ho
    obtain ⟨⟨⟨⟨⟨⟨⟨q1, q2⟩, q3⟩, rfl⟩, q5⟩, rfl⟩, q7⟩, q8⟩ := ho
    obtain rfl := List.eq_nil_of_length_eq_zero q5
    simp only [Pkt.plainL, Pkt.fieldsL, List.append_assoc, List.cons_append, List.nil_append] at h ⊢
    simp at h
    obtain ⟨e1, h1⟩ := rdO_at h
    obtain ⟨e2, h2⟩ := rdN_at q1.1 (by omega) h1
    obtain ⟨e3, h3⟩ := rdN_at q2.1 (by omega) h2
    obtain ⟨e4, h4⟩ := rdN_at q3.1 (by omega) h3
    obtain ⟨e5, h5⟩ := rdN_at q7.1 (by omega) h4
    obtain ⟨e6, h6⟩ := rdN_at q8.1 (by omega) h5
    simp [readP, e1, e2, e3, e4, e5, e6]
    omega

set_option maxRecDepth 10000 in
/-- What is taken packs to the bytes that were read. -/
theorem takeP_inv {bad : Bool} {pk : Pkt} {a' : Nat} {b' : Bool} (hb : ∀ x ∈ xs, 0 ≤ x ∧ x < 256) (hle : a ≤ xs.length) (h : takeP xs (a, bad) = (pk, true, a', b')) :
    bad = false ∧ b' = false ∧ pk.ok = true ∧ xs.drop a = pk.plainL ++ xs.drop a' := by
  unfold takeP at h
  split at h
  · rename_i hc
    simp only [Bool.and_eq_true, Bool.not_eq_true'] at hc
    obtain ⟨⟨c1, c2⟩, c3⟩ := hc
    simp only [Prod.mk.injEq, true_and] at h
    obtain ⟨h1, h2⟩ := h
    have hr : readP xs (a, bad) = (pk, true, a', false) := by
      have e : readP xs (a, bad) = ((readP xs (a, bad)).1, (readP xs (a, bad)).2.1, (readP xs (a, bad)).2.2.1, (readP xs (a, bad)).2.2.2) := rfl
      rw [e, c1, c2, h1]
      have : (readP xs (a, bad)).2.2.1 = a' := by rw [h2]
      rw [this]
    have hb' : b' = false := by
      rw [h2] at c2
      exact c2
    have hok : pk.ok = true := by rw [← h1]; exact c3
    clear h1 h2 c1 c2 c3
    obtain ⟨k, a1, b1, e1⟩ : ∃ k a1 b1, rdO xs (a, bad) = (k, a1, b1) := ⟨_, _, _, rfl⟩
    obtain ⟨pa, a2, b2, e2⟩ : ∃ k a1' b1', rdN xs (a1, b1) = (k, a1', b1') := ⟨_, _, _, rfl⟩
    obtain ⟨nu, a3, b3, e3⟩ : ∃ k a1' b1', rdN xs (a2, b2) = (k, a1', b1') := ⟨_, _, _, rfl⟩
    have l1 := rdO_bd (s := (a, bad)) hle hb
    rw [e1] at l1
    have l2 := rdN_bd (xs := xs) (s := (a1, b1)) l1.2.2
    rw [e2] at l2
    have l3 := rdN_bd (xs := xs) (s := (a2, b2)) l2.2.2
    rw [e3] at l3
    simp only at l1 l2 l3
    by_cases h2 : k = 2
    · subst h2
      obtain ⟨o, a4, b4, e4⟩ : ∃ k a1' b1', rdN xs (a3, b3) = (k, a1', b1') := ⟨_, _, _, rfl⟩
      simp [readP, e1, e2, e3, e4] at hr
      obtain ⟨rfl, rfl, rfl⟩ := hr
      obtain ⟨rfl, _, _, g4⟩ := rdN_inv hb e4
      obtain ⟨rfl, _, _, g3⟩ := rdN_inv hb e3
      obtain ⟨rfl, _, _, g2⟩ := rdN_inv hb e2
      obtain ⟨rfl, g1, _⟩ := rdO_inv e1
      refine ⟨rfl, hb', hok, ?_⟩
      simp [Pkt.plainL, Pkt.fieldsL, g1, g2, g3, g4]
    · by_cases h3 : k = 3
      · subst h3
        obtain ⟨fr, a4, b4, e4⟩ : ∃ k a1' b1', rdN xs (a3, b3) = (k, a1', b1') := ⟨_, _, _, rfl⟩
        have l4 := rdN_bd (xs := xs) (s := (a3, b3)) l3.2.2
        rw [e4] at l4
        obtain ⟨da, a5, b5, e5⟩ : ∃ k a1' b1', rdB 64 xs (a4, b4) = (k, a1', b1') := ⟨_, _, _, rfl⟩
        have l5 := rdB_bd (m := 64) (s := (a4, b4)) l4.2.2 hb
        rw [e5] at l5
        obtain ⟨f, a6, b6, e6⟩ : ∃ k a1' b1', rdO xs (a5, b5) = (k, a1', b1') := ⟨_, _, _, rfl⟩
        have l6 := rdO_bd (s := (a5, b5)) l5.2.1 hb
        rw [e6] at l6
        simp only at l4 l5 l6
        simp [readP, e1, e2, e3, e4, e5, e6] at hr
        obtain ⟨rfl, hf, rfl, rfl⟩ := hr
        obtain ⟨rfl, g6, _⟩ := rdO_inv e6
        obtain ⟨rfl, _, g5⟩ := rdB_inv hb l4.2.2 e5
        obtain ⟨rfl, _, _, g4⟩ := rdN_inv hb e4
        obtain ⟨rfl, _, _, g3⟩ := rdN_inv hb e3
        obtain ⟨rfl, _, _, g2⟩ := rdN_inv hb e2
        obtain ⟨rfl, g1, _⟩ := rdO_inv e1
        have hm : markV (decide (f = 1)) = f := by
          have : f = 0 ∨ f = 1 := by omega
          rcases this with rfl | rfl <;> rfl
        refine ⟨rfl, hb', hok, ?_⟩
        simp [Pkt.plainL, Pkt.fieldsL, g1, g2, g3, g4, g5, g6, hm]
      · by_cases h4 : k = 4
        · subst h4
          obtain ⟨o, a4, b4, e4⟩ : ∃ k a1' b1', rdN xs (a3, b3) = (k, a1', b1') := ⟨_, _, _, rfl⟩
          obtain ⟨se, a5, b5, e5⟩ : ∃ k a1' b1', rdN xs (a4, b4) = (k, a1', b1') := ⟨_, _, _, rfl⟩
          obtain ⟨li, a6, b6, e6⟩ : ∃ k a1' b1', rdN xs (a5, b5) = (k, a1', b1') := ⟨_, _, _, rfl⟩
          simp [readP, e1, e2, e3, e4, e5, e6] at hr
          obtain ⟨rfl, rfl, rfl⟩ := hr
          obtain ⟨rfl, _, _, g6⟩ := rdN_inv hb e6
          obtain ⟨rfl, _, _, g5⟩ := rdN_inv hb e5
          obtain ⟨rfl, _, _, g4⟩ := rdN_inv hb e4
          obtain ⟨rfl, _, _, g3⟩ := rdN_inv hb e3
          obtain ⟨rfl, _, _, g2⟩ := rdN_inv hb e2
          obtain ⟨rfl, g1, _⟩ := rdO_inv e1
          refine ⟨rfl, hb', hok, ?_⟩
          simp [Pkt.plainL, Pkt.fieldsL, g1, g2, g3, g4, g5, g6]
        · simp [readP, e1, e2, e3, h2, h3, h4] at hr
          obtain ⟨rfl, rfl, rfl⟩ := hr
          obtain ⟨rfl, _, _, g3⟩ := rdN_inv hb e3
          obtain ⟨rfl, _, _, g2⟩ := rdN_inv hb e2
          obtain ⟨rfl, g1, _⟩ := rdO_inv e1
          refine ⟨rfl, hb', hok, ?_⟩
          simp [Pkt.plainL, Pkt.fieldsL, g1, g2, g3, h2, h3, h4]
  · simp at h
end
end Go.Proofs.Ytbjneoeiognahaa

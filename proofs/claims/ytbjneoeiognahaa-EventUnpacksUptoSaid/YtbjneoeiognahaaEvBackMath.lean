/-
  What is taken of bytes as an event: an event is taken as it was packed; what is taken packs to the bytes that were read. No function of the program.
-/
import Derived.Test.YtbjneoeiognahaaPktBackMath
import Derived.Test.YtbjneoeiognahaaEvMath
namespace Go.Proofs.Ytbjneoeiognahaa
open Go.RowKit

/-- What is read at a place as an event, and whether its packet is one. -/
def readE (xs : List Int) (s : Nat × Bool) : Ev × Bool × Nat × Bool :=
  let k := rdO xs s
  if k.1 = 1 ∨ k.1 = 2 then
    let d := rdB 4096 xs k.2
    (⟨k.1, 0, d.1, Pkt.zero⟩, true, d.2)
  else if k.1 = 3 ∨ k.1 = 7 ∨ k.1 = 8 then
    let n := rdN xs k.2
    (⟨k.1, n.1, [], Pkt.zero⟩, true, n.2)
  else if k.1 = 4 ∨ k.1 = 5 then
    let p := takeP xs k.2
    (⟨k.1, 0, [], p.1⟩, p.2.1, p.2.2)
  else (⟨k.1, 0, [], Pkt.zero⟩, true, k.2)
/-- What is taken at a place as an event. -/
def takeE (xs : List Int) (s : Nat × Bool) : Ev × Bool × Nat × Bool :=
  if ((readE xs s).2.1 && !(readE xs s).2.2.2 && (readE xs s).1.ok) = true then ((readE xs s).1, true, (readE xs s).2.2) else (Ev.zero, false, (readE xs s).2.2)

section
variable {xs : List Int} {a : Nat}
set_option maxRecDepth 10000 in
theorem Ev.ok_kind {e : Ev} (h : e.ok = true) : e.k = 1 ∨ e.k = 2 ∨ e.k = 3 ∨ e.k = 4 ∨ e.k = 5 ∨ e.k = 6 ∨ e.k = 7 ∨ e.k = 8 := by
  unfold Ev.ok at h
  split at h
  · omega
  · split at h
    · omega
    · split at h
      · omega
      · split at h
        · omega
        · split at h
          · omega
          · simp at h

set_option maxRecDepth 10000 in
/-- An event is taken as it was packed, whatever is behind it. -/
theorem takeE_at {e : Ev} {r : List Int} (hok : e.ok = true) (h : xs.drop a = e.plainL ++ r) : takeE xs (a, false) = (e, true, a + e.plainL.length, false) := by
  have hk := Ev.ok_kind hok
  have key : readE xs (a, false) = (e, true, a + e.plainL.length, false) → takeE xs (a, false) = (e, true, a + e.plainL.length, false) := by
    intro hr
    unfold takeE
    rw [hr]
    simp [hok]
  refine key ?_
  clear key
  obtain ⟨k, n, da, pk⟩ := e
  simp only at hk
  unfold Ev.plainL at h ⊢
  simp only [List.cons_append] at h
  obtain ⟨e1, h1⟩ := rdO_at h
  rcases hk with rfl | rfl | rfl | rfl | rfl | rfl | rfl | rfl
  · simp [Ev.ok, Pkt.same_iff] at hok
    obtain ⟨⟨⟨q1, q2⟩, rfl⟩, rfl⟩ := hok
    simp [Ev.restL] at h1 ⊢
    obtain ⟨e2, h2⟩ := rdB_at (most := 4096) (by omega) (by omega) h1
    simp [readE, e1, e2]
    omega
  · simp [Ev.ok, Pkt.same_iff] at hok
    obtain ⟨⟨⟨q1, q2⟩, rfl⟩, rfl⟩ := hok
    simp [Ev.restL] at h1 ⊢
    obtain ⟨e2, h2⟩ := rdB_at (most := 4096) (by omega) (by omega) h1
    simp [readE, e1, e2]
    omega
  · simp [Ev.ok, Pkt.same_iff] at hok
    obtain ⟨⟨⟨q1, q2⟩, rfl⟩, rfl⟩ := hok
    simp [Ev.restL] at h1 ⊢
    obtain ⟨e2, h2⟩ := rdN_at (by omega) (by omega) h1
    simp [readE, e1, e2]
    omega
  · simp [Ev.ok] at hok
    obtain ⟨⟨q1, rfl⟩, rfl⟩ := hok
    simp [Ev.restL] at h1 ⊢
    have e2 := takeP_at q1 h1
    simp [readE, e1, e2]
    omega
  · simp [Ev.ok] at hok
    obtain ⟨⟨q1, rfl⟩, rfl⟩ := hok
    simp [Ev.restL] at h1 ⊢
    have e2 := takeP_at q1 h1
    simp [readE, e1, e2]
    omega
  · simp [Ev.ok, Pkt.same_iff] at hok
    obtain ⟨⟨rfl, rfl⟩, rfl⟩ := hok
    simp [Ev.restL]
    simp [readE, e1]
  · simp [Ev.ok, Pkt.same_iff, inB] at hok
    obtain ⟨⟨⟨q1, q2⟩, rfl⟩, rfl⟩ := hok
    simp [Ev.restL] at h1 ⊢
    obtain ⟨e2, h2⟩ := rdN_at (by omega) (by omega) h1
    simp [readE, e1, e2]
    omega
  · simp [Ev.ok, Pkt.same_iff, inB] at hok
    obtain ⟨⟨⟨q1, q2⟩, rfl⟩, rfl⟩ := hok
    simp [Ev.restL] at h1 ⊢
    obtain ⟨e2, h2⟩ := rdN_at (by omega) (by omega) h1
    simp [readE, e1, e2]
    omega

set_option maxRecDepth 10000 in
/-- What is taken packs to the bytes that were read. -/
theorem takeE_inv {bad : Bool} {e : Ev} {a' : Nat} {b' : Bool} (hb : ∀ x ∈ xs, 0 ≤ x ∧ x < 256) (hle : a ≤ xs.length) (h : takeE xs (a, bad) = (e, true, a', b')) :
    bad = false ∧ b' = false ∧ e.ok = true ∧ xs.drop a = e.plainL ++ xs.drop a' := by
  unfold takeE at h
  split at h
  · rename_i hc
    simp only [Bool.and_eq_true, Bool.not_eq_true'] at hc
    obtain ⟨⟨c1, c2⟩, c3⟩ := hc
    simp only [Prod.mk.injEq, true_and] at h
    obtain ⟨h1, h2⟩ := h
    have hr : readE xs (a, bad) = (e, true, a', false) := by
      have e9 : readE xs (a, bad) = ((readE xs (a, bad)).1, (readE xs (a, bad)).2.1, (readE xs (a, bad)).2.2.1, (readE xs (a, bad)).2.2.2) := rfl
      rw [e9, c1, c2, h1]
      have : (readE xs (a, bad)).2.2.1 = a' := by rw [h2]
      rw [this]
    have hb' : b' = false := by
      rw [h2] at c2
      exact c2
    have hok : e.ok = true := by rw [← h1]; exact c3
    clear h1 h2 c1 c2 c3
    obtain ⟨k, a1, b1, e1⟩ : ∃ k a1 b1, rdO xs (a, bad) = (k, a1, b1) := ⟨_, _, _, rfl⟩
    have l1 := rdO_bd (s := (a, bad)) hle hb
    rw [e1] at l1
    simp only at l1
    by_cases k1 : k = 1 ∨ k = 2
    · obtain ⟨d, a2, b2, e2⟩ : ∃ k a1' b1', rdB 4096 xs (a1, b1) = (k, a1', b1') := ⟨_, _, _, rfl⟩
      simp [readE, e1, e2, k1] at hr
      obtain ⟨rfl, rfl, rfl⟩ := hr
      obtain ⟨rfl, _, g2⟩ := rdB_inv hb l1.2.2 e2
      obtain ⟨rfl, g1, _⟩ := rdO_inv e1
      exact ⟨rfl, hb', hok, by simp [Ev.plainL, Ev.restL, k1, g1, g2]⟩
    · by_cases k2 : k = 3 ∨ k = 7 ∨ k = 8
      · obtain ⟨n, a2, b2, e2⟩ : ∃ k a1' b1', rdN xs (a1, b1) = (k, a1', b1') := ⟨_, _, _, rfl⟩
        simp [readE, e1, e2, k1, k2] at hr
        obtain ⟨rfl, rfl, rfl⟩ := hr
        obtain ⟨rfl, _, _, g2⟩ := rdN_inv hb e2
        obtain ⟨rfl, g1, _⟩ := rdO_inv e1
        exact ⟨rfl, hb', hok, by simp [Ev.plainL, Ev.restL, k1, k2, g1, g2]⟩
      · by_cases k3 : k = 4 ∨ k = 5
        · obtain ⟨p, t, a2, b2, e2⟩ : ∃ p t a1' b1', takeP xs (a1, b1) = (p, t, a1', b1') := ⟨_, _, _, _, rfl⟩
          simp [readE, e1, e2, k1, k2, k3] at hr
          obtain ⟨rfl, rfl, rfl, rfl⟩ := hr
          obtain ⟨rfl, _, _, g2⟩ := takeP_inv hb l1.2.2 e2
          obtain ⟨rfl, g1, _⟩ := rdO_inv e1
          exact ⟨rfl, hb', hok, by simp [Ev.plainL, Ev.restL, k1, k2, k3, g1, g2]⟩
        · simp [readE, e1, k1, k2, k3] at hr
          obtain ⟨rfl, rfl, rfl⟩ := hr
          obtain ⟨rfl, g1, _⟩ := rdO_inv e1
          exact ⟨rfl, hb', hok, by simp [Ev.plainL, Ev.restL, k1, k2, k3, g1]⟩
  · simp at h
set_option maxRecDepth 10000 in
/-- Of two events, one the other's beginning, both are the same. -/
theorem plainL_pre {e f : Ev} {r : List Int} (he : e.ok = true) (hf : f.ok = true) (h : e.plainL = f.plainL ++ r) : e = f ∧ r = [] := by
  have t1 := takeE_at (xs := e.plainL) (a := 0) (r := []) he (by simp)
  have t2 := takeE_at (xs := e.plainL) (a := 0) (r := r) hf (by rw [List.drop_zero]; exact h)
  rw [t1] at t2
  simp only [Prod.mk.injEq] at t2
  refine ⟨t2.1, ?_⟩
  have hl := congrArg List.length h
  rw [List.length_append, t2.1] at hl
  exact List.eq_nil_of_length_eq_zero (by omega)
set_option maxRecDepth 10000 in
/-- Cut off within it there is no event. -/
theorem takeE_cut {e : Ev} {j : Nat} (hb : ∀ x ∈ xs, 0 ≤ x ∧ x < 256) (hle : a ≤ xs.length) (hok : e.ok = true) (hj : j < e.plainL.length) (h : xs.drop a = e.plainL.take j) : (takeE xs (a, false)).2.1 = false := by
  obtain ⟨f, t, a', b', ht⟩ : ∃ f t a' b', takeE xs (a, false) = (f, t, a', b') := ⟨_, _, _, _, rfl⟩
  rw [ht]
  cases t with
  | false => rfl
  | true =>
    obtain ⟨_, _, hf, hd⟩ := takeE_inv hb hle ht
    rw [h] at hd
    have he : e.plainL = f.plainL ++ (xs.drop a' ++ e.plainL.drop j) := by
      rw [← List.append_assoc, ← hd, List.take_append_drop]
    obtain ⟨_, hr⟩ := plainL_pre hok hf he
    have hl := congrArg List.length hr
    rw [List.length_append, List.length_drop] at hl
    simp at hl
    omega
set_option maxRecDepth 10000 in
theorem Ev.plainL_pos (e : Ev) : 0 < e.plainL.length := by simp [Ev.plainL]

/-- Events, one behind the other, as bytes. -/
def packL (es : List Ev) : List Int := es.flatMap Ev.plainL
/-- Events are taken, one by one, from a place on: all of them, or where the first one begins that is none. -/
def unE (xs : List Int) : Nat → Nat → List Ev → List Ev × Nat × Bool
  | 0, a, _ => ([], a, false)
  | n + 1, a, es => if xs.length ≤ a then (es, 0, true) else if (takeE xs (a, false)).2.1 = true then unE xs n (takeE xs (a, false)).2.2.1 (es ++ [(takeE xs (a, false)).1]) else ([], a, false)
set_option maxRecDepth 10000 in
theorem unE_at (es : List Ev) : ∀ (n a : Nat) (xs : List Int) (acc : List Ev), (∀ e ∈ es, e.ok = true) → a ≤ xs.length → xs.drop a = packL es → es.length < n → unE xs n a acc = (acc ++ es, 0, true) := by
  induction es with
  | nil =>
    intro n a xs acc _ ha h hn
    have hl : xs.length ≤ a := by
      have := congrArg List.length h
      simp [packL] at this
      omega
    cases n with
    | zero => simp at hn
    | succ n => simp [unE, hl]
  | cons e es ih =>
    intro n a xs acc hok ha h hn
    cases n with
    | zero => simp at hn
    | succ n =>
      have hd : xs.drop a = e.plainL ++ packL es := by rw [h]; simp [packL]
      have ht := takeE_at (hok e (by simp)) hd
      have hlt : ¬ xs.length ≤ a := by
        have := congrArg List.length hd
        rw [List.length_append, List.length_drop] at this
        have := e.plainL_pos
        omega
      rw [unE, if_neg hlt, ht, if_pos rfl]
      simp only
      rw [ih n (a + e.plainL.length) xs (acc ++ [e]) (fun x hx => hok x (by simp [hx])) (by exact drop_le hd ha) (by rw [← List.drop_drop, hd]; simp) (by simpa using hn)]
      simp
set_option maxRecDepth 10000 in
/-- All are taken: the bytes are theirs. -/
theorem unE_inv (xs : List Int) (hb : ∀ x ∈ xs, 0 ≤ x ∧ x < 256) : ∀ (n a : Nat) (acc es : List Ev) (p : Nat), a ≤ xs.length → unE xs n a acc = (es, p, true) → ∃ more, es = acc ++ more ∧ (∀ e ∈ more, e.ok = true) ∧ xs.drop a = packL more := by
  intro n
  induction n with
  | zero => intro a acc es p _ h; simp [unE] at h
  | succ n ih =>
    intro a acc es p ha h
    rw [unE] at h
    by_cases hl : xs.length ≤ a
    · rw [if_pos hl] at h
      simp only [Prod.mk.injEq, and_true] at h
      obtain ⟨rfl, _⟩ := h
      refine ⟨[], by simp, by simp, ?_⟩
      rw [List.drop_eq_nil_of_le hl]
      rfl
    · rw [if_neg hl] at h
      obtain ⟨f, t, a', b', ht⟩ : ∃ f t a' b', takeE xs (a, false) = (f, t, a', b') := ⟨_, _, _, _, rfl⟩
      rw [ht] at h
      cases t with
      | false => simp at h
      | true =>
        simp only [if_true] at h
        obtain ⟨_, _, hf, hd⟩ := takeE_inv hb ha ht
        have ha' : a' ≤ xs.length := by
          rcases Nat.lt_or_ge xs.length a' with h9 | h9
          · exfalso
            have h8 := takeE_at hf hd
            rw [ht] at h8
            simp only [Prod.mk.injEq, true_and] at h8
            have h7 := drop_le hd ha
            omega
          · exact h9
        obtain ⟨more, rfl, hm, hd2⟩ := ih a' (acc ++ [f]) es p ha' h
        refine ⟨f :: more, by simp, fun e he => ?_, ?_⟩
        · rcases List.mem_cons.1 he with rfl | he
          · exact hf
          · exact hm e he
        · rw [hd, hd2]
          simp [packL]
set_option maxRecDepth 10000 in
/-- Cut off within the last one, the place is where that one begins. -/
theorem unE_cut (e : Ev) (j : Nat) (hok : e.ok = true) (h0 : 0 < j) (hj : j < e.plainL.length) (es : List Ev) : ∀ (n a : Nat) (xs : List Int) (acc : List Ev), (∀ x ∈ xs, 0 ≤ x ∧ x < 256) → (∀ e ∈ es, e.ok = true) → a ≤ xs.length →
    xs.drop a = packL es ++ e.plainL.take j → es.length < n → unE xs n a acc = ([], a + (packL es).length, false) := by
  induction es with
  | nil =>
    intro n a xs acc hb _ ha h hn
    have hd : xs.drop a = e.plainL.take j := by rw [h]; simp [packL]
    have hlt : ¬ xs.length ≤ a := by
      have := congrArg List.length hd
      simp at this
      omega
    cases n with
    | zero => simp at hn
    | succ n =>
      rw [unE, if_neg hlt, takeE_cut hb ha hok hj hd]
      simp [packL]
  | cons f es ih =>
    intro n a xs acc hb hes ha h hn
    cases n with
    | zero => simp at hn
    | succ n =>
      have hd : xs.drop a = f.plainL ++ (packL es ++ e.plainL.take j) := by rw [h]; simp [packL]
      have ht := takeE_at (hes f (by simp)) hd
      have hlt : ¬ xs.length ≤ a := by
        have := congrArg List.length hd
        rw [List.length_append, List.length_drop] at this
        have := f.plainL_pos
        omega
      rw [unE, if_neg hlt, ht, if_pos rfl]
      simp only
      rw [ih n (a + f.plainL.length) xs (acc ++ [f]) hb (fun x hx => hes x (by simp [hx])) (drop_le hd ha) (by rw [← List.drop_drop, hd]; simp) (by simpa using hn)]
      simp [packL]
      omega
set_option maxRecDepth 10000 in
/-- Where it fails, it fails at a place that is there. -/
theorem unE_place (xs : List Int) (hb : ∀ x ∈ xs, 0 ≤ x ∧ x < 256) : ∀ (n a : Nat) (acc es : List Ev) (p : Nat), a ≤ xs.length → xs.length - a < n → unE xs n a acc = (es, p, false) → es = [] ∧ a ≤ p ∧ p < xs.length := by
  intro n
  induction n with
  | zero => intro a acc es p _ hn _; omega
  | succ n ih =>
    intro a acc es p ha hn h
    rw [unE] at h
    by_cases hl : xs.length ≤ a
    · rw [if_pos hl] at h; simp at h
    · rw [if_neg hl] at h
      obtain ⟨f, t, a', b', ht⟩ : ∃ f t a' b', takeE xs (a, false) = (f, t, a', b') := ⟨_, _, _, _, rfl⟩
      rw [ht] at h
      cases t with
      | false =>
        simp at h
        obtain ⟨rfl, rfl⟩ := h
        exact ⟨rfl, by omega, by omega⟩
      | true =>
        simp only [if_true] at h
        obtain ⟨_, _, hf, hd⟩ := takeE_inv hb ha ht
        have h8 := takeE_at hf hd
        rw [ht] at h8
        simp only [Prod.mk.injEq, true_and] at h8
        have h7 := drop_le hd ha
        have h6 := f.plainL_pos
        obtain ⟨g1, g2, g3⟩ := ih a' (acc ++ [f]) es p (by omega) (by omega) h
        exact ⟨g1, by omega, g3⟩
end
end Go.Proofs.Ytbjneoeiognahaa

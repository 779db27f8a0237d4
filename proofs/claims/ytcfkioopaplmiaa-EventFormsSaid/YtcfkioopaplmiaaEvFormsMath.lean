/-
  The events of EventForms as mathematics: their bytes; where bytes that are none begin to be none. No function of the program.
-/
import Derived.Test.YtcfkioopaplmiaaEvRow2
namespace Go.Proofs.Ytcfkioopaplmiaa
open Go.RowKit

/-- A Join. -/
def joinP (path n : Int) : Pkt := ⟨1, path, n, 0, 0, [], false, 0, 0⟩
/-- The events, but the last one. -/
def formA (n path : Int) (D : List Int) : List Ev := [⟨1, 0, D, Pkt.zero⟩, ⟨3, n, [], Pkt.zero⟩, ⟨4, 0, [], joinP path n⟩, ⟨5, 0, [], joinP path n⟩, ⟨6, 0, [], Pkt.zero⟩, ⟨7, path, [], Pkt.zero⟩, ⟨8, path, [], Pkt.zero⟩]
/-- The last one. -/
def formB (D : List Int) : Ev := ⟨2, 0, D, Pkt.zero⟩
/-- What the small literal holds. -/
def formM (n path : Int) (l : Int) : List Int := [3, n, 4, 1, path, n, 5, 1, path, n, 6, 7, path, 8, path, 2, l]

section
variable {n path : Int} {D : List Int}
theorem joinP_ok (hn : 1 ≤ n ∧ n ≤ 63) (hp : 0 ≤ path ∧ path ≤ 2) : (joinP path n).ok = true := by
  have h1 : inB path 2 = true := by simp [inB]; omega
  have h2 : inB n 65535 = true := by simp [inB]; omega
  simp [joinP, Pkt.ok, Pkt.known, Pkt.bare, Pkt.same, Pkt.bounded, h1, h2]
  decide
theorem formA_ok (hn : 1 ≤ n ∧ n ≤ 63) (hp : 0 ≤ path ∧ path ≤ 2) (hD : 1 ≤ D.length ∧ D.length ≤ 41) : ∀ e ∈ formA n path D, e.ok = true := by
  intro e he
  have hj := joinP_ok hn hp
  have h1 : inB path 2 = true := by simp [inB]; omega
  simp only [formA, List.mem_cons, List.not_mem_nil, or_false] at he
  rcases he with rfl | rfl | rfl | rfl | rfl | rfl | rfl <;> simp [Ev.ok, hj, h1, Pkt.same] <;> omega
theorem formB_ok (hD : 1 ≤ D.length ∧ D.length ≤ 41) : (formB D).ok = true := by
  have h1 : decide (1 ≤ D.length) = true := decide_eq_true hD.1
  have h2 : decide (D.length ≤ 4096) = true := decide_eq_true (by omega)
  have h3 : Pkt.zero.same Pkt.zero = true := Pkt.same_iff.2 rfl
  unfold Ev.ok
  rw [if_pos (by simp [formB])]
  show (decide (1 ≤ D.length) && decide (D.length ≤ 4096) && decide ((0 : Int) = 0) && Pkt.zero.same Pkt.zero) = true
  rw [h1, h2, h3]
  rfl
theorem form_all (hn : 1 ≤ n ∧ n ≤ 63) (hp : 0 ≤ path ∧ path ≤ 2) (hD : 1 ≤ D.length ∧ D.length ≤ 41) : ∀ e ∈ formA n path D ++ [formB D], e.ok = true := by
  intro e he
  rcases List.mem_append.1 he with h | h
  · exact formA_ok hn hp hD e h
  · simp at h
    rw [h]
    exact formB_ok hD
theorem form_head (hn : 1 ≤ n ∧ n ≤ 63) (hp : 0 ≤ path ∧ path ≤ 2) (hD : 1 ≤ D.length ∧ D.length ≤ 41) : packL (formA n path D) ++ [2, (D.length : Int)] = [1, (D.length : Int)] ++ D ++ formM n path D.length := by
  have p1 : putL n = [n] := putL_1 (by omega) (by omega)
  have p2 : putL path = [path] := putL_1 (by omega) (by omega)
  have p3 : putL (D.length : Int) = [(D.length : Int)] := putL_1 (by omega) (by omega)
  simp [packL, formA, formM, Ev.plainL, Ev.restL, Pkt.plainL, Pkt.fieldsL, joinP, p1, p2, p3]
theorem form_last (hD : 1 ≤ D.length ∧ D.length ≤ 41) : (formB D).plainL = [2, (D.length : Int)] ++ D := by
  have p3 : putL (D.length : Int) = [(D.length : Int)] := putL_1 (by omega) (by omega)
  simp [formB, Ev.plainL, Ev.restL, p3]
theorem form_pack (hn : 1 ≤ n ∧ n ≤ 63) (hp : 0 ≤ path ∧ path ≤ 2) (hD : 1 ≤ D.length ∧ D.length ≤ 41) : packL (formA n path D ++ [formB D]) = [1, (D.length : Int)] ++ D ++ formM n path D.length ++ D := by
  rw [← form_head hn hp hD]
  simp only [packL, List.flatMap_append, List.flatMap_cons, List.flatMap_nil, List.append_nil]
  rw [form_last hD]
  simp
theorem form_size (hn : 1 ≤ n ∧ n ≤ 63) (hp : 0 ≤ path ∧ path ≤ 2) (hD : 1 ≤ D.length ∧ D.length ≤ 41) : (packL (formA n path D)).length + 2 = 2 + D.length + 17 := by
  have h := congrArg List.length (form_head hn hp hD)
  simp [formM] at h
  simp
  omega
end

/-- Behind events stands what is none. -/
theorem unE_bad (es : List Ev) : ∀ (n a : Nat) (xs r : List Int) (acc : List Ev), (∀ e ∈ es, e.ok = true) → a ≤ xs.length → xs.drop a = packL es ++ r → r ≠ [] → (takeE xs (a + (packL es).length, false)).2.1 = false → es.length < n → unE xs n a acc = ([], a + (packL es).length, false) := by
  induction es with
  | nil =>
    intro n a xs r acc _ ha h hr ht hn
    have hd : xs.drop a = r := by rw [h]; simp [packL]
    have hlt : ¬ xs.length ≤ a := fun h9 => hr (by rw [← hd]; exact List.drop_eq_nil_of_le h9)
    cases n with
    | zero => simp at hn
    | succ n =>
      simp only [packL, List.flatMap_nil, List.length_nil, Nat.add_zero] at ht ⊢
      rw [unE, if_neg hlt, ht]
      simp
  | cons f es ih =>
    intro n a xs r acc hes ha h hr ht hn
    cases n with
    | zero => simp at hn
    | succ n =>
      have hd : xs.drop a = f.plainL ++ (packL es ++ r) := by rw [h]; simp [packL]
      have ht2 := takeE_at (hes f (by simp)) hd
      have hlt : ¬ xs.length ≤ a := by
        have := congrArg List.length hd
        rw [List.length_append, List.length_drop] at this
        have := f.plainL_pos
        omega
      have hp : (packL (f :: es)).length = f.plainL.length + (packL es).length := by simp [packL]
      rw [unE, if_neg hlt, ht2, if_pos rfl]
      simp only
      rw [ih n (a + f.plainL.length) xs r (acc ++ [f]) (fun x hx => hes x (by simp [hx])) (drop_le hd ha) (by rw [← List.drop_drop, hd]; simp) hr (by rw [hp] at ht; rw [Nat.add_assoc]; exact ht) (by simpa using hn), hp]
      simp
      omega
/-- A byte that is no kind begins no event. -/
theorem takeE_none {xs : List Int} {a : Nat} {b : Int} {r : List Int} (hb : ∀ x ∈ xs, 0 ≤ x ∧ x < 256) (hle : a ≤ xs.length) (h : xs.drop a = b :: r) (h9 : b < 1 ∨ 8 < b) : (takeE xs (a, false)).2.1 = false := by
  obtain ⟨f, t, a', b', ht⟩ : ∃ f t a' b', takeE xs (a, false) = (f, t, a', b') := ⟨_, _, _, _, rfl⟩
  rw [ht]
  cases t with
  | false => rfl
  | true =>
    obtain ⟨_, _, hf, hd⟩ := takeE_inv hb hle ht
    have hk := Ev.ok_kind0 hf
    rw [h] at hd
    simp only [Ev.plainL, List.cons_append, List.cons.injEq] at hd
    omega

/-- Bytes that are none, and where. -/
def badT (first : List Int) (fa : Nat) (more : List Int) (ma : Nat) : List (List Int × Nat) := [([0], 0), ([9], 0), ([1], 0), ([1, 0], 0), ([3, 0], 0), ([7, 3], 0), ([4, 9, 0, 0], 0), ([6, 6, 6, 3], 3), (first, fa), (more, ma)]
theorem badT_all {n path : Int} {D : List Int} (hn : 1 ≤ n ∧ n ≤ 63) (hp : 0 ≤ path ∧ path ≤ 2) (hD : 1 ≤ D.length ∧ D.length ≤ 41) (hb : ∀ x ∈ D, 0 ≤ x ∧ x < 256) :
    ∀ p ∈ badT ([1, (D.length : Int)] ++ D ++ formM n path D.length) (D.length + 17) ([1, (D.length : Int)] ++ D ++ formM n path D.length ++ D ++ [200]) (2 + D.length + 17 + D.length),
      unE p.1 (p.1.length + 1) 0 [] = ([], p.2, false) ∧ (∀ x ∈ p.1, 0 ≤ x ∧ x < 256) ∧ p.1.length ≤ 200 := by
  have hbh : ∀ x ∈ [1, (D.length : Int)] ++ D ++ formM n path D.length, 0 ≤ x ∧ x < 256 := by
    intro x hx
    simp only [formM, List.mem_append, List.mem_cons, List.not_mem_nil, or_false] at hx
    rcases hx with ((rfl | rfl) | hx) | hx
    · omega
    · omega
    · exact hb x hx
    · omega
  have hsz := form_size hn hp hD
  intro p hpm
  simp only [badT, List.mem_cons, List.not_mem_nil, or_false] at hpm
  rcases hpm with rfl | rfl | rfl | rfl | rfl | rfl | rfl | rfl | rfl | rfl
  · exact ⟨by kernel_rfl, by decide, by decide⟩
  · exact ⟨by kernel_rfl, by decide, by decide⟩
  · exact ⟨by kernel_rfl, by decide, by decide⟩
  · exact ⟨by kernel_rfl, by decide, by decide⟩
  · exact ⟨by kernel_rfl, by decide, by decide⟩
  · exact ⟨by kernel_rfl, by decide, by decide⟩
  · exact ⟨by kernel_rfl, by decide, by decide⟩
  · exact ⟨by kernel_rfl, by decide, by decide⟩
  · refine ⟨?_, hbh, by simp [formM]; omega⟩
    have h := unE_cut (formB D) 2 (formB_ok hD) (by omega) (by rw [form_last hD]; simp; omega) (formA n path D) (([1, (D.length : Int)] ++ D ++ formM n path D.length).length + 1) 0 ([1, (D.length : Int)] ++ D ++ formM n path D.length) [] hbh (formA_ok hn hp hD) (Nat.zero_le _)
      (by rw [List.drop_zero, form_last hD, ← form_head hn hp hD]; rfl) (by simp [formA, formM])
    rw [h]
    simp
    omega
  · have hbm : ∀ x ∈ [1, (D.length : Int)] ++ D ++ formM n path D.length ++ D ++ [200], 0 ≤ x ∧ x < 256 := by
      intro x hx
      simp only [List.mem_append, List.mem_singleton] at hx
      rcases hx with (hx | hx) | rfl
      · exact hbh x (by simpa only [List.mem_append] using hx)
      · exact hb x hx
      · omega
    refine ⟨?_, hbm, by simp [formM]; omega⟩
    have hl : (packL (formA n path D ++ [formB D])).length = 2 + D.length + 17 + D.length := by rw [form_pack hn hp hD]; simp [formM]; omega
    have h := unE_bad (formA n path D ++ [formB D]) (([1, (D.length : Int)] ++ D ++ formM n path D.length ++ D ++ [200]).length + 1) 0 ([1, (D.length : Int)] ++ D ++ formM n path D.length ++ D ++ [200]) [200] [] (form_all hn hp hD) (Nat.zero_le _)
      (by rw [List.drop_zero, form_pack hn hp hD]) (by simp) (by
        refine takeE_none (b := 200) (r := []) hbm (by rw [hl]; simp [formM]; omega) ?_ (by omega)
        rw [Nat.zero_add, ← form_pack hn hp hD]
        simp) (by simp [formA, formM]; omega)
    rw [h, hl, Nat.zero_add]
end Go.Proofs.Ytcfkioopaplmiaa

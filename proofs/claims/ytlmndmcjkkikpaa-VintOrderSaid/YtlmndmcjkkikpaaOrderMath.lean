/-
  Bytes in their order: the bytes of numbers stand as the numbers do. No program.
-/
import Derived.Test.YtlmndmcjkkikpaaVintMath
import Derived.Laws.BytesArg
import Derived.Laws.Strings
namespace Go.Proofs.Ytlmndmcjkkikpaa
open Go.RowKit

/-- Bytes, in the order of texts. -/
def lexL : List Int → List Int → Bool
  | [], [] => false
  | [], _ :: _ => true
  | _ :: _, [] => false
  | a :: x, b :: y => decide (a < b) || (a == b && lexL x y)
/-- Bytes as one number. -/
def valL : List Int → Int
  | [] => 0
  | a :: x => a * 256 ^ x.length + valL x

theorem valL_bd : ∀ x : List Int, (∀ a ∈ x, 0 ≤ a ∧ a < 256) → 0 ≤ valL x ∧ valL x < 256 ^ x.length
  | [], _ => by simp [valL]
  | a :: x, h => by
    have ih := valL_bd x (fun b hb => h b (List.mem_cons_of_mem _ hb))
    have ha := h a List.mem_cons_self
    have hp : (0 : Int) < 256 ^ x.length := Int.pow_pos (by omega)
    have h1 : 0 ≤ a * 256 ^ x.length := Int.mul_nonneg ha.1 (by omega)
    have h2 : (a + 1) * 256 ^ x.length ≤ 256 * 256 ^ x.length := Int.mul_le_mul_of_nonneg_right (by omega) (by omega)
    rw [Int.add_mul, Int.one_mul] at h2
    simp only [valL, List.length_cons, Int.pow_succ]
    rw [Int.mul_comm (256 ^ x.length) 256]
    omega

theorem lexL_valL : ∀ x y : List Int, x.length = y.length → (∀ a ∈ x, 0 ≤ a ∧ a < 256) → (∀ a ∈ y, 0 ≤ a ∧ a < 256) → lexL x y = decide (valL x < valL y)
  | [], [], _, _, _ => by simp [lexL, valL]
  | [], _ :: _, h, _, _ => by simp at h
  | _ :: _, [], h, _, _ => by simp at h
  | a :: x, b :: y, hl, hx, hy => by
    have hl' : x.length = y.length := by simpa using hl
    have ih := lexL_valL x y hl' (fun c hc => hx c (List.mem_cons_of_mem _ hc)) (fun c hc => hy c (List.mem_cons_of_mem _ hc))
    have bx := valL_bd x (fun c hc => hx c (List.mem_cons_of_mem _ hc))
    have by_ := valL_bd y (fun c hc => hy c (List.mem_cons_of_mem _ hc))
    simp only [lexL, valL, ih, hl']
    rw [hl'] at bx
    have hp : (0 : Int) < 256 ^ y.length := Int.pow_pos (by omega)
    obtain ⟨P, hP⟩ : ∃ P : Int, 256 ^ y.length = P := ⟨_, rfl⟩
    rw [hP] at bx by_ hp ⊢
    rcases (show a < b ∨ a = b ∨ b < a from by omega) with h | h | h
    · have h2 : (a + 1) * P ≤ b * P := Int.mul_le_mul_of_nonneg_right (by omega) (by omega)
      rw [Int.add_mul, Int.one_mul] at h2
      rw [decide_eq_true h, decide_eq_true (show a * P + valL x < b * P + valL y from by omega)]
      rfl
    · subst h
      have e : decide (a * P + valL x < a * P + valL y) = decide (valL x < valL y) := by
        rw [Bool.eq_iff_iff]; simp only [decide_eq_true_eq]; omega
      rw [e]
      simp
    · have h2 : (b + 1) * P ≤ a * P := Int.mul_le_mul_of_nonneg_right (by omega) (by omega)
      rw [Int.add_mul, Int.one_mul] at h2
      rw [decide_eq_false (show ¬ a < b from by omega), decide_eq_false (show ¬ a * P + valL x < b * P + valL y from by omega), beq_eq_false_iff_ne.2 (show a ≠ b from by omega)]
      rfl

theorem byte_lt {a b : Int} (ha : 0 ≤ a ∧ a < 256) (hb : 0 ≤ b ∧ b < 256) : decide (UInt8.ofNat a.toNat < UInt8.ofNat b.toNat) = decide (a < b) := by
  rw [Bool.eq_iff_iff]
  simp only [decide_eq_true_eq, UInt8.lt_iff_toNat_lt, UInt8.toNat_ofNat']
  omega
theorem byte_eq {a b : Int} (ha : 0 ≤ a ∧ a < 256) (hb : 0 ≤ b ∧ b < 256) : (UInt8.ofNat a.toNat == UInt8.ofNat b.toNat) = (a == b) := by
  rw [Bool.eq_iff_iff]
  simp only [beq_iff_eq, ← UInt8.toNat_inj, UInt8.toNat_ofNat']
  omega
theorem bytesLess_lexL : ∀ x y : List Int, (∀ a ∈ x, 0 ≤ a ∧ a < 256) → (∀ a ∈ y, 0 ≤ a ∧ a < 256) → Op.bytesLess (x.map fun n => UInt8.ofNat n.toNat) (y.map fun n => UInt8.ofNat n.toNat) = lexL x y
  | [], [], _, _ => rfl
  | [], _ :: _, _, _ => rfl
  | _ :: _, [], _, _ => rfl
  | a :: x, b :: y, hx, hy => by
    have ih := bytesLess_lexL x y (fun c hc => hx c (List.mem_cons_of_mem _ hc)) (fun c hc => hy c (List.mem_cons_of_mem _ hc))
    simp only [List.map_cons, Op.bytesLess, lexL, ih, byte_lt (hx a List.mem_cons_self) (hy b List.mem_cons_self), byte_eq (hx a List.mem_cons_self) (hy b List.mem_cons_self)]
theorem lexL_self : ∀ x : List Int, lexL x x = false
  | [] => rfl
  | a :: x => by simp [lexL, lexL_self x]

theorem lexL_head {a b : Int} {x y : List Int} (h : a < b) : lexL (a :: x) (b :: y) = true ∧ lexL (b :: y) (a :: x) = false := by
  constructor
  · simp [lexL, h]
  · have : ¬ b < a := by omega
    have h2 : ¬ b = a := by omega
    simp [lexL, this, h2]

/-- Which size, with the first byte's least and greatest. -/
theorem putL_shape {n : Int} (h0 : 0 ≤ n) (h1 : n ≤ 4611686018427387903) :
    ∃ k : Nat, ∃ lo hi off : Int, (k = 1 ∧ lo = 0 ∧ hi = 64 ∧ off = 0 ∧ szV n = 1) ∧ n < 64 ∧ (putL n).length = k ∧ valL (putL n) = n + off ∧ (∃ a x, putL n = a :: x ∧ lo ≤ a ∧ a < hi) ∨
      (k = 2 ∧ lo = 64 ∧ hi = 128 ∧ off = 16384 ∧ szV n = 2) ∧ (64 ≤ n ∧ n < 16384) ∧ (putL n).length = k ∧ valL (putL n) = n + off ∧ (∃ a x, putL n = a :: x ∧ lo ≤ a ∧ a < hi) ∨
      (k = 4 ∧ lo = 128 ∧ hi = 192 ∧ off = 2147483648 ∧ szV n = 4) ∧ (16384 ≤ n ∧ n < 1073741824) ∧ (putL n).length = k ∧ valL (putL n) = n + off ∧ (∃ a x, putL n = a :: x ∧ lo ≤ a ∧ a < hi) ∨
      (k = 8 ∧ lo = 192 ∧ hi = 256 ∧ off = 13835058055282163712 ∧ szV n = 8) ∧ 1073741824 ≤ n ∧ (putL n).length = k ∧ valL (putL n) = n + off ∧ (∃ a x, putL n = a :: x ∧ lo ≤ a ∧ a < hi) := by
  rcases putL_cases n with h | h | h | h | h
  · omega
  · exact ⟨1, 0, 64, 0, .inl ⟨⟨rfl, rfl, rfl, rfl, szV_1 h.1 h.2⟩, h.2, by rw [putL_1 h.1 h.2]; rfl, by rw [putL_1 h.1 h.2]; simp [valL], n, [], putL_1 h.1 h.2, by omega, by omega⟩⟩
  · refine ⟨2, 64, 128, 16384, .inr (.inl ⟨⟨rfl, rfl, rfl, rfl, szV_2 h.1 h.2⟩, h, by rw [putL_2 h.1 h.2]; rfl, ?_, _, _, putL_2 h.1 h.2, by omega, by omega⟩)⟩
    rw [putL_2 h.1 h.2]
    simp only [valL, List.length_cons, List.length_nil, Nat.reduceAdd, Int.reducePow]
    omega
  · refine ⟨4, 128, 192, 2147483648, .inr (.inr (.inl ⟨⟨rfl, rfl, rfl, rfl, szV_4 h.1 h.2⟩, h, by rw [putL_4 h.1 h.2]; rfl, ?_, _, _, putL_4 h.1 h.2, by omega, by omega⟩))⟩
    rw [putL_4 h.1 h.2]
    simp only [valL, List.length_cons, List.length_nil, Nat.reduceAdd, Int.reducePow]
    omega
  · refine ⟨8, 192, 256, 13835058055282163712, .inr (.inr (.inr ⟨⟨rfl, rfl, rfl, rfl, szV_8 h.1 h.2⟩, h.1, by rw [putL_8 h.1 h.2]; rfl, ?_, _, _, putL_8 h.1 h.2, by omega, by omega⟩))⟩
    rw [putL_8 h.1 h.2]
    simp only [valL, List.length_cons, List.length_nil, Nat.reduceAdd, Int.reducePow]
    omega

theorem lexL_putL {n m : Int} (n0 : 0 ≤ n) (n1 : n ≤ 4611686018427387903) (m0 : 0 ≤ m) (m1 : m ≤ 4611686018427387903) : lexL (putL n) (putL m) = decide (n < m) := by
  obtain ⟨k, lo, hi, off, hn⟩ := putL_shape n0 n1
  obtain ⟨k', lo', hi', off', hm⟩ := putL_shape m0 m1
  have same : (putL n).length = (putL m).length → ∀ o, valL (putL n) = n + o → valL (putL m) = m + o → lexL (putL n) (putL m) = decide (n < m) := fun hl o h1 h2 => by
    rw [lexL_valL _ _ hl (putL_bytes n) (putL_bytes m), h1, h2, Bool.eq_iff_iff]
    simp only [decide_eq_true_eq]
    omega
  have less : n < m → (∃ a x, putL n = a :: x ∧ ∃ b y, putL m = b :: y ∧ a < b) → lexL (putL n) (putL m) = decide (n < m) := fun h ⟨a, x, e1, b, y, e2, hab⟩ => by
    rw [e1, e2, (lexL_head hab).1, decide_eq_true h]
  have more : m < n → (∃ a x, putL n = a :: x ∧ ∃ b y, putL m = b :: y ∧ b < a) → lexL (putL n) (putL m) = decide (n < m) := fun h ⟨a, x, e1, b, y, e2, hab⟩ => by
    rw [e1, e2, (lexL_head hab).2, decide_eq_false (by omega)]
  rcases hn with ⟨hk, hr, hl, hv, a, x, e, p1, p2⟩ | ⟨hk, hr, hl, hv, a, x, e, p1, p2⟩ | ⟨hk, hr, hl, hv, a, x, e, p1, p2⟩ | ⟨hk, hr, hl, hv, a, x, e, p1, p2⟩ <;>
  rcases hm with ⟨hk', hr', hl', hv', b, y, e', q1, q2⟩ | ⟨hk', hr', hl', hv', b, y, e', q1, q2⟩ | ⟨hk', hr', hl', hv', b, y, e', q1, q2⟩ | ⟨hk', hr', hl', hv', b, y, e', q1, q2⟩ <;>
  first
  | exact same (by omega) off hv (by omega)
  | exact less (by omega) ⟨a, x, e, b, y, e', by omega⟩
  | exact more (by omega) ⟨a, x, e, b, y, e', by omega⟩

theorem putL_inj {n m : Int} (n0 : 0 ≤ n) (n1 : n ≤ 4611686018427387903) (m0 : 0 ≤ m) (m1 : m ≤ 4611686018427387903) (h : putL n = putL m) : n = m := by
  have h1 := lexL_putL n0 n1 m0 m1
  have h2 := lexL_putL m0 m1 n0 n1
  rw [h, lexL_self] at h1
  rw [h, lexL_self] at h2
  have h1' := of_decide_eq_false h1.symm
  have h2' := of_decide_eq_false h2.symm
  omega
theorem szV_mono {n m : Int} (n0 : 0 ≤ n) (m1 : m ≤ 4611686018427387903) (h : n ≤ m) : szV n ≤ szV m := by
  unfold szV
  (repeat' split) <;> omega

theorem strs_less {n m : Int} (n0 : 0 ≤ n) (n1 : n ≤ 4611686018427387903) (m0 : 0 ≤ m) (m1 : m ≤ 4611686018427387903) :
    Op.bytesLess (strOfNums (putL n)).data.toList (strOfNums (putL m)).data.toList = decide (n < m) := by
  rw [strOfNums_data, strOfNums_data, bytesLess_lexL _ _ (putL_bytes n) (putL_bytes m), lexL_putL n0 n1 m0 m1]
theorem map_byte_inj : ∀ x y : List Int, (∀ a ∈ x, 0 ≤ a ∧ a < 256) → (∀ a ∈ y, 0 ≤ a ∧ a < 256) → (x.map fun n => UInt8.ofNat n.toNat) = (y.map fun n => UInt8.ofNat n.toNat) → x = y
  | [], [], _, _, _ => rfl
  | [], _ :: _, _, _, h => by simp at h
  | _ :: _, [], _, _, h => by simp at h
  | a :: x, b :: y, hx, hy, h => by
    simp only [List.map_cons, List.cons.injEq] at h
    have e := byte_eq (hx a List.mem_cons_self) (hy b List.mem_cons_self)
    rw [h.1, beq_self_eq_true] at e
    rw [show a = b from by simpa using e.symm, map_byte_inj x y (fun c hc => hx c (List.mem_cons_of_mem _ hc)) (fun c hc => hy c (List.mem_cons_of_mem _ hc)) h.2]
theorem strs_eq {x y : List Int} (hx : ∀ a ∈ x, 0 ≤ a ∧ a < 256) (hy : ∀ a ∈ y, 0 ≤ a ∧ a < 256) (h : strOfNums x = strOfNums y) : x = y :=
  map_byte_inj x y hx hy (by have := congrArg (fun s => s.data.toList) h; simpa [strOfNums] using this)
end Go.Proofs.Ytlmndmcjkkikpaa

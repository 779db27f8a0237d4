/-
  What Of answers by the table. Contract over the program.
-/
import Derived.Test.YtbadehbhnenbjaaSumTable
import Derived.Test.YtbadehbhnenbjaaNats
namespace Go.Proofs.Ytbadehbhnenbjaa
open Go.RowKit

/-- The sum of bytes that stand as ints. -/
def sumI (xs : List Int) : Nat := sumN (xs.map Int.toNat)
def regI (xs : List Int) (k : Nat) : Nat := regN onesN ((xs.map Int.toNat).take k)

theorem regI_lt {xs : List Int} (h : ∀ x ∈ xs, 0 ≤ x ∧ x < 256) (k : Nat) : regI xs k < 2 ^ 32 :=
  regN_lt _ onesN_lt fun x hx => bytes_nat h x (List.mem_of_mem_take hx)
theorem regI_succ {xs : List Int} {k : Nat} (hk : k < xs.length) : regI xs (k + 1) = regI xs k / 256 ^^^ tabN (regI xs k % 256 ^^^ (xs.getD k 0).toNat) := by
  have h1 : (xs.map Int.toNat).take (k + 1) = (xs.map Int.toNat).take k ++ [(xs.getD k 0).toNat] := by
    rw [List.take_add_one]
    simp [hk, List.getD]
  unfold regI
  rw [h1, regN_append]
  show byteN _ _ = _
  rw [byte_tab]
theorem sumI_eq (xs : List Int) : sumI xs = onesN ^^^ regI xs xs.length := by
  unfold sumI sumN regI
  rw [List.take_of_length_le (by simp)]

set_option maxHeartbeats 400000 in
theorem of_any (g : Nat) (A : Option Addr) (n c : Nat) (xs : List Int) (w : World) (ht : TabIs w g) (hn : xs.length = n) (hr : Rd .u8 w A xs) (hx : ∀ x ∈ xs, 0 ≤ x ∧ x < 256) (hm : n ≤ maxLen) :
    Calls Try.prog 8 #[.slice (some ⟨g, 0, none⟩) 256 256, .slice A n c] w fun e w' => e = .returned (.int .u32 (sumI xs : Nat)) ∧ w = w' := by
  unfold maxLen at hm
  have HN := Lib.hid hn
  have HT := Lib.hid ht
  have HR := Lib.hid hr
  have HX := Lib.hid hx
  clear hn ht hr hx
  go_enter Try.func8, Try.ntmps8
  go_wp2
  go_loopw [5, 13] (fun s i wr => ∃ k : Nat, k ≤ n ∧ i = .int .i64 k ∧ s = .int .u32 (regI xs k : Nat) ∧ wr = w) (fun _ i _ => n - (intOf i).toNat)
  case atStart => exact ⟨0, by omega, rfl, rfl, rfl⟩
  case round =>
    obtain ⟨k, hk, rfl, rfl, rfl⟩ := hrel
    have hs := regI_lt HX.out k
    by_cases hlt : k < n
    · have h1 := Lib.hid (regI_succ (xs := xs) (k := k) (by rw [HN.out]; exact hlt))
      obtain ⟨b, off, rfl, hy⟩ := HR.out.some_ (by rw [HN.out]; omega)
      have c1 := hy k (by rw [HN.out]; exact hlt)
      have hxk : 0 ≤ xs.getD k 0 ∧ xs.getD k 0 < 256 := by
        have hk' : k < xs.length := by rw [HN.out]; exact hlt
        have : xs.getD k 0 = xs[k] := by simp [List.getD, hk']
        rw [this]
        exact HX.out _ (List.getElem_mem hk')
      obtain ⟨x, hx⟩ := Int.eq_ofNat_of_zero_le hxk.1
      rw [hx] at hxk c1
      have H1 := h1.out
      rw [hx, Int.toNat_natCast] at H1
      obtain ⟨s, hs'⟩ : ∃ s, regI xs k = s := ⟨_, rfl⟩
      rw [hs'] at hs H1
      rw [hs']
      have hx8 : x < 256 := by omega
      have hb : (s % 256 ^^^ x) < 256 := Nat.xor_lt_two_pow (n := 8) (by omega) hx8
      obtain ⟨q, hq⟩ : ∃ q, s % 256 ^^^ x = q := ⟨_, rfl⟩
      have x8 := xor8 (s % 256) x (by omega) hx8
      rw [hq] at hb x8 H1
      have c2 := HT.out.cell hb
      have x32 := xor32 (s / 256) (tabN q) (by omega) (tab_lt hb)
      rw [← H1] at x32
      rw [show ((s / 256 : Nat) : Int) = (s : Int) / 256 from by omega] at x32
      rw [show ((s % 256 : Nat) : Int) = (s : Int) % 256 from by omega] at x8
      have H1' := Lib.hid H1
      have H2' := Lib.hid hq
      have H3' := Lib.hid hx
      have H4' := Lib.hid hs'
      clear H1 hq hx hs' hy h1
      have hi : (k : Int) < (n : Int) := by omega
      have h0 : (0 : Int) ≤ (k : Int) := by omega
      have hq0 : (q : Int) < 256 := by omega
      go_wp2
      go_roundw
      case rel => exact ⟨k + 1, by omega, by go_num, rfl, trivial⟩
      case measure => simp [intOf]; omega
    · have : k = n := by omega
      subst this
      go_wp2
      go_ret
      refine ⟨ret_i ?_, rfl⟩
      rw [sumI_eq, HN.out]
      exact xor32 4294967295 _ (by omega) hs
theorem of_same (g : Nat) (A : Option Addr) (n c : Nat) (xs : List Int) (w : World) (ht : TabIs w g) (hn : xs.length = n) (hr : Rd .u8 w A xs) (hx : ∀ x ∈ xs, 0 ≤ x ∧ x < 256) (hm : n ≤ maxLen) :
    Calls Try.prog 8 #[.slice (some ⟨g, 0, none⟩) 256 256, .slice A n c] w fun e w' => e = .returned (.int .u32 (sumI xs : Nat)) ∧ w' = w :=
  (of_any g A n c xs w ht hn hr hx hm).mono fun _ _ ⟨h1, h2⟩ => ⟨h1, h2.symm⟩
theorem sumI_nats (l : List Nat) : sumI (nats l) = sumN l := by
  unfold sumI nats
  rw [List.map_map]
  congr 1
  conv => rhs; rw [← List.map_id l]
  apply List.map_congr_left
  intro x _
  simp
end Go.Proofs.Ytbadehbhnenbjaa

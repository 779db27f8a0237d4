/-
  What Clone and Spoil make of bytes. Contracts over the program.
-/
import Derived.Test.YtbadehbhnenbjaaCopy
import Derived.Test.YtbadehbhnenbjaaSumBits
import Derived.Test.YtbadehbhnenbjaaNats
import Derived.Test.YtbadehbhnenbjaaSumSpoilMath
import Derived.Deep.QuietTactic
import Derived.BigQuiet
import Derived.RegionTactic
import Derived.ChangeAlike
import Derived.Lib.SliceRun
import Derived.Handy
import Derived.IntWalk
import Derived.StillTailTactics
namespace Go.Proofs.Ytbadehbhnenbjaa
open Go.RowKit

set_option maxHeartbeats 400000 in
theorem clone_any (A : Option Addr) (n c : Nat) (xs : List Int) (w : World) (hn : xs.length = n) (hr : Rd .u8 w A xs) (hb : n ≤ 140737488355328) (hnil : A = none → c = 0 ∧ n = 0) :
    Calls Try.prog 15 #[.slice A n c] w fun e w' => ∃ A' c', e = .returned (.slice A' n c') ∧ Own .u8 5 w' w.heap.size (.slice A' n c') xs ∧ Below w.heap.size w w' := by
  have ke := fun (w : World) (a : Option Addr) (n c : Nat) => Lib.run_eql_slice_nil (P := Try.prog) w 22 5 a n c 0 0 Try.underlying22
  cases A with
  | none =>
    obtain ⟨rfl, rfl⟩ := hnil rfl
    have : xs = [] := List.eq_nil_of_length_eq_zero hn
    subst this
    clear hn hr hnil
    go_enter Try.func15, Try.ntmps15
    go_wp2
    go_ret
    exact ⟨_, _, rfl, Own.nil _ _ _ _, Below.refl _ _⟩
  | some a =>
    clear hnil
    have h0 : Own .u8 5 (w.alloc (.cells (bts []) 5)) w.heap.size (.slice (some ⟨w.heap.size, 0, none⟩) 0 0) [] := Own.new w [] _ (by simp [maxLen])
    have H0 := Lib.hid h0
    have HN := Lib.hid hn
    have HR := Lib.hid hr
    clear h0 hn hr
    go_enter Try.func15, Try.ntmps15
    go_wp2_with (at_builtin; refine wpList_app _ .u8 rfl (.tmp 5) (.tmp 6) 22 rfl 5 (.int .u8 0) 1 Try.underlying22 info_byte rfl w.heap.size (.slice (some ⟨w.heap.size, 0, none⟩) 0 0) [] rfl H0.out (some a) n c rfl xs HN.out (HR.out.alloc _) (by simp [maxLen]; omega) (by simp; omega) (by simp) ?_; intro A' c' w' ho hg)
    go_ret
    simp only [List.length_nil, Nat.zero_add, List.nil_append] at ho ⊢
    exact ⟨A', c', rfl, ho, ((Below.refl _ _).alloc (Nat.le_refl _) _).trans (grown_below hg (by simp) (by simp [Value.ownBlock]))⟩

theorem still_tail {P : Program} {id : Nat} {Q : Exit → Act → World → Prop} {a : Act} {w : World} {l : List Oper} (n : Nat) (hm : P.follows .mixedOrders = true) (hB : Region.lexTailB .any l.toArray n = true)
    (h : ∀ W : World, W = w.drew → wpStill P l.toArray W (fun a' => wpList P l.toArray Q (l.drop n) a' W) (l.take n) a) : (Code.region id l.toArray true).wp P Q a w :=
  wp_region_still_tail n hm hB (h _ rfl)

theorem xor_pow8 (x r : Nat) (hx : x < 256) (hr : r < 8) : bits .xor .u8 (x : Int) (2 ^ r % 256) = ((x ^^^ 2 ^ r : Nat) : Int) := by
  have h1 : 2 ^ r < 2 ^ 8 := Nat.pow_lt_pow_right (by decide) hr
  have h2 : ((2 : Int) ^ r % 256) = ((2 ^ r : Nat) : Int) := by
    rw [Int.natCast_pow]; simp only [Int.cast_ofNat_Int]
    have : (2 : Int) ^ r < 2 ^ 8 := by exact_mod_cast h1
    have h0 : (0 : Int) ≤ 2 ^ r := by exact_mod_cast Nat.zero_le (2 ^ r)
    omega
  rw [h2]
  exact xor8 x (2 ^ r) hx h1

theorem mask_bit (m k : Nat) (hm : m < 2 ^ 32) : bits .and .u32 ((m : Int) / 2 ^ k) 1 = if m.testBit k then 1 else 0 := by
  have h1 : ((m : Int) / 2 ^ k) = ((m / 2 ^ k : Nat) : Int) := by simp
  have h2 : m / 2 ^ k < 2 ^ 32 := Nat.lt_of_le_of_lt (Nat.div_le_self _ _) hm
  rw [h1, and1_32 _ h2, Nat.testBit_eq_decide_div_mod_eq]
  have h3 : m / 2 ^ k % 2 = 0 ∨ m / 2 ^ k % 2 = 1 := by omega
  rcases h3 with h3 | h3 <;> rw [h3] <;> rfl

set_option maxHeartbeats 1000000 in
theorem spoil_any (A : Option Addr) (n c : Nat) (l : List Nat) (bit : Int) (mask : Nat) (w : World) (hn : l.length = n) (hr : Rd .u8 w A (nats l)) (hl : ∀ x ∈ l, x < 256) (hb : n ≤ 140737488355328) (hnil : A = none → c = 0 ∧ n = 0)
    (hb1 : -9223372036854775808 ≤ bit) (hb2 : bit ≤ 9223372036854775807) (hm : mask < 2 ^ 32) :
    Calls Try.prog 12 #[.slice A n c, .int .i64 bit, .int .u32 mask] w fun e w' => ∃ A' c', e = .returned (.slice A' n c') ∧ Own .u8 5 w' w.heap.size (.slice A' n c') (nats (spoilN l bit mask)) ∧ Below w.heap.size w w' := by
  have HN := Lib.hid hn
  have HR := Lib.hid hr
  have HL := Lib.hid hl
  have HC := Lib.hid hnil
  clear hn hr hl hnil
  go_enter Try.func12, Try.ntmps12
  go_wp2_with fail
  refine (clone_any A n c (nats l) w (by rw [nats_len, HN.out]) HR.out hb HC.out).mono ?_
  rintro e w1 ⟨A', c', rfl, ho, hb3⟩
  have HO := Lib.hid ho
  have HB := Lib.hid hb3
  clear ho hb3
  go_wp2
  go_loopw [16] (fun i wr => ∃ k : Nat, k ≤ 32 ∧ i = .int .i64 (k : Nat) ∧ Hid (Below w.heap.size w wr) ∧ Hid (Own .u8 5 wr w.heap.size (.slice A' n c') (nats (spN l bit mask k)))) (fun i _ => 32 - (intOf i).toNat)
  case atStart => exact ⟨0, by omega, rfl, HB, HO⟩
  case round =>
    obtain ⟨k, hk, rfl, hb4, ho4⟩ := hrel
    by_cases hlt : k < 32
    · have hi : (k : Int) < 32 := by omega
      have h0 : (0 : Int) ≤ (k : Int) := by omega
      by_cases hA : -(k : Int) ≤ bit
      · by_cases hB : bit < 8 * (n : Int) - (k : Int)
        · have hms := Lib.hid (mask_bit mask k hm)
          by_cases hmk : mask.testBit k = true
          · have hm1 : bits .and .u32 ((mask : Int) / 2 ^ k) 1 = 1 := by rw [hms.out, hmk]; rfl
            have hh : spN l bit mask (k + 1) = flip1 (spN l bit mask k) (bit + k).toNat := by
              show (if hits l.length bit mask k then _ else _) = _
              rw [if_pos]
              simp [hits, hmk, HN.out]
              omega
            have HH := Lib.hid hh
            obtain ⟨p, hp⟩ := Int.eq_ofNat_of_zero_le (show 0 ≤ bit + k by omega)
            have hpn : p < 8 * n := by omega
            obtain ⟨g, rfl, hg1, hg2, hln, hcells, hfr⟩ := ho4.out.block (by omega)
            have c1 := hcells (p / 8) (by omega)
            have f1 := hfr (p / 8)
            clear hcells hfr hmk
            rw [nats_getD] at c1
            have hx8 := getD_lt (spN_lt HL.out bit mask k) (p / 8)
            obtain ⟨x, hx⟩ : ∃ x, (spN l bit mask k).getD (p / 8) 0 = x := ⟨_, rfl⟩
            rw [hx] at c1 hx8
            have HX := Lib.hid hx
            have HP := Lib.hid hp
            have HLN := Lib.hid hln
            clear hx hln hh
            have hbp : bit = (p : Int) - (k : Int) := by omega
            subst hbp
            clear hp
            have e1 : IntKind.i64.wrap (p : Int) = (p : Int) := IntWalk.i64_in _ (by omega)
            have e2 : ((p : Int)).tdiv 8 = ((p / 8 : Nat) : Int) := by rw [Int.tdiv_eq_ediv_of_nonneg (by omega)]; omega
            have e3 : ((p : Int)).tmod 8 = ((p % 8 : Nat) : Int) := by rw [Int.tmod_eq_emod_of_nonneg (by omega)]; omega
            have e4 : IntKind.i64.wrap ((p / 8 : Nat) : Int) = ((p / 8 : Nat) : Int) := IntWalk.i64_in _ (by omega)
            have e5 : IntKind.i64.wrap ((p % 8 : Nat) : Int) = ((p % 8 : Nat) : Int) := IntWalk.i64_in _ (by omega)
            have hq1 : p / 8 < n := by omega
            have hr1 : p % 8 < 8 := by omega
            obtain ⟨q, hq⟩ : ∃ q, p / 8 = q := ⟨_, rfl⟩
            obtain ⟨r, hr⟩ : ∃ r, p % 8 = r := ⟨_, rfl⟩
            rw [hq] at e2 e4 c1 f1 hq1
            rw [hr] at e3 e5 hr1
            have HQ := Lib.hid hq
            have HR1 := Lib.hid hr
            have E1 := Lib.hid e1
            have E2 := Lib.hid e2
            have E3 := Lib.hid e3
            have E4 := Lib.hid e4
            have E5 := Lib.hid e5
            have i1 : (q : Int) < (n : Int) := by omega
            have i0 : (0 : Int) ≤ (q : Int) := by omega
            have r1 : (r : Int) < 8 := by omega
            have r0 : (0 : Int) ≤ (r : Int) := by omega
            clear hq hr e1 e2 e3 e4 e5
            go_wp2
            refine still_tail 13 (by kernel_rfl) (by kernel_rfl) ?_
            intro W hW
            have c2 : W.cell? ⟨g, q, none⟩ = some (.int .u8 (x : Nat)) := by rw [hW]; exact c1
            have f2 : W.frozen? ⟨g, q, none⟩ = false := by rw [hW]; exact f1
            have HW := Lib.hid hW
            clear hW c1 f1
            have e1 := E1.out
            have e2 := E2.out
            have e3 := E3.out
            have e4 := E4.out
            have e5 := E5.out
            simp only [List.take_succ_cons, List.take_zero, List.drop_succ_cons, List.drop_zero]
            repeat still_step
            refine wpStill_nil ?_
            clear e1 e2 e3 e4 e5
            go_wp2
            go_roundw
            case rel =>
              have hd : Own .u8 5 W w.heap.size (.slice (some ⟨g, 0, none⟩) n c') (nats (spN l ((p : Int) - (k : Int)) mask k)) := by rw [HW.out]; exact ho4.out
              have hst := hd.stored HLN.out q ((x ^^^ 2 ^ r : Nat) : Int)
              refine ⟨k + 1, by omega, by go_num, Lib.hid ?_, Lib.hid ?_⟩
              · have hbd : Below w.heap.size w W := by rw [HW.out]; exact hb4.out.drew
                exact hbd.setCell hg1 _
              · rw [xor_pow8 x r hx8 hr1]
                rw [nats_set] at hst
                have : spN l ((p : Int) - (k : Int)) mask (k + 1) = (spN l ((p : Int) - (k : Int)) mask k).set q (x ^^^ 2 ^ r) := by
                  rw [HH.out, HP.out, flip1, Int.toNat_natCast, HX.out, HQ.out, HR1.out]
                rw [this]
                exact hst
            case measure => simp [intOf]; omega
          · have hm1 : bits .and .u32 ((mask : Int) / 2 ^ k) 1 = 0 := by rw [hms.out]; simp at hmk; rw [hmk]; rfl
            have hh : spN l bit mask (k + 1) = spN l bit mask k := by
              show (if hits l.length bit mask k then _ else _) = _
              rw [if_neg]
              simp [hits, hmk]
            have HH := Lib.hid hh
            clear hh hmk
            go_wp2
            go_roundw
            case rel => exact ⟨k + 1, by omega, by go_num, hb4, by rw [HH.out]; exact ho4⟩
            case measure => simp [intOf]; omega
        · have hh : spN l bit mask (k + 1) = spN l bit mask k := by
            show (if hits l.length bit mask k then _ else _) = _
            rw [if_neg]
            simp [hits, HN.out]
            omega
          have HH := Lib.hid hh
          clear hh
          go_wp2
          go_roundw
          case rel => exact ⟨k + 1, by omega, by go_num, hb4, by rw [HH.out]; exact ho4⟩
          case measure => simp [intOf]; omega
      · have hh : spN l bit mask (k + 1) = spN l bit mask k := by
          show (if hits l.length bit mask k then _ else _) = _
          rw [if_neg]
          simp [hits, HN.out]
          omega
        have HH := Lib.hid hh
        clear hh
        go_wp2
        go_roundw
        case rel => exact ⟨k + 1, by omega, by go_num, hb4, by rw [HH.out]; exact ho4⟩
        case measure => simp [intOf]; omega
    · have : k = 32 := by omega
      subst this
      go_wp2
      go_ret
      exact ⟨_, _, rfl, ho4.out, hb4.out⟩
end Go.Proofs.Ytbadehbhnenbjaa

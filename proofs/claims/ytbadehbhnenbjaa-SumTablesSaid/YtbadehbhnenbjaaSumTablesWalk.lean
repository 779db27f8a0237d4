/-
  The walk of SumTables.
-/
import Derived.Test.YtbadehbhnenbjaaSumTablesMath
import Derived.Test.YtbadehbhnenbjaaSumWakes
import Derived.Test.YtbadehbhnenbjaaCopy
import Derived.Test.YtbadehbhnenbjaaWithin
import Derived.RegionTactic
import Derived.ChangeAlike
import Derived.StillTailTactics
import Derived.IntWalk
namespace Go.Proofs.Ytbadehbhnenbjaa
open Go.RowKit

/-- The cells ahead of the place j are the sum of two texts, those behind it 0. -/
def xorF (la lb : List Nat) (j t : Nat) : Value := .int .u8 (((if t < j then la.getD t 0 ^^^ lb.getD t 0 else 0 : Nat)) : Int)

theorem zip_bytes {l m : List Nat} (h1 : ∀ x ∈ l, x < 256) (h2 : ∀ x ∈ m, x < 256) : ∀ x ∈ List.zipWith (· ^^^ ·) l m, x < 256 := by
  intro x hx
  obtain ⟨i, hi, rfl⟩ := List.getElem_of_mem hx
  rw [List.getElem_zipWith]
  exact Nat.xor_lt_two_pow (n := 8) (h1 _ (List.getElem_mem _)) (h2 _ (List.getElem_mem _))
theorem zip_getD (la lb : List Nat) (K t : Nat) (h1 : la.length = K) (h2 : lb.length = K) (ht : t < K) : (List.zipWith (· ^^^ ·) la lb).getD t 0 = la.getD t 0 ^^^ lb.getD t 0 := by
  have e1 : t < la.length := by omega
  have e2 : t < lb.length := by omega
  simp [List.getD, e1, e2, List.getElem?_zipWith]
theorem rd_xor {w : World} {g : Nat} {e : TypeId} {la lb : List Nat} {K : Nat} (h1 : la.length = K) (h2 : lb.length = K) (h : w.rowIs g e K (xorF la lb K)) : Rd .u8 w (some ⟨g, 0, none⟩) (nats (List.zipWith (· ^^^ ·) la lb)) := by
  refine .inr ⟨g, 0, rfl, fun i hi => ?_⟩
  rw [nats_len, List.length_zipWith] at hi
  have hi' : i < K := by omega
  rw [Nat.zero_add, h.cell hi', nats_getD, zip_getD la lb K i h1 h2 hi', xorF, if_pos hi']
theorem rd_zero {w : World} {g : Nat} {e : TypeId} {K : Nat} (h : w.rowIs g e K (fun _ => .int .u8 0)) : Rd .u8 w (some ⟨g, 0, none⟩) (nats (List.replicate K 0)) := by
  refine .inr ⟨g, 0, rfl, fun i hi => ?_⟩
  rw [nats_len, List.length_replicate] at hi
  rw [Nat.zero_add, h.cell hi, nats_getD]
  simp [List.getD, hi]

theorem still_tail {P : Program} {id : Nat} {Q : Exit → Act → World → Prop} {a : Act} {w : World} {l : List Oper} (n : Nat) (hm : P.follows .mixedOrders = true) (hB : Region.lexTailB .any l.toArray n = true)
    (h : ∀ W : World, W = w.drew → wpStill P l.toArray W (fun a' => wpList P l.toArray Q (l.drop n) a' W) (l.take n) a) : (Code.region id l.toArray true).wp P Q a w :=
  wp_region_still_tail n hm hB (h _ rfl)

set_option maxRecDepth 100000 in
set_option maxHeartbeats 4000000 in
theorem sumTables_walk (A : Option Addr) (n c : Nat) (xs : List Int) (B : Option Addr) (m d : Nat) (ys : List Int) (a2 : Int) (w : World) (ha : ArgI .u8 1 w A n c xs) (hb : ArgI .u8 1 w B m d ys) (_ : (Lit.int .i64 a2).wf = true) :
    Calls Try.prog 4 #[.slice A n c, .slice B m d, .int .i64 a2] w fun e w' => e = .returned (.bool true) ∧ Below w.heap.size w w' := by
  have r1 := ha.reach
  have r2 := hb.reach
  have l1 := ha.le
  have l2 := hb.le
  have HA := Lib.hid ha
  have HB := Lib.hid hb
  clear ha hb
  go_enter Try.func4, Try.ntmps4
  go_wp2_with fail
  refine (table_any w).mono ?_
  rintro e w1 ⟨rfl, ht, hb1, hz1⟩
  have c0 : w1.cell? ⟨w.heap.size, 0, none⟩ = some (.int .u32 0) := World.rowIs.cell (i := 0) ht (by omega)
  have c1 : w1.cell? ⟨w.heap.size, 1, none⟩ = some (.int .u32 1996959894) := World.rowIs.cell (i := 1) ht (by omega)
  have c128 : w1.cell? ⟨w.heap.size, 128, none⟩ = some (.int .u32 3988292384) := World.rowIs.cell (i := 128) ht (by omega)
  have c255 : w1.cell? ⟨w.heap.size, 255, none⟩ = some (.int .u32 755167117) := World.rowIs.cell (i := 255) ht (by omega)
  have HT := Lib.hid ht
  have HB1 := Lib.hid hb1
  have HZ1 := Lib.hid hz1
  clear ht hb1 hz1
  go_wp2_with fail
  refine (within_any _ _ _ (by omega) (by omega)).mono ?_
  rintro e w' ⟨rfl, rfl⟩
  clear c0 c1 c128 c255
  obtain ⟨i, hi⟩ := Int.eq_ofNat_of_zero_le (Int.emod_nonneg a2 (show (256 : Int) ≠ 0 by decide))
  have hi2 : i < 256 := by have := Int.emod_lt_of_pos a2 (show (0 : Int) < 256 by decide); omega
  rw [hi]
  clear hi
  have ci := World.rowIs.cell HT.out hi2
  have fi := World.rowIs.frozen HT.out i
  have i0 : (0 : Int) ≤ (i : Int) := by omega
  have i1 : (i : Int) < 256 := by omega
  go_wp2_with fail
  obtain ⟨W1, hW1⟩ : ∃ W1, w1.setCell ⟨w.heap.size, i, none⟩ (.int .u32 ((((tabN i : Nat) : Int) + 1) % 4294967296)) = W1 := ⟨_, rfl⟩
  rw [hW1]
  have hb2 : Below w.heap.size w W1 := by rw [← hW1]; exact HB1.out.setCell (Nat.le_refl _) _
  have HB2 := Lib.hid hb2
  clear hb2 hW1 ci fi HB1 HT
  refine (table_any W1).mono ?_
  rintro e w2 ⟨rfl, ht, hb3, hz3⟩
  have ci := World.rowIs.cell ht hi2
  have HT := Lib.hid ht
  have hb4 : Below w.heap.size w w2 := HB2.out.trans (hb3.mono HB2.out.size)
  have HB4 := Lib.hid hb4
  have hlt := ht.lt
  obtain ⟨g, hg⟩ : ∃ g, W1.heap.size = g := ⟨_, rfl⟩
  have hg2 : w.heap.size ≤ g := by rw [← hg]; exact HB2.out.size
  rw [hg] at ci HT hlt ⊢
  clear ht hb3 hz3 hb4 hg HZ1 HB2
  obtain ⟨K, hK⟩ : ∃ K, min (min n m) 60 = K := ⟨_, rfl⟩
  have hmin : ∀ (ts : Array TypeId) (t : TypeId) (w : World), (Builtin.min_ ts t #[.int .i64 (n : Int), .int .i64 (m : Int), .int .i64 60]).run Try.prog w = .ok (.int .i64 (K : Int)) w := fun ts t w => by
    have e : (if (60 : Int) < (if (m : Int) < (n : Int) then (m : Int) else (n : Int)) then (60 : Int) else (if (m : Int) < (n : Int) then (m : Int) else (n : Int))) = (K : Int) := by
      split <;> split <;> (try split at *) <;> omega
    rw [run_min_int3, e]
  have hKn : K ≤ n := by omega
  have hKm : K ≤ m := by omega
  have hK6 : K ≤ 60 := by omega
  clear hK
  go_wp2_with fail
  clear hmin
  obtain ⟨j0, hj0, hz0, hz1, hz2⟩ := info_parts info_byte
  have hmk : ∀ w, (Instr.makeSlice 22 (.int .i64 (K : Int)) (.int .i64 (K : Int))).run Try.prog w = .ok (.slice (some ⟨w.heap.size, 0, none⟩) K K) (w.alloc (.cells (madeCells #[.int .u8 0] K) 5)) := fun w => by
    have := run_make (P := Try.prog) w 22 5 j0 (.int .u8 0) Try.underlying22 hj0 hz0 .i64 .i64 K K (by omega) (by omega) (by rw [hz2]; omega) (by omega)
    rw [hz1, Nat.mul_one, Int.toNat_natCast] at this
    exact this
  clear hj0 hz0 hz1 hz2
  go_region
  all_goals clear hmk
  all_goals
    obtain ⟨W, hW⟩ : ∃ W, ((w2.alloc (Obj.cells (madeCells #[Value.int IntKind.u8 0] K) 5)).alloc (Obj.cells (madeCells #[Value.int IntKind.u8 0] K) 5)).drew = W := ⟨_, rfl⟩
    rw [hW]
    have q1 : W.rowIs w2.heap.size 5 K (fun _ => .int .u8 0) := by rw [← hW]; exact ((World.rowIs_made w2 (.int .u8 0) K 5).alloc _).drew
    have q2 : W.rowIs (w2.heap.size + 1) 5 K (fun _ => .int .u8 0) := by
      rw [← hW]
      have := (World.rowIs_made (w2.alloc (Obj.cells (madeCells #[Value.int IntKind.u8 0] K) 5)) (.int .u8 0) K 5).drew
      rwa [World.size_alloc] at this
    have q3 : Below w.heap.size w W := by rw [← hW]; exact ((HB4.out.alloc HB4.out.size _).alloc (by simp; have := HB4.out.size; omega) _).drew
    have q4 : TabIs W g := by rw [← hW]; exact ((World.rowIs.alloc HT.out _).alloc _).drew
    have q5 := HB4.out.size
    have q6 : g ≠ w2.heap.size := by omega
    have q7 : g ≠ w2.heap.size + 1 := by omega
    obtain ⟨s, hs⟩ : ∃ s, w2.heap.size = s := ⟨_, rfl⟩
    obtain ⟨s1, hs1⟩ : ∃ s1, w2.heap.size + 1 = s1 := ⟨_, rfl⟩
    have q8 : s ≠ s1 := by omega
    have q9 : s1 ≠ s := by omega
    have q10 : w.heap.size ≤ s := by omega
    have q11 : w.heap.size ≤ s1 := by omega
    rw [hs1, hs]
    rw [hs1] at q2 q7
    rw [hs] at q1 q6
    clear hs hs1 q5 hW
  all_goals
    obtain ⟨la, hla⟩ : ∃ la, (xs.map Int.toNat).take K = la := ⟨_, rfl⟩
    obtain ⟨lb, hlb⟩ : ∃ lb, (ys.map Int.toNat).take K = lb := ⟨_, rfl⟩
    have hA1 : xs.take K = nats la := by rw [← hla, ← nats_take, nats_of (fun x hx => wf_u8 (HA.out.wf x hx))]
    have hB1 : ys.take K = nats lb := by rw [← hlb, ← nats_take, nats_of (fun x hx => wf_u8 (HB.out.wf x hx))]
    have RA : Hid (Rd .u8 w A (nats la)) := Lib.hid (by rw [← hA1]; exact HA.out.rd.take K)
    have RB : Hid (Rd .u8 w B (nats lb)) := Lib.hid (by rw [← hB1]; exact HB.out.rd.take K)
    have LA := Lib.hid (show la.length = K by rw [← hla, List.length_take, List.length_map, HA.out.len]; omega)
    have LB := Lib.hid (show lb.length = K by rw [← hlb, List.length_take, List.length_map, HB.out.len]; omega)
    have BA : Hid (∀ x ∈ la, x < 256) := Lib.hid (fun x hx => bytes_nat (fun x hx => wf_u8 (HA.out.wf x hx)) x (by rw [← hla] at hx; exact List.mem_of_mem_take hx))
    have BB : Hid (∀ x ∈ lb, x < 256) := Lib.hid (fun x hx => bytes_nat (fun x hx => wf_u8 (HB.out.wf x hx)) x (by rw [← hlb] at hx; exact List.mem_of_mem_take hx))
    clear hla hlb hA1 hB1
  · have RC := Lib.hid (q1.congr (g := xorF la lb 0) (fun i _ => by simp [xorF]))
    have RZ := Lib.hid q2
    have BW := Lib.hid q3
    have TW := Lib.hid q4
    have NE := Lib.hid q8
    have NG := Lib.hid q6
    have GE := q10
    clear q1 q2 q3 q4 q6 q7 q8 q9 q10 q11
    go_wp2
    go_loopw [77] (fun i wr => ∃ k : Nat, k ≤ K ∧ i = .int .i64 (k : Nat) ∧ Hid (Below w.heap.size w wr) ∧ Hid (TabIs wr g) ∧ Hid (wr.rowIs s 5 K (xorF la lb k)) ∧ Hid (wr.rowIs s1 5 K (fun _ => .int .u8 0))) (fun i _ => K - (intOf i).toNat)
    case atStart => exact ⟨0, by omega, rfl, BW, TW, RC, RZ⟩
    case round =>
      clear RC RZ BW TW
      obtain ⟨k, hk, rfl, BW, TW, RC, RZ⟩ := hrel
      by_cases hlt2 : k < K
      · obtain ⟨gA, oA, rfl, hcA⟩ := (RA.out.later BW.out).some_ (by rw [nats_len, LA.out]; omega)
        obtain ⟨gB, oB, rfl, hcB⟩ := (RB.out.later BW.out).some_ (by rw [nats_len, LB.out]; omega)
        have cA := hcA k (by rw [nats_len, LA.out]; exact hlt2)
        have cB := hcB k (by rw [nats_len, LB.out]; exact hlt2)
        rw [nats_getD] at cA cB
        have cC := RC.out.cell hlt2
        have fC := RC.out.frozen k
        have hx := getD_lt BA.out k
        have hy := getD_lt BB.out k
        obtain ⟨x, hx'⟩ : ∃ x, la.getD k 0 = x := ⟨_, rfl⟩
        obtain ⟨y, hy'⟩ : ∃ y, lb.getD k 0 = y := ⟨_, rfl⟩
        rw [hx'] at cA hx
        rw [hy'] at cB hy
        have x8 := xor8 x y hx hy
        have HX := Lib.hid hx'
        have HY := Lib.hid hy'
        clear hx' hy' hcA hcB
        have k0 : (0 : Int) ≤ (k : Int) := by omega
        have k1 : (k : Int) < (K : Int) := by omega
        have k2 : (k : Int) < (n : Int) := by omega
        have k3 : (k : Int) < (m : Int) := by omega
        go_wp2
        refine still_tail 11 (by kernel_rfl) (by kernel_rfl) ?_
        intro W2 hW2
        have dA : W2.cell? ⟨gA, oA + k, none⟩ = some (.int .u8 (x : Nat)) := by rw [hW2]; exact cA
        have dB : W2.cell? ⟨gB, oB + k, none⟩ = some (.int .u8 (y : Nat)) := by rw [hW2]; exact cB
        have dC : W2.cell? ⟨s, k, none⟩ = some (xorF la lb k k) := by rw [hW2]; exact cC
        have eC : W2.frozen? ⟨s, k, none⟩ = false := by rw [hW2]; exact fC
        have HW2 := Lib.hid hW2
        clear hW2 cA cB cC fC
        simp only [List.take_succ_cons, List.take_zero, List.drop_succ_cons, List.drop_zero]
        repeat still_step
        refine wpStill_nil ?_
        go_wp2
        go_roundw
        case rel =>
          refine ⟨k + 1, by omega, by go_num, Lib.hid ?_, Lib.hid ?_, Lib.hid ?_, Lib.hid ?_⟩
          · have h : Below w.heap.size w W2 := by rw [HW2.out]; exact BW.out.drew
            exact h.setCell GE _
          · have h : TabIs W2 g := by rw [HW2.out]; exact World.rowIs.drew TW.out
            exact World.rowIs.setOther h NG.out _
          · have h : W2.rowIs s 5 K (xorF la lb k) := by rw [HW2.out]; exact RC.out.drew
            refine (h.set k (.int .u8 ((x ^^^ y : Nat) : Int))).congr fun t ht => ?_
            by_cases e : t = k
            · subst e
              rw [if_pos rfl, xorF, if_pos (by omega), HX.out, HY.out]
            · rw [if_neg e]
              unfold xorF
              by_cases e2 : t < k
              · rw [if_pos e2, if_pos (by omega)]
              · rw [if_neg e2, if_neg (by omega)]
          · have h : W2.rowIs s1 5 K (fun _ => .int .u8 0) := by rw [HW2.out]; exact RZ.out.drew
            exact h.setOther (Ne.symm NE.out) _
        case measure => simp [intOf]; omega
      · have : k = K := by omega
        subst this
        obtain ⟨sa, hsa⟩ : ∃ sa, sumI (nats la) = sa := ⟨_, rfl⟩
        obtain ⟨sb, hsb⟩ : ∃ sb, sumI (nats lb) = sb := ⟨_, rfl⟩
        obtain ⟨sc, hsc⟩ : ∃ sc, sumI (nats (List.zipWith (· ^^^ ·) la lb)) = sc := ⟨_, rfl⟩
        obtain ⟨sz, hsz⟩ : ∃ sz, sumI (nats (List.replicate k 0)) = sz := ⟨_, rfl⟩
        have bc := zip_bytes BA.out BB.out
        have bz : ∀ x ∈ List.replicate k 0, x < 256 := fun x hx => by rw [List.eq_of_mem_replicate hx]; omega
        have ba1 := nats_bytes BA.out
        have bb1 := nats_bytes BB.out
        have e1 : sa ^^^ sb = sc ^^^ sz := by
          rw [← hsa, ← hsb, ← hsc, ← hsz, sumI_nats, sumI_nats, sumI_nats, sumI_nats, sumN_zip la lb (by rw [LA.out, LB.out]), LA.out]
        have t1 : sa < 2 ^ 32 := by rw [← hsa, sumI_nats]; exact sumN_lt _ BA.out
        have t2 : sb < 2 ^ 32 := by rw [← hsb, sumI_nats]; exact sumN_lt _ BB.out
        have t3 : sc < 2 ^ 32 := by rw [← hsc, sumI_nats]; exact sumN_lt _ bc
        have t4 : sz < 2 ^ 32 := by rw [← hsz, sumI_nats]; exact sumN_lt _ bz
        have x1 := xor32 sa sb t1 t2
        have x2 := xor32 sc sz t3 t4
        rw [← e1] at x2
        obtain ⟨sx, hsx⟩ : ∃ sx, sa ^^^ sb = sx := ⟨_, rfl⟩
        rw [hsx] at x1 x2
        have kc : k ≤ c := by omega
        have kd : k ≤ d := by omega
        have oa : ∀ W, W = wr.drew → Calls Try.prog 8 #[.slice (some ⟨g, 0, none⟩) 256 256, .slice A k c] W fun e w' => e = .returned (.int .u32 (sa : Nat)) ∧ w' = W := fun W hW => by
          rw [← hsa]
          exact of_same g A k c (nats la) W (by rw [hW]; exact World.rowIs.drew TW.out) (by rw [nats_len, LA.out]) (by rw [hW]; exact (RA.out.later BW.out).drew) ba1 (by unfold maxLen; omega)
        have ob : ∀ W, W = wr.drew → Calls Try.prog 8 #[.slice (some ⟨g, 0, none⟩) 256 256, .slice B k d] W fun e w' => e = .returned (.int .u32 (sb : Nat)) ∧ w' = W := fun W hW => by
          rw [← hsb]
          exact of_same g B k d (nats lb) W (by rw [hW]; exact World.rowIs.drew TW.out) (by rw [nats_len, LB.out]) (by rw [hW]; exact (RB.out.later BW.out).drew) bb1 (by unfold maxLen; omega)
        have oc : ∀ W, W = wr.drew → Calls Try.prog 8 #[.slice (some ⟨g, 0, none⟩) 256 256, .slice (some ⟨s, 0, none⟩) k k] W fun e w' => e = .returned (.int .u32 (sc : Nat)) ∧ w' = W := fun W hW => by
          rw [← hsc]
          exact of_same g _ k k (nats _) W (by rw [hW]; exact World.rowIs.drew TW.out) (by rw [nats_len, List.length_zipWith, LA.out, LB.out]; omega) (by rw [hW]; exact (rd_xor LA.out LB.out RC.out).drew) (nats_bytes bc) (by unfold maxLen; omega)
        have oz : ∀ W, W = wr.drew → Calls Try.prog 8 #[.slice (some ⟨g, 0, none⟩) 256 256, .slice (some ⟨s1, 0, none⟩) k k] W fun e w' => e = .returned (.int .u32 (sz : Nat)) ∧ w' = W := fun W hW => by
          rw [← hsz]
          exact of_same g _ k k (nats _) W (by rw [hW]; exact World.rowIs.drew TW.out) (by rw [nats_len, List.length_replicate]) (by rw [hW]; exact (rd_zero RZ.out).drew) (nats_bytes bz) (by unfold maxLen; omega)
        have on : ∀ W, W = wr.drew → Calls Try.prog 8 #[.slice (some ⟨g, 0, none⟩) 256 256, .slice none 0 0] W fun e w' => e = .returned (.int .u32 0) ∧ w' = W := fun W hW =>
          of_same g none 0 0 [] W (by rw [hW]; exact World.rowIs.drew TW.out) rfl (.inl rfl) (by simp) (by simp [maxLen])
        have OA := Lib.hid oa
        have OB := Lib.hid ob
        have OC := Lib.hid oc
        have OZ := Lib.hid oz
        have ON := Lib.hid on
        have X1 := Lib.hid x1
        have X2 := Lib.hid x2
        clear oa ob oc oz on hsa hsb hsc hsz bc bz ba1 bb1 e1 hsx x1 x2 t1 t2 t3 t4 ci
        have kn : (k : Int) ≤ (c : Int) := by omega
        have km : (k : Int) ≤ (d : Int) := by omega
        have k0 : (0 : Int) ≤ (k : Int) := by omega
        go_wp2
        refine still_tail 25 (by kernel_rfl) (by kernel_rfl) ?_
        intro W2 hW2
        have HW2 := Lib.hid hW2
        clear hW2
        have x1 := X1.out
        have x2 := X2.out
        simp only [List.take_succ_cons, List.take_zero, List.drop_succ_cons, List.drop_zero]
        repeat still_step
        still_call (OA.out _ HW2.out)
        repeat still_step
        still_call (OB.out _ HW2.out)
        repeat still_step
        still_call (OC.out _ HW2.out)
        repeat still_step
        still_call (OZ.out _ HW2.out)
        repeat still_step
        still_call (ON.out _ HW2.out)
        repeat still_step
        refine wpStill_nil ?_
        go_wp2_with fail
        refine (wakes_any _).mono ?_
        rintro e w7 ⟨rfl, hb7⟩
        go_wp2_with fail
        go_ret
        have hbD : Below w.heap.size w W2 := by rw [HW2.out]; exact BW.out.drew
        exact ⟨rfl, hbD.trans (hb7.mono hbD.size)⟩
  · have RC := Lib.hid (q2.congr (g := xorF la lb 0) (fun i _ => by simp [xorF]))
    have RZ := Lib.hid q1
    have BW := Lib.hid q3
    have TW := Lib.hid q4
    have NE := Lib.hid q9
    have NG := Lib.hid q7
    have GE := q11
    clear q1 q2 q3 q4 q6 q7 q8 q9 q10 q11
    go_wp2
    go_loopw [77] (fun i wr => ∃ k : Nat, k ≤ K ∧ i = .int .i64 (k : Nat) ∧ Hid (Below w.heap.size w wr) ∧ Hid (TabIs wr g) ∧ Hid (wr.rowIs s1 5 K (xorF la lb k)) ∧ Hid (wr.rowIs s 5 K (fun _ => .int .u8 0))) (fun i _ => K - (intOf i).toNat)
    case atStart => exact ⟨0, by omega, rfl, BW, TW, RC, RZ⟩
    case round =>
      clear RC RZ BW TW
      obtain ⟨k, hk, rfl, BW, TW, RC, RZ⟩ := hrel
      by_cases hlt2 : k < K
      · obtain ⟨gA, oA, rfl, hcA⟩ := (RA.out.later BW.out).some_ (by rw [nats_len, LA.out]; omega)
        obtain ⟨gB, oB, rfl, hcB⟩ := (RB.out.later BW.out).some_ (by rw [nats_len, LB.out]; omega)
        have cA := hcA k (by rw [nats_len, LA.out]; exact hlt2)
        have cB := hcB k (by rw [nats_len, LB.out]; exact hlt2)
        rw [nats_getD] at cA cB
        have cC := RC.out.cell hlt2
        have fC := RC.out.frozen k
        have hx := getD_lt BA.out k
        have hy := getD_lt BB.out k
        obtain ⟨x, hx'⟩ : ∃ x, la.getD k 0 = x := ⟨_, rfl⟩
        obtain ⟨y, hy'⟩ : ∃ y, lb.getD k 0 = y := ⟨_, rfl⟩
        rw [hx'] at cA hx
        rw [hy'] at cB hy
        have x8 := xor8 x y hx hy
        have HX := Lib.hid hx'
        have HY := Lib.hid hy'
        clear hx' hy' hcA hcB
        have k0 : (0 : Int) ≤ (k : Int) := by omega
        have k1 : (k : Int) < (K : Int) := by omega
        have k2 : (k : Int) < (n : Int) := by omega
        have k3 : (k : Int) < (m : Int) := by omega
        go_wp2
        refine still_tail 11 (by kernel_rfl) (by kernel_rfl) ?_
        intro W2 hW2
        have dA : W2.cell? ⟨gA, oA + k, none⟩ = some (.int .u8 (x : Nat)) := by rw [hW2]; exact cA
        have dB : W2.cell? ⟨gB, oB + k, none⟩ = some (.int .u8 (y : Nat)) := by rw [hW2]; exact cB
        have dC : W2.cell? ⟨s1, k, none⟩ = some (xorF la lb k k) := by rw [hW2]; exact cC
        have eC : W2.frozen? ⟨s1, k, none⟩ = false := by rw [hW2]; exact fC
        have HW2 := Lib.hid hW2
        clear hW2 cA cB cC fC
        simp only [List.take_succ_cons, List.take_zero, List.drop_succ_cons, List.drop_zero]
        repeat still_step
        refine wpStill_nil ?_
        go_wp2
        go_roundw
        case rel =>
          refine ⟨k + 1, by omega, by go_num, Lib.hid ?_, Lib.hid ?_, Lib.hid ?_, Lib.hid ?_⟩
          · have h : Below w.heap.size w W2 := by rw [HW2.out]; exact BW.out.drew
            exact h.setCell GE _
          · have h : TabIs W2 g := by rw [HW2.out]; exact World.rowIs.drew TW.out
            exact World.rowIs.setOther h NG.out _
          · have h : W2.rowIs s1 5 K (xorF la lb k) := by rw [HW2.out]; exact RC.out.drew
            refine (h.set k (.int .u8 ((x ^^^ y : Nat) : Int))).congr fun t ht => ?_
            by_cases e : t = k
            · subst e
              rw [if_pos rfl, xorF, if_pos (by omega), HX.out, HY.out]
            · rw [if_neg e]
              unfold xorF
              by_cases e2 : t < k
              · rw [if_pos e2, if_pos (by omega)]
              · rw [if_neg e2, if_neg (by omega)]
          · have h : W2.rowIs s 5 K (fun _ => .int .u8 0) := by rw [HW2.out]; exact RZ.out.drew
            exact h.setOther (Ne.symm NE.out) _
        case measure => simp [intOf]; omega
      · have : k = K := by omega
        subst this
        obtain ⟨sa, hsa⟩ : ∃ sa, sumI (nats la) = sa := ⟨_, rfl⟩
        obtain ⟨sb, hsb⟩ : ∃ sb, sumI (nats lb) = sb := ⟨_, rfl⟩
        obtain ⟨sc, hsc⟩ : ∃ sc, sumI (nats (List.zipWith (· ^^^ ·) la lb)) = sc := ⟨_, rfl⟩
        obtain ⟨sz, hsz⟩ : ∃ sz, sumI (nats (List.replicate k 0)) = sz := ⟨_, rfl⟩
        have bc := zip_bytes BA.out BB.out
        have bz : ∀ x ∈ List.replicate k 0, x < 256 := fun x hx => by rw [List.eq_of_mem_replicate hx]; omega
        have ba1 := nats_bytes BA.out
        have bb1 := nats_bytes BB.out
        have e1 : sa ^^^ sb = sc ^^^ sz := by
          rw [← hsa, ← hsb, ← hsc, ← hsz, sumI_nats, sumI_nats, sumI_nats, sumI_nats, sumN_zip la lb (by rw [LA.out, LB.out]), LA.out]
        have t1 : sa < 2 ^ 32 := by rw [← hsa, sumI_nats]; exact sumN_lt _ BA.out
        have t2 : sb < 2 ^ 32 := by rw [← hsb, sumI_nats]; exact sumN_lt _ BB.out
        have t3 : sc < 2 ^ 32 := by rw [← hsc, sumI_nats]; exact sumN_lt _ bc
        have t4 : sz < 2 ^ 32 := by rw [← hsz, sumI_nats]; exact sumN_lt _ bz
        have x1 := xor32 sa sb t1 t2
        have x2 := xor32 sc sz t3 t4
        rw [← e1] at x2
        obtain ⟨sx, hsx⟩ : ∃ sx, sa ^^^ sb = sx := ⟨_, rfl⟩
        rw [hsx] at x1 x2
        have kc : k ≤ c := by omega
        have kd : k ≤ d := by omega
        have oa : ∀ W, W = wr.drew → Calls Try.prog 8 #[.slice (some ⟨g, 0, none⟩) 256 256, .slice A k c] W fun e w' => e = .returned (.int .u32 (sa : Nat)) ∧ w' = W := fun W hW => by
          rw [← hsa]
          exact of_same g A k c (nats la) W (by rw [hW]; exact World.rowIs.drew TW.out) (by rw [nats_len, LA.out]) (by rw [hW]; exact (RA.out.later BW.out).drew) ba1 (by unfold maxLen; omega)
        have ob : ∀ W, W = wr.drew → Calls Try.prog 8 #[.slice (some ⟨g, 0, none⟩) 256 256, .slice B k d] W fun e w' => e = .returned (.int .u32 (sb : Nat)) ∧ w' = W := fun W hW => by
          rw [← hsb]
          exact of_same g B k d (nats lb) W (by rw [hW]; exact World.rowIs.drew TW.out) (by rw [nats_len, LB.out]) (by rw [hW]; exact (RB.out.later BW.out).drew) bb1 (by unfold maxLen; omega)
        have oc : ∀ W, W = wr.drew → Calls Try.prog 8 #[.slice (some ⟨g, 0, none⟩) 256 256, .slice (some ⟨s1, 0, none⟩) k k] W fun e w' => e = .returned (.int .u32 (sc : Nat)) ∧ w' = W := fun W hW => by
          rw [← hsc]
          exact of_same g _ k k (nats _) W (by rw [hW]; exact World.rowIs.drew TW.out) (by rw [nats_len, List.length_zipWith, LA.out, LB.out]; omega) (by rw [hW]; exact (rd_xor LA.out LB.out RC.out).drew) (nats_bytes bc) (by unfold maxLen; omega)
        have oz : ∀ W, W = wr.drew → Calls Try.prog 8 #[.slice (some ⟨g, 0, none⟩) 256 256, .slice (some ⟨s, 0, none⟩) k k] W fun e w' => e = .returned (.int .u32 (sz : Nat)) ∧ w' = W := fun W hW => by
          rw [← hsz]
          exact of_same g _ k k (nats _) W (by rw [hW]; exact World.rowIs.drew TW.out) (by rw [nats_len, List.length_replicate]) (by rw [hW]; exact (rd_zero RZ.out).drew) (nats_bytes bz) (by unfold maxLen; omega)
        have on : ∀ W, W = wr.drew → Calls Try.prog 8 #[.slice (some ⟨g, 0, none⟩) 256 256, .slice none 0 0] W fun e w' => e = .returned (.int .u32 0) ∧ w' = W := fun W hW =>
          of_same g none 0 0 [] W (by rw [hW]; exact World.rowIs.drew TW.out) rfl (.inl rfl) (by simp) (by simp [maxLen])
        have OA := Lib.hid oa
        have OB := Lib.hid ob
        have OC := Lib.hid oc
        have OZ := Lib.hid oz
        have ON := Lib.hid on
        have X1 := Lib.hid x1
        have X2 := Lib.hid x2
        clear oa ob oc oz on hsa hsb hsc hsz bc bz ba1 bb1 e1 hsx x1 x2 t1 t2 t3 t4 ci
        have kn : (k : Int) ≤ (c : Int) := by omega
        have km : (k : Int) ≤ (d : Int) := by omega
        have k0 : (0 : Int) ≤ (k : Int) := by omega
        go_wp2
        refine still_tail 25 (by kernel_rfl) (by kernel_rfl) ?_
        intro W2 hW2
        have HW2 := Lib.hid hW2
        clear hW2
        have x1 := X1.out
        have x2 := X2.out
        simp only [List.take_succ_cons, List.take_zero, List.drop_succ_cons, List.drop_zero]
        repeat still_step
        still_call (OA.out _ HW2.out)
        repeat still_step
        still_call (OB.out _ HW2.out)
        repeat still_step
        still_call (OC.out _ HW2.out)
        repeat still_step
        still_call (OZ.out _ HW2.out)
        repeat still_step
        still_call (ON.out _ HW2.out)
        repeat still_step
        refine wpStill_nil ?_
        go_wp2_with fail
        refine (wakes_any _).mono ?_
        rintro e w7 ⟨rfl, hb7⟩
        go_wp2_with fail
        go_ret
        have hbD : Below w.heap.size w W2 := by rw [HW2.out]; exact BW.out.drew
        exact ⟨rfl, hbD.trans (hb7.mono hbD.size)⟩
end Go.Proofs.Ytbadehbhnenbjaa

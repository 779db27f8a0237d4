/-
  The walk of EventUnpacks.
-/
import Derived.Test.YtbjneoeiognahaaEvWakes
import Derived.Test.YtbjneoeiognahaaEvRow2
import Derived.Test.YtbjneoeiognahaaEvUnpack
import Derived.Test.YtbjneoeiognahaaPlayEvents
import Derived.Test.YtbjneoeiognahaaRefUnpack
import Derived.Test.YtbjneoeiognahaaRefPack
import Derived.Test.YtbjneoeiognahaaRefAll
import Derived.Test.YtbjneoeiognahaaLend
import Derived.Test.YtbjneoeiognahaaBase
import Derived.Test.YtbjneoeiognahaaArgE
import Derived.Deep.LoopGhost
import Derived.Deep.DeepCutAuto
import Derived.Deep.QuietTactic
import Derived.BigQuiet
import Derived.RegionTactic
import Derived.ChangeAlike
import Derived.Lib.SliceRun
import Derived.Handy
import Derived.IntWalk
import Derived.StillTailTactics
namespace Go.Proofs.Ytbjneoeiognahaa
open Go.RowKit

theorem wrap_u8v (n : Nat) (h : n < 2 ^ 8) : IntKind.u8.wrap (n : Int) = (n : Int) := by
  simp only [IntKind.wrap, IntKind.signed, IntKind.bits]
  simp
  omega
theorem xor8v (a b : Nat) (ha : a < 2 ^ 8) (hb : b < 2 ^ 8) : bits .xor .u8 (a : Int) (b : Int) = ((a ^^^ b : Nat) : Int) := by
  have key : (BitVec.ofInt 8 (a : Int) ^^^ BitVec.ofInt 8 (b : Int)).toNat = a ^^^ b := by
    rw [BitVec.toNat_xor, BitVec.toNat_ofInt, BitVec.toNat_ofInt]
    congr 1 <;> omega
  show IntKind.u8.wrap ((BitVec.ofInt 8 (a : Int) ^^^ BitVec.ofInt 8 (b : Int)).toNat : Nat) = _
  rw [key, wrap_u8v _ (Nat.xor_lt_two_pow ha hb)]
theorem xor_pow8v (x r : Nat) (hx : x < 256) (hr : r < 8) : bits .xor .u8 (x : Int) (2 ^ r % 256) = ((x ^^^ 2 ^ r : Nat) : Int) := by
  have h1 : 2 ^ r < 2 ^ 8 := Nat.pow_lt_pow_right (by decide) hr
  have h2 : ((2 : Int) ^ r % 256) = ((2 ^ r : Nat) : Int) := by
    rw [Int.natCast_pow]; simp only [Int.cast_ofNat_Int]
    have : (2 : Int) ^ r < 2 ^ 8 := by exact_mod_cast h1
    have h0 : (0 : Int) ≤ 2 ^ r := by exact_mod_cast Nat.zero_le (2 ^ r)
    omega
  rw [h2]
  exact xor8v x (2 ^ r) hx h1

/-- The first n bytes of a row. -/
theorem Own.front {q : IntKind} {ty : TypeId} {w : World} {B len c n : Nat} {A : Option Addr} {xs : List Int} (h : Own q ty w B (.slice A len c) xs) (hn : n ≤ len) : Own q ty w B (.slice A n c) (xs.take n) := by
  obtain ⟨A', c', hv⟩ := h.form
  injection hv with _ h2 _
  subst h2
  have hl : (xs.take n).length = n := by rw [List.length_take]; omega
  refine ⟨by simp [cel], ?_⟩
  rw [hl]
  rcases h.2 with ⟨hv, h0⟩ | ⟨g, cap, cur, hv, hg, hh, r1, r2, r3, r4⟩
  · injection hv with h1 h2 h3
    left
    exact ⟨by rw [h1, h3]; congr; omega, by omega⟩
  · injection hv with h1 h2 h3
    subst h1; subst h3
    refine .inr ⟨g, c, cur, rfl, hg, hh, by omega, r2, r3, ?_⟩
    simp only [Nat.mul_one] at r4 ⊢
    rw [show cel q (xs.take n) = (cel q xs).take n from by simp [cel], ← r4, List.take_take, Nat.min_eq_left hn]

/-- Bytes that are read somewhere. -/
structure EvBts (W w : World) (A : Option Addr) (n c : Nat) (L : List Int) : Prop where
  len : L.length = n
  le : n ≤ c
  reach : n ≤ 1099511627776
  nil : A = none → c = 0 ∧ n = 0
  rd : Rd .u8 w A L
  bytes : ∀ x ∈ L, 0 ≤ x ∧ x < 256
  bel : Below W.heap.size W w

/-- What is unpacked whole has its place at 0. -/
theorem unE_zero {xs : List Int} (hb : ∀ x ∈ xs, 0 ≤ x ∧ x < 256) {n : Nat} (hn : xs.length = n) {es : List Ev} {p : Nat} (h : unE xs (n + 1) 0 [] = (es, p, true)) : p = 0 ∧ es.length ≤ n := by
  obtain ⟨more, hm1, hm2, hm3⟩ := unE_inv xs hb (n + 1) 0 [] es p (Nat.zero_le _) h
  simp only [List.nil_append] at hm1
  subst hm1
  have hl := congrArg List.length hm3
  rw [List.drop_zero, hn] at hl
  have hg := packL_ge es
  have h2 := unE_at es (n + 1) 0 xs [] hm2 (Nat.zero_le _) hm3 (by omega)
  rw [h] at h2
  simp only [List.nil_append, Prod.mk.injEq] at h2
  exact ⟨h2.2.1, by omega⟩

set_option maxRecDepth 100000 in
set_option maxHeartbeats 8000000 in
theorem eventUnpacks_walk (a0 : Option Addr) (len0 cap0 : Nat) (z0 : List Int) (a1 : Option Addr) (len1 cap1 : Nat) (X1 : List EvM) (a2 : Option Addr) (len2 cap2 : Nat) (z2 : List Int) (a3 a4 : Int) (a5 : Bool) (W : World)
    (h0 : ArgI .u8 1 W a0 len0 cap0 z0) (h1 : ArgE W a1 len1 cap1 X1) (h2 : ArgI .i64 8 W a2 len2 cap2 z2) (w3 : (Lit.int .i64 a3).wf = true) (w4 : (Lit.int .i64 a4).wf = true) (hb : len0 ≤ 1048576) :
    Calls Try.prog 8 #[.slice a0 len0 cap0, .slice a1 len1 cap1, .slice a2 len2 cap2, .int .i64 a3, .int .i64 a4, .bool a5] W fun e W' => e = .returned (.bool true) ∧ Below W.heap.size W W' := by
  have hw3 := wf_i64 w3
  have hw4 := wf_i64 w4
  have hpl := playEvents_any a1 len1 cap1 X1 a2 len2 cap2 z2 8 W h1 h2 (by omega)
  have HPL := Lib.hid hpl
  have H0 := Lib.hid h0
  have HW3 := Lib.hid hw3
  have HW4 := Lib.hid hw4
  clear hpl h0 h1 h2 hw3 hw4 w3 w4
  go_enter Try.func8, Try.ntmps8
  go_upto_if 25 with (fail)
  go_cut [0, 13, 30] (fun s0 s13 s30 wx => ∃ A n c L, s0 = .slice A n c ∧ Hid (EvBts W wx A n c L))
  case first =>
    cases a5 with
    | true =>
      go_wp2_with fail
      go_meet
      exact ⟨_, _, _, z0, rfl, ⟨H0.out.len, H0.out.le, by omega, fun h => by have := H0.out.nil h; have := H0.out.le; omega, H0.out.rd, fun x hx => wf_u8 (H0.out.wf x hx), Below.refl _ _⟩⟩
    | false =>
      go_wp2_with fail
      refine HPL.out.mono ?_
      rintro e w1 ⟨v, ls, rfl, hrow, hls, hb1⟩
      obtain ⟨A1, hA1⟩ := hrow.form
      obtain ⟨c1, rfl⟩ := hA1
      have HRW := Lib.hid hrow
      have HB1 := Lib.hid hb1
      obtain ⟨n, hn⟩ : ∃ n, ls.length = n := ⟨_, rfl⟩
      have HN := Lib.hid hn
      rw [hn] at hls HRW ⊢
      clear hrow hb1 hn
      go_wp2_with fail
      go_loopw [13, 30] (fun va vi wr => ∃ (k : Nat) (gs : List EvM), k ≤ n ∧ vi = .int .i64 k ∧ Hid (gs.length ≤ k) ∧ Hid (∀ m ∈ gs, m.e.ok = true) ∧ Hid (EvRow2 wr w1.heap.size W.heap.size va gs) ∧ Hid (Below w1.heap.size w1 wr)) (fun _ vi _ => n - (intOf vi).toNat)
      case atStart => exact ⟨0, [], by omega, rfl, Nat.le_refl _, (fun m hm => absurd hm (by simp)), EvRow2.nil _ _ _, Below.refl _ _⟩
      case round =>
        obtain ⟨k, gs, hk, rfl, hlen, hok, hro, hbl⟩ := hrel
        obtain ⟨A2, hA2⟩ := hro.out.form
        obtain ⟨c2, rfl⟩ := hA2
        by_cases hlt : k < n
        · have i1 : (k : Int) < (n : Int) := by omega
          have i2 : (0 : Int) ≤ (k : Int) := by omega
          have hka : k < ls.length := by rw [HN.out]; exact hlt
          have hx2 := HRW.out.evs.later hbl.out
          have hxm : ls.getD k default ∈ ls := by simp [List.getD, hka]
          have xo := (HRW.out.each _ hxm).later hbl.out
          obtain ⟨b1, o1, rfl, hx3⟩ : ∃ b off, A1 = some ⟨b, off, none⟩ ∧ ∀ i, i < ls.length → (ls.getD i default).lies wr b (off + i * 12) := by
            rcases hx2.lie with h | h
            · subst h; simp at hka
            · exact h
          have x3 := hx3 k hka
          obtain ⟨x, hx⟩ : ∃ x, ls.getD k default = x := ⟨_, rfl⟩
          rw [hx] at xo x3
          have XO := Lib.hid xo
          clear hx hx2 hx3 hka hxm xo
          have hab := (Below.refl wr.heap.size wr).alloc (Nat.le_refl _) (.cells x.cs.toArray 60)
          have HV := Lib.hid (EvV.new wr x.e x.A x.c x.B x.d)
          have XO1 := Lib.hid (XO.out.later hab)
          have HRO := Lib.hid (hro.out.later hab)
          have HBL := Lib.hid (hbl.out.trans (hab.mono hbl.out.size))
          clear hab hro hbl XO
          obtain ⟨c0, c1', c2', c3, c4, c5, c6, c7, c8, c9, c10, c11⟩ := x3
          unfold EvM.cs Ev.cs at XO1 HRO HBL
          unfold Ev.cs at HV
          have hc := fun W (h : EvAt W x.e x.A x.c x.B x.d) => rightEvent_any x.e x.A x.c x.B x.d W h
          cases hox : x.e.ok
          · simp only [hox] at hc
            have HC := Lib.hid hc
            clear hc hox
            go_wp2_with fail
            refine (HC.out _ XO1.out.at).mono ?_
            rintro e w2 ⟨rfl, hb2⟩
            have HB2 := Lib.hid (HBL.out.trans (hb2.mono HBL.out.size))
            have HR2 := Lib.hid (HRO.out.later hb2)
            clear hb2
            go_wp2_with fail
            go_roundw
            case rel => exact ⟨k + 1, gs, by omega, by go_num, Nat.le_succ_of_le hlen.out, hok, HR2, HB2⟩
            case measure => simp [intOf]; omega
          · simp only [hox] at hc
            have HC := Lib.hid hc
            have HOX := Lib.hid hox
            clear hc hox
            go_wp2_with fail
            refine (HC.out _ XO1.out.at).mono ?_
            rintro e w2 ⟨rfl, hb2⟩
            obtain ⟨q, hq⟩ : ∃ q, wr.heap.size = q := ⟨_, rfl⟩
            rw [hq] at HV ⊢
            have HV2 := Lib.hid (HV.out.later hb2)
            have hb3 := (Below.refl w2.heap.size w2).alloc (Nat.le_refl _) (.cells x.cs.toArray 60)
            have HR2 := Lib.hid ((HRO.out.later hb2).later hb3)
            have XO2 := Lib.hid ((XO1.out.later hb2).later hb3)
            have HB2 := Lib.hid ((HBL.out.trans (hb2.mono HBL.out.size)).trans (hb3.mono (Nat.le_trans HBL.out.size hb2.size)))
            have HLN := Lib.hid (lies_new w2 x 60)
            have hr9 : (gs.length + 1) * 128 ≤ 140737488355328 := by have := hlen.out; omega
            clear hb2 hb3 HV HRO HBL XO1 hq c0 c1' c2' c3 c4 c5 c6 c7 c8 c9 c10 c11
            have hvc := HV2.out.cells
            obtain ⟨d0, d1, d2, d3, d4, d5, d6, d7, d8, d9, d10, d11⟩ := hvc
            simp only [Nat.zero_add] at d0 d1 d2 d3 d4 d5 d6 d7 d8 d9 d10 d11
            go_wp2_with (at_builtin; refine wpList_appE2 rfl (.tmp 36) (.tmp 38) rfl w1.heap.size W.heap.size (.slice A2 gs.length c2) gs x rfl HR2.out HB1.out.size _ 1 rfl XO2.out HLN.out hr9 HB2.out.size ?_; intro D2 dd2 w6 h6 g6; have HR6 := Lib.hid h6; have HB6 := Lib.hid (HB2.out.grown g6 HB2.out.size (fun g hg => (HR2.out.lt g hg).1)); clear h6 g6)
            go_roundw
            case rel => exact ⟨k + 1, gs ++ [x], by omega, by go_num, (by simp; exact hlen.out), (fun m hm => by
              rcases List.mem_append.1 hm with h | h
              · exact hok.out m h
              · simp at h; rw [h]; exact HOX.out), HR6, HB6⟩
            case measure => simp [intOf]; omega
        · have hg10 : gs.length ≤ 8 := by have := hlen.out; omega
          obtain ⟨es, hes⟩ : ∃ es, gs.map EvM.e = es := ⟨_, rfl⟩
          have hesok : ∀ e ∈ es, e.ok = true := by
            rw [← hes]; intro e he; rw [List.mem_map] at he; obtain ⟨m, hm, rfl⟩ := he; exact hok.out m hm
          have heslen : es.length = gs.length := by rw [← hes]; simp
          have hpl1 : (packL es).length ≤ 42000 := by have := packL_len es hesok; omega
          have hpb : ∀ x ∈ packL es, 0 ≤ x ∧ x < 256 := packL_bytes hesok (by
            rw [← hes]; intro e he; rw [List.mem_map] at he; obtain ⟨m, hm, rfl⟩ := he
            have hb := (hro.out.each m hm).bd
            exact ⟨hb.byt, hb.pk.byt⟩)
          have hEvs := (hro.out.less HB1.out.size).evs
          have hpk := refPackE_any gs A2 c2 wr hEvs (by omega) (by rw [hes]; omega)
          rw [hes, show packO es = packL es by unfold packO; rw [if_pos (okL_of hesok)], okL_of hesok] at hpk
          obtain ⟨P, hP⟩ : ∃ P, packL es = P := ⟨_, rfl⟩
          rw [hP] at hpk hpl1 hpb
          have HPL1 := Lib.hid hpl1
          have HPB := Lib.hid hpb
          have HPK := Lib.hid hpk
          have HBW := Lib.hid (HB1.out.trans (hbl.out.mono HB1.out.size))
          have hsz9 := HBW.out.size
          clear hP hes hesok heslen hpl1 hpb hEvs hpk hbl hro hlen hok HRW
          go_wp2_with fail
          refine HPK.out.mono ?_
          rintro e w2 ⟨A3, c3, rfl, hp, hb2⟩
          have HP2 := Lib.hid hp
          have HB2 := Lib.hid (HBW.out.trans (hb2.mono HBW.out.size))
          have hq1 := HPL1.out
          obtain ⟨pn, hpn⟩ : ∃ pn, P.length = pn := ⟨_, rfl⟩
          rw [hpn] at HP2 hq1 ⊢
          have HPN := Lib.hid hpn
          clear hp hb2 hpn HPK HBW
          go_wp2_with fail
          refine (within_any a3 (2 * (pn : Int) + 1) _ (by omega) (by omega)).mono ?_
          obtain ⟨cn, hcn⟩ : ∃ cn : Nat, a3 % (2 * (pn : Int) + 1) = (cn : Int) := ⟨(a3 % (2 * (pn : Int) + 1)).toNat, by rw [Int.toNat_of_nonneg (Int.emod_nonneg _ (by omega))]⟩
          have hcl : (cn : Int) < 2 * (pn : Int) + 1 := by rw [← hcn]; exact Int.emod_lt_of_pos a3 (by omega)
          rw [hcn]
          clear hcn
          rintro e w3 ⟨rfl, rfl⟩
          go_upto_if 55 with (fail)
          go_cut [0] (fun s0 wx => ∃ m, m ≤ pn ∧ s0 = .slice A3 m c3 ∧ wx = w2)
          case first =>
            by_cases hcc : cn < pn
            · have i1 : (cn : Int) < (pn : Int) := by omega
              have i2 := HP2.out.cap
              go_wp2_with fail
              go_meet
              exact ⟨cn, by omega, rfl, rfl⟩
            · have i1 : ¬ (cn : Int) < (pn : Int) := by omega
              go_wp2_with fail
              go_meet
              exact ⟨pn, Nat.le_refl _, rfl, rfl⟩
          case rest =>
          obtain ⟨m, hm, rfl, rfl⟩ := hcut
          have HPT := Lib.hid (HP2.out.front hm)
          obtain ⟨Z, hZ⟩ : ∃ Z, P.take m = Z := ⟨_, rfl⟩
          have hzl : Z.length = m := by rw [← hZ, List.length_take, HPN.out]; omega
          have hzb : ∀ x ∈ Z, 0 ≤ x ∧ x < 256 := fun x hx => HPB.out x (List.mem_of_mem_take (hZ ▸ hx))
          rw [hZ] at HPT
          have HZL := Lib.hid hzl
          have HZB := Lib.hid hzb
          have hm9 : m ≤ 42000 := by omega
          clear hZ hzl hzb HP2 HPB HPL1 hcl HPN hq1 hm
          go_wp2_with fail
          refine (within_any a4 (16 * (m : Int) + 1) _ (by omega) (by omega)).mono ?_
          obtain ⟨p, hp⟩ : ∃ p : Nat, a4 % (16 * (m : Int) + 1) = (p : Int) := ⟨(a4 % (16 * (m : Int) + 1)).toNat, by rw [Int.toNat_of_nonneg (Int.emod_nonneg _ (by omega))]⟩
          have hpl : (p : Int) < 16 * (m : Int) + 1 := by rw [← hp]; exact Int.emod_lt_of_pos a4 (by omega)
          rw [hp]
          clear hp
          rintro e w3 ⟨rfl, rfl⟩
          by_cases hpp : p < 8 * m
          · obtain ⟨g, rfl, hg1, hg2, hln, hcells, hfr⟩ := HPT.out.block (by omega)
            have c1 := hcells (p / 8) (by omega)
            have f1 := hfr (p / 8)
            have hx9 : 0 ≤ Z.getD (p / 8) 0 ∧ Z.getD (p / 8) 0 < 256 := by
              have h9 : p / 8 < Z.length := by rw [HZL.out]; omega
              have : Z.getD (p / 8) 0 = Z[p / 8] := by simp [List.getD, h9]
              rw [this]
              exact HZB.out _ (List.getElem_mem _)
            clear hcells hfr
            obtain ⟨x, hx⟩ : ∃ x : Nat, Z.getD (p / 8) 0 = (x : Int) := ⟨(Z.getD (p / 8) 0).toNat, by omega⟩
            rw [hx] at c1 hx9
            clear hx hln
            have hi : (p : Int) < 8 * (m : Int) := by omega
            have hq1 : p / 8 < m := by omega
            have i1 : ((p / 8 : Nat) : Int) < (m : Int) := by omega
            have i0 : (0 : Int) ≤ ((p / 8 : Nat) : Int) := by omega
            have hr1 : p % 8 < 8 := by omega
            have r1 : ((p % 8 : Nat) : Int) < 8 := by omega
            have r0 : (0 : Int) ≤ ((p % 8 : Nat) : Int) := by omega
            go_wp2
            rw [xor_pow8v x (p % 8) (by omega) hr1]
            go_meet
            have hst := HPT.out.stored HZL.out (p / 8) ((x ^^^ 2 ^ (p % 8) : Nat) : Int)
            have hy9 : x ^^^ 2 ^ (p % 8) < 2 ^ 8 := Nat.xor_lt_two_pow (by omega) (Nat.pow_lt_pow_right (by decide) hr1)
            refine ⟨_, _, _, _, rfl, Lib.hid ⟨by rw [List.length_set, HZL.out], HPT.out.cap, by omega, (fun e => by cases e), hst.rd, fun y hy => ?_, HB2.out.setCell (Nat.le_trans hsz9 hg1) _⟩⟩
            rcases List.mem_or_eq_of_mem_set hy with h | h
            · exact HZB.out y h
            · rw [h]; omega
          · have hi : ¬ (p : Int) < 8 * (m : Int) := by omega
            go_wp2_with fail
            go_meet
            exact ⟨_, _, _, Z, rfl, Lib.hid ⟨HZL.out, HPT.out.cap, by omega, HPT.out.none_len, HPT.out.rd, HZB.out, HB2.out⟩⟩
  case rest =>
  obtain ⟨A, n, c, L, rfl, hbt⟩ := hcut
  have rb := hbt.out.reach
  have lb := hbt.out.le
  clear H0 HPL HW3 HW4 hb
  go_wp2_with fail
  refine (lend_any A n c L wc hbt.out.len hbt.out.rd (by omega)).mono ?_
  rintro e w1 ⟨Le, rfl, hl, hb1⟩
  have hrl : Rd .u8 w1 Le L := by
    have := hl.take L.length
    simpa using this
  have hne : Le = none → n + 3 = 0 ∧ n = 0 := fun h => by
    obtain ⟨b, off, hA, _⟩ := hl.some_ (by simp)
    rw [h] at hA; cases hA
  have HRB := Lib.hid (hbt.out.rd.later hb1)
  have hue := unpackE_any Le n (n + 3) L w1 hbt.out.len hrl rb hne hbt.out.bytes
  have hre := fun (w : World) (h : Rd .u8 w A L) => refUnpackE_any A n c L w hbt.out.len h lb rb (fun e => (hbt.out.nil e).1) hbt.out.bytes
  obtain ⟨es, p, t, hun⟩ : ∃ es p t, unE L (n + 1) 0 [] = (es, p, t) := ⟨_, _, _, rfl⟩
  rw [hun] at hue
  simp only [hun] at hre
  simp only at hue hre
  have HL := Lib.hid hl
  have HB1 := Lib.hid (hbt.out.bel.trans (hb1.mono hbt.out.bel.size))
  have HUE := Lib.hid hue
  have HRE := Lib.hid hre
  have HUN := Lib.hid hun
  clear hl hb1 hrl hne hue hre hun
  cases t with
  | true =>
    obtain ⟨rfl, hel⟩ := unE_zero hbt.out.bytes hbt.out.len HUN.out
    simp only [if_true] at HUE HRE
    go_wp2_with fail
    refine HUE.out.mono ?_
    rintro e w2 ⟨v2, ls2, rfl, hr2, hl2, hb2⟩
    obtain ⟨A2, hA2⟩ := hr2.form
    obtain ⟨c2, rfl⟩ := hA2
    have HE2 := Lib.hid hr2.evs
    have HM2 := Lib.hid hl2
    have HB2 := Lib.hid (HB1.out.trans (hb2.mono HB1.out.size))
    have HL2 := Lib.hid (HL.out.later hb2)
    have HRB2 := Lib.hid (HRB.out.later hb2)
    clear hr2 hl2 hb2 HL HRB HUE
    go_wp2_with fail
    refine (HRE.out _ HRB2.out).mono ?_
    rintro e w3 ⟨v3, ls3, rfl, hr3, hl3, hb3⟩
    obtain ⟨A3, hA3⟩ := hr3.form
    obtain ⟨c3, rfl⟩ := hA3
    have hlen2 : ls2.length ≤ n := by have := congrArg List.length HM2.out; rw [List.length_map] at this; omega
    have hal := refAll_any ls2 ls3 A2 A3 c2 c3 w3 (HE2.out.later hb3) hr3.evs (by unfold maxLen; omega)
    rw [show decide (ls2.map EvM.e = ls3.map EvM.e) = true by rw [HM2.out, hl3]; simp] at hal
    have HAL := Lib.hid hal
    have HB3 := Lib.hid (HB2.out.trans (hb3.mono HB2.out.size))
    have HL3 := Lib.hid (HL2.out.later hb3)
    have HRB3 := Lib.hid (HRB2.out.later hb3)
    clear hal hr3 hl3 hb3 hlen2 HRE
    go_wp2_with fail
    refine HAL.out.mono ?_
    rintro e w4 ⟨rfl, hb4⟩
    have HB4 := Lib.hid (HB3.out.trans (hb4.mono HB3.out.size))
    have HL4 := Lib.hid (HL3.out.later hb4)
    have HRB4 := Lib.hid (HRB3.out.later hb4)
    clear hb4
    go_wp2_with fail
    refine (intact_any Le A n c L _ hbt.out.len HL4.out HRB4.out (by omega)).mono ?_
    rintro e w5 ⟨rfl, k5, rfl⟩
    go_wp2_with fail
    refine (wakesE_any _).mono ?_
    rintro e w6 ⟨rfl, hb6⟩
    go_wp2_with fail
    go_ret
    have hA := below_drewN' HB4.out k5
    exact ⟨rfl, hA.trans (hb6.mono hA.size)⟩
  | false =>
    obtain ⟨rfl, _, hp⟩ := unE_place L hbt.out.bytes (n + 1) 0 [] es p (Nat.zero_le _) (by rw [hbt.out.len]; omega) HUN.out
    rw [hbt.out.len] at hp
    simp only [Bool.false_eq_true, if_false] at HUE HRE
    go_wp2_with fail
    refine HUE.out.mono ?_
    rintro e w2 ⟨v2, ls2, rfl, hr2, hl2, hb2⟩
    obtain ⟨A2, hA2⟩ := hr2.form
    obtain ⟨c2, rfl⟩ := hA2
    have hls : ls2.length = 0 := by have := congrArg List.length hl2; simpa using this
    rw [hls]
    have HB2 := Lib.hid (HB1.out.trans (hb2.mono HB1.out.size))
    have HL2 := Lib.hid (HL.out.later hb2)
    have HRB2 := Lib.hid (HRB.out.later hb2)
    clear hr2 hl2 hb2 HL HRB HUE hls
    go_wp2_with fail
    refine (HRE.out _ HRB2.out).mono ?_
    rintro e w3 ⟨v3, ls3, rfl, hr3, hl3, hb3⟩
    obtain ⟨A3, hA3⟩ := hr3.form
    obtain ⟨c3, rfl⟩ := hA3
    have HB3 := Lib.hid (HB2.out.trans (hb3.mono HB2.out.size))
    have HL3 := Lib.hid (HL2.out.later hb3)
    have HRB3 := Lib.hid (HRB2.out.later hb3)
    clear hr3 hl3 hb3 HRE
    have i1 : ¬ (p : Int) < 0 := by omega
    go_wp2_with fail
    refine (intact_any Le A n c L _ hbt.out.len HL3.out HRB3.out (by omega)).mono ?_
    rintro e w5 ⟨rfl, k5, rfl⟩
    go_wp2_with fail
    refine (wakesE_any _).mono ?_
    rintro e w6 ⟨rfl, hb6⟩
    go_wp2_with fail
    go_ret
    have hA := below_drewN' HB3.out k5
    exact ⟨rfl, hA.trans (hb6.mono hA.size)⟩
end Go.Proofs.Ytbjneoeiognahaa

/-
  The walk of EventForms.
-/
import Derived.Test.YtcfkioopaplmiaaEvFormsOps
import Derived.Test.YtcfkioopaplmiaaEvWakes
import Derived.Test.YtcfkioopaplmiaaEvAll
import Derived.Test.YtcfkioopaplmiaaEvFormsMath
import Derived.Deep.LoopGhost
import Derived.Deep.DeepCutAuto
namespace Go.Proofs.Ytcfkioopaplmiaa
open Go.RowKit

/-- The events, and where their bytes lie. -/
def formMs (n path : Int) (D : List Int) (A : Option Addr) (c : Nat) : List EvM :=
  [⟨⟨1, 0, D, Pkt.zero⟩, A, c, none, 0⟩, ⟨⟨3, n, [], Pkt.zero⟩, none, 0, none, 0⟩, ⟨⟨4, 0, [], joinP path n⟩, none, 0, none, 0⟩, ⟨⟨5, 0, [], joinP path n⟩, none, 0, none, 0⟩, ⟨⟨6, 0, [], Pkt.zero⟩, none, 0, none, 0⟩,
    ⟨⟨7, path, [], Pkt.zero⟩, none, 0, none, 0⟩, ⟨⟨8, path, [], Pkt.zero⟩, none, 0, none, 0⟩, ⟨⟨2, 0, D, Pkt.zero⟩, A, c, none, 0⟩]
theorem formMs_e (n path : Int) (D : List Int) (A : Option Addr) (c : Nat) : (formMs n path D A c).map EvM.e = formA n path D ++ [formB D] := rfl
theorem formMs_at {w : World} {n path : Int} {D : List Int} {A : Option Addr} {c : Nat} (hn : 1 ≤ n ∧ n ≤ 63) (hp : 0 ≤ path ∧ path ≤ 2) (hr : Rd .u8 w A D) (hc : D.length ≤ c) (hl : D.length ≤ 41) (hA : A = none → c = 0) (hb : ∀ x ∈ D, 0 ≤ x ∧ x < 256) :
    ∀ m ∈ formMs n path D A c, m.at w := by
  have hz : PktAt w Pkt.zero none 0 := pktAt_bare _ _ _ _ _ _ _ _ _ (by omega) (by omega) (by omega) (by omega) (by omega) (by omega) (by omega)
  have hj : PktAt w (joinP path n) none 0 := pktAt_bare _ _ _ _ _ _ _ _ _ (by omega) (by omega) (by omega) (by omega) (by omega) (by omega) (by omega)
  intro m hm
  simp only [formMs, List.mem_cons, List.not_mem_nil, or_false] at hm
  rcases hm with rfl | rfl | rfl | rfl | rfl | rfl | rfl | rfl
  · exact ⟨hr, by simp; omega, hc, hA, hb, by simp, by simp, hz⟩
  · exact evAt_bare _ _ _ _ _ _ (by omega) (by omega) hz
  · exact evAt_bare _ _ _ _ _ _ (by omega) (by omega) hj
  · exact evAt_bare _ _ _ _ _ _ (by omega) (by omega) hj
  · exact evAt_bare _ _ _ _ _ _ (by omega) (by omega) hz
  · exact evAt_bare _ _ _ _ _ _ (by omega) (by omega) hz
  · exact evAt_bare _ _ _ _ _ _ (by omega) (by omega) hz
  · exact ⟨hr, by simp; omega, hc, hA, hb, by simp, by simp, hz⟩

set_option maxRecDepth 100000 in
set_option maxHeartbeats 8000000 in
set_option linter.unusedSimpArgs false in
set_option linter.unusedVariables false in
theorem eventForms_walk (a0 a1 : Int) (a2 : Option Addr) (len2 cap2 : Nat) (z2 : List Int) (W : World) (w0 : (Lit.int .i64 a0).wf = true) (w1 : (Lit.int .i64 a1).wf = true) (h2 : ArgI .u8 1 W a2 len2 cap2 z2) :
    Calls Try.prog 3 #[.int .i64 a0, .int .i64 a1, .slice a2 len2 cap2] W fun e W' => e = .returned (.bool true) ∧ Below W.heap.size W W' := by
  have hbz : ∀ x ∈ z2, 0 ≤ x ∧ x < 256 := fun x hx => wf_u8 (h2.wf x hx)
  have hw0 := wf_i64 w0
  have hw1 := wf_i64 w1
  obtain ⟨r, hr⟩ : ∃ r, a0 % 63 = r := ⟨_, rfl⟩
  obtain ⟨path, hpe⟩ : ∃ p, a1 % 3 = p := ⟨_, rfl⟩
  obtain ⟨n, hn⟩ : ∃ n, 1 + r = n := ⟨_, rfl⟩
  have hn1 : 1 ≤ n ∧ n ≤ 63 := by omega
  have hp1 : 0 ≤ path ∧ path ≤ 2 := by omega
  have hwr : IntKind.i64.wrap (1 + r) = n := by rw [IntKind.wrap_i64]; omega
  have hwn : IntKind.u8.wrap n = n := by rw [IntKind.wrap_u8]; omega
  have hwp : IntKind.u8.wrap path = path := by rw [IntKind.wrap_u8]; omega
  have hw0 := fun w => within_any a0 63 w (by omega) (by omega)
  have hw1 := fun w => within_any a1 3 w (by omega) (by omega)
  rw [hr] at hw0
  rw [hpe] at hw1
  have hcut := cut_any a2 len2 cap2 40 z2 W h2.len (by have := h2.le; omega) h2.rd (by have := h2.reach; have := h2.le; omega) (by omega) (by omega)
  obtain ⟨X, hX⟩ : ∃ X, z2.take (40 : Int).toNat = X := ⟨_, rfl⟩
  have hXl : X.length ≤ 40 := by rw [← hX]; simp; omega
  have hXb : ∀ x ∈ X, 0 ≤ x ∧ x < 256 := fun x hx => by rw [← hX] at hx; exact hbz x (List.mem_of_mem_take hx)
  rw [hX] at hcut
  clear hr hpe w0 w1 h2 hbz hX
  go_enter Try.func3, Try.ntmps3
  go_wp2_with fail
  refine (hw0 _).mono ?_
  rintro e w ⟨rfl, rfl⟩
  go_wp2_with fail
  refine (hw1 _).mono ?_
  rintro e w ⟨rfl, rfl⟩
  go_wp2_with fail
  clear hw0 hw1 hwr
  refine hcut.mono ?_
  rintro e wa ⟨A1, c1, rfl, ho1, hb1⟩
  clear hcut
  obtain ⟨D, hD⟩ : ∃ D, X ++ [5] = D := ⟨_, rfl⟩
  have hDl : X.length + 1 = D.length := by rw [← hD]; simp
  have hDb : ∀ x ∈ D, 0 ≤ x ∧ x < 256 := by
    intro x hx
    rw [← hD] at hx
    rcases List.mem_append.1 hx with h | h
    · exact hXb x h
    · simp at h; omega
  have hD1 : 1 ≤ D.length ∧ D.length ≤ 41 := by omega
  have hwd : IntKind.u8.wrap (D.length : Int) = (D.length : Int) := by rw [IntKind.wrap_u8]; omega
  have hb1' := hb1.trans ((below_alloc wa (.cells #[.int .u8 5] 5)).mono hb1.size)
  have hfive := Rd.one wa 5 5
  have ho1' := ho1.alloc (.cells #[.int .u8 5] 5)
  clear hXb hXl
  go_upto_region 5 with (at_builtin; refine wpList_app _ .u8 rfl (.tmp 27) (.tmp 28) 22 rfl 5 (.int .u8 0) 1 Try.underlying22 info_byte rfl W.heap.size (.slice A1 X.length c1) X rfl ho1' (some ⟨wa.heap.size, 0, none⟩) 1 1 rfl [5] rfl hfive (by unfold maxLen; omega) (by omega) hb1'.size ?_; intro A2 c2 w2 ho2 hg2; rw [hDl, hD] at ho2; rw [hDl]; have HB2 := Lib.hid (hb1'.grown hg2 hb1'.size (fun g hg => (ho1'.lt g hg).1)); have HO2 := Lib.hid ho2; have hcap2 := ho2.cap; have hnil2 := fun e => (ho2.none_len e).1; clear ho2 hg2 ho1' hb1' hfive ho1 hb1 hD hDl)
  have hP := below_alloc w2 (.cells #[.int .i64 1, .int .i64 path, .int .i64 n, .int .i64 0, .int .i64 0, .slice none 0 0, .bool false, .int .i64 0, .int .i64 0] 26)
  obtain ⟨wp, hwpk⟩ : ∃ wp, w2.alloc (.cells #[.int .i64 1, .int .i64 path, .int .i64 n, .int .i64 0, .int .i64 0, .slice none 0 0, .bool false, .int .i64 0, .int .i64 0] 26) = wp := ⟨_, rfl⟩
  have hs1 : w2.heap.size + 1 = wp.heap.size := by rw [← hwpk]; simp
  rw [hwpk] at hP
  have hat := formMs_at hn1 hp1 (HO2.out.later hP).rd hcap2 hD1.2 hnil2 hDb
  rw [hwpk, hs1]
  clear hwpk hs1
  generalize hw4 : wp.alloc _ = w4
  have hev : Evs w4 (some ⟨wp.heap.size, 0, none⟩) (formMs n path D A2 c2) := by
    rw [← hw4]
    exact Evs.new wp (formMs n path D A2 c2) 28 hat
  have hE : Below wp.heap.size wp w4 := by
    rw [← hw4]
    exact below_alloc _ _
  clear hw4 hat
  have HO4 := Lib.hid ((HO2.out.later hP).later hE)
  have HB4 := Lib.hid (HB2.out.trans ((hP.trans (hE.mono hP.size)).mono HB2.out.size))
  obtain ⟨qe, hqe⟩ : ∃ q, wp.heap.size = q := ⟨_, rfl⟩
  rw [hqe] at hev ⊢
  have HEV := Lib.hid hev
  clear hP hE hev hqe HO2 HB2
  have hown := Own.new w4 [1, (D.length : Int)] 5 (by simp [maxLen])
  have hba := below_alloc w4 (.cells (bts [1, (D.length : Int)]) 5)
  obtain ⟨P1, hP1⟩ : ∃ P1, [1, (D.length : Int)] ++ D = P1 := ⟨_, rfl⟩
  have hl1 : [1, (D.length : Int)].length + D.length = P1.length := by rw [← hP1]; simp; omega
  have hl1' : P1.length = D.length + 2 := by rw [← hP1]; simp
  obtain ⟨P2, hP2⟩ : ∃ P2, P1 ++ formM n path D.length = P2 := ⟨_, rfl⟩
  have hl2 : P1.length + 17 = P2.length := by rw [← hP2]; simp [formM]
  obtain ⟨P3, hP3⟩ : ∃ P3, P2 ++ D = P3 := ⟨_, rfl⟩
  have hl3 : P2.length + D.length = P3.length := by rw [← hP3]; simp
  have HP1 := Lib.hid hP1
  have HP2 := Lib.hid hP2
  have HP3 := Lib.hid hP3
  have HL0 := Lib.hid hl1
  have HL1 := Lib.hid hl1'
  have HL2 := Lib.hid hl2
  have HL3 := Lib.hid hl3
  clear hP1 hP2 hP3 hl1 hl1' hl2 hl3
  go_upto_region 6 with (at_builtin; refine wpList_app _ .u8 rfl (.tmp 52) (.tmp 53) 22 rfl 5 (.int .u8 0) 1 Try.underlying22 info_byte rfl w4.heap.size _ [1, (D.length : Int)] rfl hown A2 D.length c2 rfl D rfl (HO4.out.later hba).rd (by simp [maxLen]; omega) (by simp; omega) hba.size ?_; intro A3 c3 w3 ho3 hg3; rw [HL0.out, HP1.out] at ho3; rw [HL0.out]; have HO3 := Lib.hid ho3; have HB3 := Lib.hid (hba.grown hg3 hba.size (fun g hg => (hown.lt g hg).1)); clear hown hba ho3 hg3)
  go_upto_region 7 with (at_builtin; generalize hwx : w3.alloc _ = wx; have hrm : Rd .u8 wx (some ⟨w3.heap.size, 0, none⟩) (formM n path D.length) := (by rw [← hwx]; exact Rd.new w3 _ _); have hba : Below w3.heap.size w3 wx := (by rw [← hwx]; exact below_alloc _ _); clear hwx; refine wpList_app wx .u8 rfl (.tmp 55) (.tmp 73) 22 rfl 5 (.int .u8 0) 1 Try.underlying22 info_byte rfl w4.heap.size (.slice A3 P1.length c3) P1 rfl (HO3.out.later hba) _ 17 17 rfl (formM n path D.length) rfl hrm (by have := HL1.out; unfold maxLen; omega) (by have := HL1.out; omega) (by have := HB3.out.size; have := hba.size; omega) ?_; intro A5 c5 w5 ho5 hg5; rw [HL2.out, HP2.out] at ho5; rw [HL2.out]; have HO5 := Lib.hid ho5; have HB5 := Lib.hid (((HB3.out.trans (hba.mono HB3.out.size))).grown hg5 (by have := HB3.out.size; have := hba.size; omega) (fun g hg => (HO3.out.lt g hg).1)); clear hba hrm ho5 hg5 HO3 HB3)
  have hdd := (HO4.out.later (HB5.out.mono (Nat.le_refl _))).rd
  go_upto_region 9 with (at_builtin; refine wpList_app _ .u8 rfl (.tmp 77) (.tmp 78) 22 rfl 5 (.int .u8 0) 1 Try.underlying22 info_byte rfl w4.heap.size (.slice A5 P2.length c5) P2 rfl HO5.out A2 D.length c2 rfl D rfl hdd (by have := HL1.out; have := HL2.out; unfold maxLen; omega) (by have := HL1.out; have := HL2.out; omega) HB5.out.size ?_; intro A6 c6 w6 ho6 hg6; rw [HL3.out, HP3.out] at ho6; rw [HL3.out]; have HO6 := Lib.hid ho6; have HB6 := Lib.hid (HB5.out.grown hg6 HB5.out.size (fun g hg => (HO5.out.lt g hg).1)); clear hdd ho6 hg6 HO5 HB5)
  have hpack : packL (formA n path D ++ [formB D]) = P3 := by rw [form_pack hn1 hp1 hD1, HP1.out, HP2.out, HP3.out]
  have hokA := form_all hn1 hp1 hD1
  have hl9 : P3.length ≤ 200 := by have := HL1.out; have := HL2.out; have := HL3.out; omega
  have hb9 : ∀ x ∈ P3, 0 ≤ x ∧ x < 256 := by
    rw [← hpack]
    refine packL_bytes hokA (fun e he => ?_)
    simp only [formA, formB, joinP, Pkt.zero, List.cons_append, List.nil_append, List.mem_cons, List.not_mem_nil, or_false] at he
    rcases he with rfl | rfl | rfl | rfl | rfl | rfl | rfl | rfl <;> simp <;> (try exact hDb)
  have hev6 := HEV.out.later (HB6.out.mono (Nat.le_refl _))
  have hpk := packE_any (formMs n path D A2 c2) (some ⟨qe, 0, none⟩) 8 w6 hev6 (by simp [formMs]) (by rw [formMs_e, hpack]; omega)
  rw [formMs_e, show packO (formA n path D ++ [formB D]) = P3 by unfold packO; rw [if_pos (okL_of hokA), hpack], if_pos (okL_of hokA)] at hpk
  have hue : unE P3 (P3.length + 1) 0 [] = (formA n path D ++ [formB D], 0, true) := by
    have := unE_at (formA n path D ++ [formB D]) (P3.length + 1) 0 P3 [] hokA (Nat.zero_le _) (by rw [List.drop_zero, hpack]) (by have := packL_ge (formA n path D ++ [formB D]); rw [hpack] at this; omega)
    simpa using this
  have HPK := Lib.hid hpk
  have HUE := Lib.hid hue
  have HB9 := Lib.hid hb9
  have HEV6 := Lib.hid hev6
  have HL9 := Lib.hid hl9
  clear hpack hokA hl9 hb9 hev6 hpk hue HEV
  go_wp2_with fail
  refine HPK.out.mono ?_
  rintro e w7 ⟨A7, c7, rfl, ho7, hb7⟩
  have HB7 := Lib.hid (HB6.out.trans (hb7.mono HB6.out.size))
  have HO6' := Lib.hid (HO6.out.later hb7)
  have HO7 := Lib.hid ho7
  have HE7 := Lib.hid (HEV6.out.later hb7)
  have hun := unpackE_any A6 P3.length c6 P3 w7 rfl HO6'.out.rd (by have := HL9.out; omega) HO6'.out.none_len HB9.out
  rw [HUE.out] at hun
  simp only [if_true] at hun
  have HUN := Lib.hid hun
  clear hun ho7 hb7 HPK HEV6 HO6 HB6
  go_wp2_with fail
  refine HUN.out.mono ?_
  rintro e w8 ⟨v8, ls8, rfl, hr8, hl8, hb8⟩
  obtain ⟨A8, hA8⟩ := hr8.form
  obtain ⟨c8, rfl⟩ := hA8
  have HB8 := Lib.hid (HB7.out.trans (hb8.mono HB7.out.size))
  have HO8 := Lib.hid (HO6'.out.later hb8)
  have HS8 := Lib.hid (HO7.out.later hb8)
  have hal := fun k => allE_any ls8 (formMs n path D A2 c2) A8 (some ⟨qe, 0, none⟩) c8 8 (w8.drewN k) (hr8.evs.drewN k) ((HE7.out.later hb8).drewN k) (by
    have := congrArg List.length hl8
    simp [formA] at this
    unfold maxLen
    omega)
  have hd9 : decide (ls8.map EvM.e = (formMs n path D A2 c2).map EvM.e) = true := by rw [hl8, formMs_e]; simp
  rw [hd9] at hal
  have HAL := Lib.hid hal
  clear hal hd9 hr8 hl8 hb8 HUN HO6' HO7 HE7 HB7
  go_wp2_with fail
  refine (same_true P3 rfl rfl HS8.out.rd HO8.out.rd (by have := HL9.out; unfold maxLen; omega)).mono ?_
  rintro e w9 ⟨rfl, kq, rfl⟩
  go_wp2_with fail
  refine (HAL.out kq).mono ?_
  rintro e w10 ⟨rfl, hb10⟩
  have hb8 := below_drewN' (Below.refl w8.heap.size w8) kq
  have hO := Lib.hid ((HO8.out.later hb8).later hb10)
  have HB10 := Lib.hid (HB8.out.trans ((hb8.trans (hb10.mono hb8.size)).mono HB8.out.size))
  have hcap : P2.length ≤ c6 := by have := hO.out.cap; have := HL3.out; omega
  have hlen1 : P3.length ≤ 200 := HL9.out
  have hlen2 : 20 < P3.length := by have := HL1.out; have := HL2.out; have := HL3.out; omega
  have hlen3 : P2.length ≤ 200 := by have := HL3.out; omega
  have hP32 : P3.take P2.length = P2 := by rw [← HP3.out]; simp
  have hnil6 : A6 = none → c6 = 0 := fun e => (hO.out.none_len e).1
  have hnil7 : A6 = none → P2.length = 0 := fun e => by have := (hO.out.none_len e).2; have := HL3.out; omega
  obtain ⟨at1, hat1⟩ : ∃ at1 : Nat, D.length + 17 = at1 := ⟨_, rfl⟩
  have hat2 : (P2.length : Int) - 2 = (at1 : Int) := by have := HL1.out; have := HL2.out; omega
  have HAT := Lib.hid hat1
  clear hb8 hb10 HAL HO8 HB8 HS8 hat1
  go_upto_region 13 with fail
  refine region_app (w := w10) 32 113 25 (formY w10.heap.size A6 c6 P2 P3 at1) w10 (by kernel_rfl) ?_ (by rfl) (by kernel_rfl) rfl (Below.refl _ _) ?_ ?_
  · show 145 ≤ 170
    omega
  · intro t0 ht0 hc listed a w Q' h
    have h9 : t0.getD 9 undef = .slice A6 P3.length c6 := (ht0 9).trans rfl
    have h10 : t0.getD 10 undef = .int .i64 (P2.length : Int) := (ht0 10).trans rfl
    clear ht0
    refine lt_cases (n := 31) ?_ ?_
    rotate_left
    · intro hnot hi3
      have r := hi3 _ rfl
      refine AnyI.gofl h (i := 31) (v := .int .i64 0) (w' := w) rfl rfl rfl (by omega) (by omega) (by omega) ?_ ?_ (Below.refl _ _)
      · exact ex_move rfl rfl
      · rfl
    refine lt_cases (n := 30) ?_ ?_
    rotate_left
    · intro hnot hi3
      have r := hi3 _ rfl
      obtain ⟨_, g, e142', _⟩ := h.val 29 (r ⟨29, .data⟩ (by simp) rfl)
      have e142 : a.eval (.tmp 142) = _ := e142'
      refine AnyI.gofl h (i := 30) (v := .int .i64 10) (w' := w) rfl rfl rfl (by omega) (by omega) (by omega) ?_ ?_ (Below.refl _ _)
      · exact ex_len rfl ⟨_, Try.underlying39⟩ e142
      · rfl
    refine lt_cases (n := 29) ?_ ?_
    rotate_left
    · intro hnot hi3
      have r := hi3 _ rfl
      obtain ⟨b0, _, _, e114', q0⟩ := h.val 1 (r ⟨1, .data⟩ (by simp) rfl)
      have e114 : a.eval (.tmp 114) = _ := e114'
      obtain ⟨b1, _, _, e116', q1⟩ := h.val 3 (r ⟨3, .data⟩ (by simp) rfl)
      have e116 : a.eval (.tmp 116) = _ := e116'
      obtain ⟨b2, _, _, e118', q2⟩ := h.val 5 (r ⟨5, .data⟩ (by simp) rfl)
      have e118 : a.eval (.tmp 118) = _ := e118'
      obtain ⟨b3, _, _, e120', q3⟩ := h.val 7 (r ⟨7, .data⟩ (by simp) rfl)
      have e120 : a.eval (.tmp 120) = _ := e120'
      obtain ⟨b4, _, _, e122', q4⟩ := h.val 9 (r ⟨9, .data⟩ (by simp) rfl)
      have e122 : a.eval (.tmp 122) = _ := e122'
      obtain ⟨b5, _, _, e124', q5⟩ := h.val 11 (r ⟨11, .data⟩ (by simp) rfl)
      have e124 : a.eval (.tmp 124) = _ := e124'
      obtain ⟨b6, _, _, e126', q6⟩ := h.val 13 (r ⟨13, .data⟩ (by simp) rfl)
      have e126 : a.eval (.tmp 126) = _ := e126'
      obtain ⟨b7, _, _, e128', q7⟩ := h.val 15 (r ⟨15, .data⟩ (by simp) rfl)
      have e128 : a.eval (.tmp 128) = _ := e128'
      have e134 : a.eval (.tmp 134) = _ := h.val 21 (r ⟨21, .data⟩ (by simp) rfl)
      obtain ⟨hd, A, c, e141', ho⟩ := h.val 28 (r ⟨28, .data⟩ (by simp) rfl)
      have e141 : a.eval (.tmp 141) = _ := e141'
      have hrd2 : Rd .u8 w A6 P2 := by
        have h9 := (hO.out.later (h.r.mono (Nat.le_refl _))).rd.take P2.length
        rwa [hP32] at h9
      refine AnyI.gofl h (i := 29) (v := .slice (some ⟨w.heap.size, 0, none⟩) 10 10) (w' := w.alloc (.cells (bes [⟨some ⟨b0, 0, none⟩, 1, 1, 0⟩, ⟨some ⟨b1, 0, none⟩, 1, 1, 0⟩, ⟨some ⟨b2, 0, none⟩, 1, 1, 0⟩, ⟨some ⟨b3, 0, none⟩, 2, 2, 0⟩, ⟨some ⟨b4, 0, none⟩, 2, 2, 0⟩, ⟨some ⟨b5, 0, none⟩, 2, 2, 0⟩, ⟨some ⟨b6, 0, none⟩, 4, 4, 0⟩, ⟨some ⟨b7, 0, none⟩, 4, 4, 3⟩, ⟨A6, P2.length, c6, (at1 : Int)⟩, ⟨A, (P3 ++ [200]).length, c, (P3.length : Int)⟩]).toArray 37)) rfl rfl rfl (by omega) (by omega) (by omega) ?_ ?_ (below_alloc _ _)
      · have hx := fun (o : Oper) (ho : o.op = .buildSlice 39 10 #[(0, .tmp 114), (1, .tmp 116), (2, .tmp 118), (3, .tmp 120), (4, .tmp 122), (5, .tmp 124), (6, .tmp 126), (7, .tmp 128), (8, .tmp 134), (9, .tmp 141)]) hp => ex_lit2 (a := a) (w := w) (P := Try.prog) (st := 39) (et := 37) (k := 10) (o := o) ho Try.underlying39 info_row [⟨some ⟨b0, 0, none⟩, 1, 1, 0⟩, ⟨some ⟨b1, 0, none⟩, 1, 1, 0⟩, ⟨some ⟨b2, 0, none⟩, 1, 1, 0⟩, ⟨some ⟨b3, 0, none⟩, 2, 2, 0⟩, ⟨some ⟨b4, 0, none⟩, 2, 2, 0⟩, ⟨some ⟨b5, 0, none⟩, 2, 2, 0⟩, ⟨some ⟨b6, 0, none⟩, 4, 4, 0⟩, ⟨some ⟨b7, 0, none⟩, 4, 4, 3⟩, ⟨A6, P2.length, c6, (at1 : Int)⟩, ⟨A, (P3 ++ [200]).length, c, (P3.length : Int)⟩] rfl (by decide) (by decide) hp
        refine hx _ rfl ?_
        show [(0, a.eval (.tmp 114)), (1, a.eval (.tmp 116)), (2, a.eval (.tmp 118)), (3, a.eval (.tmp 120)), (4, a.eval (.tmp 122)), (5, a.eval (.tmp 124)), (6, a.eval (.tmp 126)), (7, a.eval (.tmp 128)), (8, a.eval (.tmp 134)), (9, a.eval (.tmp 141))] = _
        rw [e114, e116, e118, e120, e122, e124, e126, e128, e134, e141]
        rfl
      · refine ⟨hd, w.heap.size, rfl, tbl_of _ ?_⟩
        unfold badT
        simp only [Bes]
        exact ⟨⟨by first | trivial | rfl, by first | trivial | rfl, rd_heap q0, fun e => by cases e⟩, ⟨by first | trivial | rfl, by first | trivial | rfl, rd_heap q1, fun e => by cases e⟩, ⟨by first | trivial | rfl, by first | trivial | rfl, rd_heap q2, fun e => by cases e⟩, ⟨by first | trivial | rfl, by first | trivial | rfl, rd_heap q3, fun e => by cases e⟩, ⟨by first | trivial | rfl, by first | trivial | rfl, rd_heap q4, fun e => by cases e⟩, ⟨by first | trivial | rfl, by first | trivial | rfl, rd_heap q5, fun e => by cases e⟩, ⟨by first | trivial | rfl, by first | trivial | rfl, rd_heap q6, fun e => by cases e⟩, ⟨by first | trivial | rfl, by first | trivial | rfl, rd_heap q7, fun e => by cases e⟩, ⟨by first | trivial | rfl, by first | trivial | rfl, hrd2, fun e => ⟨hnil6 e, hnil7 e⟩⟩, ⟨by first | trivial | rfl, by first | trivial | rfl, ho.rd, ho.none_len⟩, trivial⟩
    refine lt_cases (n := 28) ?_ ?_
    rotate_left
    · intro hnot hi3
      have r := hi3 _ rfl
      obtain ⟨hd, A, c, e', hh⟩ := h.val 25 (r ⟨25, .data⟩ (by simp) rfl)
      have e138 : a.eval (.tmp 138) = _ := e'
      have e140 : a.eval (.tmp 140) = _ := h.val 27 (r ⟨27, .data⟩ (by simp) rfl)
      refine AnyI.gofl h (i := 28) (v := .agg #[.slice A (P3 ++ [200]).length c, .int .i64 (P3.length : Int)]) (w' := w) rfl rfl rfl (by omega) (by omega) (by omega) ?_ ?_ (Below.refl _ _)
      · refine ex_build rfl (pv := [(0, .slice A (P3 ++ [200]).length c), (1, .int .i64 (P3.length : Int))]) (by
          show [(0, a.eval (.tmp 138)), (1, a.eval (.tmp 140))] = _
          rw [e138, e140]) ?_
        kernel_rfl
      · exact ⟨hd, A, c, rfl, hh⟩
    refine lt_cases (n := 27) ?_ ?_
    rotate_left
    · intro hnot hi3
      have r := hi3 _ rfl
      have e139 : a.eval (.tmp 139) = _ := h.val 26 (r ⟨26, .data⟩ (by simp) rfl)
      refine AnyI.gofl h (i := 27) (v := .int .i64 (P3.length : Int)) (w' := w) rfl rfl rfl (by omega) (by omega) (by omega) ?_ ?_ (Below.refl _ _)
      · exact ex_len rfl ⟨_, Try.underlying22⟩ e139
      · rfl
    refine lt_cases (n := 26) ?_ ?_
    rotate_left
    · intro hnot hi3
      have r := hi3 _ rfl
      refine AnyI.gofl h (i := 26) (v := .slice A6 P3.length c6) (w' := w) rfl rfl rfl (by omega) (by omega) (by omega) ?_ ?_ (Below.refl _ _)
      · have e9 : a.eval (.tmp 9) = _ := (h.old 9 (by omega)).trans h9
        exact ex_move rfl e9
      · rfl
    refine lt_cases (n := 25) ?_ ?_
    rotate_left
    · intro hnot hi3
      have r := hi3 _ rfl
      have h0 : listed.getD 25 false = false := by
        rw [Array.getD_eq_getD_getElem?] at hnot ⊢
        cases h9 : listed[25]? with
        | none => rfl
        | some z => rw [h9] at hnot; exact hnot
      obtain ⟨A, c, e', ho⟩ := h.val 23 (r ⟨23, .data⟩ (by simp) rfl) h0
      have e136 : a.eval (.tmp 136) = _ := e'
      obtain ⟨b, tt, fr, e2', hh⟩ := h.val 24 (r ⟨24, .data⟩ (by simp) rfl)
      have e137 : a.eval (.tmp 137) = _ := e2'
      refine AnyI.goapp2 h rfl (.tmp 136) (.tmp 137) rfl rfl rfl (by omega) (by omega) hnot e136 e137 ho rfl (rd_heap hh) (by simp; omega) ?_ ?_
      · obtain ⟨g, hgA, _⟩ := ho.block (by omega)
        subst hgA
        exact fun w' hg => gr_of ho (by omega) hg
      · intro A2 c2 w2 ho2
        have hl : P3.length + [(200 : Int)].length = (P3 ++ [200]).length := by simp
        rw [hl] at ho2
        exact ⟨rfl, A2, c2, by rw [← hl], ho2⟩
    refine lt_cases (n := 24) ?_ ?_
    rotate_left
    · intro hnot hi3
      have r := hi3 _ rfl
      refine AnyI.gofl h (i := 24) (v := .slice (some ⟨w.heap.size, 0, none⟩) 1 1) (w' := w.alloc (.cells (bts [200]) 5)) rfl rfl rfl (by omega) (by omega) (by omega) ?_ ?_ (below_alloc _ _)
      · exact ex_bytes rfl [200] rfl (by omega) (by omega) rfl
      · exact ⟨_, _, _, rfl, heap_alloc_new w _⟩
    refine lt_cases (n := 23) ?_ ?_
    rotate_left
    · intro hnot hi3
      have r := hi3 _ rfl
      have e135 : a.eval (.tmp 135) = _ := h.val 22 (r ⟨22, .data⟩ (by simp) rfl)
      refine AnyI.gocall h (i := 23) rfl rfl rfl (by omega) (by omega) (by omega) (ex_call rfl e135) (copy_any A6 P3.length c6 P3 w rfl (hO.out.later (h.r.mono (Nat.le_refl _))).rd (by omega)) ?_
      rintro e w' ⟨A', c', rfl, ho, hb⟩
      exact ⟨_, rfl, fun _ => ⟨A', c', rfl, ho.less h.r.size⟩, hb⟩
    refine lt_cases (n := 22) ?_ ?_
    rotate_left
    · intro hnot hi3
      have r := hi3 _ rfl
      refine AnyI.gofl h (i := 22) (v := .slice A6 P3.length c6) (w' := w) rfl rfl rfl (by omega) (by omega) (by omega) ?_ ?_ (Below.refl _ _)
      · have e9 : a.eval (.tmp 9) = _ := (h.old 9 (by omega)).trans h9
        exact ex_move rfl e9
      · rfl
    refine lt_cases (n := 21) ?_ ?_
    rotate_left
    · intro hnot hi3
      have r := hi3 _ rfl
      have e131 : a.eval (.tmp 131) = _ := h.val 18 (r ⟨18, .data⟩ (by simp) rfl)
      have e133 : a.eval (.tmp 133) = _ := h.val 20 (r ⟨20, .data⟩ (by simp) rfl)
      refine AnyI.gofl h (i := 21) (v := .agg #[.slice A6 P2.length c6, .int .i64 (at1 : Int)]) (w' := w) rfl rfl rfl (by omega) (by omega) (by omega) ?_ ?_ (Below.refl _ _)
      · refine ex_build rfl (pv := [(0, .slice A6 P2.length c6), (1, .int .i64 (at1 : Int))]) (by
          show [(0, a.eval (.tmp 131)), (1, a.eval (.tmp 133))] = _
          rw [e131, e133]) ?_
        kernel_rfl
      · rfl
    refine lt_cases (n := 20) ?_ ?_
    rotate_left
    · intro hnot hi3
      have r := hi3 _ rfl
      have e132 : a.eval (.tmp 132) = _ := h.val 19 (r ⟨19, .data⟩ (by simp) rfl)
      refine AnyI.gofl h (i := 20) (v := .int .i64 (at1 : Int)) (w' := w) rfl rfl rfl (by omega) (by omega) (by omega) ?_ ?_ (Below.refl _ _)
      · rw [← hat2]
        exact ex_sub rfl e132 rfl (by omega) (by omega)
      · rfl
    refine lt_cases (n := 19) ?_ ?_
    rotate_left
    · intro hnot hi3
      have r := hi3 _ rfl
      refine AnyI.gofl h (i := 19) (v := .int .i64 (P2.length : Int)) (w' := w) rfl rfl rfl (by omega) (by omega) (by omega) ?_ ?_ (Below.refl _ _)
      · have e10 : a.eval (.tmp 10) = _ := (h.old 10 (by omega)).trans h10
        exact ex_move rfl e10
      · rfl
    refine lt_cases (n := 18) ?_ ?_
    rotate_left
    · intro hnot hi3
      have r := hi3 _ rfl
      have e129 : a.eval (.tmp 129) = _ := h.val 16 (r ⟨16, .data⟩ (by simp) rfl)
      have e130 : a.eval (.tmp 130) = _ := h.val 17 (r ⟨17, .data⟩ (by simp) rfl)
      refine AnyI.gofl h (i := 18) (v := .slice A6 P2.length c6) (w' := w) rfl rfl rfl (by omega) (by omega) (by omega) ?_ ?_ (Below.refl _ _)
      · exact ex_cut rfl e129 e130 hcap
      · rfl
    refine lt_cases (n := 17) ?_ ?_
    rotate_left
    · intro hnot hi3
      have r := hi3 _ rfl
      refine AnyI.gofl h (i := 17) (v := .int .i64 (P2.length : Int)) (w' := w) rfl rfl rfl (by omega) (by omega) (by omega) ?_ ?_ (Below.refl _ _)
      · have e10 : a.eval (.tmp 10) = _ := (h.old 10 (by omega)).trans h10
        exact ex_move rfl e10
      · rfl
    refine lt_cases (n := 16) ?_ ?_
    rotate_left
    · intro hnot hi3
      have r := hi3 _ rfl
      refine AnyI.gofl h (i := 16) (v := .slice A6 P3.length c6) (w' := w) rfl rfl rfl (by omega) (by omega) (by omega) ?_ ?_ (Below.refl _ _)
      · have e9 : a.eval (.tmp 9) = _ := (h.old 9 (by omega)).trans h9
        exact ex_move rfl e9
      · rfl
    refine lt_cases (n := 15) ?_ ?_
    rotate_left
    · intro hnot hi3
      have r := hi3 _ rfl
      obtain ⟨b, tt, fr, e', hh⟩ := h.val 14 (r ⟨14, .data⟩ (by simp) rfl)
      have e127 : a.eval (.tmp 127) = _ := e'
      refine AnyI.gofl h (i := 15) (v := .agg #[.slice (some ⟨b, 0, none⟩) [6, 6, 6, 3].length [6, 6, 6, 3].length, .int .i64 3]) (w' := w) rfl rfl rfl (by omega) (by omega) (by omega) ?_ ?_ (Below.refl _ _)
      · refine ex_build rfl (pv := [(0, .slice (some ⟨b, 0, none⟩) [6, 6, 6, 3].length [6, 6, 6, 3].length), (1, .int .i64 3)]) (by
          show [(0, a.eval (.tmp 127)), (1, a.eval (.const (.int .i64 3)))] = _
          rw [e127]; rfl) ?_
        kernel_rfl
      · exact ⟨b, tt, fr, rfl, hh⟩
    refine lt_cases (n := 14) ?_ ?_
    rotate_left
    · intro hnot hi3
      have r := hi3 _ rfl
      refine AnyI.gofl h (i := 14) (v := .slice (some ⟨w.heap.size, 0, none⟩) 4 4) (w' := w.alloc (.cells (bts [6, 6, 6, 3]) 5)) rfl rfl rfl (by omega) (by omega) (by omega) ?_ ?_ (below_alloc _ _)
      · exact ex_bytes rfl [6, 6, 6, 3] rfl (by omega) (by omega) rfl
      · exact ⟨_, _, _, rfl, heap_alloc_new w _⟩
    refine lt_cases (n := 13) ?_ ?_
    rotate_left
    · intro hnot hi3
      have r := hi3 _ rfl
      obtain ⟨b, tt, fr, e', hh⟩ := h.val 12 (r ⟨12, .data⟩ (by simp) rfl)
      have e125 : a.eval (.tmp 125) = _ := e'
      refine AnyI.gofl h (i := 13) (v := .agg #[.slice (some ⟨b, 0, none⟩) [4, 9, 0, 0].length [4, 9, 0, 0].length, .int .i64 0]) (w' := w) rfl rfl rfl (by omega) (by omega) (by omega) ?_ ?_ (Below.refl _ _)
      · refine ex_build rfl (pv := [(0, .slice (some ⟨b, 0, none⟩) [4, 9, 0, 0].length [4, 9, 0, 0].length), (1, .int .i64 0)]) (by
          show [(0, a.eval (.tmp 125)), (1, a.eval (.const (.int .i64 0)))] = _
          rw [e125]; rfl) ?_
        kernel_rfl
      · exact ⟨b, tt, fr, rfl, hh⟩
    refine lt_cases (n := 12) ?_ ?_
    rotate_left
    · intro hnot hi3
      have r := hi3 _ rfl
      refine AnyI.gofl h (i := 12) (v := .slice (some ⟨w.heap.size, 0, none⟩) 4 4) (w' := w.alloc (.cells (bts [4, 9, 0, 0]) 5)) rfl rfl rfl (by omega) (by omega) (by omega) ?_ ?_ (below_alloc _ _)
      · exact ex_bytes rfl [4, 9, 0, 0] rfl (by omega) (by omega) rfl
      · exact ⟨_, _, _, rfl, heap_alloc_new w _⟩
    refine lt_cases (n := 11) ?_ ?_
    rotate_left
    · intro hnot hi3
      have r := hi3 _ rfl
      obtain ⟨b, tt, fr, e', hh⟩ := h.val 10 (r ⟨10, .data⟩ (by simp) rfl)
      have e123 : a.eval (.tmp 123) = _ := e'
      refine AnyI.gofl h (i := 11) (v := .agg #[.slice (some ⟨b, 0, none⟩) [7, 3].length [7, 3].length, .int .i64 0]) (w' := w) rfl rfl rfl (by omega) (by omega) (by omega) ?_ ?_ (Below.refl _ _)
      · refine ex_build rfl (pv := [(0, .slice (some ⟨b, 0, none⟩) [7, 3].length [7, 3].length), (1, .int .i64 0)]) (by
          show [(0, a.eval (.tmp 123)), (1, a.eval (.const (.int .i64 0)))] = _
          rw [e123]; rfl) ?_
        kernel_rfl
      · exact ⟨b, tt, fr, rfl, hh⟩
    refine lt_cases (n := 10) ?_ ?_
    rotate_left
    · intro hnot hi3
      have r := hi3 _ rfl
      refine AnyI.gofl h (i := 10) (v := .slice (some ⟨w.heap.size, 0, none⟩) 2 2) (w' := w.alloc (.cells (bts [7, 3]) 5)) rfl rfl rfl (by omega) (by omega) (by omega) ?_ ?_ (below_alloc _ _)
      · exact ex_bytes rfl [7, 3] rfl (by omega) (by omega) rfl
      · exact ⟨_, _, _, rfl, heap_alloc_new w _⟩
    refine lt_cases (n := 9) ?_ ?_
    rotate_left
    · intro hnot hi3
      have r := hi3 _ rfl
      obtain ⟨b, tt, fr, e', hh⟩ := h.val 8 (r ⟨8, .data⟩ (by simp) rfl)
      have e121 : a.eval (.tmp 121) = _ := e'
      refine AnyI.gofl h (i := 9) (v := .agg #[.slice (some ⟨b, 0, none⟩) [3, 0].length [3, 0].length, .int .i64 0]) (w' := w) rfl rfl rfl (by omega) (by omega) (by omega) ?_ ?_ (Below.refl _ _)
      · refine ex_build rfl (pv := [(0, .slice (some ⟨b, 0, none⟩) [3, 0].length [3, 0].length), (1, .int .i64 0)]) (by
          show [(0, a.eval (.tmp 121)), (1, a.eval (.const (.int .i64 0)))] = _
          rw [e121]; rfl) ?_
        kernel_rfl
      · exact ⟨b, tt, fr, rfl, hh⟩
    refine lt_cases (n := 8) ?_ ?_
    rotate_left
    · intro hnot hi3
      have r := hi3 _ rfl
      refine AnyI.gofl h (i := 8) (v := .slice (some ⟨w.heap.size, 0, none⟩) 2 2) (w' := w.alloc (.cells (bts [3, 0]) 5)) rfl rfl rfl (by omega) (by omega) (by omega) ?_ ?_ (below_alloc _ _)
      · exact ex_bytes rfl [3, 0] rfl (by omega) (by omega) rfl
      · exact ⟨_, _, _, rfl, heap_alloc_new w _⟩
    refine lt_cases (n := 7) ?_ ?_
    rotate_left
    · intro hnot hi3
      have r := hi3 _ rfl
      obtain ⟨b, tt, fr, e', hh⟩ := h.val 6 (r ⟨6, .data⟩ (by simp) rfl)
      have e119 : a.eval (.tmp 119) = _ := e'
      refine AnyI.gofl h (i := 7) (v := .agg #[.slice (some ⟨b, 0, none⟩) [1, 0].length [1, 0].length, .int .i64 0]) (w' := w) rfl rfl rfl (by omega) (by omega) (by omega) ?_ ?_ (Below.refl _ _)
      · refine ex_build rfl (pv := [(0, .slice (some ⟨b, 0, none⟩) [1, 0].length [1, 0].length), (1, .int .i64 0)]) (by
          show [(0, a.eval (.tmp 119)), (1, a.eval (.const (.int .i64 0)))] = _
          rw [e119]; rfl) ?_
        kernel_rfl
      · exact ⟨b, tt, fr, rfl, hh⟩
    refine lt_cases (n := 6) ?_ ?_
    rotate_left
    · intro hnot hi3
      have r := hi3 _ rfl
      refine AnyI.gofl h (i := 6) (v := .slice (some ⟨w.heap.size, 0, none⟩) 2 2) (w' := w.alloc (.cells (bts [1, 0]) 5)) rfl rfl rfl (by omega) (by omega) (by omega) ?_ ?_ (below_alloc _ _)
      · exact ex_bytes rfl [1, 0] rfl (by omega) (by omega) rfl
      · exact ⟨_, _, _, rfl, heap_alloc_new w _⟩
    refine lt_cases (n := 5) ?_ ?_
    rotate_left
    · intro hnot hi3
      have r := hi3 _ rfl
      obtain ⟨b, tt, fr, e', hh⟩ := h.val 4 (r ⟨4, .data⟩ (by simp) rfl)
      have e117 : a.eval (.tmp 117) = _ := e'
      refine AnyI.gofl h (i := 5) (v := .agg #[.slice (some ⟨b, 0, none⟩) [1].length [1].length, .int .i64 0]) (w' := w) rfl rfl rfl (by omega) (by omega) (by omega) ?_ ?_ (Below.refl _ _)
      · refine ex_build rfl (pv := [(0, .slice (some ⟨b, 0, none⟩) [1].length [1].length), (1, .int .i64 0)]) (by
          show [(0, a.eval (.tmp 117)), (1, a.eval (.const (.int .i64 0)))] = _
          rw [e117]; rfl) ?_
        kernel_rfl
      · exact ⟨b, tt, fr, rfl, hh⟩
    refine lt_cases (n := 4) ?_ ?_
    rotate_left
    · intro hnot hi3
      have r := hi3 _ rfl
      refine AnyI.gofl h (i := 4) (v := .slice (some ⟨w.heap.size, 0, none⟩) 1 1) (w' := w.alloc (.cells (bts [1]) 5)) rfl rfl rfl (by omega) (by omega) (by omega) ?_ ?_ (below_alloc _ _)
      · exact ex_bytes rfl [1] rfl (by omega) (by omega) rfl
      · exact ⟨_, _, _, rfl, heap_alloc_new w _⟩
    refine lt_cases (n := 3) ?_ ?_
    rotate_left
    · intro hnot hi3
      have r := hi3 _ rfl
      obtain ⟨b, tt, fr, e', hh⟩ := h.val 2 (r ⟨2, .data⟩ (by simp) rfl)
      have e115 : a.eval (.tmp 115) = _ := e'
      refine AnyI.gofl h (i := 3) (v := .agg #[.slice (some ⟨b, 0, none⟩) [9].length [9].length, .int .i64 0]) (w' := w) rfl rfl rfl (by omega) (by omega) (by omega) ?_ ?_ (Below.refl _ _)
      · refine ex_build rfl (pv := [(0, .slice (some ⟨b, 0, none⟩) [9].length [9].length), (1, .int .i64 0)]) (by
          show [(0, a.eval (.tmp 115)), (1, a.eval (.const (.int .i64 0)))] = _
          rw [e115]; rfl) ?_
        kernel_rfl
      · exact ⟨b, tt, fr, rfl, hh⟩
    refine lt_cases (n := 2) ?_ ?_
    rotate_left
    · intro hnot hi3
      have r := hi3 _ rfl
      refine AnyI.gofl h (i := 2) (v := .slice (some ⟨w.heap.size, 0, none⟩) 1 1) (w' := w.alloc (.cells (bts [9]) 5)) rfl rfl rfl (by omega) (by omega) (by omega) ?_ ?_ (below_alloc _ _)
      · exact ex_bytes rfl [9] rfl (by omega) (by omega) rfl
      · exact ⟨_, _, _, rfl, heap_alloc_new w _⟩
    refine lt_cases (n := 1) ?_ ?_
    rotate_left
    · intro hnot hi3
      have r := hi3 _ rfl
      obtain ⟨b, tt, fr, e', hh⟩ := h.val 0 (r ⟨0, .data⟩ (by simp) rfl)
      have e113 : a.eval (.tmp 113) = _ := e'
      refine AnyI.gofl h (i := 1) (v := .agg #[.slice (some ⟨b, 0, none⟩) [0].length [0].length, .int .i64 0]) (w' := w) rfl rfl rfl (by omega) (by omega) (by omega) ?_ ?_ (Below.refl _ _)
      · refine ex_build rfl (pv := [(0, .slice (some ⟨b, 0, none⟩) [0].length [0].length), (1, .int .i64 0)]) (by
          show [(0, a.eval (.tmp 113)), (1, a.eval (.const (.int .i64 0)))] = _
          rw [e113]; rfl) ?_
        kernel_rfl
      · exact ⟨b, tt, fr, rfl, hh⟩
    refine lt_cases (n := 0) ?_ ?_
    rotate_left
    · intro hnot hi3
      have r := hi3 _ rfl
      refine AnyI.gofl h (i := 0) (v := .slice (some ⟨w.heap.size, 0, none⟩) 1 1) (w' := w.alloc (.cells (bts [0]) 5)) rfl rfl rfl (by omega) (by omega) (by omega) ?_ ?_ (below_alloc _ _)
      · exact ex_bytes rfl [0] rfl (by omega) (by omega) rfl
      · exact ⟨_, _, _, rfl, heap_alloc_new w _⟩
    intro i hi
    omega
  · intro a w2 hsz hdf hbw hold hval
    obtain ⟨tm, df⟩ := a
    simp only at hsz hdf hold hval
    subst hdf
    obtain ⟨d1, hd1, g, f142, htb⟩ := hval 29 (by omega)
    obtain ⟨d2, f143⟩ := hval 30 (by omega)
    obtain ⟨d3, f144⟩ := hval 31 (by omega)
    have e142 : tm.getD 142 undef = .slice (some ⟨g, 0, none⟩) 10 10 := f142
    have e143 : tm.getD 143 undef = .int .i64 10 := f143
    have e144 : tm.getD 144 undef = .int .i64 0 := f144
    have hs : tm.size = 170 := hsz
    have hform : tm = #[tm.getD 0 undef, tm.getD 1 undef, tm.getD 2 undef, tm.getD 3 undef, tm.getD 4 undef, tm.getD 5 undef, tm.getD 6 undef, tm.getD 7 undef, tm.getD 8 undef, tm.getD 9 undef, tm.getD 10 undef, tm.getD 11 undef, tm.getD 12 undef, tm.getD 13 undef, tm.getD 14 undef, tm.getD 15 undef, tm.getD 16 undef, tm.getD 17 undef, tm.getD 18 undef, tm.getD 19 undef, tm.getD 20 undef, tm.getD 21 undef, tm.getD 22 undef, tm.getD 23 undef, tm.getD 24 undef, tm.getD 25 undef, tm.getD 26 undef, tm.getD 27 undef, tm.getD 28 undef, tm.getD 29 undef, tm.getD 30 undef, tm.getD 31 undef, tm.getD 32 undef, tm.getD 33 undef, tm.getD 34 undef, tm.getD 35 undef, tm.getD 36 undef, tm.getD 37 undef, tm.getD 38 undef, tm.getD 39 undef, tm.getD 40 undef, tm.getD 41 undef, tm.getD 42 undef, tm.getD 43 undef, tm.getD 44 undef, tm.getD 45 undef, tm.getD 46 undef, tm.getD 47 undef, tm.getD 48 undef, tm.getD 49 undef, tm.getD 50 undef, tm.getD 51 undef, tm.getD 52 undef, tm.getD 53 undef, tm.getD 54 undef, tm.getD 55 undef, tm.getD 56 undef, tm.getD 57 undef, tm.getD 58 undef, tm.getD 59 undef, tm.getD 60 undef, tm.getD 61 undef, tm.getD 62 undef, tm.getD 63 undef, tm.getD 64 undef, tm.getD 65 undef, tm.getD 66 undef, tm.getD 67 undef, tm.getD 68 undef, tm.getD 69 undef, tm.getD 70 undef, tm.getD 71 undef, tm.getD 72 undef, tm.getD 73 undef, tm.getD 74 undef, tm.getD 75 undef, tm.getD 76 undef, tm.getD 77 undef, tm.getD 78 undef, tm.getD 79 undef, tm.getD 80 undef, tm.getD 81 undef, tm.getD 82 undef, tm.getD 83 undef, tm.getD 84 undef, tm.getD 85 undef, tm.getD 86 undef, tm.getD 87 undef, tm.getD 88 undef, tm.getD 89 undef, tm.getD 90 undef, tm.getD 91 undef, tm.getD 92 undef, tm.getD 93 undef, tm.getD 94 undef, tm.getD 95 undef, tm.getD 96 undef, tm.getD 97 undef, tm.getD 98 undef, tm.getD 99 undef, tm.getD 100 undef, tm.getD 101 undef, tm.getD 102 undef, tm.getD 103 undef, tm.getD 104 undef, tm.getD 105 undef, tm.getD 106 undef, tm.getD 107 undef, tm.getD 108 undef, tm.getD 109 undef, tm.getD 110 undef, tm.getD 111 undef, tm.getD 112 undef, tm.getD 113 undef, tm.getD 114 undef, tm.getD 115 undef, tm.getD 116 undef, tm.getD 117 undef, tm.getD 118 undef, tm.getD 119 undef, tm.getD 120 undef, tm.getD 121 undef, tm.getD 122 undef, tm.getD 123 undef, tm.getD 124 undef, tm.getD 125 undef, tm.getD 126 undef, tm.getD 127 undef, tm.getD 128 undef, tm.getD 129 undef, tm.getD 130 undef, tm.getD 131 undef, tm.getD 132 undef, tm.getD 133 undef, tm.getD 134 undef, tm.getD 135 undef, tm.getD 136 undef, tm.getD 137 undef, tm.getD 138 undef, tm.getD 139 undef, tm.getD 140 undef, tm.getD 141 undef, tm.getD 142 undef, tm.getD 143 undef, tm.getD 144 undef, tm.getD 145 undef, tm.getD 146 undef, tm.getD 147 undef, tm.getD 148 undef, tm.getD 149 undef, tm.getD 150 undef, tm.getD 151 undef, tm.getD 152 undef, tm.getD 153 undef, tm.getD 154 undef, tm.getD 155 undef, tm.getD 156 undef, tm.getD 157 undef, tm.getD 158 undef, tm.getD 159 undef, tm.getD 160 undef, tm.getD 161 undef, tm.getD 162 undef, tm.getD 163 undef, tm.getD 164 undef, tm.getD 165 undef, tm.getD 166 undef, tm.getD 167 undef, tm.getD 168 undef, tm.getD 169 undef] := (arr_ext hs).trans rfl
    clear hsz hold hval hs f142 f143 f144 hd1 d1 d2 d3
    rw [e142, e143, e144] at hform
    clear e142 e143 e144
    generalize tm.getD 0 undef = y0 at hform
    generalize tm.getD 1 undef = y1 at hform
    generalize tm.getD 2 undef = y2 at hform
    generalize tm.getD 3 undef = y3 at hform
    generalize tm.getD 4 undef = y4 at hform
    generalize tm.getD 5 undef = y5 at hform
    generalize tm.getD 6 undef = y6 at hform
    generalize tm.getD 7 undef = y7 at hform
    generalize tm.getD 8 undef = y8 at hform
    generalize tm.getD 9 undef = y9 at hform
    generalize tm.getD 10 undef = y10 at hform
    generalize tm.getD 11 undef = y11 at hform
    generalize tm.getD 12 undef = y12 at hform
    generalize tm.getD 13 undef = y13 at hform
    generalize tm.getD 14 undef = y14 at hform
    generalize tm.getD 15 undef = y15 at hform
    generalize tm.getD 16 undef = y16 at hform
    generalize tm.getD 17 undef = y17 at hform
    generalize tm.getD 18 undef = y18 at hform
    generalize tm.getD 19 undef = y19 at hform
    generalize tm.getD 20 undef = y20 at hform
    generalize tm.getD 21 undef = y21 at hform
    generalize tm.getD 22 undef = y22 at hform
    generalize tm.getD 23 undef = y23 at hform
    generalize tm.getD 24 undef = y24 at hform
    generalize tm.getD 25 undef = y25 at hform
    generalize tm.getD 26 undef = y26 at hform
    generalize tm.getD 27 undef = y27 at hform
    generalize tm.getD 28 undef = y28 at hform
    generalize tm.getD 29 undef = y29 at hform
    generalize tm.getD 30 undef = y30 at hform
    generalize tm.getD 31 undef = y31 at hform
    generalize tm.getD 32 undef = y32 at hform
    generalize tm.getD 33 undef = y33 at hform
    generalize tm.getD 34 undef = y34 at hform
    generalize tm.getD 35 undef = y35 at hform
    generalize tm.getD 36 undef = y36 at hform
    generalize tm.getD 37 undef = y37 at hform
    generalize tm.getD 38 undef = y38 at hform
    generalize tm.getD 39 undef = y39 at hform
    generalize tm.getD 40 undef = y40 at hform
    generalize tm.getD 41 undef = y41 at hform
    generalize tm.getD 42 undef = y42 at hform
    generalize tm.getD 43 undef = y43 at hform
    generalize tm.getD 44 undef = y44 at hform
    generalize tm.getD 45 undef = y45 at hform
    generalize tm.getD 46 undef = y46 at hform
    generalize tm.getD 47 undef = y47 at hform
    generalize tm.getD 48 undef = y48 at hform
    generalize tm.getD 49 undef = y49 at hform
    generalize tm.getD 50 undef = y50 at hform
    generalize tm.getD 51 undef = y51 at hform
    generalize tm.getD 52 undef = y52 at hform
    generalize tm.getD 53 undef = y53 at hform
    generalize tm.getD 54 undef = y54 at hform
    generalize tm.getD 55 undef = y55 at hform
    generalize tm.getD 56 undef = y56 at hform
    generalize tm.getD 57 undef = y57 at hform
    generalize tm.getD 58 undef = y58 at hform
    generalize tm.getD 59 undef = y59 at hform
    generalize tm.getD 60 undef = y60 at hform
    generalize tm.getD 61 undef = y61 at hform
    generalize tm.getD 62 undef = y62 at hform
    generalize tm.getD 63 undef = y63 at hform
    generalize tm.getD 64 undef = y64 at hform
    generalize tm.getD 65 undef = y65 at hform
    generalize tm.getD 66 undef = y66 at hform
    generalize tm.getD 67 undef = y67 at hform
    generalize tm.getD 68 undef = y68 at hform
    generalize tm.getD 69 undef = y69 at hform
    generalize tm.getD 70 undef = y70 at hform
    generalize tm.getD 71 undef = y71 at hform
    generalize tm.getD 72 undef = y72 at hform
    generalize tm.getD 73 undef = y73 at hform
    generalize tm.getD 74 undef = y74 at hform
    generalize tm.getD 75 undef = y75 at hform
    generalize tm.getD 76 undef = y76 at hform
    generalize tm.getD 77 undef = y77 at hform
    generalize tm.getD 78 undef = y78 at hform
    generalize tm.getD 79 undef = y79 at hform
    generalize tm.getD 80 undef = y80 at hform
    generalize tm.getD 81 undef = y81 at hform
    generalize tm.getD 82 undef = y82 at hform
    generalize tm.getD 83 undef = y83 at hform
    generalize tm.getD 84 undef = y84 at hform
    generalize tm.getD 85 undef = y85 at hform
    generalize tm.getD 86 undef = y86 at hform
    generalize tm.getD 87 undef = y87 at hform
    generalize tm.getD 88 undef = y88 at hform
    generalize tm.getD 89 undef = y89 at hform
    generalize tm.getD 90 undef = y90 at hform
    generalize tm.getD 91 undef = y91 at hform
    generalize tm.getD 92 undef = y92 at hform
    generalize tm.getD 93 undef = y93 at hform
    generalize tm.getD 94 undef = y94 at hform
    generalize tm.getD 95 undef = y95 at hform
    generalize tm.getD 96 undef = y96 at hform
    generalize tm.getD 97 undef = y97 at hform
    generalize tm.getD 98 undef = y98 at hform
    generalize tm.getD 99 undef = y99 at hform
    generalize tm.getD 100 undef = y100 at hform
    generalize tm.getD 101 undef = y101 at hform
    generalize tm.getD 102 undef = y102 at hform
    generalize tm.getD 103 undef = y103 at hform
    generalize tm.getD 104 undef = y104 at hform
    generalize tm.getD 105 undef = y105 at hform
    generalize tm.getD 106 undef = y106 at hform
    generalize tm.getD 107 undef = y107 at hform
    generalize tm.getD 108 undef = y108 at hform
    generalize tm.getD 109 undef = y109 at hform
    generalize tm.getD 110 undef = y110 at hform
    generalize tm.getD 111 undef = y111 at hform
    generalize tm.getD 112 undef = y112 at hform
    generalize tm.getD 113 undef = y113 at hform
    generalize tm.getD 114 undef = y114 at hform
    generalize tm.getD 115 undef = y115 at hform
    generalize tm.getD 116 undef = y116 at hform
    generalize tm.getD 117 undef = y117 at hform
    generalize tm.getD 118 undef = y118 at hform
    generalize tm.getD 119 undef = y119 at hform
    generalize tm.getD 120 undef = y120 at hform
    generalize tm.getD 121 undef = y121 at hform
    generalize tm.getD 122 undef = y122 at hform
    generalize tm.getD 123 undef = y123 at hform
    generalize tm.getD 124 undef = y124 at hform
    generalize tm.getD 125 undef = y125 at hform
    generalize tm.getD 126 undef = y126 at hform
    generalize tm.getD 127 undef = y127 at hform
    generalize tm.getD 128 undef = y128 at hform
    generalize tm.getD 129 undef = y129 at hform
    generalize tm.getD 130 undef = y130 at hform
    generalize tm.getD 131 undef = y131 at hform
    generalize tm.getD 132 undef = y132 at hform
    generalize tm.getD 133 undef = y133 at hform
    generalize tm.getD 134 undef = y134 at hform
    generalize tm.getD 135 undef = y135 at hform
    generalize tm.getD 136 undef = y136 at hform
    generalize tm.getD 137 undef = y137 at hform
    generalize tm.getD 138 undef = y138 at hform
    generalize tm.getD 139 undef = y139 at hform
    generalize tm.getD 140 undef = y140 at hform
    generalize tm.getD 141 undef = y141 at hform
    generalize tm.getD 145 undef = y145 at hform
    generalize tm.getD 146 undef = y146 at hform
    generalize tm.getD 147 undef = y147 at hform
    generalize tm.getD 148 undef = y148 at hform
    generalize tm.getD 149 undef = y149 at hform
    generalize tm.getD 150 undef = y150 at hform
    generalize tm.getD 151 undef = y151 at hform
    generalize tm.getD 152 undef = y152 at hform
    generalize tm.getD 153 undef = y153 at hform
    generalize tm.getD 154 undef = y154 at hform
    generalize tm.getD 155 undef = y155 at hform
    generalize tm.getD 156 undef = y156 at hform
    generalize tm.getD 157 undef = y157 at hform
    generalize tm.getD 158 undef = y158 at hform
    generalize tm.getD 159 undef = y159 at hform
    generalize tm.getD 160 undef = y160 at hform
    generalize tm.getD 161 undef = y161 at hform
    generalize tm.getD 162 undef = y162 at hform
    generalize tm.getD 163 undef = y163 at hform
    generalize tm.getD 164 undef = y164 at hform
    generalize tm.getD 165 undef = y165 at hform
    generalize tm.getD 166 undef = y166 at hform
    generalize tm.getD 167 undef = y167 at hform
    generalize tm.getD 168 undef = y168 at hform
    generalize tm.getD 169 undef = y169 at hform
    dsimp only at hform
    subst hform
    have HTB := Lib.hid htb
    have HBW := Lib.hid (HB4.out.trans ((HB10.out.trans (hbw.mono HB10.out.size)).mono HB4.out.size))
    have hT := badT_all hn1 hp1 hD1 hDb
    have hl9 : 2 + D.length + 17 + D.length = P3.length := by have := HL1.out; have := HL2.out; have := HL3.out; omega
    rw [HP1.out, HP2.out, HP3.out, HAT.out, hl9] at hT
    obtain ⟨T, hTe⟩ : ∃ T, badT P2 at1 (P3 ++ [200]) P3.length = T := ⟨_, rfl⟩
    have hTl : T.length = 10 := by rw [← hTe]; rfl
    rw [hTe] at hT HTB
    have HT := Lib.hid hT
    have HTL := Lib.hid hTl
    clear htb hbw hT hl9 hTe hTl hnil6 hnil7 hP32 hlen1 hlen2 hlen3 hcap hO HB10 HP1 HP2 HP3 HL0 HL1 HL2 HL3 HL9 HUE HB9 HAT hat2 hw0 hw1 hn hn1 hp1 hwn hwp hwd hD1 hDb hcap2 hnil2 HO4 HB4
    go_wp2_with fail
    go_loopw [144] (fun vi wr => ∃ k : Nat, k ≤ 10 ∧ vi = .int .i64 k ∧ Hid (Below w2.heap.size w2 wr)) (fun vi _ => 10 - (intOf vi).toNat)
    case atStart => exact ⟨0, by omega, rfl, Below.refl _ _⟩
    case round =>
      obtain ⟨k, hk, rfl, hbl⟩ := hrel
      by_cases hlt : k < 10
      · have i1 : (k : Int) < 10 := by omega
        have i2 : (0 : Int) ≤ (k : Int) := by omega
        obtain ⟨A, c, c0, c1, hrd, hnil⟩ := (HTB.out.later hbl.out).row k (by rw [HTL.out]; exact hlt)
        have hp := HT.out (T.getD k default) (by simp [List.getD, HTL.out, hlt])
        obtain ⟨⟨xs, at9⟩, hx⟩ : ∃ p, T.getD k default = p := ⟨_, rfl⟩
        rw [hx] at c0 c1 hrd hnil hp
        obtain ⟨hu, hby, hle⟩ := hp
        simp only at c0 c1 hrd hnil hu hby hle
        have hab := below_alloc wr (.cells #[.slice A xs.length c, .int .i64 (at9 : Int)] 37)
        have hcc := World.rangeAt_of_block (C := #[.slice A xs.length c, .int .i64 (at9 : Int)]) (t := 37) (fr := (0, 0)) (heap_alloc_new wr _) 0 2
        have hc1 := hcc 1 (.int .i64 (at9 : Int)) rfl
        have hun := unpackE_any A xs.length c xs (wr.alloc (.cells #[.slice A xs.length c, .int .i64 (at9 : Int)] 37)) rfl (hrd.later hab) (by omega) hnil hby
        rw [hu] at hun
        simp only [Bool.false_eq_true, if_false] at hun
        have HUN := Lib.hid hun
        have HC1 := Lib.hid hc1
        have HBL := Lib.hid (hbl.out.trans (hab.mono hbl.out.size))
        clear hab hcc hc1 hun hbl hx hu hby hle hrd hnil
        go_wp2_with fail
        refine HUN.out.mono ?_
        rintro e w3 ⟨v3, ls3, rfl, hr3, hl3, hb3⟩
        have hls : ls3 = [] := by simpa using hl3
        subst hls
        obtain ⟨A3, hA3⟩ := hr3.form
        obtain ⟨c3, rfl⟩ := hA3
        have d1 := (hb3.cell (World.block_lt_of_cell? _ _ HC1.out)).trans HC1.out
        have HB3 := Lib.hid (HBL.out.trans (hb3.mono HBL.out.size))
        simp only [Nat.zero_add] at d1
        clear hr3 hl3 hb3 HUN HC1 HBL c0 c1
        simp only [List.length_nil]
        go_wp2_with fail
        go_roundw
        case rel => exact ⟨k + 1, by omega, by go_num, HB3⟩
        case measure => simp [intOf]; omega
      · have i3 : ¬ (k : Int) < 10 := by omega
        go_wp2_with fail
        refine (wakesE_any _).mono ?_
        rintro e w5 ⟨rfl, hb⟩
        have HB5 := Lib.hid (hbl.out.trans (hb.mono hbl.out.size))
        clear hb
        go_wp2_with fail
        go_ret
        exact ⟨rfl, HBW.out.trans (HB5.out.mono HBW.out.size)⟩
end Go.Proofs.Ytcfkioopaplmiaa


/-
  Both inboxes, the program's and the document's, beside each other ('PM'); how many bytes there can be ('Few'); Same of chapter 16.
-/
import Derived.Test.YtlljfinagjdihaaInMid3
import Derived.Test.YtlljfinagjdihaaDocIn3
namespace Go.Proofs.Ytlljfinagjdihaa
open Go.RowKit

/-- At most N places are there. -/
def Few (s : In) (N : Int) : Prop := ∃ ps, Norm ps ∧ (∀ k, ins ps k ↔ s.g k ≠ none) ∧ cntL ps ≤ N
theorem Few.new (m : Int) : Few (In.new m) 0 := ⟨[], Norm.nil, fun k => ⟨fun h => absurd h (ins_nil k), fun h => absurd rfl h⟩, Int.le_refl _⟩
theorem Few.front {s : In} {N : Int} (h : Few s N) (hok : s.ok) {f : Int} (hf : Front s.g f) : f ≤ N := by
  obtain ⟨ps, hn, hi, hc⟩ := h
  have h0 := hf.ge
  by_cases hz : f = 0
  · have := (cnt_le hn 0 (by omega) (fun p hp => (hn.each p hp).1)).1
    omega
  · have hb := hok.rng (f - 1) (hf.all (f - 1) (by omega) (by omega))
    have hins := (hi (f - 1)).2 (hf.all (f - 1) (by omega) (by omega))
    obtain ⟨q, hq, q1, q2⟩ := hins
    have hq3 := hn.each q hq
    have e := cnt_win hn
    obtain ⟨a, ha⟩ : ∃ a : Nat, f = (a : Int) := ⟨f.toNat, by omega⟩
    have hsum : win ps 0 1099511627776 = sumI (fun k => ind (ins ps k)) 0 (a + (1099511627776 - a)) := by
      have : a + (1099511627776 - a) = 1099511627776 := by omega
      rw [this]; rfl
    rw [sumI_app, sumI_one (fun k k1 k2 => ind_yes ((hi k).2 (hf.all k (by omega) (by omega))))] at hsum
    have hr := (win_le ps (0 + (a : Int)) (1099511627776 - a)).1
    have hr2 : win ps (0 + (a : Int)) (1099511627776 - a) = sumI (fun k => ind (ins ps k)) (0 + (a : Int)) (1099511627776 - a) := rfl
    omega
theorem Few.read {s : In} {N : Int} (h : Few s N) (k : Int) : Few (s.read k) N := h
theorem Few.mono {s : In} {N M : Int} (h : Few s N) (hm : N ≤ M) : Few s M := by
  obtain ⟨ps, hn, hi, hc⟩ := h
  exact ⟨ps, hn, hi, by omega⟩
theorem Few.put {s : In} {N : Int} (h : Few s N) (hok : s.ok) (hlim : s.tk + s.win ≤ 8192) (f : Int) (ys : List Int) (fin : Bool) : Few (s.put f ys fin) (N + ys.length) := by
  obtain ⟨ps, hn, hi, hc⟩ := h
  have ht0 := hok.t0
  obtain ⟨st, hst⟩ : ∃ st : Int, (∀ j, j < st ↔ j < s.tk + s.win ∧ (s.en < 0 ∨ j < s.en)) ∧ st ≤ 8192 := by
    by_cases he : s.en < 0
    · exact ⟨s.tk + s.win, fun j => by omega, hlim⟩
    · exact ⟨min s.en (s.tk + s.win), fun j => by omega, by omega⟩
  have hu := addN_norm hn (max f 0) (min (f + ys.length) st)
  have hw : ∀ k, (max f 0 ≤ k ∧ k < min (f + ys.length) st) ↔ (f ≤ k ∧ k < f + (ys.length : Nat) ∧ 0 ≤ k ∧ k < s.tk + s.win ∧ (s.en < 0 ∨ k < s.en)) := fun k => by
    have := hst.1 k
    constructor
    · intro h
      have h2 := this.1 (by omega)
      exact ⟨by omega, by omega, by omega, h2.1, h2.2⟩
    · rintro ⟨h1, h2, h3, h4, h5⟩
      have := this.2 ⟨h4, h5⟩
      omega
  have hins : ∀ k, ins (addN ps (max f 0) (min (f + ys.length) st)) k ↔ ins ps k ∨ (max f 0 ≤ k ∧ k < min (f + ys.length) st) := fun k => by
    rw [hu.2]
    exact ⟨fun x => x.imp id (fun y => by omega), fun x => x.imp id (fun y => by omega)⟩
  have hcnt := new_cnt hn hu.1 hi f ys ys.length (max f 0) (min (f + ys.length) st) (by omega) (by omega) hw hins
  have hle := (In.steps_cnt (s := s) f ys ys.length).2
  refine ⟨_, hu.1, fun k => ?_, by omega⟩
  rw [steps_ins hi hw hins k, In.put_g, In.steps_g]
theorem seen_eq {s : In} (hok : s.ok) {f : Int} (hf : Front s.g f) : (if 0 ≤ s.en ∧ s.en ≤ f then s.en + 1 else f) = (if f = s.en then f + 1 else f) := by
  have h0 := hf.ge
  by_cases he : 0 ≤ s.en
  · have hle : f ≤ s.en := by
      by_cases hc : f ≤ s.en
      · exact hc
      · have := hok.end_ he s.en (hf.all s.en he (by omega))
        omega
    by_cases h : f = s.en
    · rw [if_pos ⟨he, by omega⟩, if_pos h, h]
    · rw [if_neg (fun x => h (by omega)), if_neg h]
  · rw [if_neg (fun x => he x.1), if_neg (by omega)]

/-- Both: the program's inbox s, the document's d. -/
structure PM (w0 w : World) (p : Nat) (F : Nat → Prop) (b : Nat) (D : Nat → Prop) (s d : In) : Prop where
  im : ∃ B, w0.heap.size ≤ B ∧ IM w B p F s
  dm : ∃ B bv gv xs ps, w0.heap.size ≤ B ∧ DiAt w B b bv gv xs ps d ∧ xs.length ≤ 8192 ∧ ∀ k, D k ↔ Dif b bv gv k
  sep : Sep F D
  bel : Below w0.heap.size w0 w
section
variable {w0 w w' : World} {p b : Nat} {F D : Nat → Prop} {s d : In}
theorem PM.ok (h : PM w0 w p F b D s d) : s.ok := by
  obtain ⟨B, _, h1⟩ := h.im
  exact h1.ok
theorem PM.footF (h : PM w0 w p F b D s d) : ∀ k, F k → w0.heap.size ≤ k ∧ k < w.heap.size := by
  obtain ⟨B, hB, h1⟩ := h.im
  exact fun k hk => ⟨Nat.le_trans hB (h1.foot_lt k hk).1, (h1.foot_lt k hk).2⟩
theorem PM.footD (h : PM w0 w p F b D s d) : ∀ k, D k → w0.heap.size ≤ k ∧ k < w.heap.size := by
  obtain ⟨B, bv, gv, xs, ps, hB, h1, _, h2⟩ := h.dm
  exact fun k hk => ⟨Nat.le_trans hB (h1.foot_lt k ((h2 k).1 hk)).1, (h1.foot_lt k ((h2 k).1 hk)).2⟩
theorem PM.later (h : PM w0 w p F b D s d) (hb : Below w.heap.size w w') : PM w0 w' p F b D s d := by
  obtain ⟨B, hB, h1⟩ := h.im
  obtain ⟨B2, bv, gv, xs, ps, hB2, h2, h3, h4⟩ := h.dm
  exact ⟨⟨B, hB, h1.later hb⟩, ⟨B2, bv, gv, xs, ps, hB2, h2.later hb, h3, h4⟩, h.sep, h.bel.trans (hb.mono h.bel.size)⟩
theorem PM.put1 (h : PM w0 w p F b D s d) {f : Int} {A : Option Addr} {m c : Nat} {ys : List Int} (hm : ys.length = m) (hr : Rd .u8 w A ys) (hd : ∀ a, A = some a → 0 < m → ¬ F a.block) (fin : Bool) (hf : -9223372036854775808 ≤ f ∧ f ≤ 9223372036854775807) (hmm : m ≤ 1048576) (hlim : s.tk + s.win ≤ 8192) :
    Calls Try.prog 13 #[.pointer (some ⟨p, 0, none⟩), .int .i64 f, .slice A m c, .bool fin] w fun e w' => e = .returned (.int .i64 (s.new_ f ys)) ∧ ∃ F', PM w0 w' p F' b D (s.put f ys fin) d ∧ SC w w' F F' := by
  obtain ⟨B, hB, h1⟩ := h.im
  obtain ⟨B2, bv, gv, xs, ps, hB2, h2, h3, h4⟩ := h.dm
  refine (h1.put hm hr hd fin hf hmm hlim).mono ?_
  rintro e w' ⟨rfl, F', h5, h6⟩
  exact ⟨rfl, F', ⟨⟨B, hB, h5⟩, ⟨B2, bv, gv, xs, ps, hB2, h2.kept h6.trn (fun k hk hF => h.sep k hF ((h4 k).2 hk)), h3, h4⟩, (h.sep.symm.step h6 (fun k hk => (h.footD k hk).2)).symm, h.bel.trans (h6.below h.bel.size (fun k hk => (h.footF k hk).1))⟩, h6⟩
theorem PM.put2 (h : PM w0 w p F b D s d) {f : Int} {A : Option Addr} {m c : Nat} {ys : List Int} (hm : ys.length = m) (hr : Rd .u8 w A ys) (hd : ∀ a, A = some a → ¬ D a.block) (fin : Bool) (hf : -9223372036854775808 ≤ f ∧ f ≤ 9223372036854775807) (hmm : m ≤ 1048576) (hlim : d.tk + d.win ≤ 8192) :
    Calls Try.prog 24 #[.pointer (some ⟨b, 0, none⟩), .int .i64 f, .slice A m c, .bool fin] w fun e w' => e = .returned (.int .i64 (d.new_ f ys)) ∧ ∃ D', PM w0 w' p F b D' s (d.put f ys fin) ∧ SC w w' D D' := by
  obtain ⟨B, hB, h1⟩ := h.im
  obtain ⟨B2, bv, gv, xs, ps, hB2, h2, h3, h4⟩ := h.dm
  refine (diput_any h2 f A m c ys hm hr (fun a ha hx => hd a ha ((h4 _).2 hx)) fin hf hmm hlim h3).mono ?_
  rintro e w' ⟨rfl, bv', gv', xs', ps', h5, h6, h7⟩
  have h8 : SC w w' D (Dif b bv' gv') := h6.congr h4 (fun _ => Iff.rfl)
  exact ⟨rfl, Dif b bv' gv', ⟨⟨B, hB, h1.kept h8.trn h.sep⟩, ⟨B2, bv', gv', xs', ps', hB2, h5, h7, fun _ => Iff.rfl⟩, h.sep.step h8 (fun k hk => (h.footF k hk).2), h.bel.trans (h8.below h.bel.size (fun k hk => (h.footD k hk).1))⟩, h8⟩
theorem PM.read1 (h : PM w0 w p F b D s d) {m f : Int} (hf : Front s.g f) (k : Nat) (hk : (k : Int) = min (max m 0) (f - s.tk)) (hb : f ≤ 1048576) :
    Calls Try.prog 17 #[.pointer (some ⟨p, 0, none⟩), .int .i64 m] w fun e w' => ∃ A' c' L, e = .returned (.slice A' k c') ∧ Own .u8 5 w' w.heap.size (.slice A' k c') L ∧ IsRead s.g s.tk k L ∧ PM w0 w' p F b D (s.read k) d := by
  obtain ⟨B, hB, h1⟩ := h.im
  obtain ⟨B2, bv, gv, xs, ps, hB2, h2, h3, h4⟩ := h.dm
  refine (h1.read hf k hk hb).mono ?_
  rintro e w' ⟨A', c', L, rfl, h5, h6, h7, h8⟩
  exact ⟨A', c', L, rfl, h5, h6, ⟨B, hB, h7⟩, ⟨B2, bv, gv, xs, ps, hB2, h2.kept h8.trn (fun k hk hF => h.sep k hF ((h4 k).2 hk)), h3, h4⟩, h.sep, h.bel.trans (h8.below h.bel.size (fun k hk => (h.footF k hk).1))⟩
theorem PM.read2 (h : PM w0 w p F b D s d) {m f : Int} (hf : Front d.g f) (k : Nat) (hk : (k : Int) = min (max m 0) (f - d.tk)) (hb : f ≤ 1048576) :
    Calls Try.prog 22 #[.pointer (some ⟨b, 0, none⟩), .int .i64 m] w fun e w' => ∃ A' c' L, e = .returned (.slice A' k c') ∧ Own .u8 5 w' w.heap.size (.slice A' k c') L ∧ IsRead d.g d.tk k L ∧ PM w0 w' p F b D s (d.read k) ∧ SC w w' D D := by
  obtain ⟨B, hB, h1⟩ := h.im
  obtain ⟨B2, bv, gv, xs, ps, hB2, h2, h3, h4⟩ := h.dm
  refine (diread_any h2 m f hf k hk hb).mono ?_
  rintro e w' ⟨A', c', L, rfl, h5, h6, h7, h8⟩
  have h9 : SC w w' D D := h8.congr h4 h4
  exact ⟨A', c', L, rfl, h5, h6, ⟨⟨B, hB, h1.kept h9.trn h.sep⟩, ⟨B2, bv, gv, xs, ps, hB2, h7, h3, h4⟩, h.sep, h.bel.trans (h9.below h.bel.size (fun k hk => (h.footD k hk).1))⟩, h9⟩
theorem PM.start {w1 w2 : World} {p : Nat} {F : Nat → Prop} {m : Int} (h1 : IM w1 w0.heap.size p F (In.new m)) (hb1 : Below w0.heap.size w0 w1) (h2 : DiAt w2 w1.heap.size w1.heap.size (.slice none 0 0) (.slice none 0 0) [] [] (In.new m)) (hb2 : Below w1.heap.size w1 w2) :
    PM w0 w2 p F w1.heap.size (Dif w1.heap.size (.slice none 0 0) (.slice none 0 0)) (In.new m) (In.new m) :=
  ⟨⟨_, Nat.le_refl _, h1.later hb2⟩, ⟨_, _, _, _, _, hb1.size, h2, by simp, fun _ => Iff.rfl⟩, fun k hF hD => by have := (h1.foot_lt k hF).2; have := (h2.foot_lt k hD).1; omega, hb1.trans (hb2.mono hb1.size)⟩

set_option maxRecDepth 100000 in
set_option maxHeartbeats 4000000 in
theorem sameI_any (h : PM w0 w p F b D s s) {f : Int} (hf : Front s.g f) (hb : f ≤ 1048576 ∧ s.tk ≤ 1048576) :
    Calls Try.prog 26 #[.pointer (some ⟨p, 0, none⟩), .pointer (some ⟨b, 0, none⟩)] w fun e w' => e = .returned (.bool true) ∧ Below w.heap.size w w' := by
  have hok := h.ok
  have hse := seen_eq hok hf
  obtain ⟨B, hB, h1⟩ := h.im
  obtain ⟨B2, bv, gv, xs, ps, hB2, h2, h3, h4⟩ := h.dm
  have HI := fun (W : World) (hw : Below w.heap.size w W) => h1.later hw
  have HD := fun (W : World) (hw : Below w.heap.size w W) => h2.later hw
  have bq : ∀ (W : World) (k : Nat), Below W.heap.size W (W.drewN k) := fun W k => below_drewN W k
  obtain ⟨SN, hSN⟩ : ∃ x, (if f = s.en then f + 1 else f) = x := ⟨_, rfl⟩
  obtain ⟨LM, hLM⟩ : ∃ x, s.tk + s.win = x := ⟨_, rfl⟩
  obtain ⟨RD, hRD⟩ : ∃ x, f - s.tk = x := ⟨_, rfl⟩
  obtain ⟨DN, hDN⟩ : ∃ x, decide (0 ≤ s.en ∧ s.tk = s.en) = x := ⟨_, rfl⟩
  obtain ⟨TK, hTK⟩ : ∃ x, s.tk = x := ⟨_, rfl⟩
  have HS1 : Hid (∀ W, Below w.heap.size w W → Calls Try.prog 14 #[.pointer (some ⟨p, 0, none⟩)] W fun e w' => e = .returned (.int .i64 SN) ∧ Below W.heap.size W w') := Lib.hid fun W hw => by
    refine ((HI W hw).seen hf (by omega)).mono ?_
    rintro e w' ⟨rfl, hb9⟩
    exact ⟨by rw [hSN], hb9⟩
  have HS2 : Hid (∀ W, Below w.heap.size w W → Calls Try.prog 41 #[.pointer (some ⟨b, 0, none⟩)] W fun e w' => e = .returned (.int .i64 SN) ∧ Below W.heap.size W w') := Lib.hid fun W hw => by
    refine (diseen_any (HD W hw) f hf 0).mono ?_
    rintro e w' ⟨rfl, k, rfl⟩
    exact ⟨by rw [hse, hSN], bq _ _⟩
  have HL1 : Hid (∀ W, Below w.heap.size w W → Calls Try.prog 12 #[.pointer (some ⟨p, 0, none⟩)] W fun e w' => e = .returned (.int .i64 LM) ∧ Below W.heap.size W w') := Lib.hid fun W hw => by
    refine ((HI W hw).limit (by omega)).mono ?_
    rintro e w' ⟨rfl, hb9⟩
    exact ⟨by rw [hLM], hb9⟩
  have HL2 : Hid (∀ W, Below w.heap.size w W → Calls Try.prog 38 #[.pointer (some ⟨b, 0, none⟩)] W fun e w' => e = .returned (.int .i64 LM) ∧ Below W.heap.size W w') := Lib.hid fun W hw => by
    refine (dilimit_any (HD W hw) (by omega) 0).mono ?_
    rintro e w' ⟨rfl, k, rfl⟩
    exact ⟨by rw [hLM], bq _ _⟩
  have HR1 : Hid (∀ W, Below w.heap.size w W → Calls Try.prog 15 #[.pointer (some ⟨p, 0, none⟩)] W fun e w' => e = .returned (.int .i64 RD) ∧ Below W.heap.size W w') := Lib.hid fun W hw => by
    refine ((HI W hw).ready hf (by omega)).mono ?_
    rintro e w' ⟨rfl, hb9⟩
    exact ⟨by rw [hRD], hb9⟩
  have HR2 : Hid (∀ W, Below w.heap.size w W → Calls Try.prog 37 #[.pointer (some ⟨b, 0, none⟩)] W fun e w' => e = .returned (.int .i64 RD) ∧ Below W.heap.size W w') := Lib.hid fun W hw => by
    refine (diready_any (HD W hw) f hf (by omega) 0).mono ?_
    rintro e w' ⟨rfl, k, rfl⟩
    exact ⟨by rw [hRD], bq _ _⟩
  have HD1 : Hid (∀ W, Below w.heap.size w W → Calls Try.prog 19 #[.pointer (some ⟨p, 0, none⟩)] W fun e w' => e = .returned (.bool DN) ∧ Below W.heap.size W w') := Lib.hid fun W hw => by
    refine ((HI W hw).done).mono ?_
    rintro e w' ⟨rfl, hb9⟩
    exact ⟨by rw [hDN], hb9⟩
  have HD2 : Hid (∀ W, Below w.heap.size w W → Calls Try.prog 42 #[.pointer (some ⟨b, 0, none⟩)] W fun e w' => e = .returned (.bool DN) ∧ Below W.heap.size W w') := Lib.hid fun W hw => by
    refine (didone_any (HD W hw) 0).mono ?_
    rintro e w' ⟨rfl, k, rfl⟩
    exact ⟨by rw [hDN], bq _ _⟩
  have HT1 : Hid (∀ W, Below w.heap.size w W → Calls Try.prog 18 #[.pointer (some ⟨p, 0, none⟩)] W fun e w' => e = .returned (.int .i64 TK) ∧ Below W.heap.size W w') := Lib.hid fun W hw => by
    refine ((HI W hw).taken).mono ?_
    rintro e w' ⟨rfl, hb9⟩
    exact ⟨by rw [hTK], hb9⟩
  have C1 := Lib.hid (fun (W : World) (hw : Below w.heap.size w W) => (HD W hw).c1)
  rw [hTK] at C1
  clear hok hse h1 h2 h3 h4 HI HD bq hSN hLM hRD hDN hTK hf hb hB hB2 h
  go_enter Try.func26, Try.ntmps26
  go_wp2_with fail
  refine wp_region_held_drew (S := fun wi => Below w.heap.size w wi) (by kernel_rfl) ⟨rfl, rfl, rfl, Nat.le_refl _, fun _ _ => rfl⟩ ?_
  intro hHeld
  obtain ⟨W, hW⟩ : ∃ W, w.drew = W := ⟨_, rfl⟩
  rw [hW] at hHeld ⊢
  clear hW
  refine wpAnyH_take (i := 0) (v := ?_) rfl (by kernel_rfl) (by kernel_rfl) (by kernel_rfl) (fun _ _ _ h => h) (Or.inl ⟨by rfl, ?_⟩) (by assumption) ?_
  rotate_left
  · intro wq hSw
    (try dsimp only at hSw)
    go_simp
    try (with_reducible rfl)
  try simp only [Act.put, List.getElem_toArray, List.getElem_cons_zero, List.setIfInBounds_toArray, List.set_cons_zero, List.set_cons_succ]
  refine wpAnyH_take (i := 1) (v := ?_) rfl (by kernel_rfl) (by kernel_rfl) (by kernel_rfl) (fun _ _ _ h => h) (Or.inl ⟨by rfl, ?_⟩) (by assumption) ?_
  rotate_left
  · intro wq hSw
    (try dsimp only at hSw)
    go_simp
    try (with_reducible rfl)
  try simp only [Act.put, List.getElem_toArray, List.getElem_cons_zero, List.getElem_cons_succ, List.setIfInBounds_toArray, List.set_cons_zero, List.set_cons_succ]
  refine wpAnyH_take (i := 2) (v := ?_) rfl (by kernel_rfl) (by kernel_rfl) (by kernel_rfl) (fun _ _ _ h => h) (Or.inl ⟨by rfl, ?_⟩) (by assumption) ?_
  rotate_left
  · intro wq hSw
    (try dsimp only at hSw)
    go_simp
    try (with_reducible rfl)
  try simp only [Act.put, List.getElem_toArray, List.getElem_cons_zero, List.getElem_cons_succ, List.setIfInBounds_toArray, List.set_cons_zero, List.set_cons_succ]
  refine wpAnyH_take (i := 3) (v := ?_) rfl (by kernel_rfl) (by kernel_rfl) (by kernel_rfl) (fun _ _ _ h => h) (Or.inl ⟨by rfl, ?_⟩) (by assumption) ?_
  rotate_left
  · intro wq hSw
    (try dsimp only at hSw)
    go_simp
    try (with_reducible rfl)
  try simp only [Act.put, List.getElem_toArray, List.getElem_cons_zero, List.getElem_cons_succ, List.setIfInBounds_toArray, List.set_cons_zero, List.set_cons_succ]
  refine wpAnyH_take (i := 5) (v := ?_) rfl (by kernel_rfl) (by kernel_rfl) (by kernel_rfl) (fun _ _ _ h => h) (Or.inl ⟨by rfl, ?_⟩) (by assumption) ?_
  rotate_left
  · intro wq hSw
    (try dsimp only at hSw)
    go_simp
    try (with_reducible rfl)
  try simp only [Act.put, List.getElem_toArray, List.getElem_cons_zero, List.getElem_cons_succ, List.setIfInBounds_toArray, List.set_cons_zero, List.set_cons_succ]
  refine wpAnyH_ready (rs := [4]) (by kernel_rfl) (by simp) ?_
  refine AllReadyH.cons rfl (fun K hK => ?_) AllReadyH.nil
  go_simp
  refine (HS1.out _ hHeld).mono ?_
  rintro e v1 ⟨rfl, hb9⟩
  have hb2 := hHeld.trans (hb9.mono hHeld.size)
  clear hb9
  try go_wp2_with fail
  refine hK.out _ _ hb2 (fun hHeld2 => ?_)
  clear hK K hHeld hb2
  have hHeld := hHeld2
  clear hHeld2
  try simp only [Act.put, List.getElem_toArray, List.getElem_cons_zero, List.getElem_cons_succ, List.setIfInBounds_toArray, List.set_cons_zero, List.set_cons_succ]
  refine wpAnyH_ready (rs := [6]) (by kernel_rfl) (by simp) ?_
  refine AllReadyH.cons rfl (fun K hK => ?_) AllReadyH.nil
  go_simp
  refine (HS2.out _ hHeld).mono ?_
  rintro e v2 ⟨rfl, hb9⟩
  have hb2 := hHeld.trans (hb9.mono hHeld.size)
  clear hb9
  try go_wp2_with fail
  refine hK.out _ _ hb2 (fun hHeld2 => ?_)
  clear hK K hHeld hb2
  have hHeld := hHeld2
  clear hHeld2
  try simp only [Act.put, List.getElem_toArray, List.getElem_cons_zero, List.getElem_cons_succ, List.setIfInBounds_toArray, List.set_cons_zero, List.set_cons_succ]
  refine wpAnyH_take (i := 7) (v := ?_) rfl (by kernel_rfl) (by kernel_rfl) (by kernel_rfl) (fun _ _ _ h => h) (Or.inl ⟨by rfl, ?_⟩) (by assumption) ?_
  rotate_left
  · intro wq hSw
    (try dsimp only at hSw)
    go_simp
    try (with_reducible rfl)
  try simp only [Act.put, List.getElem_toArray, List.getElem_cons_zero, List.getElem_cons_succ, List.setIfInBounds_toArray, List.set_cons_zero, List.set_cons_succ]
  refine wpAnyH_take (i := 8) (v := ?_) rfl (by kernel_rfl) (by kernel_rfl) (by kernel_rfl) (fun _ _ _ h => h) (Or.inl ⟨by rfl, ?_⟩) (by assumption) ?_
  rotate_left
  · intro wq hSw
    (try dsimp only at hSw)
    go_simp
    try (with_reducible rfl)
  try simp only [Act.put, List.getElem_toArray, List.getElem_cons_zero, List.getElem_cons_succ, List.setIfInBounds_toArray, List.set_cons_zero, List.set_cons_succ]
  refine wpAnyH_take (i := 9) (v := ?_) rfl (by kernel_rfl) (by kernel_rfl) (by kernel_rfl) (fun _ _ _ h => h) (Or.inl ⟨by rfl, ?_⟩) (by assumption) ?_
  rotate_left
  · intro wq hSw
    (try dsimp only at hSw)
    go_simp
    try (with_reducible rfl)
  try simp only [Act.put, List.getElem_toArray, List.getElem_cons_zero, List.getElem_cons_succ, List.setIfInBounds_toArray, List.set_cons_zero, List.set_cons_succ]
  refine wpAnyH_take (i := 10) (v := ?_) rfl (by kernel_rfl) (by kernel_rfl) (by kernel_rfl) (fun _ _ _ h => h) (Or.inl ⟨by rfl, ?_⟩) (by assumption) ?_
  rotate_left
  · intro wq hSw
    (try dsimp only at hSw)
    go_simp
    try (with_reducible rfl)
  try simp only [Act.put, List.getElem_toArray, List.getElem_cons_zero, List.getElem_cons_succ, List.setIfInBounds_toArray, List.set_cons_zero, List.set_cons_succ]
  refine wpAnyH_take (i := 12) (v := ?_) rfl (by kernel_rfl) (by kernel_rfl) (by kernel_rfl) (fun _ _ _ h => h) (Or.inl ⟨by rfl, ?_⟩) (by assumption) ?_
  rotate_left
  · intro wq hSw
    (try dsimp only at hSw)
    go_simp
    try (with_reducible rfl)
  try simp only [Act.put, List.getElem_toArray, List.getElem_cons_zero, List.getElem_cons_succ, List.setIfInBounds_toArray, List.set_cons_zero, List.set_cons_succ]
  refine wpAnyH_ready (rs := [11]) (by kernel_rfl) (by simp) ?_
  refine AllReadyH.cons rfl (fun K hK => ?_) AllReadyH.nil
  go_simp
  refine (HL1.out _ hHeld).mono ?_
  rintro e v3 ⟨rfl, hb9⟩
  have hb2 := hHeld.trans (hb9.mono hHeld.size)
  clear hb9
  try go_wp2_with fail
  refine hK.out _ _ hb2 (fun hHeld2 => ?_)
  clear hK K hHeld hb2
  have hHeld := hHeld2
  clear hHeld2
  try simp only [Act.put, List.getElem_toArray, List.getElem_cons_zero, List.getElem_cons_succ, List.setIfInBounds_toArray, List.set_cons_zero, List.set_cons_succ]
  refine wpAnyH_ready (rs := [13]) (by kernel_rfl) (by simp) ?_
  refine AllReadyH.cons rfl (fun K hK => ?_) AllReadyH.nil
  go_simp
  refine (HL2.out _ hHeld).mono ?_
  rintro e v4 ⟨rfl, hb9⟩
  have hb2 := hHeld.trans (hb9.mono hHeld.size)
  clear hb9
  try go_wp2_with fail
  refine hK.out _ _ hb2 (fun hHeld2 => ?_)
  clear hK K hHeld hb2
  have hHeld := hHeld2
  clear hHeld2
  try simp only [Act.put, List.getElem_toArray, List.getElem_cons_zero, List.getElem_cons_succ, List.setIfInBounds_toArray, List.set_cons_zero, List.set_cons_succ]
  refine wpAnyH_take (i := 14) (v := ?_) rfl (by kernel_rfl) (by kernel_rfl) (by kernel_rfl) (fun _ _ _ h => h) (Or.inl ⟨by rfl, ?_⟩) (by assumption) ?_
  rotate_left
  · intro wq hSw
    (try dsimp only at hSw)
    go_simp
    try (with_reducible rfl)
  try simp only [Act.put, List.getElem_toArray, List.getElem_cons_zero, List.getElem_cons_succ, List.setIfInBounds_toArray, List.set_cons_zero, List.set_cons_succ]
  refine wpAnyH_take (i := 15) (v := ?_) rfl (by kernel_rfl) (by kernel_rfl) (by kernel_rfl) (fun _ _ _ h => h) (Or.inl ⟨by rfl, ?_⟩) (by assumption) ?_
  rotate_left
  · intro wq hSw
    (try dsimp only at hSw)
    go_simp
    try (with_reducible rfl)
  try simp only [Act.put, List.getElem_toArray, List.getElem_cons_zero, List.getElem_cons_succ, List.setIfInBounds_toArray, List.set_cons_zero, List.set_cons_succ]
  refine wpAnyH_take (i := 16) (v := ?_) rfl (by kernel_rfl) (by kernel_rfl) (by kernel_rfl) (fun _ _ _ h => h) (Or.inl ⟨by rfl, ?_⟩) (by assumption) ?_
  rotate_left
  · intro wq hSw
    (try dsimp only at hSw)
    go_simp
    try (with_reducible rfl)
  try simp only [Act.put, List.getElem_toArray, List.getElem_cons_zero, List.getElem_cons_succ, List.setIfInBounds_toArray, List.set_cons_zero, List.set_cons_succ]
  refine wpAnyH_take (i := 17) (v := ?_) rfl (by kernel_rfl) (by kernel_rfl) (by kernel_rfl) (fun _ _ _ h => h) (Or.inl ⟨by rfl, ?_⟩) (by assumption) ?_
  rotate_left
  · intro wq hSw
    (try dsimp only at hSw)
    go_simp
    try (with_reducible rfl)
  try simp only [Act.put, List.getElem_toArray, List.getElem_cons_zero, List.getElem_cons_succ, List.setIfInBounds_toArray, List.set_cons_zero, List.set_cons_succ]
  refine wpAnyH_take (i := 19) (v := ?_) rfl (by kernel_rfl) (by kernel_rfl) (by kernel_rfl) (fun _ _ _ h => h) (Or.inl ⟨by rfl, ?_⟩) (by assumption) ?_
  rotate_left
  · intro wq hSw
    (try dsimp only at hSw)
    go_simp
    try (with_reducible rfl)
  try simp only [Act.put, List.getElem_toArray, List.getElem_cons_zero, List.getElem_cons_succ, List.setIfInBounds_toArray, List.set_cons_zero, List.set_cons_succ]
  refine wpAnyH_ready (rs := [18]) (by kernel_rfl) (by simp) ?_
  refine AllReadyH.cons rfl (fun K hK => ?_) AllReadyH.nil
  go_simp
  refine (HR1.out _ hHeld).mono ?_
  rintro e v5 ⟨rfl, hb9⟩
  have hb2 := hHeld.trans (hb9.mono hHeld.size)
  clear hb9
  try go_wp2_with fail
  refine hK.out _ _ hb2 (fun hHeld2 => ?_)
  clear hK K hHeld hb2
  have hHeld := hHeld2
  clear hHeld2
  try simp only [Act.put, List.getElem_toArray, List.getElem_cons_zero, List.getElem_cons_succ, List.setIfInBounds_toArray, List.set_cons_zero, List.set_cons_succ]
  refine wpAnyH_ready (rs := [20]) (by kernel_rfl) (by simp) ?_
  refine AllReadyH.cons rfl (fun K hK => ?_) AllReadyH.nil
  go_simp
  refine (HR2.out _ hHeld).mono ?_
  rintro e v6 ⟨rfl, hb9⟩
  have hb2 := hHeld.trans (hb9.mono hHeld.size)
  clear hb9
  try go_wp2_with fail
  refine hK.out _ _ hb2 (fun hHeld2 => ?_)
  clear hK K hHeld hb2
  have hHeld := hHeld2
  clear hHeld2
  try simp only [Act.put, List.getElem_toArray, List.getElem_cons_zero, List.getElem_cons_succ, List.setIfInBounds_toArray, List.set_cons_zero, List.set_cons_succ]
  refine wpAnyH_take (i := 21) (v := ?_) rfl (by kernel_rfl) (by kernel_rfl) (by kernel_rfl) (fun _ _ _ h => h) (Or.inl ⟨by rfl, ?_⟩) (by assumption) ?_
  rotate_left
  · intro wq hSw
    (try dsimp only at hSw)
    go_simp
    try (with_reducible rfl)
  try simp only [Act.put, List.getElem_toArray, List.getElem_cons_zero, List.getElem_cons_succ, List.setIfInBounds_toArray, List.set_cons_zero, List.set_cons_succ]
  refine wpAnyH_take (i := 22) (v := ?_) rfl (by kernel_rfl) (by kernel_rfl) (by kernel_rfl) (fun _ _ _ h => h) (Or.inl ⟨by rfl, ?_⟩) (by assumption) ?_
  rotate_left
  · intro wq hSw
    (try dsimp only at hSw)
    go_simp
    try (with_reducible rfl)
  try simp only [Act.put, List.getElem_toArray, List.getElem_cons_zero, List.getElem_cons_succ, List.setIfInBounds_toArray, List.set_cons_zero, List.set_cons_succ]
  refine wpAnyH_take (i := 23) (v := ?_) rfl (by kernel_rfl) (by kernel_rfl) (by kernel_rfl) (fun _ _ _ h => h) (Or.inl ⟨by rfl, ?_⟩) (by assumption) ?_
  rotate_left
  · intro wq hSw
    (try dsimp only at hSw)
    go_simp
    try (with_reducible rfl)
  try simp only [Act.put, List.getElem_toArray, List.getElem_cons_zero, List.getElem_cons_succ, List.setIfInBounds_toArray, List.set_cons_zero, List.set_cons_succ]
  refine wpAnyH_take (i := 24) (v := ?_) rfl (by kernel_rfl) (by kernel_rfl) (by kernel_rfl) (fun _ _ _ h => h) (Or.inl ⟨by rfl, ?_⟩) (by assumption) ?_
  rotate_left
  · intro wq hSw
    (try dsimp only at hSw)
    go_simp
    try (with_reducible rfl)
  try simp only [Act.put, List.getElem_toArray, List.getElem_cons_zero, List.getElem_cons_succ, List.setIfInBounds_toArray, List.set_cons_zero, List.set_cons_succ]
  refine wpAnyH_take (i := 26) (v := ?_) rfl (by kernel_rfl) (by kernel_rfl) (by kernel_rfl) (fun _ _ _ h => h) (Or.inl ⟨by rfl, ?_⟩) (by assumption) ?_
  rotate_left
  · intro wq hSw
    (try dsimp only at hSw)
    go_simp
    try (with_reducible rfl)
  try simp only [Act.put, List.getElem_toArray, List.getElem_cons_zero, List.getElem_cons_succ, List.setIfInBounds_toArray, List.set_cons_zero, List.set_cons_succ]
  refine wpAnyH_ready (rs := [25]) (by kernel_rfl) (by simp) ?_
  refine AllReadyH.cons rfl (fun K hK => ?_) AllReadyH.nil
  go_simp
  refine (HD1.out _ hHeld).mono ?_
  rintro e v7 ⟨rfl, hb9⟩
  have hb2 := hHeld.trans (hb9.mono hHeld.size)
  clear hb9
  try go_wp2_with fail
  refine hK.out _ _ hb2 (fun hHeld2 => ?_)
  clear hK K hHeld hb2
  have hHeld := hHeld2
  clear hHeld2
  try simp only [Act.put, List.getElem_toArray, List.getElem_cons_zero, List.getElem_cons_succ, List.setIfInBounds_toArray, List.set_cons_zero, List.set_cons_succ]
  refine wpAnyH_ready (rs := [27]) (by kernel_rfl) (by simp) ?_
  refine AllReadyH.cons rfl (fun K hK => ?_) AllReadyH.nil
  go_simp
  refine (HD2.out _ hHeld).mono ?_
  rintro e v8 ⟨rfl, hb9⟩
  have hb2 := hHeld.trans (hb9.mono hHeld.size)
  clear hb9
  try go_wp2_with fail
  refine hK.out _ _ hb2 (fun hHeld2 => ?_)
  clear hK K hHeld hb2
  have hHeld := hHeld2
  clear hHeld2
  try simp only [Act.put, List.getElem_toArray, List.getElem_cons_zero, List.getElem_cons_succ, List.setIfInBounds_toArray, List.set_cons_zero, List.set_cons_succ]
  refine wpAnyH_take (i := 28) (v := ?_) rfl (by kernel_rfl) (by kernel_rfl) (by kernel_rfl) (fun _ _ _ h => h) (Or.inl ⟨by rfl, ?_⟩) (by assumption) ?_
  rotate_left
  · intro wq hSw
    (try dsimp only at hSw)
    go_simp
    try (with_reducible rfl)
  try simp only [Act.put, List.getElem_toArray, List.getElem_cons_zero, List.getElem_cons_succ, List.setIfInBounds_toArray, List.set_cons_zero, List.set_cons_succ]
  refine wpAnyH_take (i := 29) (v := ?_) rfl (by kernel_rfl) (by kernel_rfl) (by kernel_rfl) (fun _ _ _ h => h) (Or.inl ⟨by rfl, ?_⟩) (by assumption) ?_
  rotate_left
  · intro wq hSw
    (try dsimp only at hSw)
    go_simp
    try (with_reducible rfl)
  try simp only [Act.put, List.getElem_toArray, List.getElem_cons_zero, List.getElem_cons_succ, List.setIfInBounds_toArray, List.set_cons_zero, List.set_cons_succ]
  refine wpAnyH_take (i := 30) (v := ?_) rfl (by kernel_rfl) (by kernel_rfl) (by kernel_rfl) (fun _ _ _ h => h) (Or.inl ⟨by rfl, ?_⟩) (by assumption) ?_
  rotate_left
  · intro wq hSw
    (try dsimp only at hSw)
    go_simp
    try (with_reducible rfl)
  try simp only [Act.put, List.getElem_toArray, List.getElem_cons_zero, List.getElem_cons_succ, List.setIfInBounds_toArray, List.set_cons_zero, List.set_cons_succ]
  refine wpAnyH_take (i := 31) (v := ?_) rfl (by kernel_rfl) (by kernel_rfl) (by kernel_rfl) (fun _ _ _ h => h) (Or.inl ⟨by rfl, ?_⟩) (by assumption) ?_
  rotate_left
  · intro wq hSw
    (try dsimp only at hSw)
    go_simp
    try (with_reducible rfl)
  try simp only [Act.put, List.getElem_toArray, List.getElem_cons_zero, List.getElem_cons_succ, List.setIfInBounds_toArray, List.set_cons_zero, List.set_cons_succ]
  refine wpAnyH_take (i := 33) (v := ?_) rfl (by kernel_rfl) (by kernel_rfl) (by kernel_rfl) (fun _ _ _ h => h) (Or.inl ⟨by rfl, ?_⟩) (by assumption) ?_
  rotate_left
  · intro wq hSw
    (try dsimp only at hSw)
    go_simp
    try (with_reducible rfl)
  try simp only [Act.put, List.getElem_toArray, List.getElem_cons_zero, List.getElem_cons_succ, List.setIfInBounds_toArray, List.set_cons_zero, List.set_cons_succ]
  refine wpAnyH_take (i := 34) (v := ?_) rfl (by kernel_rfl) (by kernel_rfl) (by kernel_rfl) (fun _ _ _ h => h) (Or.inl ⟨by rfl, ?_⟩) (by assumption) ?_
  rotate_left
  · intro wq hSw
    (try dsimp only at hSw)
    go_simp
    try (with_reducible rfl)
  try simp only [Act.put, List.getElem_toArray, List.getElem_cons_zero, List.getElem_cons_succ, List.setIfInBounds_toArray, List.set_cons_zero, List.set_cons_succ]
  refine wpAnyH_take (i := 35) (v := ?_) rfl (by kernel_rfl) (by kernel_rfl) (by kernel_rfl) (fun _ _ _ h => h) (Or.inl ⟨by rfl, ?_⟩) (by assumption) ?_
  rotate_left
  · intro wq hSw
    (try dsimp only at hSw)
    go_simp
    try (with_reducible rfl)
  try simp only [Act.put, List.getElem_toArray, List.getElem_cons_zero, List.getElem_cons_succ, List.setIfInBounds_toArray, List.set_cons_zero, List.set_cons_succ]
  refine wpAnyH_take (i := 36) (v := ?_) rfl (by kernel_rfl) (by kernel_rfl) (by kernel_rfl) (fun _ _ _ h => h) (Or.inl ⟨by rfl, ?_⟩) (by assumption) ?_
  rotate_left
  · intro wq hSw
    (try dsimp only at hSw)
    have c9 := C1.out wq hSw
    clear hSw
    go_simp
    try (with_reducible rfl)
  try simp only [Act.put, List.getElem_toArray, List.getElem_cons_zero, List.getElem_cons_succ, List.setIfInBounds_toArray, List.set_cons_zero, List.set_cons_succ]
  refine wpAnyH_ready (rs := [32]) (by kernel_rfl) (by simp) ?_
  refine AllReadyH.cons rfl (fun K hK => ?_) AllReadyH.nil
  go_simp
  refine (HT1.out _ hHeld).mono ?_
  rintro e v9 ⟨rfl, hb9⟩
  have hb2 := hHeld.trans (hb9.mono hHeld.size)
  clear hb9
  try go_wp2_with fail
  refine hK.out _ _ hb2 (fun hHeld2 => ?_)
  clear hK K hHeld hb2
  have hHeld := hHeld2
  clear hHeld2
  try simp only [Act.put, List.getElem_toArray, List.getElem_cons_zero, List.getElem_cons_succ, List.setIfInBounds_toArray, List.set_cons_zero, List.set_cons_succ]
  refine wpAnyH_take (i := 37) (v := ?_) rfl (by kernel_rfl) (by kernel_rfl) (by kernel_rfl) (fun _ _ _ h => h) (Or.inl ⟨by rfl, ?_⟩) (by assumption) ?_
  rotate_left
  · intro wq hSw
    (try dsimp only at hSw)
    go_simp
    try (with_reducible rfl)
  try simp only [Act.put, List.getElem_toArray, List.getElem_cons_zero, List.getElem_cons_succ, List.setIfInBounds_toArray, List.set_cons_zero, List.set_cons_succ]
  refine wpAnyH_take (i := 38) (v := ?_) rfl (by kernel_rfl) (by kernel_rfl) (by kernel_rfl) (fun _ _ _ h => h) (Or.inl ⟨by rfl, ?_⟩) (by assumption) ?_
  rotate_left
  · intro wq hSw
    (try dsimp only at hSw)
    go_simp
    try (with_reducible rfl)
  try simp only [Act.put, List.getElem_toArray, List.getElem_cons_zero, List.getElem_cons_succ, List.setIfInBounds_toArray, List.set_cons_zero, List.set_cons_succ]
  refine wpAnyH_take (i := 39) (v := ?_) rfl (by kernel_rfl) (by kernel_rfl) (by kernel_rfl) (fun _ _ _ h => h) (Or.inl ⟨by rfl, ?_⟩) (by assumption) ?_
  rotate_left
  · intro wq hSw
    (try dsimp only at hSw)
    go_simp
    try (with_reducible rfl)
  try simp only [Act.put, List.getElem_toArray, List.getElem_cons_zero, List.getElem_cons_succ, List.setIfInBounds_toArray, List.set_cons_zero, List.set_cons_succ]
  refine wpAnyH_done (by kernel_rfl) ?_ _
  have HFIN := Lib.hid hHeld
  go_wp2
  go_ret
  exact ⟨rfl, HFIN.out⟩
end
end Go.Proofs.Ytlljfinagjdihaa

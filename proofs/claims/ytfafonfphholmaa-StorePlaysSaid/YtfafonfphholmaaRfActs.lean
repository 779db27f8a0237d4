/-
  The document's store: stops, at, begin, Fuse. Contracts over the program.
-/
import Derived.Test.YtfafonfphholmaaRfStore
import Derived.Deep.LoopGhost
namespace Go.Proofs.Ytfafonfphholmaa
open Go.RowKit

section
variable {w : World} {B p : Nat} {lv : Value} {L : List RE} {de ar : Bool} {nn : Int} {s : St} {F : Nat → Prop}

theorem trn_set (w : World) (p i : Nat) (v : Value) : Trn w (w.setCell ⟨p, i, none⟩ v) (fun k => k = p) := (Trn.of_grown (setCell_one w p i v)).mono (fun k _ hk => by simp at hk; exact hk.symm)

set_option maxRecDepth 10000 in
/-- stops, where the Fuse is burnt. -/
theorem stops_yes (h : RefAt w B p lv L de true 0) : Calls Try.prog 28 #[.pointer (some ⟨p, 0, none⟩)] w fun e w' => e = .returned (.bool true) ∧ RefAt w' B p lv L true true 0 ∧ Trn w w' (fun k => k = p) := by
  have s2 := h.r2
  have s3 := h.r3
  have s1 := h.r1
  have f1 := h.fr (0 + 1)
  have H1 := Lib.hid (h.set (0 + 1) (.bool true) true true 0 (by omega) (by omega) (fun _ => by omega) (fun j hj => by
    have : j = 0 ∨ j = 1 ∨ j = 2 ∨ j = 3 := by omega
    rcases this with rfl | rfl | rfl | rfl <;> simp [refF]))
  have H2 := Lib.hid (trn_set w p (0 + 1) (.bool true))
  clear h
  go_enter Try.func28, Try.ntmps28
  go_wp2
  go_ret
  exact ⟨rfl, H1.out, H2.out⟩

/-- What stops leaves where it does not stop. -/
def StopNo (w : World) (B p : Nat) (lv : Value) (L : List RE) (de ar : Bool) (nn : Int) (e : Ending) (w' : World) : Prop := e = .returned (.bool false) ∧ (∃ nn', RefAt w' B p lv L de ar nn' ∧ (ar = true → nn' = nn - 1)) ∧ Trn w w' (fun k => k = p)
set_option maxRecDepth 10000 in
/-- stops, where it does not stop. -/
theorem stops_no (h : RefAt w B p lv L de ar nn) (hb : ¬ (ar = true ∧ nn = 0)) : Calls Try.prog 28 #[.pointer (some ⟨p, 0, none⟩)] w (StopNo w B p lv L de ar nn) := by
  have s2 := h.r2
  have s3 := h.r3
  have f3 := h.fr (0 + 3)
  have k1 := h.nn1
  have k2 := h.nn2
  have k3 := h.fuse
  have hset : ∀ nn', -9223372036854775808 ≤ nn' → nn' ≤ 9223372036854775807 → (ar = true → 0 ≤ nn') → RefAt (w.setCell ⟨p, 0 + 3, none⟩ (.int .i64 nn')) B p lv L de ar nn' := fun nn' g1 g2 g3 => h.set (0 + 3) (.int .i64 nn') de ar nn' g1 g2 g3 (fun j hj => by
    have : j = 0 ∨ j = 1 ∨ j = 2 ∨ j = 3 := by omega
    rcases this with rfl | rfl | rfl | rfl <;> simp [refF])
  have HS := Lib.hid hset
  have HK := Lib.hid k3
  have HT := Lib.hid (fun v => trn_set w p (0 + 3) v)
  clear h hset k3
  cases ar
  · clear hb
    by_cases hm : nn = -9223372036854775808
    · subst hm
      go_enter Try.func28, Try.ntmps28
      go_wp2
      go_ret
      exact ⟨rfl, ⟨_, HS.out _ (by decide +kernel) (by decide +kernel) (fun e => by cases e), fun e => by cases e⟩, HT.out _⟩
    · go_enter Try.func28, Try.ntmps28
      go_wp2
      go_ret
      exact ⟨rfl, ⟨_, HS.out _ (by omega) (by omega) (fun e => by cases e), fun e => by cases e⟩, HT.out _⟩
  · have hn0 : nn ≠ 0 := fun e => hb ⟨rfl, e⟩
    have hn1 := HK.out rfl
    clear hb
    go_enter Try.func28, Try.ntmps28
    go_wp2
    go_ret
    exact ⟨rfl, ⟨_, HS.out _ (by omega) (by omega) (fun _ => by omega), fun _ => rfl⟩, HT.out _⟩

/-- What at answers. -/
def AtEnd (w : World) (L : List RE) (n : Int) (e : Ending) (w' : World) : Prop :=
  w = w' ∧ ((∃ i x, L[i]? = some x ∧ x.k.n = n ∧ e = .returned (.int .i64 (i : Nat))) ∨ (e = .returned (.int .i64 (-1)) ∧ ∀ x ∈ L, x.k.n ≠ n))

set_option maxRecDepth 10000 in
set_option maxHeartbeats 1000000 in
theorem at_any (h : RefAt w B p lv L de ar nn) (n : Int) : Calls Try.prog 29 #[.pointer (some ⟨p, 0, none⟩), .int .i64 n] w (AtEnd w L n) := by
  have s0 := h.r0
  have hm := h.many
  rcases h.form with ⟨rfl, rfl⟩ | ⟨g, c, rfl, hlc, hcm, hB, hg, hcells, hfr⟩
  · clear h
    go_enter Try.func29, Try.ntmps29
    go_wp2
    go_loopw [5, 11] (fun _ vi wr => vi = .int .i64 0 ∧ wr = w) (fun _ _ _ => 0)
    case atStart => exact ⟨rfl, rfl⟩
    case round =>
      obtain ⟨rfl, rfl⟩ := hrel
      go_wp2
      go_ret
      exact ⟨rfl, .inr ⟨rfl, fun x hx => by cases hx⟩⟩
  · have HC := Lib.hid hcells
    clear h hcells hfr
    obtain ⟨m, hml⟩ : ∃ m, L.length = m := ⟨_, rfl⟩
    rw [hml] at s0 hlc hm
    have HML := Lib.hid hml
    clear hml
    have hcm2 : c ≤ 9223372036854775807 := by unfold maxLen at hcm; exact hcm
    clear hcm
    go_enter Try.func29, Try.ntmps29
    go_wp2
    go_loopw [5, 11] (fun _ vi wr => ∃ k : Nat, k ≤ m ∧ vi = .int .i64 k ∧ wr = w ∧ Hid (∀ j x, j < k → L[j]? = some x → x.k.n ≠ n)) (fun _ vi _ => m - (intOf vi).toNat)
    case atStart => exact ⟨0, by omega, rfl, rfl, fun j x hj => by omega⟩
    case round =>
      obtain ⟨k, hk, rfl, rfl, hno⟩ := hrel
      by_cases hlt : k < m
      · obtain ⟨x, hx⟩ : ∃ x, L[k]? = some x := ⟨L[k]'(by rw [HML.out]; exact hlt), List.getElem?_eq_getElem _⟩
        obtain ⟨c0, _⟩ := HC.out k x hx
        have HX := Lib.hid hx
        have i1 : (k : Int) < (m : Int) := by omega
        have i2 : (0 : Int) ≤ (k : Int) := by omega
        clear hx
        obtain ⟨y, hy⟩ : ∃ y, x.k.n = y := ⟨_, rfl⟩
        rw [hy] at c0
        have HY := Lib.hid hy
        clear hy
        by_cases he : y = n
        · subst he
          go_wp2
          go_ret
          exact ⟨rfl, .inl ⟨k, x, HX.out, HY.out, rfl⟩⟩
        · go_wp2
          go_roundw
          case rel =>
            refine ⟨k + 1, by omega, by go_num, (by first | rfl | trivial), Lib.hid (fun j z hj hz => ?_)⟩
            by_cases hjk : j = k
            · subst hjk
              rw [HX.out] at hz
              cases hz
              rw [HY.out]; exact he
            · exact hno.out j z (by omega) hz
          case measure => simp [intOf]; omega
      · go_wp2
        go_ret
        refine ⟨rfl, .inr ⟨rfl, fun x hx => ?_⟩⟩
        obtain ⟨j, hj, he⟩ := List.getElem_of_mem hx
        exact hno.out j x (by rw [HML.out] at hj; omega) (by rw [List.getElem?_eq_getElem hj, he])

/-- What begin answers. -/
def BgEnd (w : World) (L : List RE) (s : St) (n : Int) (e : Ending) (w' : World) : Prop :=
  w = w' ∧ ((mustE s n = 0 ∧ ∃ i x, L[i]? = some x ∧ x.k.n = n ∧ e = .returned (.tuple #[.int .i64 (i : Nat), .int .i64 0])) ∨ (mustE s n ≠ 0 ∧ e = .returned (.tuple #[.int .i64 (-1), .int .i64 (mustE s n)])))

set_option maxRecDepth 10000 in
set_option maxHeartbeats 1000000 in
theorem begin_any (h : RefAt w B p lv L s.de ar nn) (hk : L.map (·.k) = s.bs) (n : Int) : Calls Try.prog 33 #[.pointer (some ⟨p, 0, none⟩), .int .i64 n] w (BgEnd w L s n) := by
  have s1 := h.r1
  have hat := at_any h n
  cases hd : s.de
  · rw [hd] at s1
    by_cases hn : n < 1
    · have hme : mustE s n = 1 := by simp [mustE, mayE, hd, hn]
      have HME := Lib.hid hme
      clear hat h hme
      go_enter Try.func33, Try.ntmps33
      go_wp2
      go_ret2
      exact ⟨rfl, .inr ⟨by rw [HME.out]; decide, by rw [HME.out]; rfl⟩⟩
    · have hma : mayE s.de n = 0 := by simp [mayE, hd, hn]
      have HA := Lib.hid hat
      have HK := Lib.hid hk
      have HMA := Lib.hid hma
      clear hat h hk hma
      go_enter Try.func33, Try.ntmps33
      go_wp2_with fail
      refine HA.out.mono ?_
      rintro e w1 ⟨rfl, ⟨i, x, hx, hxn, rfl⟩ | ⟨rfl, hno⟩⟩
      · have HX := Lib.hid hx
        have HXN := Lib.hid hxn
        have hi : ¬ (i : Int) < 0 := by omega
        clear hx hxn
        go_wp2_with fail
        refine HA.out.mono ?_
        rintro e w1 ⟨rfl, ⟨i2, x2, hx2, hxn2, rfl⟩ | ⟨rfl, hno⟩⟩
        · have HX2 := Lib.hid hx2
          have HXN2 := Lib.hid hxn2
          clear hx2 hxn2
          go_wp2_with fail
          go_ret2
          refine ⟨rfl, .inl ⟨?_, i2, x2, HX2.out, HXN2.out, rfl⟩⟩
          unfold mustE
          rw [if_neg (by rw [HMA.out]; simp), if_pos]
          rw [← HK.out]
          simp
          exact ⟨x, List.mem_of_getElem? HX.out, HXN.out⟩
        · exact absurd HXN.out (hno x (List.mem_of_getElem? HX.out))
      · have HNO := Lib.hid hno
        clear hno
        go_wp2_with fail
        go_ret2
        have hme : mustE s n = 3 := by
          unfold mustE
          rw [if_neg (by rw [HMA.out]; simp), if_neg]
          rw [← HK.out]
          simpa using HNO.out
        exact ⟨rfl, .inr ⟨by rw [hme]; decide, by rw [hme]; rfl⟩⟩
  · rw [hd] at s1
    have hme : mustE s n = 6 := by simp [mustE, mayE, hd]
    have HME := Lib.hid hme
    clear hat h hme
    go_enter Try.func33, Try.ntmps33
    go_wp2
    go_ret2
    exact ⟨rfl, .inr ⟨by rw [HME.out]; decide, by rw [HME.out]; rfl⟩⟩

set_option maxRecDepth 10000 in
theorem rffuse_any (h : RefIs w B p s F) (n : Int) (hn : n ≤ 9223372036854775807) : Calls Try.prog 17 #[.pointer (some ⟨p, 0, none⟩), .int .i64 n] w fun x w' => x = .returned (.tuple #[]) ∧ RefIs w' B p ⟨s.bs, true, max n 0, s.de⟩ F ∧ SC w w' F F := by
  obtain ⟨lv, L, nn, h, hk, rfl, hf⟩ := h
  have s2 := h.r2
  have s3 := h.r3
  have f2 := h.fr (0 + 2)
  have f3 := h.fr (0 + 3)
  have k1 := h.nn1
  have k2 := h.nn2
  have hset : ∀ z : Int, z ≤ 9223372036854775807 → 0 ≤ z → RefAt ((w.setCell ⟨p, 0 + 2, none⟩ (.bool true)).setCell ⟨p, 0 + 3, none⟩ (.int .i64 z)) B p lv L s.de true z ∧ Trn w ((w.setCell ⟨p, 0 + 2, none⟩ (.bool true)).setCell ⟨p, 0 + 3, none⟩ (.int .i64 z)) (fun k => k = p) := fun z h1 h2 => by
    have hA : RefAt (w.setCell ⟨p, 0 + 3, none⟩ (.int .i64 z)) B p lv L s.de s.fu z := h.set (0 + 3) (.int .i64 z) s.de s.fu z (by omega) h1 (fun _ => h2) (fun j hj => by
      have : j = 0 ∨ j = 1 ∨ j = 2 ∨ j = 3 := by omega
      rcases this with rfl | rfl | rfl | rfl <;> simp [refF])
    have hC : RefAt ((w.setCell ⟨p, 0 + 2, none⟩ (.bool true)).setCell ⟨p, 0 + 3, none⟩ (.int .i64 z)) B p lv L s.de true z := by
      have ht := trn2 (trn_set w p (0 + 2) (.bool true)) (trn_set _ p (0 + 3) (.int .i64 z))
      have hr := ((h.row.set (0 + 2) (.bool true)).set (0 + 3) (.int .i64 z)).congr (g := refF lv s.de true z) (fun j hj => by
        have : j = 0 ∨ j = 1 ∨ j = 2 ∨ j = 3 := by omega
        rcases this with rfl | rfl | rfl | rfl <;> simp [refF])
      obtain ⟨hpl, hpe⟩ := h.p_ne
      exact ⟨hr, ht.rows h.list (fun g hg e => hpl (by rw [hg, e])), fun e he => ht.own (h.each e he) (fun g hg e1 => hpe e he (by rw [hg, e1])), h.len, h.rise, h.gep, h.many, h.sle, by omega, h1, fun _ => h2⟩
    exact ⟨hC, trn2 (trn_set w p (0 + 2) (.bool true)) (trn_set _ p (0 + 3) (.int .i64 z))⟩
  have HS := Lib.hid hset
  have HK := Lib.hid hk
  clear h hset hk hf
  by_cases h0 : n < 0
  · have e1 : max n 0 = 0 := by omega
    go_enter Try.func17, Try.ntmps17
    go_wp2
    go_end0
    have := HS.out 0 (by omega) (by omega)
    exact ⟨rfl, ⟨lv, L, _, this.1, HK.out, rfl, fun _ => by first | rfl | (dsimp only; omega)⟩, this.2.mono (fun k _ hk => .inl hk), fun k hk => .inl hk⟩
  · have e1 : max n 0 = n := by omega
    go_enter Try.func17, Try.ntmps17
    go_wp2
    go_end0
    have := HS.out n (by omega) (by omega)
    exact ⟨rfl, ⟨lv, L, _, this.1, HK.out, rfl, fun _ => by first | rfl | (dsimp only; omega)⟩, this.2.mono (fun k _ hk => .inl hk), fun k hk => .inl hk⟩
end
end Go.Proofs.Ytfafonfphholmaa

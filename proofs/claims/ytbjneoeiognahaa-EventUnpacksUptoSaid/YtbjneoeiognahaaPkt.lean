/-
  What package packet's within, known, bare, bounded, Same, Check answer: contracts over the program.
-/
import Derived.Test.YtbjneoeiognahaaBase
namespace Go.Proofs.Ytbjneoeiognahaa
open Go.RowKit

set_option maxRecDepth 10000 in
theorem withinP_any (n g : Int) (w : World) : Calls Try.prog 136 #[.int .i64 n, .int .i64 g] w fun e w' => e = .returned (.bool (inB n g)) ∧ w = w' := by
  unfold inB
  by_cases h : 0 ≤ n
  · have d1 : decide (n ≥ 0) = true := by simp; omega
    go_enter Try.func136, Try.ntmps136
    go_wp2
    go_ret
    exact ⟨ret_b (by simp; omega), rfl⟩
  · have d1 : decide (n ≥ 0) = false := by simp; omega
    go_enter Try.func136, Try.ntmps136
    go_wp2
    go_ret
    exact ⟨ret_b (by simp), rfl⟩

set_option maxRecDepth 10000 in
theorem known_any (p : Pkt) (A : Option Addr) (c : Nat) (w : World) : Calls Try.prog 120 #[p.val A c] w fun e w' => e = .returned (.bool p.known) ∧ Below w.heap.size w w' := by
  unfold Pkt.val Pkt.known
  have hb : ∀ o, Below w.heap.size w (w.alloc o) := fun o => (Below.refl _ _).alloc (Nat.le_refl _) _
  go_enter Try.func120, Try.ntmps120
  go_wp2_with fail
  · refine (withinP_any p.pa 2 _).mono ?_
    rintro e w' ⟨rfl, rfl⟩
    cases e1 : inB p.pa 2
    · go_wp2
      go_ret
      exact ⟨ret_b (by simp [*]), hb _⟩
    · go_wp2_with fail
      refine (withinP_any p.nu 65535 _).mono ?_
      rintro e w' ⟨rfl, rfl⟩
      go_wp2
      go_ret
      exact ⟨ret_b (by simp [*]), hb _⟩
  · go_ret
    exact ⟨ret_b (by simp; intros; omega), hb _⟩
  · go_ret
    exact ⟨ret_b (by simp; intros; omega), hb _⟩

set_option maxRecDepth 10000 in
theorem bounded_any (p : Pkt) (A : Option Addr) (c : Nat) (w : World) (hp : PktAt w p A c) : Calls Try.prog 123 #[p.val A c] w fun e w' => e = .returned (.bool p.bounded) ∧ Below w.heap.size w w' := by
  unfold Pkt.val Pkt.bounded
  have hl := hp.reach
  clear hp
  obtain ⟨n, hn⟩ : ∃ n, p.da.length = n := ⟨_, rfl⟩
  rw [hn] at hl ⊢
  clear hn
  have hb : ∀ o, Below w.heap.size w (w.alloc o) := fun o => (Below.refl _ _).alloc (Nat.le_refl _) _
  have hi : inB p.fr 4096 = true → 0 ≤ p.fr ∧ p.fr ≤ 4096 := by unfold inB; simp
  go_enter Try.func123, Try.ntmps123
  go_wp2_with fail
  refine (withinP_any p.ofn 65535 _).mono ?_
  rintro e w' ⟨rfl, rfl⟩
  cases h1 : inB p.ofn 65535
  · go_wp2
    go_ret
    exact ⟨ret_b (by simp [*]), hb _⟩
  · go_wp2_with fail
    refine (withinP_any p.fr 4096 _).mono ?_
    rintro e w' ⟨rfl, rfl⟩
    cases h2 : inB p.fr 4096
    · go_wp2
      go_ret
      exact ⟨ret_b (by simp [*]), hb _⟩
    · obtain ⟨f1, f2⟩ := hi h2
      clear hi
      by_cases e1 : n ≤ 64
      · have e1' : decide ((n : Int) ≤ 64) = true := by simp; omega
        go_wp2_with fail
        · refine (withinP_any p.se 4097 _).mono ?_
          rintro e w' ⟨rfl, rfl⟩
          cases h3 : inB p.se 4097
          · go_wp2
            go_ret
            exact ⟨ret_b (by simp [*]), hb _⟩
          · go_wp2_with fail
            refine (withinP_any p.li 4496 _).mono ?_
            rintro e w' ⟨rfl, rfl⟩
            go_wp2
            go_ret
            exact ⟨ret_b (by simp [*]), hb _⟩
        · go_ret
          exact ⟨ret_b (by simp; intros; omega), hb _⟩
      · have e1' : decide ((n : Int) ≤ 64) = false := by simp; omega
        go_wp2
        go_ret
        exact ⟨ret_b (by simp; intros; omega), hb _⟩

set_option maxRecDepth 10000 in
theorem bel3 (w : World) (a b c : Obj) : Below w.heap.size w (((w.alloc a).alloc b).alloc c) :=
  have h1 := (Below.refl w.heap.size w).alloc (Nat.le_refl _) a
  have h2 := h1.alloc h1.size b
  h2.alloc h2.size c

set_option maxRecDepth 10000 in
set_option maxHeartbeats 1000000 in
theorem bare_any (p : Pkt) (A : Option Addr) (c : Nat) (w : World) : Calls Try.prog 122 #[p.val A c] w fun e w' =>
    e = .returned (p.bare.val (if p.k = 3 then A else none) (if p.k = 3 then c else 0)) ∧ Below w.heap.size w w' := by
  obtain ⟨k, pa, nu, o, fr, da, fin, se, li⟩ := p
  unfold Pkt.val Pkt.bare
  simp only
  by_cases h2 : k = 2
  · subst h2
    simp only [if_pos, if_neg (show ¬ (2 : Int) = 3 by omega), List.length_nil]
    go_enter Try.func122, Try.ntmps122
    go_wp2
    refine bodyPost_ret (v := .agg #[.int .i64 2, .int .i64 pa, .int .i64 nu, .int .i64 o, .int .i64 0, .slice none 0 0, .bool false, .int .i64 0, .int .i64 0]) (by simp [results, Try.results122, go_sem]) rfl ⟨rfl, bel3 _ _ _ _⟩
  · by_cases h3 : k = 3
    · subst h3
      simp only [if_pos, if_neg (show ¬ (3 : Int) = 2 by omega)]
      go_enter Try.func122, Try.ntmps122
      go_wp2
      go_region
      go_wp2
      exact bodyPost_ret (v := .agg #[.int .i64 3, .int .i64 pa, .int .i64 nu, .int .i64 0, .int .i64 fr, .slice A da.length c, .bool fin, .int .i64 0, .int .i64 0]) (by simp [results, Try.results122, go_sem]) rfl ⟨rfl, (bel3 _ _ _ _).drew⟩
    · by_cases h4 : k = 4
      · subst h4
        simp only [if_pos, if_neg (show ¬ (4 : Int) = 2 by omega), if_neg (show ¬ (4 : Int) = 3 by omega), List.length_nil]
        go_enter Try.func122, Try.ntmps122
        go_wp2_with fail
        go_region
        go_wp2
        exact bodyPost_ret (v := .agg #[.int .i64 4, .int .i64 pa, .int .i64 nu, .int .i64 o, .int .i64 0, .slice none 0 0, .bool false, .int .i64 se, .int .i64 li]) (by simp [results, Try.results122, go_sem]) rfl ⟨rfl, (bel3 _ _ _ _).drew⟩
      · simp only [if_neg h2, if_neg h3, if_neg h4, List.length_nil]
        have b2 : (k == 2) = false := by simp [h2]
        have b3 : (k == 3) = false := by simp [h3]
        have b4 : (k == 4) = false := by simp [h4]
        go_enter Try.func122, Try.ntmps122
        go_wp2
        refine bodyPost_ret (v := .agg #[.int .i64 k, .int .i64 pa, .int .i64 nu, .int .i64 0, .int .i64 0, .slice none 0 0, .bool false, .int .i64 0, .int .i64 0]) (by simp [results, Try.results122, go_sem]) rfl ⟨rfl, bel3 _ _ _ _⟩

set_option maxRecDepth 10000 in
set_option maxHeartbeats 1000000 in
theorem sameP_any (p q : Pkt) (A B : Option Addr) (c d : Nat) (w : World) (hp : PktAt w p A c) (hq : PktAt w q B d) :
    Calls Try.prog 121 #[p.val A c, q.val B d] w fun e w' => e = .returned (.bool (p.same q)) ∧ Below w.heap.size w w' := by
  have hbel : ∀ a b, Below w.heap.size w ((w.alloc a).alloc b) := fun a b =>
    have h1 := (Below.refl w.heap.size w).alloc (Nat.le_refl _) a
    h1.alloc h1.size b
  have hE := fun W (hr1 : Rd .u8 W A p.da) (hr2 : Rd .u8 W B q.da) => bytesEqual_any (c := c) (d := d) p.da q.da rfl rfl hr1 hr2 hp.byt hq.byt
  have r1 := hp.rd
  have r2 := hq.rd
  clear hp hq
  obtain ⟨k, pa, nu, o, fr, da, fin, se, li⟩ := p
  obtain ⟨k', pa', nu', o', fr', da', fin', se', li'⟩ := q
  unfold Pkt.val Pkt.same
  simp only at hE r1 r2 ⊢
  obtain ⟨n, hn⟩ : ∃ n, da.length = n := ⟨_, rfl⟩
  obtain ⟨m, hm⟩ : ∃ m, da'.length = m := ⟨_, rfl⟩
  rw [hn, hm] at hE ⊢
  clear hn hm
  have HE := Lib.hid hE
  have R1 := Lib.hid r1
  have R2 := Lib.hid r2
  clear hE r1 r2
  go_enter Try.func121, Try.ntmps121
  go_wp2_with fail
  · refine (HE.out _ ((R1.out.alloc _).alloc _) ((R2.out.alloc _).alloc _)).mono ?_
    rintro e w' ⟨rfl, rfl⟩
    by_cases hd : da = da'
    · have hd' : decide (da = da') = true := decide_eq_true hd
      rw [hd']
      go_wp2_with fail
      · go_ret
        exact ⟨ret_b (by rw [Bool.eq_iff_iff]; simp [*]), hbel _ _⟩
      all_goals (go_ret; exact ⟨ret_b (by simp [*]), hbel _ _⟩)
    · have hd' : decide (da = da') = false := decide_eq_false hd
      rw [hd']
      go_wp2_with fail
      all_goals (go_ret; exact ⟨ret_b (by simp [*]), hbel _ _⟩)
  all_goals (go_ret; exact ⟨ret_b (by simp [*]), hbel _ _⟩)

end Go.Proofs.Ytbjneoeiognahaa

/-
  What package event's bare, within, bounded answer of an event: contracts over the program.
-/
import Derived.Test.YtbjneoeiognahaaEvMath
import Derived.Test.YtbjneoeiognahaaPktCheck
namespace Go.Proofs.Ytbjneoeiognahaa
open Go.RowKit

/-- An event with nothing but what its kind has. -/
def Ev.bare (e : Ev) : Ev :=
  if e.k = 1 ∨ e.k = 2 then ⟨e.k, 0, e.da, Pkt.zero⟩
  else if e.k = 3 ∨ e.k = 7 ∨ e.k = 8 then ⟨e.k, e.n, [], Pkt.zero⟩
  else if e.k = 4 ∨ e.k = 5 then ⟨e.k, 0, [], e.pk⟩
  else ⟨e.k, 0, [], Pkt.zero⟩
/-- What its kind has may be. -/
def Ev.bounded (e : Ev) : Bool :=
  if e.k = 1 ∨ e.k = 2 then decide (1 ≤ e.da.length) && decide (e.da.length ≤ 4096)
  else if e.k = 3 then decide (1 ≤ e.n) && decide (e.n ≤ 1048576)
  else if e.k = 4 ∨ e.k = 5 then e.pk.ok
  else if e.k = 7 ∨ e.k = 8 then inB e.n 2
  else decide (e.k = 6)
set_option maxRecDepth 10000 in
theorem nil_len {l : List Int} : decide (l = []) = decide (l.length = 0) := by cases l <;> simp
set_option maxRecDepth 10000 in
theorem Ev.ok_eq (e : Ev) : (e.same e.bare && e.bounded) = e.ok := by
  obtain ⟨k, n, da, pk⟩ := e
  have hs : pk.same pk = true := Pkt.same_iff.2 rfl
  unfold Ev.same Ev.bare Ev.bounded Ev.ok
  simp only
  split
  · simp only [decide_true, Bool.true_and, Bool.and_true]
    cases decide (n = 0) <;> cases pk.same Pkt.zero <;> simp
  · split
    · rename_i h
      rcases h with rfl | rfl | rfl
      · simp only [decide_true, Bool.true_and, Bool.and_true, nil_len, if_pos]
        cases decide (da.length = 0) <;> cases pk.same Pkt.zero <;> simp
      · simp [nil_len]
        cases decide (da = []) <;> cases pk.same Pkt.zero <;> cases inB n 2 <;> simp
      · simp [nil_len]
        cases decide (da = []) <;> cases pk.same Pkt.zero <;> cases inB n 2 <;> simp
    · rename_i h1 h2
      have h3 : ¬ k = 3 := fun e => h2 (.inl e)
      have h7 : ¬ (k = 7 ∨ k = 8) := fun e => h2 (.inr e)
      simp only [if_neg h3, if_neg h7]
      split
      · simp only [decide_true, Bool.true_and, Bool.and_true, nil_len, hs]
        cases decide (n = 0) <;> cases decide (da.length = 0) <;> simp
      · simp only [decide_true, Bool.true_and, nil_len]
        split
        · rename_i h6
          subst h6
          simp
        · rename_i h6
          simp [h6]
set_option maxRecDepth 10000 in
theorem EvAt.bareAt {w : World} {e : Ev} {A : Option Addr} {c : Nat} {B : Option Addr} {d : Nat} (h : EvAt w e A c B d) {n : Int} (hn : -9223372036854775808 ≤ n ∧ n ≤ 9223372036854775807) :
    EvAt w ⟨e.k, 0, e.da, Pkt.zero⟩ A c none 0 ∧ EvAt w ⟨e.k, n, [], Pkt.zero⟩ none 0 none 0 ∧ EvAt w ⟨e.k, 0, [], e.pk⟩ none 0 B d :=
  ⟨⟨h.rd, h.reach, h.cap, h.nil, h.byt, h.bk, by simp, (EvAt.zero w).pk⟩, ⟨.inl rfl, by simp, by simp, fun _ => rfl, by simp, h.bk, hn, (EvAt.zero w).pk⟩, ⟨.inl rfl, by simp, by simp, fun _ => rfl, by simp, h.bk, by simp, h.pk⟩⟩

set_option maxRecDepth 10000 in
theorem withinE_any (n l g : Int) (w : World) : Calls Try.prog 125 #[.int .i64 n, .int .i64 l, .int .i64 g] w fun e w' => e = .returned (.bool (decide (l ≤ n) && decide (n ≤ g))) ∧ w = w' := by
  by_cases h : l ≤ n
  · have d1 : decide (n ≥ l) = true := by simp; omega
    go_enter Try.func125, Try.ntmps125
    go_wp2
    go_ret
    exact ⟨ret_b (by simp; omega), rfl⟩
  · have d1 : decide (n ≥ l) = false := by simp; omega
    go_enter Try.func125, Try.ntmps125
    go_wp2
    go_ret
    exact ⟨ret_b (by first | (simp; done) | (simp; omega)), rfl⟩

set_option maxRecDepth 10000 in
theorem bel3e (w : World) (a b c : Obj) : Below w.heap.size w (((w.alloc a).alloc b).alloc c) :=
  have h1 := (Below.refl w.heap.size w).alloc (Nat.le_refl _) a
  have h2 := h1.alloc h1.size b
  h2.alloc h2.size c

set_option maxRecDepth 10000 in
set_option maxHeartbeats 1000000 in
theorem bareE1 (n : Int) (da : List Int) (pk : Pkt) (A : Option Addr) (c : Nat) (B : Option Addr) (d : Nat) (w : World) (h : EvAt w ⟨1, n, da, pk⟩ A c B d) :
    Calls Try.prog 103 #[(⟨1, n, da, pk⟩ : Ev).val A c B d] w fun x w' => ∃ A2 c2 B2 d2, x = .returned ((Ev.bare ⟨1, n, da, pk⟩).val A2 c2 B2 d2) ∧ EvAt w' (Ev.bare ⟨1, n, da, pk⟩) A2 c2 B2 d2 ∧ Below w.heap.size w w' := by
  have he : Ev.bare ⟨1, n, da, pk⟩ = ⟨1, 0, da, Pkt.zero⟩ := by simp [Ev.bare]
  rw [he]
  have HA := Lib.hid (show EvAt w ⟨1, 0, da, Pkt.zero⟩ A c none 0 from (h.bareAt (n := 0) (by simp)).1)
  clear h he
  unfold Ev.val
  simp only
  go_enter Try.func103, Try.ntmps103
  go_wp2_with fail
  refine bodyPost_ret (v := .agg #[.int .i64 1, .int .i64 0, .slice A da.length c, .int .i64 0, .int .i64 0, .int .i64 0, .int .i64 0, .int .i64 0, .slice none 0 0, .bool false, .int .i64 0, .int .i64 0]) (by simp [results, Try.results103, go_sem]) rfl ⟨A, c, none, 0, rfl, HA.out.later (bel3e _ _ _ _), bel3e _ _ _ _⟩

set_option maxRecDepth 10000 in
set_option maxHeartbeats 1000000 in
theorem bareE2 (n : Int) (da : List Int) (pk : Pkt) (A : Option Addr) (c : Nat) (B : Option Addr) (d : Nat) (w : World) (h : EvAt w ⟨2, n, da, pk⟩ A c B d) :
    Calls Try.prog 103 #[(⟨2, n, da, pk⟩ : Ev).val A c B d] w fun x w' => ∃ A2 c2 B2 d2, x = .returned ((Ev.bare ⟨2, n, da, pk⟩).val A2 c2 B2 d2) ∧ EvAt w' (Ev.bare ⟨2, n, da, pk⟩) A2 c2 B2 d2 ∧ Below w.heap.size w w' := by
  have he : Ev.bare ⟨2, n, da, pk⟩ = ⟨2, 0, da, Pkt.zero⟩ := by simp [Ev.bare]
  rw [he]
  have HA := Lib.hid (show EvAt w ⟨2, 0, da, Pkt.zero⟩ A c none 0 from (h.bareAt (n := 0) (by simp)).1)
  clear h he
  unfold Ev.val
  simp only
  go_enter Try.func103, Try.ntmps103
  go_wp2_with fail
  refine bodyPost_ret (v := .agg #[.int .i64 2, .int .i64 0, .slice A da.length c, .int .i64 0, .int .i64 0, .int .i64 0, .int .i64 0, .int .i64 0, .slice none 0 0, .bool false, .int .i64 0, .int .i64 0]) (by simp [results, Try.results103, go_sem]) rfl ⟨A, c, none, 0, rfl, HA.out.later (bel3e _ _ _ _), bel3e _ _ _ _⟩

set_option maxRecDepth 10000 in
set_option maxHeartbeats 1000000 in
theorem bareE3 (n : Int) (da : List Int) (pk : Pkt) (A : Option Addr) (c : Nat) (B : Option Addr) (d : Nat) (w : World) (h : EvAt w ⟨3, n, da, pk⟩ A c B d) :
    Calls Try.prog 103 #[(⟨3, n, da, pk⟩ : Ev).val A c B d] w fun x w' => ∃ A2 c2 B2 d2, x = .returned ((Ev.bare ⟨3, n, da, pk⟩).val A2 c2 B2 d2) ∧ EvAt w' (Ev.bare ⟨3, n, da, pk⟩) A2 c2 B2 d2 ∧ Below w.heap.size w w' := by
  have he : Ev.bare ⟨3, n, da, pk⟩ = ⟨3, n, [], Pkt.zero⟩ := by simp [Ev.bare]
  rw [he]
  have HA := Lib.hid (show EvAt w ⟨3, n, [], Pkt.zero⟩ none 0 none 0 from (h.bareAt h.bn).2.1)
  clear h he
  unfold Ev.val
  simp only
  go_enter Try.func103, Try.ntmps103
  go_wp2_with fail
  refine bodyPost_ret (v := .agg #[.int .i64 3, .int .i64 n, .slice none 0 0, .int .i64 0, .int .i64 0, .int .i64 0, .int .i64 0, .int .i64 0, .slice none 0 0, .bool false, .int .i64 0, .int .i64 0]) (by simp [results, Try.results103, go_sem]) rfl ⟨none, 0, none, 0, rfl, HA.out.later (bel3e _ _ _ _), bel3e _ _ _ _⟩

set_option maxRecDepth 10000 in
set_option maxHeartbeats 1000000 in
theorem bareE4 (n : Int) (da : List Int) (pk : Pkt) (A : Option Addr) (c : Nat) (B : Option Addr) (d : Nat) (w : World) (h : EvAt w ⟨4, n, da, pk⟩ A c B d) :
    Calls Try.prog 103 #[(⟨4, n, da, pk⟩ : Ev).val A c B d] w fun x w' => ∃ A2 c2 B2 d2, x = .returned ((Ev.bare ⟨4, n, da, pk⟩).val A2 c2 B2 d2) ∧ EvAt w' (Ev.bare ⟨4, n, da, pk⟩) A2 c2 B2 d2 ∧ Below w.heap.size w w' := by
  have he : Ev.bare ⟨4, n, da, pk⟩ = ⟨4, 0, [], pk⟩ := by simp [Ev.bare]
  rw [he]
  have HA := Lib.hid (show EvAt w ⟨4, 0, [], pk⟩ none 0 B d from (h.bareAt (n := 0) (by simp)).2.2)
  clear h he
  unfold Ev.val
  simp only
  go_enter Try.func103, Try.ntmps103
  go_wp2_with fail
  refine bodyPost_ret (v := .agg #[.int .i64 4, .int .i64 0, .slice none 0 0, .int .i64 pk.k, .int .i64 pk.pa, .int .i64 pk.nu, .int .i64 pk.ofn, .int .i64 pk.fr, .slice B pk.da.length d, .bool pk.fin, .int .i64 pk.se, .int .i64 pk.li]) (by simp [results, Try.results103, go_sem]) rfl ⟨none, 0, B, d, rfl, HA.out.later (bel3e _ _ _ _), bel3e _ _ _ _⟩

set_option maxRecDepth 10000 in
set_option maxHeartbeats 1000000 in
theorem bareE5 (n : Int) (da : List Int) (pk : Pkt) (A : Option Addr) (c : Nat) (B : Option Addr) (d : Nat) (w : World) (h : EvAt w ⟨5, n, da, pk⟩ A c B d) :
    Calls Try.prog 103 #[(⟨5, n, da, pk⟩ : Ev).val A c B d] w fun x w' => ∃ A2 c2 B2 d2, x = .returned ((Ev.bare ⟨5, n, da, pk⟩).val A2 c2 B2 d2) ∧ EvAt w' (Ev.bare ⟨5, n, da, pk⟩) A2 c2 B2 d2 ∧ Below w.heap.size w w' := by
  have he : Ev.bare ⟨5, n, da, pk⟩ = ⟨5, 0, [], pk⟩ := by simp [Ev.bare]
  rw [he]
  have HA := Lib.hid (show EvAt w ⟨5, 0, [], pk⟩ none 0 B d from (h.bareAt (n := 0) (by simp)).2.2)
  clear h he
  unfold Ev.val
  simp only
  go_enter Try.func103, Try.ntmps103
  go_wp2_with fail
  refine bodyPost_ret (v := .agg #[.int .i64 5, .int .i64 0, .slice none 0 0, .int .i64 pk.k, .int .i64 pk.pa, .int .i64 pk.nu, .int .i64 pk.ofn, .int .i64 pk.fr, .slice B pk.da.length d, .bool pk.fin, .int .i64 pk.se, .int .i64 pk.li]) (by simp [results, Try.results103, go_sem]) rfl ⟨none, 0, B, d, rfl, HA.out.later (bel3e _ _ _ _), bel3e _ _ _ _⟩

set_option maxRecDepth 10000 in
set_option maxHeartbeats 1000000 in
theorem bareE7 (n : Int) (da : List Int) (pk : Pkt) (A : Option Addr) (c : Nat) (B : Option Addr) (d : Nat) (w : World) (h : EvAt w ⟨7, n, da, pk⟩ A c B d) :
    Calls Try.prog 103 #[(⟨7, n, da, pk⟩ : Ev).val A c B d] w fun x w' => ∃ A2 c2 B2 d2, x = .returned ((Ev.bare ⟨7, n, da, pk⟩).val A2 c2 B2 d2) ∧ EvAt w' (Ev.bare ⟨7, n, da, pk⟩) A2 c2 B2 d2 ∧ Below w.heap.size w w' := by
  have he : Ev.bare ⟨7, n, da, pk⟩ = ⟨7, n, [], Pkt.zero⟩ := by simp [Ev.bare]
  rw [he]
  have HA := Lib.hid (show EvAt w ⟨7, n, [], Pkt.zero⟩ none 0 none 0 from (h.bareAt h.bn).2.1)
  clear h he
  unfold Ev.val
  simp only
  go_enter Try.func103, Try.ntmps103
  go_wp2_with fail
  refine bodyPost_ret (v := .agg #[.int .i64 7, .int .i64 n, .slice none 0 0, .int .i64 0, .int .i64 0, .int .i64 0, .int .i64 0, .int .i64 0, .slice none 0 0, .bool false, .int .i64 0, .int .i64 0]) (by simp [results, Try.results103, go_sem]) rfl ⟨none, 0, none, 0, rfl, HA.out.later (bel3e _ _ _ _), bel3e _ _ _ _⟩

set_option maxRecDepth 10000 in
set_option maxHeartbeats 1000000 in
theorem bareE8 (n : Int) (da : List Int) (pk : Pkt) (A : Option Addr) (c : Nat) (B : Option Addr) (d : Nat) (w : World) (h : EvAt w ⟨8, n, da, pk⟩ A c B d) :
    Calls Try.prog 103 #[(⟨8, n, da, pk⟩ : Ev).val A c B d] w fun x w' => ∃ A2 c2 B2 d2, x = .returned ((Ev.bare ⟨8, n, da, pk⟩).val A2 c2 B2 d2) ∧ EvAt w' (Ev.bare ⟨8, n, da, pk⟩) A2 c2 B2 d2 ∧ Below w.heap.size w w' := by
  have he : Ev.bare ⟨8, n, da, pk⟩ = ⟨8, n, [], Pkt.zero⟩ := by simp [Ev.bare]
  rw [he]
  have HA := Lib.hid (show EvAt w ⟨8, n, [], Pkt.zero⟩ none 0 none 0 from (h.bareAt h.bn).2.1)
  clear h he
  unfold Ev.val
  simp only
  go_enter Try.func103, Try.ntmps103
  go_wp2_with fail
  refine bodyPost_ret (v := .agg #[.int .i64 8, .int .i64 n, .slice none 0 0, .int .i64 0, .int .i64 0, .int .i64 0, .int .i64 0, .int .i64 0, .slice none 0 0, .bool false, .int .i64 0, .int .i64 0]) (by simp [results, Try.results103, go_sem]) rfl ⟨none, 0, none, 0, rfl, HA.out.later (bel3e _ _ _ _), bel3e _ _ _ _⟩

set_option maxRecDepth 10000 in
set_option maxHeartbeats 1000000 in
theorem bareEx (k : Int) (n : Int) (da : List Int) (pk : Pkt) (A : Option Addr) (c : Nat) (B : Option Addr) (d : Nat) (w : World) (h1 : k ≠ 1) (h2 : k ≠ 2) (h3 : k ≠ 3) (h4 : k ≠ 4) (h5 : k ≠ 5) (h7 : k ≠ 7) (h8 : k ≠ 8) (h : EvAt w ⟨k, n, da, pk⟩ A c B d) :
    Calls Try.prog 103 #[(⟨k, n, da, pk⟩ : Ev).val A c B d] w fun x w' => ∃ A2 c2 B2 d2, x = .returned ((Ev.bare ⟨k, n, da, pk⟩).val A2 c2 B2 d2) ∧ EvAt w' (Ev.bare ⟨k, n, da, pk⟩) A2 c2 B2 d2 ∧ Below w.heap.size w w' := by
  have he : Ev.bare ⟨k, n, da, pk⟩ = ⟨k, 0, [], Pkt.zero⟩ := by simp [Ev.bare, h1, h2, h3, h4, h5, h7, h8]
  rw [he]
  have HA := Lib.hid (show EvAt w ⟨k, 0, [], Pkt.zero⟩ none 0 none 0 from (h.bareAt (n := 0) (by simp)).2.1)
  clear h he
  unfold Ev.val
  simp only
  have q1 : (k == 1) = false := by simp [h1]
  have q2 : (k == 2) = false := by simp [h2]
  have q3 : (k == 3) = false := by simp [h3]
  have q4 : (k == 4) = false := by simp [h4]
  have q5 : (k == 5) = false := by simp [h5]
  have q7 : (k == 7) = false := by simp [h7]
  have q8 : (k == 8) = false := by simp [h8]
  go_enter Try.func103, Try.ntmps103
  go_wp2_with fail
  refine bodyPost_ret (v := .agg #[.int .i64 k, .int .i64 0, .slice none 0 0, .int .i64 0, .int .i64 0, .int .i64 0, .int .i64 0, .int .i64 0, .slice none 0 0, .bool false, .int .i64 0, .int .i64 0]) (by simp [results, Try.results103, go_sem]) rfl ⟨none, 0, none, 0, rfl, HA.out.later (bel3e _ _ _ _), bel3e _ _ _ _⟩

set_option maxRecDepth 10000 in
theorem bareE_any (e : Ev) (A : Option Addr) (c : Nat) (B : Option Addr) (d : Nat) (w : World) (h : EvAt w e A c B d) :
    Calls Try.prog 103 #[e.val A c B d] w fun x w' => ∃ A2 c2 B2 d2, x = .returned (e.bare.val A2 c2 B2 d2) ∧ EvAt w' e.bare A2 c2 B2 d2 ∧ Below w.heap.size w w' := by
  obtain ⟨k, n, da, pk⟩ := e
  by_cases h1 : k = 1
  · subst h1; exact bareE1 n da pk A c B d w h
  by_cases h2 : k = 2
  · subst h2; exact bareE2 n da pk A c B d w h
  by_cases h3 : k = 3
  · subst h3; exact bareE3 n da pk A c B d w h
  by_cases h4 : k = 4
  · subst h4; exact bareE4 n da pk A c B d w h
  by_cases h5 : k = 5
  · subst h5; exact bareE5 n da pk A c B d w h
  by_cases h7 : k = 7
  · subst h7; exact bareE7 n da pk A c B d w h
  by_cases h8 : k = 8
  · subst h8; exact bareE8 n da pk A c B d w h
  exact bareEx k n da pk A c B d w h1 h2 h3 h4 h5 h7 h8 h

set_option maxRecDepth 10000 in
set_option maxHeartbeats 1000000 in
theorem boundedE1 (n : Int) (da : List Int) (pk : Pkt) (A : Option Addr) (c : Nat) (B : Option Addr) (d : Nat) (w : World) (h : EvAt w ⟨1, n, da, pk⟩ A c B d) :
    Calls Try.prog 104 #[(⟨1, n, da, pk⟩ : Ev).val A c B d] w fun x w' => x = .returned (.bool (Ev.bounded ⟨1, n, da, pk⟩)) ∧ Below w.heap.size w w' := by
  have he : Ev.bounded ⟨1, n, da, pk⟩ = (decide (1 ≤ da.length) && decide (da.length ≤ 4096)) := by simp [Ev.bounded]
  rw [he]
  have hl := h.reach
  clear h he
  unfold Ev.val
  simp only at hl ⊢
  have hb : ∀ o, Below w.heap.size w (w.alloc o) := fun o => (Below.refl _ _).alloc (Nat.le_refl _) _
  go_enter Try.func104, Try.ntmps104
  go_wp2_with fail
  refine (withinE_any _ _ _ _).mono ?_
  rintro e w' ⟨rfl, rfl⟩
  go_wp2_with fail
  go_ret
  exact ⟨ret_b (by rw [Bool.eq_iff_iff]; simp; omega), hb _⟩

set_option maxRecDepth 10000 in
set_option maxHeartbeats 1000000 in
theorem boundedE2 (n : Int) (da : List Int) (pk : Pkt) (A : Option Addr) (c : Nat) (B : Option Addr) (d : Nat) (w : World) (h : EvAt w ⟨2, n, da, pk⟩ A c B d) :
    Calls Try.prog 104 #[(⟨2, n, da, pk⟩ : Ev).val A c B d] w fun x w' => x = .returned (.bool (Ev.bounded ⟨2, n, da, pk⟩)) ∧ Below w.heap.size w w' := by
  have he : Ev.bounded ⟨2, n, da, pk⟩ = (decide (1 ≤ da.length) && decide (da.length ≤ 4096)) := by simp [Ev.bounded]
  rw [he]
  have hl := h.reach
  clear h he
  unfold Ev.val
  simp only at hl ⊢
  have hb : ∀ o, Below w.heap.size w (w.alloc o) := fun o => (Below.refl _ _).alloc (Nat.le_refl _) _
  go_enter Try.func104, Try.ntmps104
  go_wp2_with fail
  refine (withinE_any _ _ _ _).mono ?_
  rintro e w' ⟨rfl, rfl⟩
  go_wp2_with fail
  go_ret
  exact ⟨ret_b (by rw [Bool.eq_iff_iff]; simp; omega), hb _⟩

set_option maxRecDepth 10000 in
set_option maxHeartbeats 1000000 in
theorem boundedE3 (n : Int) (da : List Int) (pk : Pkt) (A : Option Addr) (c : Nat) (B : Option Addr) (d : Nat) (w : World) (h : EvAt w ⟨3, n, da, pk⟩ A c B d) :
    Calls Try.prog 104 #[(⟨3, n, da, pk⟩ : Ev).val A c B d] w fun x w' => x = .returned (.bool (Ev.bounded ⟨3, n, da, pk⟩)) ∧ Below w.heap.size w w' := by
  have he : Ev.bounded ⟨3, n, da, pk⟩ = (decide (1 ≤ n) && decide (n ≤ 1048576)) := by simp [Ev.bounded]
  rw [he]
  have hl := h.reach
  clear h he
  unfold Ev.val
  simp only at hl ⊢
  have hb : ∀ o, Below w.heap.size w (w.alloc o) := fun o => (Below.refl _ _).alloc (Nat.le_refl _) _
  go_enter Try.func104, Try.ntmps104
  go_wp2_with fail
  refine (withinE_any _ _ _ _).mono ?_
  rintro e w' ⟨rfl, rfl⟩
  go_wp2_with fail
  go_ret
  exact ⟨rfl, hb _⟩

set_option maxRecDepth 10000 in
set_option maxHeartbeats 1000000 in
theorem boundedE4 (n : Int) (da : List Int) (pk : Pkt) (A : Option Addr) (c : Nat) (B : Option Addr) (d : Nat) (w : World) (h : EvAt w ⟨4, n, da, pk⟩ A c B d) :
    Calls Try.prog 104 #[(⟨4, n, da, pk⟩ : Ev).val A c B d] w fun x w' => x = .returned (.bool (Ev.bounded ⟨4, n, da, pk⟩)) ∧ Below w.heap.size w w' := by
  have he : Ev.bounded ⟨4, n, da, pk⟩ = pk.ok := by simp [Ev.bounded]
  rw [he]
  have hl := h.reach
  have hc := fun W (h : PktAt W pk B d) => checkP_any pk B d W h
  have HP := Lib.hid h.pk
  obtain ⟨r, hy⟩ : ∃ r : Int, (if pk.ok = true then 0 else 1) = r := ⟨_, rfl⟩
  simp only [hy] at hc
  have HC := Lib.hid hc
  unfold Pkt.val at HC
  clear hc
  clear h he
  unfold Ev.val
  simp only at hl ⊢
  have hb : ∀ o, Below w.heap.size w (w.alloc o) := fun o => (Below.refl _ _).alloc (Nat.le_refl _) _
  go_enter Try.func104, Try.ntmps104
  go_wp2_with fail
  refine (HC.out _ (HP.out.alloc _)).mono ?_
  rintro e w2 ⟨rfl, hb9⟩
  have HB9 := Lib.hid ((hb _).trans (hb9.mono (by simp)))
  clear hb9
  have HY := Lib.hid hy
  clear hy
  by_cases r0 : r = 0
  · subst r0
    go_wp2_with fail
    go_ret
    exact ⟨ret_b (by have := HY.out; cases h9 : pk.ok <;> simp [h9] at this ⊢), HB9.out⟩
  · have r1 : (r == 0) = false := by simp [r0]
    go_wp2_with fail
    go_ret
    exact ⟨ret_b (by have := HY.out; cases h9 : pk.ok <;> simp [h9] at this ⊢ <;> omega), HB9.out⟩

set_option maxRecDepth 10000 in
set_option maxHeartbeats 1000000 in
theorem boundedE5 (n : Int) (da : List Int) (pk : Pkt) (A : Option Addr) (c : Nat) (B : Option Addr) (d : Nat) (w : World) (h : EvAt w ⟨5, n, da, pk⟩ A c B d) :
    Calls Try.prog 104 #[(⟨5, n, da, pk⟩ : Ev).val A c B d] w fun x w' => x = .returned (.bool (Ev.bounded ⟨5, n, da, pk⟩)) ∧ Below w.heap.size w w' := by
  have he : Ev.bounded ⟨5, n, da, pk⟩ = pk.ok := by simp [Ev.bounded]
  rw [he]
  have hl := h.reach
  have hc := fun W (h : PktAt W pk B d) => checkP_any pk B d W h
  have HP := Lib.hid h.pk
  obtain ⟨r, hy⟩ : ∃ r : Int, (if pk.ok = true then 0 else 1) = r := ⟨_, rfl⟩
  simp only [hy] at hc
  have HC := Lib.hid hc
  unfold Pkt.val at HC
  clear hc
  clear h he
  unfold Ev.val
  simp only at hl ⊢
  have hb : ∀ o, Below w.heap.size w (w.alloc o) := fun o => (Below.refl _ _).alloc (Nat.le_refl _) _
  go_enter Try.func104, Try.ntmps104
  go_wp2_with fail
  refine (HC.out _ (HP.out.alloc _)).mono ?_
  rintro e w2 ⟨rfl, hb9⟩
  have HB9 := Lib.hid ((hb _).trans (hb9.mono (by simp)))
  clear hb9
  have HY := Lib.hid hy
  clear hy
  by_cases r0 : r = 0
  · subst r0
    go_wp2_with fail
    go_ret
    exact ⟨ret_b (by have := HY.out; cases h9 : pk.ok <;> simp [h9] at this ⊢), HB9.out⟩
  · have r1 : (r == 0) = false := by simp [r0]
    go_wp2_with fail
    go_ret
    exact ⟨ret_b (by have := HY.out; cases h9 : pk.ok <;> simp [h9] at this ⊢ <;> omega), HB9.out⟩

set_option maxRecDepth 10000 in
set_option maxHeartbeats 1000000 in
theorem boundedE7 (n : Int) (da : List Int) (pk : Pkt) (A : Option Addr) (c : Nat) (B : Option Addr) (d : Nat) (w : World) (h : EvAt w ⟨7, n, da, pk⟩ A c B d) :
    Calls Try.prog 104 #[(⟨7, n, da, pk⟩ : Ev).val A c B d] w fun x w' => x = .returned (.bool (Ev.bounded ⟨7, n, da, pk⟩)) ∧ Below w.heap.size w w' := by
  have he : Ev.bounded ⟨7, n, da, pk⟩ = inB n 2 := by simp [Ev.bounded]
  rw [he]
  have hl := h.reach
  clear h he
  unfold Ev.val
  simp only at hl ⊢
  have hb : ∀ o, Below w.heap.size w (w.alloc o) := fun o => (Below.refl _ _).alloc (Nat.le_refl _) _
  go_enter Try.func104, Try.ntmps104
  go_wp2_with fail
  refine (withinE_any _ _ _ _).mono ?_
  rintro e w' ⟨rfl, rfl⟩
  go_wp2_with fail
  go_ret
  exact ⟨rfl, hb _⟩

set_option maxRecDepth 10000 in
set_option maxHeartbeats 1000000 in
theorem boundedE8 (n : Int) (da : List Int) (pk : Pkt) (A : Option Addr) (c : Nat) (B : Option Addr) (d : Nat) (w : World) (h : EvAt w ⟨8, n, da, pk⟩ A c B d) :
    Calls Try.prog 104 #[(⟨8, n, da, pk⟩ : Ev).val A c B d] w fun x w' => x = .returned (.bool (Ev.bounded ⟨8, n, da, pk⟩)) ∧ Below w.heap.size w w' := by
  have he : Ev.bounded ⟨8, n, da, pk⟩ = inB n 2 := by simp [Ev.bounded]
  rw [he]
  have hl := h.reach
  clear h he
  unfold Ev.val
  simp only at hl ⊢
  have hb : ∀ o, Below w.heap.size w (w.alloc o) := fun o => (Below.refl _ _).alloc (Nat.le_refl _) _
  go_enter Try.func104, Try.ntmps104
  go_wp2_with fail
  refine (withinE_any _ _ _ _).mono ?_
  rintro e w' ⟨rfl, rfl⟩
  go_wp2_with fail
  go_ret
  exact ⟨rfl, hb _⟩

set_option maxRecDepth 10000 in
set_option maxHeartbeats 1000000 in
theorem boundedEx (k : Int) (n : Int) (da : List Int) (pk : Pkt) (A : Option Addr) (c : Nat) (B : Option Addr) (d : Nat) (w : World) (h1 : k ≠ 1) (h2 : k ≠ 2) (h3 : k ≠ 3) (h4 : k ≠ 4) (h5 : k ≠ 5) (h7 : k ≠ 7) (h8 : k ≠ 8) (h : EvAt w ⟨k, n, da, pk⟩ A c B d) :
    Calls Try.prog 104 #[(⟨k, n, da, pk⟩ : Ev).val A c B d] w fun x w' => x = .returned (.bool (Ev.bounded ⟨k, n, da, pk⟩)) ∧ Below w.heap.size w w' := by
  have he : Ev.bounded ⟨k, n, da, pk⟩ = decide (k = 6) := by simp [Ev.bounded, h1, h2, h3, h4, h5, h7, h8]
  rw [he]
  have hl := h.reach
  clear h he
  unfold Ev.val
  simp only at hl ⊢
  have q1 : (k == 1) = false := by simp [h1]
  have q2 : (k == 2) = false := by simp [h2]
  have q3 : (k == 3) = false := by simp [h3]
  have q4 : (k == 4) = false := by simp [h4]
  have q5 : (k == 5) = false := by simp [h5]
  have q7 : (k == 7) = false := by simp [h7]
  have q8 : (k == 8) = false := by simp [h8]
  have hb : ∀ o, Below w.heap.size w (w.alloc o) := fun o => (Below.refl _ _).alloc (Nat.le_refl _) _
  go_enter Try.func104, Try.ntmps104
  go_wp2_with fail
  go_ret
  exact ⟨ret_b (by rw [Bool.eq_iff_iff]; simp), hb _⟩

set_option maxRecDepth 10000 in
theorem boundedE_any (e : Ev) (A : Option Addr) (c : Nat) (B : Option Addr) (d : Nat) (w : World) (h : EvAt w e A c B d) :
    Calls Try.prog 104 #[e.val A c B d] w fun x w' => x = .returned (.bool e.bounded) ∧ Below w.heap.size w w' := by
  obtain ⟨k, n, da, pk⟩ := e
  by_cases h1 : k = 1
  · subst h1; exact boundedE1 n da pk A c B d w h
  by_cases h2 : k = 2
  · subst h2; exact boundedE2 n da pk A c B d w h
  by_cases h3 : k = 3
  · subst h3; exact boundedE3 n da pk A c B d w h
  by_cases h4 : k = 4
  · subst h4; exact boundedE4 n da pk A c B d w h
  by_cases h5 : k = 5
  · subst h5; exact boundedE5 n da pk A c B d w h
  by_cases h7 : k = 7
  · subst h7; exact boundedE7 n da pk A c B d w h
  by_cases h8 : k = 8
  · subst h8; exact boundedE8 n da pk A c B d w h
  exact boundedEx k n da pk A c B d w h1 h2 h3 h4 h5 h7 h8 h
end Go.Proofs.Ytbjneoeiognahaa

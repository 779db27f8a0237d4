/-
  A store as mathematics ('St': its blocks, its Fuse, whether it is dead), and what Append, Sync, Cut, Drop, Read, Dead, Fuse do to it: contracts over the program.
-/
import Derived.Test.YtfafonfphholmaaStApp
namespace Go.Proofs.Ytfafonfphholmaa
open Go.RowKit Go.Maps

structure St where
  bs : List Blk
  fu : Bool
  lf : Int
  de : Bool

/-- Block p is a store as mathematics; its blocks are F. -/
def StoreIs (w : World) (B p : Nat) (s : St) (F : Nat → Prop) : Prop := ∃ m L, StoreAt w B p m L s.fu s.lf s.de ∧ L.map (·.k) = s.bs ∧ F = Foot p m L ∧ s.lf ≤ 9223372036854775807

/-- What speaks against an act that needs its block. -/
def mustE (s : St) (n : Int) : Int := if mayE s.de n ≠ 0 then mayE s.de n else if s.bs.any (fun k => decide (k.n = n)) then 0 else 3
/-- An act, unless e speaks against it or the Fuse stops it. -/
def St.act (s : St) (e : Int) (bs : List Blk) : St × Int := if e ≠ 0 then (s, e) else if s.fu && decide (s.lf = 0) then (⟨s.bs, s.fu, s.lf, true⟩, 6) else (⟨bs, s.fu, burn s.fu s.lf, s.de⟩, 0)
def updB (n : Int) (g : Blk → Blk) (bs : List Blk) : List Blk := bs.map fun k => if k.n = n then g k else k
def St.append (s : St) (n : Int) (ys : List Int) : St × Int := s.act (mayE s.de n) (appB n ys s.bs)
def St.sync (s : St) (n : Int) : St × Int := s.act (mustE s n) (updB n Blk.settle s.bs)
def cutE (s : St) (n j : Int) : Int := if mustE s n ≠ 0 then mustE s n else if j < 0 ∨ (s.bs.any fun k => decide (k.n = n) && decide ((k.xs.length : Int) < j)) then 1 else 0
def St.cut (s : St) (n j : Int) : St × Int := s.act (cutE s n j) (updB n (fun k => k.cut j.toNat) s.bs)
def St.drop (s : St) (n : Int) : St × Int := s.act (mustE s n) (s.bs.filter fun k => decide (k.n ≠ n))

/-- What a call leaves. -/
def StEnd (w : World) (B p : Nat) (F : Nat → Prop) (r : St × Int) (e : Ending) (w' : World) : Prop := ∃ F', e = .returned (.int .i64 r.2) ∧ StoreIs w' B p r.1 F' ∧ SC w w' F F'

section
variable {w : World} {B p : Nat} {s : St} {F : Nat → Prop}

/-- What an act's function literal leaves. -/
def DoEnd (w : World) (B p m : Nat) (L : List Ent) (fu : Bool) (lf : Int) (de : Bool) (bs : List Blk) (w' : World) : Prop := ∃ L', StoreAt w' B p m L' fu lf de ∧ L'.map (·.k) = bs ∧ SC w w' (Foot p m L) (Foot p m L')

theorem act_all {m : Nat} {L : List Ent} (g : Nat) (cb : Array Value) (h : StoreAt w B p m L s.fu s.lf s.de) (hk : L.map (·.k) = s.bs) (hlf : s.lf ≤ 9223372036854775807) (e : Int) (bs : List Blk)
    (eg : ∀ args w, (callFunc g args).run Try.prog w = .ok (.enter g args) w)
    (hdo : e = 0 → ∀ W, StoreAt W B p m L s.fu (burn s.fu s.lf) s.de → Trn w W (fun k => k = p) → Calls Try.prog g cb W fun x w' => x = .returned (.tuple #[]) ∧ DoEnd W B p m L s.fu (burn s.fu s.lf) s.de bs w') :
    Calls Try.prog 25 #[.pointer (some ⟨p, 0, none⟩), .int .i64 e, .func (.func g) #[] cb] w (StEnd w B p (Foot p m L) (s.act e bs)) := by
  by_cases he : e = 0
  · subst he
    by_cases hf : s.fu = true ∧ s.lf = 0
    · have h' := h
      rw [hf.1, hf.2] at h'
      refine (act_fuse _ h').mono ?_
      rintro x w' ⟨rfl, hs, ht⟩
      have ha : s.act 0 bs = (⟨s.bs, s.fu, s.lf, true⟩, 6) := by simp [St.act, hf.1, hf.2]
      rw [ha]
      exact ⟨_, rfl, ⟨m, L, by rw [hf.1, hf.2]; exact hs, hk, rfl, hlf⟩, h.sc_p ht⟩
    · have ha : s.act 0 bs = (⟨bs, s.fu, burn s.fu s.lf, s.de⟩, 0) := by
        unfold St.act
        rw [if_neg (by simp), if_neg (by simpa using hf)]
      rw [ha]
      refine (act_do g cb h hlf (fun h1 h2 => hf ⟨h1, h2⟩) eg (fun w' => ∃ L', StoreAt w' B p m L' s.fu (burn s.fu s.lf) s.de ∧ L'.map (·.k) = bs ∧ SC w w' (Foot p m L) (Foot p m L')) (fun W hW ht => ?_)).mono ?_
      · refine (hdo rfl W hW ht).mono ?_
        rintro x w' ⟨rfl, L', h1, h2, h3⟩
        exact ⟨rfl, L', h1, h2, (h.sc_p ht).trans h3⟩
      · rintro x w' ⟨rfl, L', h1, h2, h3⟩
        refine ⟨_, rfl, ⟨m, L', h1, h2, rfl, ?_⟩, h3⟩
        have := h.left
        show burn s.fu s.lf ≤ 9223372036854775807
        unfold burn
        split <;> omega
  · have ha : s.act e bs = (s, e) := by unfold St.act; rw [if_pos he]
    rw [ha]
    refine (act_err w _ _ e he).mono ?_
    rintro x w' ⟨rfl, rfl⟩
    exact ⟨_, rfl, ⟨m, L, h, hk, rfl, hlf⟩, SC.refl _ _⟩

theorem StEnd.later {w1 : World} {r : St × Int} {e : Ending} {w' : World} (h : StEnd w1 B p F r e w') (hb : Below w.heap.size w w1) : StEnd w B p F r e w' := by
  obtain ⟨F', h1, h2, h3⟩ := h
  exact ⟨F', h1, h2, (SC.of_below hb).trans h3⟩

set_option maxRecDepth 10000 in
set_option maxHeartbeats 1000000 in
theorem append_any (h : StoreIs w B p s F) (n : Int) (hn : n ≤ 9223372036854775807) (A : Option Addr) (l c : Nat) (ys : List Int) (hlen : ys.length = l) (hr : Rd .u8 w A ys) (hra : ∀ a, A = some a → ¬ F a.block)
    (hmany : s.bs.length < 1099511627776) (hl : l ≤ 1048576) (hxs : ∀ k ∈ s.bs, k.xs.length ≤ 1099510579200) :
    Calls Try.prog 8 #[.pointer (some ⟨p, 0, none⟩), .int .i64 n, .slice A l c] w (StEnd w B p F (s.append n ys)) := by
  obtain ⟨m, L, h, hk, rfl, hlf⟩ := h
  obtain ⟨w3, hw3⟩ : ∃ w3, w3 = ((w.alloc (.cells #[.pointer (some ⟨p, 0, none⟩)] 23)).alloc (.cells #[.int .i64 n] 3)).alloc (.cells #[.slice A l c] 29) := ⟨_, rfl⟩
  have hb3 : Below w.heap.size w w3 := by rw [hw3]; exact (((Below.refl _ _).alloc (Nat.le_refl _) _).alloc (by simp) _).alloc (by simp; omega) _
  have hb4 : Below w.heap.size w (w3.drewN 1) := ⟨hb3.os, hb3.tape, hb3.output, hb3.size, hb3.block⟩
  obtain ⟨r, hr0⟩ : ∃ r, mayE s.de n = r := ⟨_, rfl⟩
  have hs3 := h.later hb4
  have hm := (may_any hs3 n r hr0).mono fun _ _ ⟨h1, h2⟩ => (⟨h1, h2.symm⟩ : _ ∧ _ = w3.drewN 1)
  have b0 : w3.cell? ⟨w.heap.size, 0, none⟩ = some (.pointer (some ⟨p, 0, none⟩)) := by rw [hw3]; go_simp
  have b1 : w3.cell? ⟨w.heap.size + 1, 0, none⟩ = some (.int .i64 n) := by rw [hw3]; go_simp
  have b2 : w3.cell? ⟨w.heap.size + 2, 0, none⟩ = some (.slice A l c) := by rw [hw3]; go_simp
  have hact : Calls Try.prog 25 #[.pointer (some ⟨p, 0, none⟩), .int .i64 r, .func (.func 27) #[] #[.pointer (some ⟨w.heap.size, 0, none⟩), .pointer (some ⟨w.heap.size + 1, 0, none⟩), .pointer (some ⟨w.heap.size + 2, 0, none⟩)]] (w3.drewN 1) (StEnd w B p (Foot p m L) (s.append n ys)) := by
    have hlt := h.foot_lt
    have hp := (hlt p (.inl rfl)).2
    refine (act_all _ _ hs3 hk hlf r (appB n ys s.bs) (enters_of Try.func27 (by kernel_rfl) rfl) ?_).mono (fun _ _ h => ?_)
    · intro hr1 W hW ht
      have hge : 1 ≤ n := by
        rw [hr1] at hr0
        unfold mayE at hr0
        split at hr0
        · omega
        · split at hr0 <;> omega
      have hbx : Boxes W w.heap.size (w.heap.size + 1) (w.heap.size + 2) p n A l c := by
        have l0 := World.block_lt_of_cell? w3 _ b0
        have l1 := World.block_lt_of_cell? w3 _ b1
        have l2 := World.block_lt_of_cell? w3 _ b2
        exact ⟨(World.cell?_of_block (ht.block _ l0 (fun e => by simp only at e; omega))).trans b0, (World.cell?_of_block (ht.block _ l1 (fun e => by simp only at e; omega))).trans b1, (World.cell?_of_block (ht.block _ l2 (fun e => by simp only at e; omega))).trans b2⟩
      have hrW : Rd .u8 W A ys := rd_trn (hr.later hb4) ht (fun a ha e => hra a ha (.inl e))
      rw [← hk]
      exact appdo_any hW n hge hn _ _ _ A l c ys hbx hlen hrW (Nat.le_trans hW.gep (Nat.le_of_lt hW.row.lt)) (fun k hk => by have := (hlt k hk).2; omega) (by rw [← hk] at hmany; simpa using hmany) hl (fun e he => hxs e.k (by rw [← hk]; exact List.mem_map.2 ⟨e, he, rfl⟩)) hra
    · have : s.append n ys = s.act r (appB n ys s.bs) := by unfold St.append; rw [hr0]
      rw [this]
      exact h.later hb4
  have HM := Lib.hid hm
  have HACT := Lib.hid hact
  clear hm hb3 hb4 hact hs3 hr0 h hk hlf hra hmany hxs hr hlen
  go_enter Try.func8, Try.ntmps8
  go_wp2_with fail
  rw [← hw3]
  clear hw3
  refine still_tail 5 (by kernel_rfl) (by kernel_rfl) ?_
  intro W hW
  have d0 : W.cell? ⟨w.heap.size, 0, none⟩ = some (.pointer (some ⟨p, 0, none⟩)) := by rw [hW]; exact b0
  have d1 : W.cell? ⟨w.heap.size + 1, 0, none⟩ = some (.int .i64 n) := by rw [hW]; exact b1
  have HM2 : Hid (Calls Try.prog 26 #[.pointer (some ⟨p, 0, none⟩), .int .i64 n] W fun e w' => e = .returned (.int .i64 r) ∧ w' = W) := by rw [hW]; exact HM
  have HA2 : Hid (Calls Try.prog 25 #[.pointer (some ⟨p, 0, none⟩), .int .i64 r, .func (.func 27) #[] #[.pointer (some ⟨w.heap.size, 0, none⟩), .pointer (some ⟨w.heap.size + 1, 0, none⟩), .pointer (some ⟨w.heap.size + 2, 0, none⟩)]] W (StEnd w B p (Foot p m L) (s.append n ys))) := by rw [hW]; exact HACT
  clear hW HM HACT b0 b1 b2
  simp only [List.take_succ_cons, List.take_zero, List.drop_succ_cons, List.drop_zero]
  still_step
  still_step
  still_step
  still_call HM2.out
  repeat still_step
  refine wpStill_nil ?_
  go_wp2_with fail
  refine HA2.out.mono ?_
  rintro e w' ⟨F', rfl, hs, hsc⟩
  have HS := Lib.hid hs
  have HSC := Lib.hid hsc
  clear hs hsc
  go_wp2_with fail
  go_ret
  exact ⟨F', rfl, HS.out, HSC.out⟩

theorem mayE_range {de : Bool} {n : Int} (h : mayE de n = 0) : 1 ≤ n := by
  unfold mayE at h
  split at h
  · omega
  · split at h <;> omega

/-- must, whatever it is. -/
theorem must_any {m : Nat} {L : List Ent} (h : StoreAt w B p m L s.fu s.lf s.de) (hk : L.map (·.k) = s.bs) (n : Int) (hn : n ≤ 9223372036854775807) :
    Calls Try.prog 30 #[.pointer (some ⟨p, 0, none⟩), .int .i64 n] w fun e w' => e = .returned (.int .i64 (mustE s n)) ∧ w = w' := by
  unfold mustE
  by_cases h0 : mayE s.de n = 0
  · rw [if_neg (by simpa using h0)]
    have h1 := mayE_range h0
    by_cases hx : ∃ e ∈ L, e.k.n = n
    · obtain ⟨e, he, hen⟩ := hx
      rw [if_pos (by rw [← hk]; simp; exact ⟨e, he, hen⟩)]
      subst hen
      exact must_some h e he h0
    · have hno : ∀ e ∈ L, e.k.n ≠ n := fun e he hen => hx ⟨e, he, hen⟩
      rw [if_neg (by rw [← hk]; simpa using hno)]
      exact must_none h n h0 hno (by omega) hn
  · rw [if_pos h0]
    exact must_may h n _ rfl h0

theorem mustE_some {n : Int} {L : List Ent} (hk : L.map (·.k) = s.bs) (h : mustE s n = 0) : 1 ≤ n ∧ ∃ e ∈ L, e.k.n = n := by
  unfold mustE at h
  by_cases h0 : mayE s.de n = 0
  · rw [if_neg (by simpa using h0)] at h
    refine ⟨mayE_range h0, ?_⟩
    split at h
    · rename_i h1
      rw [← hk] at h1
      simpa using h1
    · omega
  · rw [if_pos h0] at h; exact absurd h h0

/-- The list with one entry turned, as mathematics. -/
theorem updE_map {m : Nat} {L : List Ent} {fu : Bool} {lf : Int} {de : Bool} (h : StoreAt w B p m L fu lf de) {e e1 : Ent} (he : e ∈ L) (g : Blk → Blk) (h1 : e1.k = g e.k) : (updE e.k.n e1 L).map (·.k) = updB e.k.n g (L.map (·.k)) := by
  unfold updE updB
  rw [List.map_map, List.map_map]
  refine List.map_congr_left (fun x hx => ?_)
  by_cases hn : x.k.n = e.k.n
  · have := h.inj hx he hn
    subst this
    simp [h1]
  · simp [hn]

def Box2 (w : World) (q0 q1 p : Nat) (n : Int) : Prop := w.cell? ⟨q0, 0, none⟩ = some (.pointer (some ⟨p, 0, none⟩)) ∧ w.cell? ⟨q1, 0, none⟩ = some (.int .i64 n)
theorem box2 {w1 w2 : World} {q0 q1 p : Nat} {n : Int} (h : Box2 w1 q0 q1 p n) (ht : Trn w1 w2 (fun k => k = p)) (h0 : q0 ≠ p) (h1 : q1 ≠ p) : Box2 w2 q0 q1 p n := by
  have l0 := World.block_lt_of_cell? w1 _ h.1
  have l1 := World.block_lt_of_cell? w1 _ h.2
  exact ⟨(World.cell?_of_block (ht.block _ l0 h0)).trans h.1, (World.cell?_of_block (ht.block _ l1 h1)).trans h.2⟩

set_option maxRecDepth 10000 in
set_option maxHeartbeats 1000000 in
theorem sync_any (h : StoreIs w B p s F) (n : Int) (hn : n ≤ 9223372036854775807) :
    Calls Try.prog 10 #[.pointer (some ⟨p, 0, none⟩), .int .i64 n] w (StEnd w B p F (s.sync n)) := by
  obtain ⟨m, L, h, hk, rfl, hlf⟩ := h
  obtain ⟨w3, hw3⟩ : ∃ w3, w3 = (w.alloc (.cells #[.pointer (some ⟨p, 0, none⟩)] 23)).alloc (.cells #[.int .i64 n] 3) := ⟨_, rfl⟩
  have hb3 : Below w.heap.size w w3 := by rw [hw3]; exact ((Below.refl _ _).alloc (Nat.le_refl _) _).alloc (by simp) _
  have hb4 : Below w.heap.size w (w3.drewN 1) := ⟨hb3.os, hb3.tape, hb3.output, hb3.size, hb3.block⟩
  obtain ⟨r, hr0⟩ : ∃ r, mustE s n = r := ⟨_, rfl⟩
  have hs3 := h.later hb4
  have hm := (must_any hs3 hk n hn).mono fun _ _ ⟨h1, h2⟩ => (⟨h1, h2.symm⟩ : _ ∧ _ = w3.drewN 1)
  rw [hr0] at hm
  have b0 : w3.cell? ⟨w.heap.size, 0, none⟩ = some (.pointer (some ⟨p, 0, none⟩)) := by rw [hw3]; go_simp
  have b1 : w3.cell? ⟨w.heap.size + 1, 0, none⟩ = some (.int .i64 n) := by rw [hw3]; go_simp
  have hact : Calls Try.prog 25 #[.pointer (some ⟨p, 0, none⟩), .int .i64 r, .func (.func 31) #[] #[.pointer (some ⟨w.heap.size, 0, none⟩), .pointer (some ⟨w.heap.size + 1, 0, none⟩)]] (w3.drewN 1) (StEnd w B p (Foot p m L) (s.sync n)) := by
    have hp := (h.foot_lt p (.inl rfl)).2
    refine (act_all _ _ hs3 hk hlf r (updB n Blk.settle s.bs) (enters_of Try.func31 (by kernel_rfl) rfl) ?_).mono (fun _ _ h => ?_)
    · intro hr1 W hW ht
      obtain ⟨_, e, he, rfl⟩ := mustE_some (s := s) (n := n) hk (hr0.trans hr1)
      have hbx := box2 (w1 := w3.drewN 1) ⟨b0, b1⟩ ht (by omega) (by omega)
      refine (syncdo_any hW e he _ _ hbx.1 hbx.2).mono ?_
      rintro x w' ⟨rfl, h1, h2⟩
      exact ⟨rfl, _, h1, by rw [updE_map hW he Blk.settle rfl, hk], h2⟩
    · have : s.sync n = s.act r (updB n Blk.settle s.bs) := by unfold St.sync; rw [hr0]
      rw [this]
      exact h.later hb4
  have HM := Lib.hid hm
  have HACT := Lib.hid hact
  clear hm hb3 hb4 hact hs3 hr0 h hk hlf
  go_enter Try.func10, Try.ntmps10
  go_wp2_with fail
  rw [← hw3]
  clear hw3
  refine still_tail 5 (by kernel_rfl) (by kernel_rfl) ?_
  intro W hW
  have d0 : W.cell? ⟨w.heap.size, 0, none⟩ = some (.pointer (some ⟨p, 0, none⟩)) := by rw [hW]; exact b0
  have d1 : W.cell? ⟨w.heap.size + 1, 0, none⟩ = some (.int .i64 n) := by rw [hW]; exact b1
  have HM2 : Hid (Calls Try.prog 30 #[.pointer (some ⟨p, 0, none⟩), .int .i64 n] W fun e w' => e = .returned (.int .i64 r) ∧ w' = W) := by rw [hW]; exact HM
  have HA2 : Hid (Calls Try.prog 25 #[.pointer (some ⟨p, 0, none⟩), .int .i64 r, .func (.func 31) #[] #[.pointer (some ⟨w.heap.size, 0, none⟩), .pointer (some ⟨w.heap.size + 1, 0, none⟩)]] W (StEnd w B p (Foot p m L) (s.sync n))) := by rw [hW]; exact HACT
  clear hW HM HACT b0 b1
  simp only [List.take_succ_cons, List.take_zero, List.drop_succ_cons, List.drop_zero]
  still_step
  still_step
  still_step
  still_call HM2.out
  repeat still_step
  refine wpStill_nil ?_
  go_wp2_with fail
  refine HA2.out.mono ?_
  rintro e w' ⟨F', rfl, hs, hsc⟩
  have HS := Lib.hid hs
  have HSC := Lib.hid hsc
  clear hs hsc
  go_wp2_with fail
  go_ret
  exact ⟨F', rfl, HS.out, HSC.out⟩

set_option maxRecDepth 10000 in
set_option maxHeartbeats 1000000 in
theorem drop_any (h : StoreIs w B p s F) (n : Int) (hn : n ≤ 9223372036854775807) :
    Calls Try.prog 14 #[.pointer (some ⟨p, 0, none⟩), .int .i64 n] w (StEnd w B p F (s.drop n)) := by
  obtain ⟨m, L, h, hk, rfl, hlf⟩ := h
  obtain ⟨w3, hw3⟩ : ∃ w3, w3 = (w.alloc (.cells #[.pointer (some ⟨p, 0, none⟩)] 23)).alloc (.cells #[.int .i64 n] 3) := ⟨_, rfl⟩
  have hb3 : Below w.heap.size w w3 := by rw [hw3]; exact ((Below.refl _ _).alloc (Nat.le_refl _) _).alloc (by simp) _
  have hb4 : Below w.heap.size w (w3.drewN 1) := ⟨hb3.os, hb3.tape, hb3.output, hb3.size, hb3.block⟩
  obtain ⟨r, hr0⟩ : ∃ r, mustE s n = r := ⟨_, rfl⟩
  have hs3 := h.later hb4
  have hm := (must_any hs3 hk n hn).mono fun _ _ ⟨h1, h2⟩ => (⟨h1, h2.symm⟩ : _ ∧ _ = w3.drewN 1)
  rw [hr0] at hm
  have b0 : w3.cell? ⟨w.heap.size, 0, none⟩ = some (.pointer (some ⟨p, 0, none⟩)) := by rw [hw3]; go_simp
  have b1 : w3.cell? ⟨w.heap.size + 1, 0, none⟩ = some (.int .i64 n) := by rw [hw3]; go_simp
  have hact : Calls Try.prog 25 #[.pointer (some ⟨p, 0, none⟩), .int .i64 r, .func (.func 36) #[] #[.pointer (some ⟨w.heap.size, 0, none⟩), .pointer (some ⟨w.heap.size + 1, 0, none⟩)]] (w3.drewN 1) (StEnd w B p (Foot p m L) (s.drop n)) := by
    have hp := (h.foot_lt p (.inl rfl)).2
    refine (act_all _ _ hs3 hk hlf r (s.bs.filter fun k => decide (k.n ≠ n)) (enters_of Try.func36 (by kernel_rfl) rfl) ?_).mono (fun _ _ h => ?_)
    · intro hr1 W hW ht
      obtain ⟨hn1, _⟩ := mustE_some (s := s) (n := n) hk (hr0.trans hr1)
      have hbx := box2 (w1 := w3.drewN 1) ⟨b0, b1⟩ ht (by omega) (by omega)
      refine (dropdo_any hW n (by omega) hn _ _ hbx.1 hbx.2).mono ?_
      rintro x w' ⟨rfl, h1, h2⟩
      refine ⟨rfl, _, h1, ?_, h2⟩
      rw [← hk, List.filter_map]
      rfl
    · have : s.drop n = s.act r (s.bs.filter fun k => decide (k.n ≠ n)) := by unfold St.drop; rw [hr0]
      rw [this]
      exact h.later hb4
  have HM := Lib.hid hm
  have HACT := Lib.hid hact
  clear hm hb3 hb4 hact hs3 hr0 h hk hlf
  go_enter Try.func14, Try.ntmps14
  go_wp2_with fail
  rw [← hw3]
  clear hw3
  refine still_tail 5 (by kernel_rfl) (by kernel_rfl) ?_
  intro W hW
  have d0 : W.cell? ⟨w.heap.size, 0, none⟩ = some (.pointer (some ⟨p, 0, none⟩)) := by rw [hW]; exact b0
  have d1 : W.cell? ⟨w.heap.size + 1, 0, none⟩ = some (.int .i64 n) := by rw [hW]; exact b1
  have HM2 : Hid (Calls Try.prog 30 #[.pointer (some ⟨p, 0, none⟩), .int .i64 n] W fun e w' => e = .returned (.int .i64 r) ∧ w' = W) := by rw [hW]; exact HM
  have HA2 : Hid (Calls Try.prog 25 #[.pointer (some ⟨p, 0, none⟩), .int .i64 r, .func (.func 36) #[] #[.pointer (some ⟨w.heap.size, 0, none⟩), .pointer (some ⟨w.heap.size + 1, 0, none⟩)]] W (StEnd w B p (Foot p m L) (s.drop n))) := by rw [hW]; exact HACT
  clear hW HM HACT b0 b1
  simp only [List.take_succ_cons, List.take_zero, List.drop_succ_cons, List.drop_zero]
  still_step
  still_step
  still_step
  still_call HM2.out
  repeat still_step
  refine wpStill_nil ?_
  go_wp2_with fail
  refine HA2.out.mono ?_
  rintro e w' ⟨F', rfl, hs, hsc⟩
  have HS := Lib.hid hs
  have HSC := Lib.hid hsc
  clear hs hsc
  go_wp2_with fail
  go_ret
  exact ⟨F', rfl, HS.out, HSC.out⟩
end
end Go.Proofs.Ytfafonfphholmaa

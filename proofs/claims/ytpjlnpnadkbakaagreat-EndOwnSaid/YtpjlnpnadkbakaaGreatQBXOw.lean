/-
  More of Mem · PathMath · PathMath2 · EnMath · Window · Lit · Path · Copy · Plan · Inbox.
-/
import Derived.BigQuiet
import Derived.Deep.Draws
import Derived.Deep.OwnRows
import Derived.Deep.QuietTactic
import Derived.Deep.RegionHeld3
import Derived.Handy
import Derived.IntWalk
import Derived.Lib.AppendZerosOnto
import Derived.Lib.Hide
import Derived.OwnWalk
import Derived.ProofKit
import Derived.SizedLaws
import Derived.WalkKit
import Derived.WalkLawsBesides
import Derived.WalkSpells
import Derived.Test.YtpjlnpnadkbakaaGreatQBCopy
import Derived.Test.YtpjlnpnadkbakaaGreatQBCountMath
import Derived.Test.YtpjlnpnadkbakaaGreatQBDocSched
import Derived.Test.YtpjlnpnadkbakaaGreatQBEnCallC
import Derived.Test.YtpjlnpnadkbakaaGreatQBEnOk
import Derived.Test.YtpjlnpnadkbakaaGreatQBEvMem
import Derived.Test.YtpjlnpnadkbakaaGreatQBFlight2
import Derived.Test.YtpjlnpnadkbakaaGreatQBFlight4
import Derived.Test.YtpjlnpnadkbakaaGreatQBFresh
import Derived.Test.YtpjlnpnadkbakaaGreatQBInbox
import Derived.Test.YtpjlnpnadkbakaaGreatQBInbox2
import Derived.Test.YtpjlnpnadkbakaaGreatQBInbox3
import Derived.Test.YtpjlnpnadkbakaaGreatQBMem
import Derived.Test.YtpjlnpnadkbakaaGreatQBMetM
import Derived.Test.YtpjlnpnadkbakaaGreatQBOutbox
import Derived.Test.YtpjlnpnadkbakaaGreatQBOutbox2
import Derived.Test.YtpjlnpnadkbakaaGreatQBPair
import Derived.Test.YtpjlnpnadkbakaaGreatQBPath
import Derived.Test.YtpjlnpnadkbakaaGreatQBPktP
import Derived.Test.YtpjlnpnadkbakaaGreatQBPrEn1
import Derived.Test.YtpjlnpnadkbakaaGreatQBPrEn10
import Derived.Test.YtpjlnpnadkbakaaGreatQBPrEn11
import Derived.Test.YtpjlnpnadkbakaaGreatQBPrEn12
import Derived.Test.YtpjlnpnadkbakaaGreatQBPrEn13
import Derived.Test.YtpjlnpnadkbakaaGreatQBPrEn14
import Derived.Test.YtpjlnpnadkbakaaGreatQBPrEn15
import Derived.Test.YtpjlnpnadkbakaaGreatQBPrEn16
import Derived.Test.YtpjlnpnadkbakaaGreatQBPrEn17
import Derived.Test.YtpjlnpnadkbakaaGreatQBPrEn3
import Derived.Test.YtpjlnpnadkbakaaGreatQBPrEn5
import Derived.Test.YtpjlnpnadkbakaaGreatQBPrEn7
import Derived.Test.YtpjlnpnadkbakaaGreatQBPrEn9
import Derived.Test.YtpjlnpnadkbakaaGreatQBPrEvK
import Derived.Test.YtpjlnpnadkbakaaGreatQBQuad
import Derived.Test.YtpjlnpnadkbakaaGreatQBRangesMath
import Derived.Test.YtpjlnpnadkbakaaGreatQBReplace2
import Derived.Test.YtpjlnpnadkbakaaGreatQBRowN
import Derived.Test.YtpjlnpnadkbakaaGreatQBSearch
import Derived.Test.YtpjlnpnadkbakaaGreatQBSets
namespace Go.Proofs.YtpjlnpnadkbakaaGreat
set_option maxRecDepth 10000
open Go.RowKit
section
variable {k : IntKind} {w w' : World} {A : Option Addr} {xs ys : List Int}
end
structure ArgI (k : IntKind) (bytes : Nat) (w : World) (A : Option Addr) (n c : Nat) (xs : List Int) : Prop where
  len : xs.length = n
  le : n ≤ c
  reach : c * bytes ≤ 140737488351232
  nil : A = none → c = 0
  rd : Rd k w A xs
  wf : ∀ x ∈ xs, (Lit.int k x).wf = true
theorem rd_of {k : IntKind} {w : World} {x : Addr} {zs : List Int} (n : Nat) (hcell : ∀ i, i < zs.length → w.cell? (x.add i) = some (.int k (zs.getD i 0))) : Rd k w (some x) (zs.take n) := by
  by_cases h0 : zs.length = 0
  · exact .inl (by rw [List.eq_nil_of_length_eq_zero h0]; simp)
  · obtain ⟨b, off, spot⟩ := x
    have hs : spot = none := by simpa [Addr.add] using World.cell?_spot (hcell 0 (by omega))
    subst hs
    refine Rd.take (.inr ⟨b, off, rfl, fun i hi => ?_⟩) n
    have := hcell i hi
    rwa [Addr.add_lit] at this
theorem argI_nil (k : IntKind) (bytes : Nat) (w : World) : ArgI k bytes w none 0 0 [] := ⟨rfl, Nat.le_refl _, by omega, fun _ => rfl, .inl rfl, by simp⟩
theorem argI_of {k : IntKind} {bytes : Nat} {w : World} {x : Addr} {len cap : Nat} {zs : List Int} (hl : len ≤ cap) (hz : zs.length = cap) (hcell : ∀ i, i < zs.length → w.cell? (x.add i) = some (.int k (zs.getD i 0)))
    (hwz : ∀ n ∈ zs, (Lit.int k n).wf = true) (hr : cap * bytes ≤ 140737488351232) : ArgI k bytes w (some x) len cap (zs.take len) :=
  ⟨by simp; omega, hl, hr, fun h => (by cases h), rd_of len hcell, fun n hn => hwz n (List.mem_of_mem_take hn)⟩
theorem wf_u8 {x : Int} (h : (Lit.int .u8 x).wf = true) : 0 ≤ x ∧ x < 256 := by
  have h1 : IntKind.u8.min = 0 := rfl
  have h2 : IntKind.u8.max = 255 := rfl
  simp only [Lit.wf, Bool.and_eq_true, decide_eq_true_eq] at h
  omega
end Go.Proofs.YtpjlnpnadkbakaaGreat
namespace Go.Proofs.YtpjlnpnadkbakaaGreat
set_option maxRecDepth 10000
def flat (l : List Qd) : List Int := l.flatMap fun q => [q.n, q.f, q.t, q.a]
def Pa.state (P : Pa) : List Int := [oneI P.up, oneI P.jo, oneI P.be, P.sent, P.g.mean, P.g.wait, P.wn.size, P.fl.length] ++ flat P.fl
theorem flat_app (a b : List Qd) : flat (a ++ b) = flat a ++ flat b := by simp [flat]
theorem flat_one (q : Qd) : flat [q] = [q.n, q.f, q.t, q.a] := by simp [flat]
theorem flat_len (a : List Qd) : (flat a).length = a.length * 4 := by
  induction a with
  | nil => rfl
  | cons x l ih =>
    have : flat (x :: l) = [x.n, x.f, x.t, x.a] ++ flat l := by simp [flat]
    rw [this, List.length_append, ih, List.length_cons]
    simp
    omega
theorem flat_next (l : List Qd) (i : Nat) (hi : i < l.length) : flat (l.take (i + 1)) = flat (l.take i) ++ [(l.getD i qz).n, (l.getD i qz).f, (l.getD i qz).t, (l.getD i qz).a] := by
  rw [take_nextQ l i hi, flat_app, flat_one]
end Go.Proofs.YtpjlnpnadkbakaaGreat
namespace Go.Proofs.YtpjlnpnadkbakaaGreat
set_option maxRecDepth 10000
def Pa.stN (P : Pa) (i : Nat) : List Int := P.head ++ flat (P.fl.take i)
theorem Pa.stN_len (P : Pa) {i : Nat} (hi : i ≤ P.fl.length) : (P.stN i).length = 8 + i * 4 := by
  unfold Pa.stN
  rw [List.length_append, flat_len, List.length_take, Nat.min_eq_left hi]
  rfl
theorem Pa.stN_zero (P : Pa) : P.stN 0 = P.head := by simp [Pa.stN, flat]
theorem Pa.stN_all (P : Pa) : P.stN P.fl.length = P.state := by simp [Pa.stN, Pa.state, Pa.head, List.take_length]
theorem Pa.stN_next (P : Pa) {i : Nat} (hi : i < P.fl.length) : P.stN (i + 1) = P.stN i ++ [(P.fl.getD i qz).n, (P.fl.getD i qz).f, (P.fl.getD i qz).t, (P.fl.getD i qz).a] := by
  unfold Pa.stN
  rw [flat_next _ _ hi, List.append_assoc]
end Go.Proofs.YtpjlnpnadkbakaaGreat
namespace Go.Proofs.YtpjlnpnadkbakaaGreat
set_option maxRecDepth 10000
namespace In
variable {s : In}
end In
namespace En
def lostL (ls : List (Int × Int)) : List Int := ls.flatMap fun q => [q.1, q.2]
def state (E : En) : List Int :=
  [E.now] ++ E.due ++ [E.limit, (E.o.xs.length : Int), oneI E.o.cl, E.o.ak, E.pl.sent, (E.pl.ls.length : Int)] ++ lostL E.pl.ls ++ [E.i.tk, E.i.seen, E.i.ready, oneI E.i.done] ++ E.ps.flatMap Pa.state
end En
end Go.Proofs.YtpjlnpnadkbakaaGreat
namespace Go.Proofs.YtpjlnpnadkbakaaGreat
set_option maxRecDepth 10000
open Go.RowKit
section
variable {ty : TypeId} {w w' : World} {p : Nat} {g : Wn}
end
section
variable {w : World} {p : Nat} {g : Wn}
theorem wisize_any (h : Wi w p g) : Calls Tryz.prog 205 #[.pointer (some ⟨p, 0, none⟩)] w fun e w' => e = .returned (.int .i64 g.size) ∧ w = w' := by
  have c1 := h.c1
  clear h
  go_enter Tryz.func205, Tryz.ntmps205
  go_wp2
  go_ret
  exact ⟨rfl, rfl⟩
end
section
variable {w : World} {p : Nat} {g : Wn}
end
end Go.Proofs.YtpjlnpnadkbakaaGreat
namespace Go.Proofs.YtpjlnpnadkbakaaGreat
set_option maxRecDepth 10000
open Go.RowKit
theorem own_lit (q : IntKind) (w : World) (xs : List Int) (t : TypeId) (hl : xs.length ≤ maxLen) : Own q t (w.alloc (.cells (cel q xs).toArray t)) w.heap.size (.slice (some ⟨w.heap.size, 0, none⟩) xs.length xs.length) xs := by
  have := World.ownsRow_lit (base := w.heap.size) (e := t) (size := 1) w (cel q xs).toArray xs.length (Nat.le_refl _) hl (by simp [cel])
  simpa [Own, cel] using this
end Go.Proofs.YtpjlnpnadkbakaaGreat
namespace Go.Proofs.YtpjlnpnadkbakaaGreat
set_option maxRecDepth 10000
open Go.RowKit
theorem info_intQ : (Tryz.prog.info? 3).map (fun i => (i.zero, i.size, i.bytes)) = some (some (.int .i64 0), 1, 8) := by kernel_rfl
theorem paone_any (b : Bool) (w : World) : Calls Tryz.prog 203 #[.bool b] w fun e w' => e = .returned (.int .i64 (oneI b)) ∧ w = w' := by
  cases b
  all_goals go_enter Tryz.func203, Tryz.ntmps203
  all_goals go_wp2
  all_goals go_ret
  all_goals exact ⟨rfl, rfl⟩
theorem own_unlikeQ {q : IntKind} {e e' : TypeId} {w : World} {B B' : Nat} {v v' : Value} {xs : List Int} {ps : List Qd} (h : Own q e w B v xs) (h' : OwnQ e' w B' v' ps) (hne : e ≠ e') : v'.ownBlock = none ∨ v'.ownBlock ≠ v.ownBlock := by
  rcases h'.parts with ⟨rfl, _⟩ | ⟨g, cap, cur, rfl, _, hg, _⟩
  · exact .inl rfl
  · right
    intro he
    rcases h.2 with ⟨rfl, _⟩ | ⟨g', cap', cur', rfl, _, hg', _⟩
    · simp [Value.ownBlock] at he
    · simp only [Value.ownBlock, Option.some.injEq] at he
      subst he
      rw [hg] at hg'
      injection hg' with hg'
      injection hg' with _ ht
      exact hne ht.symm
structure StP (wi : World) (p pg pw pf : Nat) (u j b : Bool) (s : Int) : Prop where
  c0 : wi.cell? ⟨p, 0, none⟩ = some (.bool u)
  c1 : wi.cell? ⟨p, 0 + 1, none⟩ = some (.bool j)
  c2 : wi.cell? ⟨p, 0 + 2, none⟩ = some (.bool b)
  c3 : wi.cell? ⟨p, 0 + 3, none⟩ = some (.int .i64 s)
  c4 : wi.cell? ⟨p, 0 + 4, none⟩ = some (.pointer (some ⟨pg, 0, none⟩))
  c5 : wi.cell? ⟨p, 0 + 5, none⟩ = some (.pointer (some ⟨pw, 0, none⟩))
  c6 : wi.cell? ⟨p, 0 + 6, none⟩ = some (.pointer (some ⟨pf, 0, none⟩))
section
variable {w : World} {B p pg pw pf : Nat} {v : Value} {P : Pa}
set_option maxHeartbeats 4000000 in
theorem pastate_any (h : PaAt w B p pg pw pf v P) (hok : P.ok) :
    Calls Tryz.prog 134 #[.pointer (some ⟨p, 0, none⟩)] w fun e w' => ∃ A' m c', e = .returned (.slice A' m c') ∧ m = P.state.length ∧ Own .i64 3 w' w.heap.size (.slice A' m c') P.state ∧ Below w.heap.size w w' := by
  obtain ⟨n, hn⟩ : ∃ n, P.fl.length = n := ⟨_, rfl⟩
  obtain ⟨u, hu⟩ : ∃ u, P.up = u := ⟨_, rfl⟩
  obtain ⟨j, hj⟩ : ∃ j, P.jo = j := ⟨_, rfl⟩
  obtain ⟨b, hbe⟩ : ∃ b, P.be = b := ⟨_, rfl⟩
  obtain ⟨s, hs⟩ : ∃ s, P.sent = s := ⟨_, rfl⟩
  obtain ⟨m, hm⟩ : ∃ m, P.g.mean = m := ⟨_, rfl⟩
  obtain ⟨z, hz⟩ : ∃ z, P.wn.size = z := ⟨_, rfl⟩
  obtain ⟨wt, hwt⟩ : ∃ x, P.g.wait = x := ⟨_, rfl⟩
  have HSC := Lib.hid (show ∀ W, Below w.heap.size w W → StP W p pg pw pf u j b s from fun W hb => by
    have h1 := h.later hb
    exact ⟨by rw [← hu]; exact h1.c0, by rw [← hj]; exact h1.c1, by rw [← hbe]; exact h1.c2, by rw [← hs]; exact h1.c3, h1.c4, h1.c5, h1.c6⟩)
  have HME := Lib.hid (show ∀ k, Calls Tryz.prog 204 #[.pointer (some ⟨pg, 0, none⟩)] (w.drewN k) fun e w' => e = .returned (.int .i64 m) ∧ w.drewN k = w' from fun k => by rw [← hm]; exact gumean_any (h.drewN k).g)
  have HWT := Lib.hid (show ∀ k, Calls Tryz.prog 162 #[.pointer (some ⟨pg, 0, none⟩)] (w.drewN k) fun e w' => e = .returned (.int .i64 wt) ∧ ∃ q, w' = (w.drewN k).drewN q from fun k => by rw [← hwt]; exact guwait_any (h.drewN k).g hok.g)
  have HSZ := Lib.hid (show ∀ k, Calls Tryz.prog 205 #[.pointer (some ⟨pw, 0, none⟩)] (w.drewN k) fun e w' => e = .returned (.int .i64 z) ∧ w.drewN k = w' from fun k => by rw [← hz]; exact wisize_any (h.drewN k).wn)
  have HLE := Lib.hid (show ∀ k, Calls Tryz.prog 206 #[.pointer (some ⟨pf, 0, none⟩)] (w.drewN k) fun e w' => e = .returned (.int .i64 (n : Int)) ∧ w.drewN k = w' from fun k => by rw [← hn]; exact fllen_any (h.drewN k).fl)
  have HALL := Lib.hid (show ∀ W, Below w.heap.size w W → Calls Tryz.prog 207 #[.pointer (some ⟨pf, 0, none⟩)] W fun e w' => ∃ A' c', e = .returned (.slice A' n c') ∧ OwnQ tOutP w' W.heap.size (.slice A' n c') P.fl ∧ Below W.heap.size W w' from fun W hb => by rw [← hn]; exact flall_any (h.later hb).fl (by have := hok.n; omega))
  have HN := Lib.hid hn
  have HNB := Lib.hid (show n ≤ 1048576 by rw [← hn]; exact hok.n)
  have HHD := Lib.hid (show P.stN 0 = [oneI u, oneI j, oneI b, s, m, wt, z, (n : Int)] by rw [Pa.stN_zero, Pa.head, hu, hj, hbe, hs, hm, hwt, hz, hn])
  have HBD := Lib.hid (show ∀ k, Below w.heap.size w (w.drewN k) from fun k => ⟨rfl, rfl, rfl, Nat.le_refl _, fun _ _ => rfl⟩)
  clear hn hu hj hbe hs hm hz hwt h hok
  go_enter Tryz.func134, Tryz.ntmps134
  go_wp2_with fail
  refine wp_region_held_drew (S := fun wi => StP wi p pg pw pf u j b s) (by kernel_rfl) (HSC.out _ (HBD.out 1)) ?_
  intro hHeld
  refine tkH 0 ?_
  refine tkH 1 ?_
  refine tkH 2 ?_
  refine wpAnyH_take (i := 3) (v := ?_) rfl (by kernel_rfl) (by kernel_rfl) (by kernel_rfl) (fun _ _ _ h => h) (Or.inl ⟨by rfl, ?_⟩) (by assumption) ?_
  rotate_left
  · intro w hSw
    (try dsimp only at hSw)
    have c9 := hSw.c0
    clear hSw
    go_simp
    try (with_reducible rfl)
  try simp only [Act.put, List.getElem_toArray, List.getElem_cons_zero, List.getElem_cons_succ, List.setIfInBounds_toArray, List.set_cons_zero, List.set_cons_succ]
  refine tkH 5 ?_
  refine tkH 6 ?_
  refine tkH 7 ?_
  refine wpAnyH_take (i := 8) (v := ?_) rfl (by kernel_rfl) (by kernel_rfl) (by kernel_rfl) (fun _ _ _ h => h) (Or.inl ⟨by rfl, ?_⟩) (by assumption) ?_
  rotate_left
  · intro w hSw
    (try dsimp only at hSw)
    have c9 := hSw.c1
    clear hSw
    go_simp
    try (with_reducible rfl)
  try simp only [Act.put, List.getElem_toArray, List.getElem_cons_zero, List.getElem_cons_succ, List.setIfInBounds_toArray, List.set_cons_zero, List.set_cons_succ]
  refine tkH 10 ?_
  refine tkH 11 ?_
  refine tkH 12 ?_
  refine wpAnyH_take (i := 13) (v := ?_) rfl (by kernel_rfl) (by kernel_rfl) (by kernel_rfl) (fun _ _ _ h => h) (Or.inl ⟨by rfl, ?_⟩) (by assumption) ?_
  rotate_left
  · intro w hSw
    (try dsimp only at hSw)
    have c9 := hSw.c2
    clear hSw
    go_simp
    try (with_reducible rfl)
  try simp only [Act.put, List.getElem_toArray, List.getElem_cons_zero, List.getElem_cons_succ, List.setIfInBounds_toArray, List.set_cons_zero, List.set_cons_succ]
  refine tkH 15 ?_
  refine tkH 16 ?_
  refine tkH 17 ?_
  refine wpAnyH_take (i := 18) (v := ?_) rfl (by kernel_rfl) (by kernel_rfl) (by kernel_rfl) (fun _ _ _ h => h) (Or.inl ⟨by rfl, ?_⟩) (by assumption) ?_
  rotate_left
  · intro w hSw
    (try dsimp only at hSw)
    have c9 := hSw.c3
    clear hSw
    go_simp
    try (with_reducible rfl)
  try simp only [Act.put, List.getElem_toArray, List.getElem_cons_zero, List.getElem_cons_succ, List.setIfInBounds_toArray, List.set_cons_zero, List.set_cons_succ]
  refine tkH 19 ?_
  refine tkH 20 ?_
  refine tkH 21 ?_
  refine wpAnyH_take (i := 22) (v := ?_) rfl (by kernel_rfl) (by kernel_rfl) (by kernel_rfl) (fun _ _ _ h => h) (Or.inl ⟨by rfl, ?_⟩) (by assumption) ?_
  rotate_left
  · intro w hSw
    (try dsimp only at hSw)
    have c9 := hSw.c4
    clear hSw
    go_simp
    try (with_reducible rfl)
  try simp only [Act.put, List.getElem_toArray, List.getElem_cons_zero, List.getElem_cons_succ, List.setIfInBounds_toArray, List.set_cons_zero, List.set_cons_succ]
  refine tkH 24 ?_
  refine tkH 25 ?_
  refine tkH 26 ?_
  refine wpAnyH_take (i := 27) (v := ?_) rfl (by kernel_rfl) (by kernel_rfl) (by kernel_rfl) (fun _ _ _ h => h) (Or.inl ⟨by rfl, ?_⟩) (by assumption) ?_
  rotate_left
  · intro w hSw
    (try dsimp only at hSw)
    have c9 := hSw.c4
    clear hSw
    go_simp
    try (with_reducible rfl)
  try simp only [Act.put, List.getElem_toArray, List.getElem_cons_zero, List.getElem_cons_succ, List.setIfInBounds_toArray, List.set_cons_zero, List.set_cons_succ]
  refine tkH 29 ?_
  refine tkH 30 ?_
  refine tkH 31 ?_
  refine wpAnyH_take (i := 32) (v := ?_) rfl (by kernel_rfl) (by kernel_rfl) (by kernel_rfl) (fun _ _ _ h => h) (Or.inl ⟨by rfl, ?_⟩) (by assumption) ?_
  rotate_left
  · intro w hSw
    (try dsimp only at hSw)
    have c9 := hSw.c5
    clear hSw
    go_simp
    try (with_reducible rfl)
  try simp only [Act.put, List.getElem_toArray, List.getElem_cons_zero, List.getElem_cons_succ, List.setIfInBounds_toArray, List.set_cons_zero, List.set_cons_succ]
  refine tkH 34 ?_
  refine tkH 35 ?_
  refine tkH 36 ?_
  refine wpAnyH_take (i := 37) (v := ?_) rfl (by kernel_rfl) (by kernel_rfl) (by kernel_rfl) (fun _ _ _ h => h) (Or.inl ⟨by rfl, ?_⟩) (by assumption) ?_
  rotate_left
  · intro w hSw
    (try dsimp only at hSw)
    have c9 := hSw.c6
    clear hSw
    go_simp
    try (with_reducible rfl)
  try simp only [Act.put, List.getElem_toArray, List.getElem_cons_zero, List.getElem_cons_succ, List.setIfInBounds_toArray, List.set_cons_zero, List.set_cons_succ]
  refine wpAnyH_ready (rs := [4]) (by kernel_rfl) (by simp) ?_
  refine AllReadyH.cons rfl (fun K hK => ?_) AllReadyH.nil
  go_simp
  refine (paone_any u _).mono ?_
  rintro e w1 ⟨rfl, rfl⟩
  refine hK.out _ _ (HSC.out _ (HBD.out 1)) (fun hHeld2 => ?_)
  clear hK K hHeld
  have hHeld := hHeld2
  clear hHeld2
  try simp only [Act.put, List.getElem_toArray, List.getElem_cons_zero, List.getElem_cons_succ, List.setIfInBounds_toArray, List.set_cons_zero, List.set_cons_succ]
  refine wpAnyH_ready (rs := [9]) (by kernel_rfl) (by simp) ?_
  refine AllReadyH.cons rfl (fun K hK => ?_) AllReadyH.nil
  go_simp
  refine (paone_any j _).mono ?_
  rintro e w1 ⟨rfl, rfl⟩
  refine hK.out _ _ (HSC.out _ (HBD.out 1)) (fun hHeld2 => ?_)
  clear hK K hHeld
  have hHeld := hHeld2
  clear hHeld2
  try simp only [Act.put, List.getElem_toArray, List.getElem_cons_zero, List.getElem_cons_succ, List.setIfInBounds_toArray, List.set_cons_zero, List.set_cons_succ]
  refine wpAnyH_ready (rs := [14]) (by kernel_rfl) (by simp) ?_
  refine AllReadyH.cons rfl (fun K hK => ?_) AllReadyH.nil
  go_simp
  refine (paone_any b _).mono ?_
  rintro e w1 ⟨rfl, rfl⟩
  refine hK.out _ _ (HSC.out _ (HBD.out 1)) (fun hHeld2 => ?_)
  clear hK K hHeld
  have hHeld := hHeld2
  clear hHeld2
  try simp only [Act.put, List.getElem_toArray, List.getElem_cons_zero, List.getElem_cons_succ, List.setIfInBounds_toArray, List.set_cons_zero, List.set_cons_succ]
  refine wpAnyH_ready (rs := [23]) (by kernel_rfl) (by simp) ?_
  refine AllReadyH.cons rfl (fun K hK => ?_) AllReadyH.nil
  go_simp
  refine (HME.out 1).mono ?_
  rintro e w1 ⟨rfl, rfl⟩
  refine hK.out _ _ (HSC.out _ (HBD.out 1)) (fun hHeld2 => ?_)
  clear hK K hHeld
  have hHeld := hHeld2
  clear hHeld2
  try simp only [Act.put, List.getElem_toArray, List.getElem_cons_zero, List.getElem_cons_succ, List.setIfInBounds_toArray, List.set_cons_zero, List.set_cons_succ]
  refine wpAnyH_ready (rs := [28]) (by kernel_rfl) (by simp) ?_
  refine AllReadyH.cons rfl (fun K hK => ?_) AllReadyH.nil
  go_simp
  refine (HWT.out 1).mono ?_
  rintro e w1 ⟨rfl, k, rfl⟩
  rw [World.drewN_drewN]
  refine hK.out _ _ (HSC.out _ (HBD.out _)) (fun hHeld2 => ?_)
  clear hK K hHeld
  have hHeld := hHeld2
  clear hHeld2
  try simp only [Act.put, List.getElem_toArray, List.getElem_cons_zero, List.getElem_cons_succ, List.setIfInBounds_toArray, List.set_cons_zero, List.set_cons_succ]
  refine wpAnyH_ready (rs := [33]) (by kernel_rfl) (by simp) ?_
  refine AllReadyH.cons rfl (fun K hK => ?_) AllReadyH.nil
  go_simp
  refine (HSZ.out (1 + k)).mono ?_
  rintro e w1 ⟨rfl, rfl⟩
  refine hK.out _ _ (HSC.out _ (HBD.out _)) (fun hHeld2 => ?_)
  clear hK K hHeld
  have hHeld := hHeld2
  clear hHeld2
  try simp only [Act.put, List.getElem_toArray, List.getElem_cons_zero, List.getElem_cons_succ, List.setIfInBounds_toArray, List.set_cons_zero, List.set_cons_succ]
  refine wpAnyH_ready (rs := [38]) (by kernel_rfl) (by simp) ?_
  refine AllReadyH.cons rfl (fun K hK => ?_) AllReadyH.nil
  go_simp
  refine (HLE.out (1 + k)).mono ?_
  rintro e w1 ⟨rfl, rfl⟩
  refine hK.out _ _ (HSC.out _ (HBD.out _)) (fun hHeld2 => ?_)
  clear hK K hHeld
  have hHeld := hHeld2
  clear hHeld2
  try simp only [Act.put, List.getElem_toArray, List.getElem_cons_zero, List.getElem_cons_succ, List.setIfInBounds_toArray, List.set_cons_zero, List.set_cons_succ]
  obtain ⟨W, hW⟩ : ∃ W, w.drewN (1 + k) = W := ⟨_, rfl⟩
  have HBW := Lib.hid (show Below w.heap.size w W by rw [← hW]; exact HBD.out _)
  have HZW := Lib.hid (show w.heap.size = W.heap.size by rw [← hW]; rfl)
  rw [hW] at hHeld ⊢
  clear hW HWT HBD HME HSZ HLE
  refine wpAnyH_ready (rs := [39]) (by kernel_rfl) (by simp) ?_
  refine AllReadyH.cons rfl (fun K hK => ?_) AllReadyH.nil
  go_simp
  have HO0 := Lib.hid (show Own .i64 3 (W.alloc (.cells (cel .i64 [oneI u, oneI j, oneI b, s, m, wt, z, (n : Int)]).toArray 3)) w.heap.size (.slice (some ⟨W.heap.size, 0, none⟩) 8 8) (P.stN 0) by rw [HHD.out, HZW.out]; exact own_lit .i64 W [oneI u, oneI j, oneI b, s, m, wt, z, (n : Int)] 3 (by simp [maxLen]))
  have HB0 := Lib.hid (HBW.out.alloc (by rw [HZW.out]; exact Nat.le_refl _) (.cells (cel .i64 [oneI u, oneI j, oneI b, s, m, wt, z, (n : Int)]).toArray 3))
  refine hK.out _ _ (HSC.out _ HB0.out) (fun hHeld2 => ?_)
  clear hK K hHeld
  have hHeld := hHeld2
  clear hHeld2
  try simp only [Act.put, List.getElem_toArray, List.getElem_cons_zero, List.getElem_cons_succ, List.setIfInBounds_toArray, List.set_cons_zero, List.set_cons_succ]
  refine tkH 40 ?_
  refine wpAnyH_done (by kernel_rfl) ?_ _
  obtain ⟨w0, hw0⟩ : ∃ w0, W.alloc (.cells (cel .i64 [oneI u, oneI j, oneI b, s, m, wt, z, (n : Int)]).toArray 3) = w0 := ⟨_, rfl⟩
  have hw0' : W.alloc (.cells #[.int .i64 (oneI u), .int .i64 (oneI j), .int .i64 (oneI b), .int .i64 s, .int .i64 m, .int .i64 wt, .int .i64 z, .int .i64 (n : Int)] 3) = w0 := hw0
  rw [hw0] at HO0 HB0
  rw [hw0'] at hHeld ⊢
  have c6 := hHeld.c6
  clear hHeld hw0 hw0'
  go_wp2_with fail
  refine (HALL.out w0 HB0.out).mono ?_
  rintro e w9 ⟨A, c, rfl, hq, hb9⟩
  have HB9 := Lib.hid (HB0.out.trans (hb9.mono HB0.out.size))
  have HO9 := Lib.hid (HO0.out.later hb9)
  have HQ := Lib.hid (show OwnQ tOutP w9 w.heap.size (.slice A n c) P.fl from hq.less HB0.out.size)
  clear hq hb9 HALL c6 HO0 HB0
  go_wp2_with fail
  go_loopw [52, 3] (fun iv cv wr => ∃ (i : Nat) (A1 : Option Addr) (c1 : Nat), i ≤ n ∧ iv = .int .i64 i ∧ cv = .slice A1 (8 + i * 4) c1 ∧ Hid (Own .i64 3 wr w.heap.size (.slice A1 (8 + i * 4) c1) (P.stN i) ∧ Below w.heap.size w wr ∧ OwnQ tOutP wr w.heap.size (.slice A n c) P.fl)) (fun iv _ _ => n - (intOf iv).toNat)
  case atStart => exact ⟨0, _, _, by omega, rfl, rfl, Lib.hid ⟨HO9.out, HB9.out, HQ.out⟩⟩
  case round =>
    clear HO9 HB9 HQ HBW
    obtain ⟨i, A1, c1, hi, rfl, rfl, hmid⟩ := hrel
    by_cases hin : i < n
    · obtain ⟨g, rfl, -⟩ := hmid.out.2.2.at (by omega)
      obtain ⟨y0, y1, y2, y3⟩ := hmid.out.2.2.cells i hin
      obtain ⟨⟨qn, qf, qt, qa⟩, hq⟩ : ∃ q, P.fl.getD i qz = q := ⟨_, rfl⟩
      have hst := P.stN_next (i := i) (by rw [HN.out]; exact hin)
      have hln := P.stN_len (i := i) (by rw [HN.out]; omega)
      rw [hq] at y0 y1 y2 y3 hst
      simp only at y0 y1 y2 y3 hst
      have i1 : (i : Int) < (n : Int) := by omega
      have i2 : (0 : Int) ≤ (i : Int) := by omega
      have HI := Lib.hid (And.intro hin (show i ≤ 1048576 by have := HNB.out; omega))
      have HIW := Lib.hid (show wrap64 ((i : Int) + 1) = ((i + 1 : Nat) : Int) from wrap_q (by omega) (by omega) (by have := HI.out; omega))
      obtain ⟨wa, hwa⟩ : ∃ wa, wr.alloc (.cells #[.int .i64 qn, .int .i64 qf, .int .i64 qt, .int .i64 qa] tOutP) = wa := ⟨_, rfl⟩
      have ho1 : Own .i64 3 wa w.heap.size (.slice A1 (8 + i * 4) c1) (P.stN i) := by rw [← hwa]; exact hmid.out.1.alloc _
      have hq1 : OwnQ tOutP wa w.heap.size (.slice (some ⟨g, 0, none⟩) n c) P.fl := by rw [← hwa]; exact hmid.out.2.2.alloc _
      have hb1 : Below w.heap.size w wa := by rw [← hwa]; exact hmid.out.2.1.alloc hmid.out.2.1.size _
      obtain ⟨A2, c2, w2, hrun, ho2, hg2, -⟩ := run_append_f (P := Tryz.prog) (wa.alloc (.cells #[.int .i64 qn, .int .i64 qf, .int .i64 qt, .int .i64 qa] 3)) .i64 49 49 3 (.int .i64 0) 8 Tryz.underlying49 info_intQ rfl w.heap.size (.slice A1 (8 + i * 4) c1) (P.stN i) (ho1.alloc _) (some ⟨wa.heap.size, 0, none⟩) 4 4 [qn, qf, qt, qa] rfl (rd_lit .i64 wa [qn, qf, qt, qa] 3 (0, 0)) (by have := HI.out; rw [hln]; unfold maxLen; simp; omega) (by have := HI.out; rw [hln]; simp; omega) (by have := hb1.size; simp; omega)
      rw [← hst] at ho2
      rw [hln, show 8 + i * 4 + 4 = 8 + (i + 1) * 4 by omega] at hrun ho2
      have HNX : Hid (Own .i64 3 w2 w.heap.size (.slice A2 (8 + (i + 1) * 4) c2) (P.stN (i + 1)) ∧ Below w.heap.size w w2 ∧ OwnQ tOutP w2 w.heap.size (.slice (some ⟨g, 0, none⟩) n c) P.fl) := Lib.hid ⟨ho2, (hb1.alloc hb1.size _).trans ((Trn.of_grown hg2).below (by have := hb1.size; simp; omega) (fun g hg => (ho1.lt g hg).1)), (hq1.alloc _).kept hg2 (own_unlikeQ ho1 hq1 (by decide))⟩
      obtain ⟨x0, x1, x2, x3⟩ := row4_cells (row4_new wr tOutP ⟨qn, qf, qt, qa⟩)
      simp only at x0 x1 x2 x3
      clear hst hln ho1 hb1 ho2 hg2 hmid hi hin hq hq1
      rw [← hwa, World.size_alloc] at hrun
      clear hwa
      go_wp2_with (at_builtin; refine Lib.wpList_append_run _ rfl _ _ _ _ rfl _ _ rfl rfl _ _ hrun ?_)
      clear hrun
      go_roundw
      case rel => exact ⟨i + 1, A2, c2, by have := HI.out; omega, by first | rfl | (rw [HIW.out]) | go_num, rfl, HNX⟩
      case measure => (try rw [HIW.out]); have := HI.out; simp [intOf]; omega
    · have : i = n := by omega
      subst this
      have hlen := P.stN_len (i := i) (by rw [HN.out]; omega)
      have he : P.stN i = P.state := by rw [← HN.out]; exact P.stN_all
      have HFIN := Lib.hid hmid.out
      rw [he] at hlen HFIN
      have HL := Lib.hid hlen.symm
      have j1 : ¬ ((i : Int) < (i : Int)) := by omega
      clear hlen he hmid hi hin
      go_wp2
      go_ret
      exact ⟨_, _, _, rfl, HL.out, HFIN.out.1, HFIN.out.2.1⟩
end
end Go.Proofs.YtpjlnpnadkbakaaGreat
namespace Go.Proofs.YtpjlnpnadkbakaaGreat
set_option maxRecDepth 10000
open Go.RowKit
set_option maxHeartbeats 400000 in
theorem copy_any (A : Option Addr) (n c : Nat) (xs : List Int) (w : World) (hn : xs.length = n) (hr : Rd .u8 w A xs) (hb : n ≤ 140737488355328) :
    Calls Tryz.prog 61 #[.slice A n c] w fun e w' => ∃ A' c', e = .returned (.slice A' n c') ∧ Own .u8 5 w' w.heap.size (.slice A' n c') xs ∧ Below w.heap.size w w' := by
  go_enter Tryz.func61, Tryz.ntmps61
  go_wp2_with (at_builtin; refine wpList_app _ .u8 rfl (.const (.slice none 0 0)) (.tmp 3) 29 rfl 5 (.int .u8 0) 1 Tryz.underlying29 info_byte rfl w.heap.size (.slice none 0 0) [] rfl (Own.nil _ _ _ _) A n c rfl xs hn hr (by simp [maxLen]; omega) (by simp; omega) (Nat.le_refl _) ?_; intro A' c' w' ho hg)
  go_ret
  simp only [List.length_nil, Nat.zero_add, List.nil_append] at ho ⊢
  exact ⟨A', c', rfl, ho, grown_below hg (Nat.le_refl _) (by simp [Value.ownBlock])⟩
set_option maxHeartbeats 400000 in
theorem cut_any (A : Option Addr) (n c : Nat) (m : Int) (xs : List Int) (w : World) (hn : xs.length = n) (hc : n ≤ c) (hr : Rd .u8 w A xs) (hb : n ≤ 9223372036854775807) (h0 : 0 ≤ m) (hm : m ≤ 140737488355328) :
    Calls Tryz.prog 42 #[.slice A n c, .int .i64 m] w fun e w' =>
      ∃ A' c', e = .returned (.slice A' (xs.take m.toNat).length c') ∧ Own .u8 5 w' w.heap.size (.slice A' (xs.take m.toNat).length c') (xs.take m.toNat) ∧ Below w.heap.size w w' := by
  obtain ⟨k, rfl⟩ := Int.eq_ofNat_of_zero_le h0
  rw [Int.toNat_natCast]
  have HN := Lib.hid hn
  clear hn
  have hl : (xs.take k).length = min k n := by rw [List.length_take, HN.out]
  rw [hl]
  have HL := Lib.hid hl
  clear hl
  by_cases h : (n : Int) ≤ (k : Int)
  · have hk : xs.take k = xs := List.take_of_length_le (by rw [HN.out]; omega)
    have hmn : min k n = n := by omega
    rw [hmn, hk]
    clear hk hmn
    go_enter Tryz.func42, Tryz.ntmps42
    go_wp2_with fail
    rw [show (min (n : Int) (k : Int)).toNat = n from by omega]
    refine (copy_any A n c xs w HN.out hr (by omega)).mono ?_
    rintro e w' ⟨A', c', rfl, ho, hbl⟩
    go_wp2
    go_ret
    exact ⟨A', c', rfl, ho, hbl⟩
  · have hmn : min k n = k := by omega
    have HK := Lib.hid hmn
    rw [hmn]
    clear hmn
    go_enter Tryz.func42, Tryz.ntmps42
    go_wp2_with fail
    rw [show (min (n : Int) (k : Int)).toNat = k from by omega]
    refine (copy_any A k c (xs.take k) w (by rw [HL.out, HK.out]) (hr.take k) (by omega)).mono ?_
    rintro e w' ⟨A', c', rfl, ho, hbl⟩
    go_wp2
    go_ret
    exact ⟨A', c', rfl, ho, hbl⟩
end Go.Proofs.YtpjlnpnadkbakaaGreat
namespace Go.Proofs.YtpjlnpnadkbakaaGreat
set_option maxRecDepth 10000
open Go.RowKit
section
variable {w w' : World} {B p q : Nat} {v v' : Value} {P : Pl} {F : Nat → Prop}
end
section
variable {w : World} {B p q : Nat} {v : Value} {P : Pl} {B' po : Nat} {vo : Value} {o : Ou}
theorem missing_any (h : PlanAt w B p q v P) : Calls Tryz.prog 130 #[.pointer (some ⟨p, 0, none⟩)] w fun e w' => ∃ A' c', e = .returned (.slice A' P.ls.length c') ∧ OwnP 143 w' w.heap.size (.slice A' P.ls.length c') P.ls ∧ Below w.heap.size w w' := by
  have c0 := h.c0
  have HA := Lib.hid (allset_any q v P.ls B w h.set h.set.norm.len)
  clear h
  obtain ⟨n, hn⟩ : ∃ n, P.ls.length = n := ⟨_, rfl⟩
  rw [hn] at HA ⊢
  clear hn
  go_enter Tryz.func130, Tryz.ntmps130
  go_wp2_with fail
  refine HA.out.mono ?_
  rintro e w' ⟨A', c', rfl, h1, h2⟩
  go_wp2
  go_ret
  exact ⟨A', c', rfl, h1, h2⟩
end
end Go.Proofs.YtpjlnpnadkbakaaGreat
namespace Go.Proofs.YtpjlnpnadkbakaaGreat
set_option maxRecDepth 10000
open Go.RowKit
section
variable {w w' : World} {B p q g n : Nat} {v v' : Value} {xs : List Int} {ps : List (Int × Int)} {s : In} {F : Nat → Prop}
end
section
variable {w : World} {B p q g n : Nat} {v : Value} {xs : List Int} {ps : List (Int × Int)} {s : In}
theorem ibtaken_any (h : IbAt w B p q g n v xs ps s) : Calls Tryz.prog 132 #[.pointer (some ⟨p, 0, none⟩)] w fun e w' => e = .returned (.int .i64 s.tk) ∧ w = w' := by
  have c2 := h.c2
  obtain ⟨tk, htk⟩ : ∃ x, s.tk = x := ⟨_, rfl⟩
  rw [htk] at c2 ⊢
  clear h htk
  go_enter Tryz.func132, Tryz.ntmps132
  go_wp2
  go_ret
  exact ⟨rfl, rfl⟩
end
end Go.Proofs.YtpjlnpnadkbakaaGreat

/-
  What clone makes of a content; act, where the act is done or stops at the Fuse; Fuse: contracts over the program.
-/
import Derived.Test.YtfafonfphholmaaStCont
import Derived.Deep.RegionHeld3
import Derived.Lib.SliceRun
import Derived.Shelf.Abstract
namespace Go.Proofs.Ytfafonfphholmaa
open Go.RowKit Go.Maps

def SinceC (w w' : World) : Prop := Below w.heap.size w w'
theorem SinceC.cell {w w' : World} {a : Addr} {v : Value} (h : SinceC w w') (hc : w.cell? a = some v) : w'.cell? a = some v := cell_later h hc

set_option maxRecDepth 10000 in
/-- slices.Clone of bytes that are read. -/
theorem sclone_any (A : Option Addr) (n c : Nat) (xs : List Int) (w : World) (hn : xs.length = n) (hr : Rd .u8 w A xs) (h0 : A = none → n = 0 ∧ c = 0) (hb : n ≤ 1099511627776) :
    Calls Try.prog 48 #[.slice A n c] w fun e w' => ∃ A' c', e = .returned (.slice A' n c') ∧ Own .u8 5 w' w.heap.size (.slice A' n c') xs ∧ Below w.heap.size w w' := by
  have ke := fun (w : World) (a : Option Addr) (n c : Nat) => Lib.run_eql_slice_nil (P := Try.prog) w 29 5 a n c 0 0 Try.underlying29
  cases A with
  | none =>
    obtain ⟨rfl, rfl⟩ := h0 rfl
    have hx : xs = [] := List.eq_nil_of_length_eq_zero hn
    subst hx
    clear h0 hn hr hb
    go_enter Try.func48, Try.ntmps48
    go_wp2
    go_ret
    exact ⟨_, _, rfl, Own.nil _ _ _ _, Below.refl _ _⟩
  | some a =>
    have h1 : Own .u8 5 (w.alloc (.cells #[] 5)) w.heap.size (.slice (some ⟨w.heap.size, 0, none⟩) 0 0) [] := by
      have := Own.new w [] 5 (by simp [maxLen])
      simpa [bts] using this
    have HO := Lib.hid h1
    have HR := Lib.hid (hr.alloc (.cells #[] 5))
    have HN := Lib.hid hn
    clear h0 hn hr h1
    go_enter Try.func48, Try.ntmps48
    go_wp2_with (at_builtin; refine wpList_app _ .u8 rfl (.tmp 5) (.tmp 6) 29 rfl 5 (.int .u8 0) 1 Try.underlying29 info_byte rfl w.heap.size (.slice (some ⟨w.heap.size, 0, none⟩) 0 0) [] rfl HO.out (some a) n c rfl xs HN.out HR.out (by simp [maxLen]; omega) (by simp; omega) (by simp) ?_; intro A' c' w' ho hg)
    have HO2 := Lib.hid ho
    have HG := Lib.hid (((Below.refl _ _).alloc (Nat.le_refl _) (.cells #[] 5)).trans (grown_below hg (by simp) (by simp [Value.ownBlock])))
    clear ho hg
    go_ret
    refine ⟨A', c', rfl, ?_, HG.out⟩
    simpa using HO2.out

section
variable {w : World} {B : Nat} {e : Ent}

theorem own_nil_len {q : IntKind} {ty : TypeId} {w : World} {B len c : Nat} {A : Option Addr} {xs : List Int} (h : Own q ty w B (.slice A len c) xs) (hA : A = none) : len = 0 ∧ c = 0 := (h.none_len hA).symm

/-- A new content. -/
theorem Cont.make {k : Blk} {v : Value} (ho : Own .u8 5 w B v k.xs) (hB : B ≤ w.heap.size) (hl : k.xs.length ≤ 1099511627776) (hn : 1 ≤ k.n ∧ k.n ≤ 9223372036854775807) :
    Cont (w.alloc (.cells #[v, .int .i64 (k.s : Nat), .bool k.f] 50)) B ⟨k, w.heap.size, v⟩ :=
  ⟨World.rowIs_alloc w _ 50 (conF v k.s k.f) (fun i hi => by
    have : i < 3 := hi
    match i, this with
    | 0, _ => rfl
    | 1, _ => rfl
    | 2, _ => rfl), ho.alloc _, hB, hl, hn⟩

/-- A new content with the same bytes. -/
def NewCont (w : World) (k : Blk) (x : Ending) (w' : World) : Prop := ∃ e' : Ent, x = .returned (.pointer (some ⟨e'.b, 0, none⟩)) ∧ e'.k = k ∧ Cont w' w.heap.size e' ∧ Below w.heap.size w w'

set_option maxRecDepth 10000 in
set_option maxHeartbeats 1000000 in
theorem clonec_any (h : Cont w B e) : Calls Try.prog 41 #[.pointer (some ⟨e.b, 0, none⟩)] w (NewCont w e.k) := by
  obtain ⟨A, c, hv⟩ := h.own.form
  have c0 := h.c0
  have c1 := h.c1
  have c2 := h.c2
  have ho := h.own
  rw [hv] at c0 ho
  obtain ⟨n, hn⟩ : ∃ n, e.k.xs.length = n := ⟨_, rfl⟩
  obtain ⟨xs, hxs⟩ : ∃ xs, e.k.xs = xs := ⟨_, rfl⟩
  obtain ⟨s, hs⟩ : ∃ s, e.k.s = s := ⟨_, rfl⟩
  obtain ⟨f, hf⟩ : ∃ f, e.k.f = f := ⟨_, rfl⟩
  obtain ⟨b, hb⟩ : ∃ b, e.b = b := ⟨_, rfl⟩
  have hlen := h.len
  have hnum := Lib.hid h.num
  rw [hn] at c0 ho hlen
  rw [hs] at c1
  rw [hf] at c2
  rw [hb] at c0 c1 c2 ⊢
  have hlt : b < w.heap.size := hb ▸ h.row.lt
  have hsc : ∀ W, SinceC w W → Calls Try.prog 48 #[.slice A n c] W fun e w' => ∃ A' c', e = .returned (.slice A' n c') ∧ Own .u8 5 w' W.heap.size (.slice A' n c') xs ∧ Below W.heap.size W w' := fun W hW =>
    sclone_any A n c xs W (by rw [← hxs]; exact hn) ((Own.later (by rw [← hxs]; exact ho) hW).rd) (own_nil_len ho) hlen
  have HSC := Lib.hid hsc
  have HN := Lib.hid hn
  have HX := Lib.hid hxs
  have HS := Lib.hid hs
  have HF := Lib.hid hf
  have HLEN := Lib.hid hlen
  clear h ho hv hn hxs hs hf hb hsc hlen
  go_enter Try.func41, Try.ntmps41
  go_wp2_with fail
  go_region_held3 (fun wi => SinceC w wi ∧ wi.cell? ⟨b, 0, none⟩ = some (.slice A n c) ∧ wi.cell? ⟨b, 0 + 1, none⟩ = some (.int .i64 (s : Nat)) ∧ wi.cell? ⟨b, 0 + 2, none⟩ = some (.bool f))
    (first
      | exact ⟨(Below.refl _ _).drew, c0, c1, c2⟩
      | assumption
      | exact ⟨hS1, hS1.cell c0, hS1.cell c1, hS1.cell c2⟩
      | (have h9 : SinceC w (w'.alloc (.cells #[.slice A' n c', .int .i64 (s : Nat), .bool f] 50)) := Below.alloc hS1 hS1.size _
         exact ⟨h9, h9.cell c0, h9.cell c1, h9.cell c2⟩))
    (first
      | (go_at_call 48; (with_reducible refine (HSC.out _ (‹SinceC w _ ∧ _›).1).mono ?_); rintro e w' ⟨A', c', rfl, ho1, hb1⟩
         have hS1 : SinceC w w' := (‹SinceC w _ ∧ _›).1.trans (hb1.mono (‹SinceC w _ ∧ _›).1.size)))
  have hk : e.k = ⟨e.k.n, xs, s, f⟩ := by rw [← HX.out, ← HS.out, ← HF.out]
  have hx : xs.length = n := by rw [← HX.out]; exact HN.out
  have HC := Lib.hid (Cont.make (k := ⟨e.k.n, xs, s, f⟩) (B := w.heap.size) (ho1.less (Nat.le_refl _)) hS1.size (by show xs.length ≤ _; rw [hx]; exact HLEN.out) hnum.out)
  have HB := Lib.hid (Below.alloc hS1 hS1.size (.cells #[.slice A' n c', .int .i64 (s : Nat), .bool f] 50))
  have HK := Lib.hid hk
  clear hk hx ho1 hb1 hS1 c0 c1 c2
  go_wp2_with fail
  go_ret
  exact ⟨_, rfl, HK.out.symm, HC.out, HB.out⟩

/-- The left acts behind one that is done. -/
def burn (fu : Bool) (lf : Int) : Int := if fu then lf - 1 else lf

set_option maxRecDepth 10000 in
/-- act, where the Fuse stops it. -/
theorem act_fuse {p m : Nat} {L : List Ent} {de : Bool} (fv : Value) (h : StoreAt w B p m L true 0 de) :
    Calls Try.prog 25 #[.pointer (some ⟨p, 0, none⟩), .int .i64 0, fv] w fun x w' => x = .returned (.int .i64 6) ∧ StoreAt w' B p m L true 0 true ∧ Trn w w' (fun k => k = p) := by
  have s1 := h.s1
  have s2 := h.s2
  have s3 := h.s3
  have f3 := h.fr (0 + 3)
  have H1 := Lib.hid (h.set (0 + 3) (.bool true) true 0 true (Int.le_refl _) (fun j hj => by
    have : j = 0 ∨ j = 1 ∨ j = 2 ∨ j = 3 := by omega
    rcases this with rfl | rfl | rfl | rfl <;> simp [stoF]))
  have H2 := Lib.hid (show Trn w (w.setCell ⟨p, 0 + 3, none⟩ (.bool true)) (fun k => k = p) from (Trn.of_grown (setCell_one w p (0 + 3) _)).mono (fun k _ hk => by simp at hk; exact hk.symm))
  clear h
  go_enter Try.func25, Try.ntmps25
  go_wp2
  go_ret
  exact ⟨rfl, H1.out, H2.out⟩

set_option maxRecDepth 10000 in
/-- act, where the act is done. -/
theorem act_do {p m : Nat} {L : List Ent} {fu : Bool} {lf : Int} {de : Bool} (g : Nat) (cb : Array Value) (h : StoreAt w B p m L fu lf de) (hb : lf ≤ 9223372036854775807) (hf : fu = true → lf ≠ 0)
    (eg : ∀ args w, (callFunc g args).run Try.prog w = .ok (.enter g args) w) (R : World → Prop)
    (hdo : ∀ W, StoreAt W B p m L fu (burn fu lf) de → Trn w W (fun k => k = p) → Calls Try.prog g cb W fun x w' => x = .returned (.tuple #[]) ∧ R w') :
    Calls Try.prog 25 #[.pointer (some ⟨p, 0, none⟩), .int .i64 0, .func (.func g) #[] cb] w fun x w' => x = .returned (.int .i64 0) ∧ R w' := by
  have s1 := h.s1
  have s2 := h.s2
  cases fu
  · have HD := Lib.hid (hdo w h (Trn.refl _ _))
    clear h hdo hf
    go_enter Try.func25, Try.ntmps25
    go_wp2_with fail
    refine HD.out.mono ?_
    rintro x w' ⟨rfl, hR⟩
    have HR := Lib.hid hR
    clear hR
    go_wp2_with fail
    go_ret
    exact ⟨rfl, HR.out⟩
  · have hf' := hf rfl
    have hl := h.left
    have i1 : (lf == 0) = false := by simpa using hf'
    have f2 := h.fr (0 + 2)
    have H1 := h.set (0 + 2) (.int .i64 (lf - 1)) true (lf - 1) de (by omega) (fun j hj => by
      have : j = 0 ∨ j = 1 ∨ j = 2 ∨ j = 3 := by omega
      rcases this with rfl | rfl | rfl | rfl <;> simp [stoF])
    have H2 : Trn w (w.setCell ⟨p, 0 + 2, none⟩ (.int .i64 (lf - 1))) (fun k => k = p) := (Trn.of_grown (setCell_one w p (0 + 2) _)).mono (fun k _ hk => by simp at hk; exact hk.symm)
    have HD := Lib.hid (hdo _ H1 H2)
    clear h hdo H1 H2 hf
    go_enter Try.func25, Try.ntmps25
    go_wp2_with fail
    refine HD.out.mono ?_
    rintro x w' ⟨rfl, hR⟩
    have HR := Lib.hid hR
    clear hR
    go_wp2_with fail
    go_ret
    exact ⟨rfl, HR.out⟩

set_option maxRecDepth 10000 in
theorem fuse_any {p m : Nat} {L : List Ent} {fu : Bool} {lf : Int} {de : Bool} (n : Int) (h : StoreAt w B p m L fu lf de) :
    Calls Try.prog 16 #[.pointer (some ⟨p, 0, none⟩), .int .i64 n] w fun x w' => x = .returned (.tuple #[]) ∧ StoreAt w' B p m L true (max n 0) de ∧ Trn w w' (fun k => k = p) := by
  have s1 := h.s1
  have s2 := h.s2
  have f1 := h.fr (0 + 1)
  have f2 := h.fr (0 + 2)
  obtain ⟨N, hN⟩ : ∃ N, max n 0 = N := ⟨_, rfl⟩
  have m1 := run_max2 n 0 N hN.symm
  have h1 := h.set (0 + 1) (.bool true) true lf de h.left (fun j hj => by
      have : j = 0 ∨ j = 1 ∨ j = 2 ∨ j = 3 := by omega
      rcases this with rfl | rfl | rfl | rfl <;> simp [stoF])
  have h2 := h1.set (0 + 2) (.int .i64 N) true N de (by omega) (fun j hj => by
      have : j = 0 ∨ j = 1 ∨ j = 2 ∨ j = 3 := by omega
      rcases this with rfl | rfl | rfl | rfl <;> simp [stoF])
  have H2 := Lib.hid h2
  have H3 := Lib.hid (trn2 (show Trn w (w.setCell ⟨p, 0 + 1, none⟩ (.bool true)) (fun k => k = p) from (Trn.of_grown (setCell_one w p (0 + 1) _)).mono (fun k _ hk => by simp at hk; exact hk.symm))
    (show Trn (w.setCell ⟨p, 0 + 1, none⟩ (.bool true)) ((w.setCell ⟨p, 0 + 1, none⟩ (.bool true)).setCell ⟨p, 0 + 2, none⟩ (.int .i64 N)) (fun k => k = p) from (Trn.of_grown (setCell_one _ p (0 + 2) _)).mono (fun k _ hk => by simp at hk; exact hk.symm)))
  rw [hN]
  clear h h1 h2 hN
  go_enter Try.func16, Try.ntmps16
  go_wp2
  go_end0
  exact ⟨rfl, H2.out, H3.out⟩
end
end Go.Proofs.Ytfafonfphholmaa

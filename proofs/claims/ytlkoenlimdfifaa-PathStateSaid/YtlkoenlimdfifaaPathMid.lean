/-
  One path of the developers ('PV': all that has turned since W lies behind it); its calls, the answers reckoned; wakes of chapter 18.
-/
import Derived.Test.YtlkoenlimdfifaaPath
import Derived.Deep.QuietTactic
import Derived.BigQuiet
namespace Go.Proofs.Ytlkoenlimdfifaa
open Go.RowKit

/-- The path at p is P; all that has turned since W lies behind it. -/
structure PV (W w : World) (p : Nat) (P : Pa) : Prop where
  ex : ∃ pg pw pf v, PaAt w W.heap.size p pg pw pf v P
  ok : P.ok
  bel : Below W.heap.size W w
theorem below_drP (w : World) (k : Nat) : Below w.heap.size w (w.drewN k) := ⟨rfl, rfl, rfl, Nat.le_refl _, fun _ _ => rfl⟩
section
variable {W w w' : World} {p : Nat} {P P' : Pa}
theorem PV.later (h : PV W w p P) (hb : Below w.heap.size w w') : PV W w' p P := by
  obtain ⟨pg, pw, pf, v, h1⟩ := h.ex
  exact ⟨⟨pg, pw, pf, v, h1.later hb⟩, h.ok, h.bel.trans (hb.mono h.bel.size)⟩
theorem PV.turn {pg pw pf : Nat} {v v' : Value} (h : PV W w p P) (ha : PaAt w W.heap.size p pg pw pf v P) (h1 : PaAt w' W.heap.size p pg pw pf v' P') (hsc : SC w w' (Pat p pg pw pf v) (Pat p pg pw pf v')) (hok : P'.ok) : PV W w' p P' :=
  ⟨⟨pg, pw, pf, v', h1⟩, hok, h.bel.trans (ha.bel hsc (Nat.le_refl _))⟩
theorem pv_new (x0 x1 x2 x3 m f x6 : Int) (hB : Below W.heap.size W w) (hP : Pa.new f m = P) : Calls Try.prog 9 #[.agg #[.int .i64 x0, .int .i64 x1, .int .i64 x2, .int .i64 x3, .int .i64 m, .int .i64 f, .int .i64 x6]] w fun e w' =>
    ∃ p, e = .returned (.pointer (some ⟨p, 0, none⟩)) ∧ PV W w' p P := by
  subst hP
  refine (newpa_any x0 x1 x2 x3 m f x6 w).mono ?_
  rintro e w' ⟨p, pg, pw, pf, rfl, h, hb⟩
  exact ⟨p, rfl, ⟨pg, pw, pf, _, h.less hB.size⟩, Pa.new_ok _ _, hB.trans (hb.mono hB.size)⟩
theorem PV.read {f : Nat} {args : Array Value} {r : Value} (h : PV W w p P) (hc : Calls Try.prog f args w fun e w' => e = .returned r ∧ ∃ k, w' = w.drewN k) : Calls Try.prog f args w fun e w' => e = .returned r ∧ PV W w' p P := by
  refine hc.mono ?_
  rintro e w' ⟨rfl, k, rfl⟩
  exact ⟨rfl, h.later (below_drP w k)⟩
theorem PV.isup (h : PV W w p P) {r : Bool} (hr : P.up = r) : Calls Try.prog 10 #[.pointer (some ⟨p, 0, none⟩)] w fun e w' => e = .returned (.bool r) ∧ PV W w' p P := by
  obtain ⟨pg, pw, pf, v, h1⟩ := h.ex
  subst hr
  exact h.read (paisup_any h1)
theorem PV.joined (h : PV W w p P) {r : Bool} (hr : P.jo = r) : Calls Try.prog 11 #[.pointer (some ⟨p, 0, none⟩)] w fun e w' => e = .returned (.bool r) ∧ PV W w' p P := by
  obtain ⟨pg, pw, pf, v, h1⟩ := h.ex
  subst hr
  exact h.read (pajoined_any h1)
theorem PV.behind (h : PV W w p P) {r : Bool} (hr : P.be = r) : Calls Try.prog 19 #[.pointer (some ⟨p, 0, none⟩)] w fun e w' => e = .returned (.bool r) ∧ PV W w' p P := by
  obtain ⟨pg, pw, pf, v, h1⟩ := h.ex
  subst hr
  exact h.read (pabehind_any h1)
theorem PV.sent (h : PV W w p P) {r : Int} (hr : P.sent = r) : Calls Try.prog 17 #[.pointer (some ⟨p, 0, none⟩)] w fun e w' => e = .returned (.int .i64 r) ∧ PV W w' p P := by
  obtain ⟨pg, pw, pf, v, h1⟩ := h.ex
  subst hr
  exact h.read (pasent_any h1)
theorem PV.len (h : PV W w p P) {r : Nat} (hr : P.fl.length = r) : Calls Try.prog 16 #[.pointer (some ⟨p, 0, none⟩)] w fun e w' => e = .returned (.int .i64 (r : Int)) ∧ PV W w' p P := by
  obtain ⟨pg, pw, pf, v, h1⟩ := h.ex
  subst hr
  exact h.read (palen_any h1)
theorem PV.mean (h : PV W w p P) {r : Int} (hr : P.g.mean = r) : Calls Try.prog 18 #[.pointer (some ⟨p, 0, none⟩)] w fun e w' => e = .returned (.int .i64 r) ∧ PV W w' p P := by
  obtain ⟨pg, pw, pf, v, h1⟩ := h.ex
  subst hr
  exact h.read (pamean_any h1)
theorem PV.usable (h : PV W w p P) {r : Bool} (hr : P.usable = r) : Calls Try.prog 14 #[.pointer (some ⟨p, 0, none⟩)] w fun e w' => e = .returned (.bool r) ∧ PV W w' p P := by
  obtain ⟨pg, pw, pf, v, h1⟩ := h.ex
  subst hr
  exact h.read (pausable_any h1 h.ok)
theorem PV.up (h : PV W w p P) {r : Bool} (hr : (!P.up) = r) (hP : P.setUp true = P') : Calls Try.prog 15 #[.pointer (some ⟨p, 0, none⟩)] w fun e w' => e = .returned (.bool r) ∧ PV W w' p P' := by
  obtain ⟨pg, pw, pf, v, h1⟩ := h.ex
  subst hr hP
  refine (paup_any h1).mono ?_
  rintro e w' ⟨rfl, h2, h3⟩
  exact ⟨rfl, h.turn h1 h2 h3 (h.ok.setUp true)⟩
theorem PV.join (h : PV W w p P) {r : Bool} (hr : (!P.jo) = r) (hP : P.setJo true = P') : Calls Try.prog 13 #[.pointer (some ⟨p, 0, none⟩)] w fun e w' => e = .returned (.bool r) ∧ PV W w' p P' := by
  obtain ⟨pg, pw, pf, v, h1⟩ := h.ex
  subst hr hP
  refine (pajoin_any h1).mono ?_
  rintro e w' ⟨rfl, h2, h3⟩
  exact ⟨rfl, h.turn h1 h2 h3 (h.ok.setJo true)⟩
theorem PV.number (h : PV W w p P) {n : Int} (hn : P.sent = n) (hs : n ≤ 65535) (hP : P.num = P') : Calls Try.prog 20 #[.pointer (some ⟨p, 0, none⟩)] w fun e w' => e = .returned (.tuple #[.int .i64 n, .bool true]) ∧ PV W w' p P' := by
  obtain ⟨pg, pw, pf, v, h1⟩ := h.ex
  subst hn hP
  refine (panumber_yes h1 h.ok.s1 hs).mono ?_
  rintro e w' ⟨rfl, h2, h3⟩
  exact ⟨rfl, h.turn h1 h2 h3 (h.ok.num hs)⟩
theorem PV.out_yes (h : PV W w p P) (x y z u : Int) (hno : NoneQ P.fl x) (hl : P.fl.length < 1048576) (hP : P.out ⟨x, y, z, u⟩ = P') : Calls Try.prog 21 #[.pointer (some ⟨p, 0, none⟩), .agg #[.int .i64 x, .int .i64 y, .int .i64 z, .int .i64 u]] w fun e w' => e = .returned (.bool true) ∧ PV W w' p P' := by
  obtain ⟨pg, pw, pf, v, h1⟩ := h.ex
  subst hP
  refine (paout_yes h1 h.ok x y z u hno).mono ?_
  rintro e w' ⟨rfl, v', h2, h3⟩
  exact ⟨rfl, h.turn h1 h2 h3 (h.ok.out _ hl)⟩
theorem PV.out_no (h : PV W w p P) (x y z u : Int) (i : Nat) (hi : FirstQ P.fl x i) : Calls Try.prog 21 #[.pointer (some ⟨p, 0, none⟩), .agg #[.int .i64 x, .int .i64 y, .int .i64 z, .int .i64 u]] w fun e w' => e = .returned (.bool false) ∧ PV W w' p P := by
  obtain ⟨pg, pw, pf, v, h1⟩ := h.ex
  refine (paout_no h1 h.ok x y z u i hi).mono ?_
  rintro e w' ⟨rfl, hb⟩
  exact ⟨rfl, h.later hb⟩
theorem PV.acked_no (h : PV W w p P) (x now : Int) (hno : NoneQ P.fl x) : Calls Try.prog 22 #[.pointer (some ⟨p, 0, none⟩), .int .i64 x, .int .i64 now] w fun e w' => e = .returned (.bool false) ∧ PV W w' p P := by
  obtain ⟨pg, pw, pf, v, h1⟩ := h.ex
  refine (paacked_no h1 h.ok x now hno).mono ?_
  rintro e w' ⟨rfl, hb⟩
  exact ⟨rfl, h.later hb⟩
theorem PV.acked (h : PV W w p P) (x now : Int) (i : Nat) (hi : FirstQ P.fl x i) (h1 : -1099511627776 ≤ now ∧ now ≤ 1099511627776) (h2 : -1099511627776 ≤ (P.fl.getD i qz).a ∧ (P.fl.getD i qz).a ≤ 1099511627776) (hP : P.acked i now = P') :
    Calls Try.prog 22 #[.pointer (some ⟨p, 0, none⟩), .int .i64 x, .int .i64 now] w fun e w' => e = .returned (.bool true) ∧ PV W w' p P' := by
  obtain ⟨pg, pw, pf, v, h3⟩ := h.ex
  subst hP
  refine (paacked_yes h3 h.ok x now i hi h1 h2).mono ?_
  rintro e w' ⟨rfl, v', h4, h5⟩
  exact ⟨rfl, h.turn h3 h4 h5 (h.ok.acked i now hi.lt)⟩
theorem PV.late (h : PV W w p P) (now : Int) (h1 : -1099511627776 ≤ now ∧ now ≤ 1099511627776) {L : List Qd} {m : Nat} (hL : P.lates now = L) (hm : L.length = m) (hP : P.lateN now = P') :
    Calls Try.prog 26 #[.pointer (some ⟨p, 0, none⟩), .int .i64 now] w fun e w' => ∃ A' c', e = .returned (.slice A' m c') ∧ OwnQ tOutP w' w.heap.size (.slice A' m c') L ∧ PV W w' p P' := by
  obtain ⟨pg, pw, pf, v, h3⟩ := h.ex
  subst hP hL
  refine (palate_any h3 h.ok now h1).mono ?_
  rintro e w' ⟨A', m', c', rfl, ho, v', h4, h5, -⟩
  obtain rfl : m' = m := by rw [← hm]; exact ho.len.symm
  exact ⟨A', c', rfl, ho, h.turn h3 h4 h5 (h.ok.lateN now)⟩
theorem PV.down (h : PV W w p P) {L : List Qd} {m : Nat} (hL : (if P.up then P.fl else []) = L) (hm : L.length = m) (hP : (if P.up then P.down else P) = P') :
    Calls Try.prog 12 #[.pointer (some ⟨p, 0, none⟩)] w fun e w' => ∃ A' c', e = .returned (.slice A' m c') ∧ OwnQ tOutP w' w.heap.size (.slice A' m c') L ∧ PV W w' p P' := by
  obtain ⟨pg, pw, pf, v, h3⟩ := h.ex
  subst hP hL
  refine (padown_any h3 h.ok).mono ?_
  rintro e w' ⟨A', m', c', rfl, ho, v', h4, h5⟩
  obtain rfl : m' = m := by rw [← hm]; exact ho.len.symm
  exact ⟨A', c', rfl, ho, h.turn h3 h4 h5 (by split; exact h.ok.down; exact h.ok)⟩
theorem PV.state (h : PV W w p P) {L : List Int} {m : Nat} (hL : P.state = L) (hm : L.length = m) :
    Calls Try.prog 25 #[.pointer (some ⟨p, 0, none⟩)] w fun e w' => ∃ A' c', e = .returned (.slice A' m c') ∧ Own .i64 3 w' w.heap.size (.slice A' m c') L ∧ PV W w' p P := by
  obtain ⟨pg, pw, pf, v, h3⟩ := h.ex
  subst hL
  refine (pastate_any h3 h.ok).mono ?_
  rintro e w' ⟨A', m', c', rfl, rfl, ho, hb⟩
  obtain rfl := hm
  exact ⟨A', c', rfl, ho, h.later hb⟩
end

abbrev tCfg : TypeId := 23
theorem size_cfg : (Try.prog.info? tCfg).map (·.size) = some 7 := by kernel_rfl
/-- A configuration, just laid, is loaded whole. -/
theorem cfg_load (w : World) (cs : List Value) (hz : cs.length = 7) : (loadVar tCfg ⟨w.heap.size, 0, none⟩).run Try.prog (w.alloc (.cells cs.toArray tCfg)) = .ok (.agg cs.toArray) (w.alloc (.cells cs.toArray tCfg)) := by
  have hc : (w.alloc (.cells cs.toArray tCfg)).rangeAt w.heap.size 0 cs := fun j v hv => by
    rw [Nat.zero_add, World.cell?_alloc_at _ _ _ _ rfl]
    simpa using hv
  have := run_loadVar_mid (P := Try.prog) (w.alloc (.cells cs.toArray tCfg)) w.heap.size 0 tCfg cs _ hc Try.underlying23 rfl (by rw [hz]; exact size_cfg)
  exact this
theorem plain_any (w : World) : Calls Try.prog 7 #[] w fun e w' => e = .returned (.agg #[.int .i64 1, .int .i64 50, .int .i64 50, .int .i64 10, .int .i64 4, .int .i64 3, .int .i64 1]) ∧ Below w.heap.size w w' := by
  go_enter Try.func7, Try.ntmps7
  go_wp2_with fail
  refine bodyPost_ret (v := .agg #[.int .i64 1, .int .i64 50, .int .i64 50, .int .i64 10, .int .i64 4, .int .i64 3, .int .i64 1]) ?_ rfl ⟨rfl, (Below.refl _ _).alloc (Nat.le_refl _) _⟩
  simp [results, Try.results7, go_sem]
/-- A new path, its numbers reckoned. -/
theorem pa_new (f m : Int) (hf : 1 ≤ f ∧ f ≤ 64) (hm : 2 ≤ m ∧ m ≤ 16) : Pa.new f m = ⟨false, false, false, 0, ⟨f, false, 0, 0, 0⟩, ⟨m, 2, m, 0⟩, []⟩ := by
  unfold Pa.new Gs.new Wn.new
  rw [clampI_eq hf.1 hf.2, clampI_eq (show 1 ≤ m by omega) hm.2, show min 2 m = 2 by omega]

set_option maxHeartbeats 1000000 in
theorem wakes18_any (w : World) : Calls Try.prog 23 #[] w fun e w' => e = .returned (.bool true) ∧ Below w.heap.size w w' := by
  have HN := Lib.hid (fun w' hb => pv_new (W := w) (w := w') 1 50 50 10 4 3 1 hb (pa_new 3 4 (by omega) (by omega)))
  go_enter Try.func23, Try.ntmps23
  go_wp2_with fail
  refine (plain_any _).mono ?_
  rintro e w1 ⟨rfl, hb⟩
  have HB1 := Lib.hid hb
  clear hb
  go_wp2_with fail
  refine (HN.out _ HB1.out).mono ?_
  rintro e w2 ⟨p, rfl, hx⟩
  have HX := Lib.hid hx
  clear hx HN
  go_wp2_with fail
  refine (HX.out.usable (r := false) rfl).mono ?_
  rintro e w3 ⟨rfl, hx⟩
  have HX3 := Lib.hid hx
  clear hx HX
  go_wp2_with fail
  refine (HX3.out.up (r := true) rfl rfl).mono ?_
  rintro e w4 ⟨rfl, hx⟩
  have HX4 := Lib.hid hx
  clear hx HX3
  go_wp2_with fail
  refine (HX4.out.join (r := true) rfl rfl).mono ?_
  rintro e w5 ⟨rfl, hx⟩
  have HX5 := Lib.hid hx
  clear hx HX4
  go_wp2_with fail
  refine (HX5.out.usable (r := true) rfl).mono ?_
  rintro e w6 ⟨rfl, hx⟩
  have HX6 := Lib.hid hx
  clear hx HX5
  go_wp2_with fail
  refine (HX6.out.up (r := false) rfl rfl).mono ?_
  rintro e w7 ⟨rfl, hx⟩
  have HX7 := Lib.hid hx
  clear hx HX6
  go_wp2_with fail
  refine (HX7.out.join (r := false) rfl rfl).mono ?_
  rintro e w8 ⟨rfl, hx⟩
  have HFIN := Lib.hid hx.bel
  clear hx HX7
  go_wp2
  go_ret
  exact ⟨rfl, HFIN.out⟩
end Go.Proofs.Ytlkoenlimdfifaa

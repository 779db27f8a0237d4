/-
  What package event's Unpack makes of bytes: a contract over the program.
-/
import Derived.Test.YtbjneoeiognahaaEvTake
import Derived.Deep.LoopGhost
import Derived.Deep.DeepCutAuto
namespace Go.Proofs.Ytbjneoeiognahaa
open Go.RowKit

section
variable {w w' : World} {p : Nat} {A : Option Addr} {c : Nat} {xs : List Int} {a : Nat} {bad : Bool} {B : Nat} {v : Value} {ms : List EvM}
set_option maxRecDepth 10000 in
theorem row_not_rdr (h : EvRow w B v ms) (hr : Rdr w p A c xs a bad) : v.ownBlock = none ∨ v.ownBlock ≠ some p := by
  rcases h.row.2 with ⟨hv, _⟩ | ⟨g, cap, cur, hv, _, hh, _⟩
  · left; rw [hv]; rfl
  · right
    rw [hv]
    intro he
    simp only [Value.ownBlock, Option.some.injEq] at he
    subst he
    obtain ⟨cur', hh', _⟩ := hr.row
    rw [hh] at hh'
    injection hh' with hh'
    injection hh' with _ ht
    exact absurd ht (by decide)
set_option maxRecDepth 10000 in
/-- A Reader's call leaves the row. -/
theorem EvRow.rdr (h : EvRow w B v ms) (hr : Rdr w p A c xs a bad) (hg : w.grownBy w' (some p)) : EvRow w' B v ms :=
  ⟨World.ownsRow.kept (row := some p) h.row hg (row_not_rdr h hr), fun m hm => ⟨(h.each m hm).bd, (h.each m hm).o1.rdr hr hg, (h.each m hm).o2.rdr hr hg⟩⟩
set_option maxRecDepth 10000 in
/-- The row's growth leaves the Reader. -/
theorem RdrT.grownE (hr : Rdr w p A c xs a bad) (h : EvRow w B v ms) (hg : w.grownBy w' v.ownBlock) : Rdr w' p A c xs a bad :=
  ⟨hr.ne, World.rowIs.of_block hr.row (hg.block p hr.lt (by
    rcases row_not_rdr h hr with h9 | h9
    · rw [h9]; simp
    · exact fun e => h9 e.symm)), hr.own.kept hg (own_not_evs hr.own h), hr.le, hr.reach, hr.bytes⟩
set_option maxRecDepth 10000 in
theorem lies_new2 (w : World) (m : EvM) (t : TypeId) : ∀ j u, m.cs[j]? = some u → (w.alloc (.cells m.cs.toArray t)).cell? ((⟨w.heap.size, 0, none⟩ : Addr).add j) = some u := fun j u hu => by
  have h := Ev.range w m.e m.A m.c m.B m.d t j u hu
  rw [Addr.add_lit]
  exact h
set_option maxRecDepth 10000 in
theorem unE_end {fuel : Nat} {es : List Ev} {R : List Ev × Nat × Bool} (h : unE xs fuel a es = R) (hf : xs.length - a < fuel) (hl : xs.length ≤ a) : R = (es, 0, true) := by
  cases fuel with
  | zero => omega
  | succ n => rw [unE, if_pos hl] at h; exact h.symm
set_option maxRecDepth 10000 in
theorem unE_fail {fuel : Nat} {es : List Ev} {R : List Ev × Nat × Bool} (h : unE xs fuel a es = R) (hf : xs.length - a < fuel) (hl : a < xs.length) (ht : (takeE xs (a, false)).2.1 = false) : R = ([], a, false) := by
  cases fuel with
  | zero => omega
  | succ n => rw [unE, if_neg (by omega), if_neg (by rw [ht]; simp)] at h; exact h.symm
set_option maxRecDepth 10000 in
theorem unE_step {fuel : Nat} {es : List Ev} {R : List Ev × Nat × Bool} {f : Ev} {a' : Nat} {b' : Bool} (hb : ∀ x ∈ xs, 0 ≤ x ∧ x < 256) (h : unE xs fuel a es = R) (hf : xs.length - a < fuel) (hl : a < xs.length) (ht : takeE xs (a, false) = (f, true, a', b')) :
    b' = false ∧ a < a' ∧ a' ≤ xs.length ∧ ∃ fuel', unE xs fuel' a' (es ++ [f]) = R ∧ xs.length - a' < fuel' := by
  obtain ⟨_, hb', hok, hd⟩ := takeE_inv hb (by omega) ht
  have h8 := takeE_at hok hd
  rw [ht] at h8
  simp only [Prod.mk.injEq, true_and] at h8
  have h7 := drop_le hd (by omega)
  have h6 := f.plainL_pos
  cases fuel with
  | zero => omega
  | succ n =>
    rw [unE, if_neg (by omega), ht, if_pos rfl] at h
    exact ⟨hb', by omega, by omega, n, h, by omega⟩
end

set_option maxRecDepth 100000 in
set_option maxHeartbeats 4000000 in
theorem unpackE_any (A : Option Addr) (n c : Nat) (xs : List Int) (w : World) (hn : xs.length = n) (hr : Rd .u8 w A xs) (hb : n ≤ 1099511627776) (hnil : A = none → c = 0 ∧ n = 0) (hbytes : ∀ x ∈ xs, 0 ≤ x ∧ x < 256) :
    Calls Try.prog 38 #[.slice A n c] w fun x w' => ∃ v ls, x = .returned (.tuple #[v, .int .i64 ((unE xs (n + 1) 0 []).2.1 : Nat), .int .i64 (if (unE xs (n + 1) 0 []).2.2 then 0 else 2)]) ∧ EvRow w' w.heap.size v ls ∧
      ls.map EvM.e = (unE xs (n + 1) 0 []).1 ∧ Below w.heap.size w w' := by
  subst hn
  have hnew := new_any A xs.length c xs w rfl hr (by omega) hnil hbytes
  obtain ⟨R, hR⟩ : ∃ R, unE xs (xs.length + 1) 0 [] = R := ⟨_, rfl⟩
  rw [hR]
  obtain ⟨r1, h1⟩ : ∃ r, R.1 = r := ⟨_, rfl⟩
  obtain ⟨r2, h2⟩ : ∃ r, R.2.1 = r := ⟨_, rfl⟩
  obtain ⟨r3, h3⟩ : ∃ r : Int, (if R.2.2 = true then 0 else 2) = r := ⟨_, rfl⟩
  rw [h1, h2, h3]
  have HR1 := Lib.hid h1
  have HR2 := Lib.hid h2
  have HR3 := Lib.hid h3
  clear h1 h2 h3
  have HNEW := Lib.hid hnew
  have HR := Lib.hid hR
  have HBY := Lib.hid hbytes
  clear hnew hr hnil hR hbytes
  go_enter Try.func38, Try.ntmps38
  go_wp2_with fail
  refine HNEW.out.mono ?_
  rintro e w1 ⟨p, A', c', rfl, hrd, hb1, hp1, hp2⟩
  have HRD := Lib.hid hrd
  have HB1 := Lib.hid hb1
  clear hrd hb1 hp2
  go_wp2_with fail
  go_loopw [2] (fun vl wr => ∃ (fuel a : Nat) (ls : List EvM), Hid (unE xs fuel a (ls.map EvM.e) = R) ∧ Hid (xs.length - a < fuel) ∧ Hid (ls.length ≤ a) ∧ Hid (Rdr wr p A' c' xs a false) ∧ Hid (EvRow wr w.heap.size vl ls) ∧ Hid (Below w.heap.size w wr)) (fun _ wr => xs.length - (intOf ((wr.cell? ⟨p, 0 + 1, none⟩).getD undef)).toNat)
  case atStart => exact ⟨xs.length + 1, 0, [], HR.out, (show _ < _ by omega), Nat.zero_le _, HRD.out, EvRow.nil _ _, HB1.out⟩
  case round =>
    obtain ⟨fuel, a, ls, hu, hf, hls, hrd, hrow, hbl⟩ := hrel
    have hm0 : (wr.cell? ⟨p, 0 + 1, none⟩).getD undef = .int .i64 (a : Nat) := by rw [hrd.out.c1]; rfl
    have HM0 := Lib.hid hm0
    clear hm0
    obtain ⟨L, hL⟩ : ∃ L, xs.length - a = L := ⟨_, rfl⟩
    have hle := hrd.out.le
    have hleft := left_any hrd.out
    rw [hL] at hleft
    have HLE := Lib.hid hleft
    clear hleft
    by_cases hlt : 0 < L
    · have i1 : (L : Int) > 0 := by omega
      have HLT := Lib.hid (show a < xs.length by omega)
      clear hL hle
      go_wp2_with fail
      refine HLE.out.mono ?_
      rintro e w2 ⟨rfl, kq, rfl⟩
      go_wp2_with fail
      refine (at_any (hrd.out.drewN kq)).mono ?_
      rintro e w2 ⟨rfl, rfl⟩
      go_wp2_with fail
      refine (takeEv_any _ p A' c' xs a false (hrd.out.drewN kq)).mono ?_
      obtain ⟨f, t, a', b', ht⟩ : ∃ f t a' b', takeE xs (a, false) = (f, t, a', b') := ⟨_, _, _, _, rfl⟩
      rw [ht]
      rintro e w3 ⟨C1, d1, C2, d2, rfl, hown, hr3, hg3⟩
      simp only at hown hr3
      have HOW := Lib.hid (hown.less hbl.out.size)
      have HRW := Lib.hid (hrow.out.rdr hrd.out (grown_drewN hg3))
      have HBL := Lib.hid (hbl.out.grown (grown_drewN hg3) hbl.out.size (by intro g e; simp at e; omega))
      have HRX := Lib.hid hr3
      have HT := Lib.hid ht
      clear hown hr3 hg3 hrow hbl hrd ht
      unfold Ev.val
      cases t
      · have hR9 := Lib.hid (unE_fail hu.out hf.out HLT.out (by rw [HT.out]))
        go_wp2_with fail
        go_ret3
        rw [← HR1.out, ← HR2.out, ← HR3.out, hR9.out]
        exact ⟨_, [], rfl, EvRow.nil _ _, rfl, HBL.out.trans (((Below.refl _ _).alloc (Nat.le_refl _) _).mono HBL.out.size)⟩
      · obtain ⟨rfl, u1, u2, fuel', u3, u4⟩ := unE_step HBY.out hu.out hf.out HLT.out HT.out
        obtain ⟨A1, hA1⟩ := HRW.out.form
        obtain ⟨dd, rfl⟩ := hA1
        have hb4 := (Below.refl w3.heap.size w3).alloc (Nat.le_refl _) (.cells (EvM.cs ⟨f, C1, d1, C2, d2⟩).toArray 60)
        have hb5 := hb4.alloc hb4.size (.cells (EvM.cs ⟨f, C1, d1, C2, d2⟩).toArray 60)
        have HO5 := Lib.hid (HOW.out.later hb5)
        have HRW5 := Lib.hid (HRW.out.later hb5)
        have HR5 := Lib.hid (HRX.out.later hb5)
        have HBL5 := Lib.hid (HBL.out.trans (hb5.mono HBL.out.size))
        have hln := lies_new2 (w3.alloc (.cells (EvM.cs ⟨f, C1, d1, C2, d2⟩).toArray 60)) ⟨f, C1, d1, C2, d2⟩ 60
        rw [World.size_alloc] at hln
        have HLN := Lib.hid hln
        clear hln
        have hlb := hls.out
        have hlen := HLT.out
        have HL2 := Lib.hid (show ls.length + 1 ≤ a' by omega)
        have hroom : (ls.length + 1) * 128 ≤ 140737488355328 := by omega
        clear hb4 hb5 HOW HRW HBL HRX hlb hlen
        go_wp2_with (at_builtin; refine wpList_appE rfl (.tmp 24) (.tmp 26) rfl w.heap.size (.slice A1 ls.length dd) ls ⟨f, C1, d1, C2, d2⟩ rfl HRW5.out _ 1 rfl HO5.out HLN.out hroom HBL5.out.size ?_; intro D2 dd2 w6 h6 g6; have HRW6 := Lib.hid h6; have HB6 := Lib.hid (HBL5.out.grown g6 HBL5.out.size (fun g hg => (HRW5.out.lt g hg).1)); have HR6 := Lib.hid (HR5.out.grownE HRW5.out g6); clear h6 g6)
        go_roundw
        case rel => exact ⟨fuel', a', ls ++ [⟨f, C1, d1, C2, d2⟩], by rw [List.map_append]; exact u3, u4, (by simp; exact HL2.out), HR6, HRW6, HB6⟩
        case measure =>
          rw [HM0.out, show (w6.cell? ⟨p, 0 + 1, none⟩).getD undef = .int .i64 (a' : Nat) by rw [HR6.out.c1]; rfl]
          simp [intOf]
          omega
    · have hR9 := Lib.hid (unE_end hu.out hf.out (show xs.length ≤ a by omega))
      have h0 : L = 0 := by omega
      subst h0
      go_wp2_with fail
      refine HLE.out.mono ?_
      rintro e w2 ⟨rfl, kq, rfl⟩
      go_wp2_with fail
      go_ret3
      rw [← HR1.out, ← HR2.out, ← HR3.out, hR9.out]
      exact ⟨_, ls, rfl, hrow.out.later (below_drewN' (Below.refl _ _) kq), rfl, below_drewN' hbl.out kq⟩
end Go.Proofs.Ytbjneoeiognahaa

/-
  The document's own flight as a field of any struct ('FlF'), and what its Add and Drop do there: contracts over the program.
-/
import Derived.Test.YtlkoenlimdfifaaFlight4
import Derived.Test.YtlkoenlimdfifaaOutR
namespace Go.Proofs.Ytlkoenlimdfifaa
open Go.RowKit

/-- Block p, of the type ty, has m0 cells; cell o is a flight with the list v of ps, the others are ff. -/
structure FlF (ty e : TypeId) (m0 o : Nat) (ff : Nat → Value) (w : World) (B p : Nat) (v : Value) (ps : List Qd) : Prop where
  row : w.rowIs p ty m0 (fun i => if i = o then v else ff i)
  own : OwnQ e w B v ps
  ge : B ≤ p
  on : o < m0
  ne : e ≠ ty
section
variable {ty e : TypeId} {m0 o : Nat} {ff : Nat → Value} {w w' : World} {B B' p : Nat} {v v' : Value} {ps qs : List Qd} {F : Nat → Prop}
theorem FlF.lt (h : FlF ty e m0 o ff w B p v ps) : p < w.heap.size := h.row.lt
theorem FlF.kept (h : FlF ty e m0 o ff w B p v ps) (ht : Trn w w' F) (hf : ∀ k, Fft p v k → ¬ F k) : FlF ty e m0 o ff w' B p v ps :=
  ⟨ht.rowIs h.row (hf _ (.inl rfl)), h.own.trn ht (fun g hg => hf g (.inr hg)), h.ge, h.on, h.ne⟩
theorem FlF.later (h : FlF ty e m0 o ff w B p v ps) (hb : Below w.heap.size w w') : FlF ty e m0 o ff w' B p v ps := h.kept (Trn.of_below (F := fun _ => False) hb) (fun _ _ => id)
theorem FlF.drewN (h : FlF ty e m0 o ff w B p v ps) (n : Nat) : FlF ty e m0 o ff (w.drewN n) B p v ps := h.later ⟨rfl, rfl, rfl, Nat.le_refl _, fun _ _ => rfl⟩
theorem FlF.alloc (h : FlF ty e m0 o ff w B p v ps) (x : Obj) : FlF ty e m0 o ff (w.alloc x) B p v ps := h.later ((Below.refl _ _).alloc (Nat.le_refl _) _)
theorem FlF.less (h : FlF ty e m0 o ff w B p v ps) (hB : B' ≤ B) : FlF ty e m0 o ff w B' p v ps := ⟨h.row, h.own.less hB, Nat.le_trans hB h.ge, h.on, h.ne⟩
theorem FlF.foot_lt (h : FlF ty e m0 o ff w B p v ps) : ∀ k, Fft p v k → B ≤ k ∧ k < w.heap.size := by
  rintro k (rfl | hk)
  · exact ⟨h.ge, h.lt⟩
  · exact h.own.lt k hk
theorem FlF.size (h : FlF ty e m0 o ff w B p v ps) : B ≤ w.heap.size := Nat.le_trans h.ge (Nat.le_of_lt h.lt)
theorem FlF.co (h : FlF ty e m0 o ff w B p v ps) : w.cell? ⟨p, o, none⟩ = some v := (World.rowIs.cell (i := o) h.row h.on).trans (by simp)
theorem FlF.fr (h : FlF ty e m0 o ff w B p v ps) (i : Nat) : w.frozen? ⟨p, i, none⟩ = false := World.rowIs.frozen h.row i
/-- A new list is stored: it was laid beside the old one, or over it. -/
theorem FlF.put (h : FlF ty e m0 o ff w B p v ps) (ht : Trn w w' (fun k => v.ownBlock = some k)) (hv : OwnQ e w' B v' qs) (hf : ∀ g, v'.ownBlock = some g → v.ownBlock = some g ∨ w.heap.size ≤ g) :
    w'.cell? ⟨p, o, none⟩ = some v ∧ w'.frozen? ⟨p, o, none⟩ = false ∧ FlF ty e m0 o ff (w'.setCell ⟨p, o, none⟩ v') B p v' qs ∧ SC w (w'.setCell ⟨p, o, none⟩ v') (Fft p v) (Fft p v') := by
  have hr := ht.rowIs h.row (h.own.not_row h.row h.ne)
  have hp : v'.ownBlock ≠ some p := hv.not_row hr h.ne
  refine ⟨(World.rowIs.cell (i := o) hr h.on).trans (by simp), World.rowIs.frozen hr o, ⟨(hr.set o v').congr fun i hi => by by_cases e : i = o <;> simp [e], hv.kept (setCell_one w' p o v') (.inr hp), h.ge, h.on, h.ne⟩, ⟨?_, ?_⟩⟩
  · exact ht.trans (Trn.of_grown (setCell_one w' p o v')) (fun k hk => .inr hk) (fun k _ hk => .inl (Option.some.inj hk).symm)
  · rintro k (rfl | hk)
    · exact .inl (.inl rfl)
    · exact (hf k hk).imp .inr id
end

section
variable {ty : TypeId} {m0 o : Nat} {ff : Nat → Value} {w : World} {B p : Nat} {v : Value} {ps : List Qd}

theorem ffldrop_any (h : FlF ty tOutR m0 o ff w B p v ps) : Calls Try.prog 29 #[.pointer (some ⟨p, o, none⟩)] w fun e w' => e = .returned v ∧ OwnQ tOutR w' B v ps ∧ FlF ty tOutR m0 o ff w' B p (.slice none 0 0) [] ∧ SC w w' (Fft p v) (Fft p (.slice none 0 0)) := by
  have c0 := h.co
  obtain ⟨y1, y2, hnew⟩ := h.put (v' := .slice none 0 0) (qs := []) (Trn.refl w _) (OwnQ.nil _ _ _) (fun g hg => by simp [Value.ownBlock] at hg)
  have HO := Lib.hid (show OwnQ tOutR (w.setCell ⟨p, o, none⟩ (.slice none 0 0)) B v ps from h.own.kept (setCell_one w p o _) (.inr (h.own.not_row h.row h.ne)))
  have HN := Lib.hid hnew
  clear hnew h y1
  go_enter Try.func29, Try.ntmps29
  go_wp2
  go_ret
  exact ⟨rfl, HO.out, HN.out.1, HN.out.2⟩

set_option maxHeartbeats 1000000 in
/-- Add, of a number that is there. -/
theorem ffladd_no (h : FlF ty tOutR m0 o ff w B p v ps) (x y z u : Int) (i0 : Nat) (hi0 : FirstQ ps x i0) (hm : ps.length ≤ 1099511627775) :
    Calls Try.prog 32 #[.pointer (some ⟨p, o, none⟩), .agg #[.int .i64 x, .int .i64 y, .int .i64 z, .int .i64 u]] w fun e w' => e = .returned (.bool false) ∧ Below w.heap.size w w' := by
  obtain ⟨A, c, hv⟩ := h.own.form
  obtain ⟨n, hn⟩ : ∃ n, ps.length = n := ⟨_, rfl⟩
  have hlt := hi0.lt
  rw [hn] at hv hm hlt
  have hb := (Below.refl w.heap.size w).alloc (Nat.le_refl _) (.cells #[.int .i64 x, .int .i64 y, .int .i64 z, .int .i64 u] tOutR)
  have c0 := (h.later hb).co
  rw [hv] at c0
  have HCELL := Lib.hid (show ∀ (W : World) k, Below w.heap.size w W → k < n → ∃ g, A = some ⟨g, 0, none⟩ ∧ W.cell? ⟨g, k * 4, none⟩ = some (.int .i64 (ps.getD k qz).n) ∧ W.cell? ⟨g, k * 4 + 1, none⟩ = some (.int .i64 (ps.getD k qz).f) ∧ W.cell? ⟨g, k * 4 + 2, none⟩ = some (.int .i64 (ps.getD k qz).t) ∧ W.cell? ⟨g, k * 4 + 3, none⟩ = some (.int .i64 (ps.getD k qz).a) from fun W k hb hk => by
    have h1 := (h.later hb).own
    rw [hv] at h1
    obtain ⟨g, rfl, _⟩ := h1.at (by omega)
    exact ⟨g, rfl, h1.cells k hk⟩)
  have HB := Lib.hid hb
  have HX := Lib.hid (Bx.new w tOutR x y z u)
  have HI := Lib.hid hi0
  have HL := Lib.hid hlt
  clear h hv hn hb hi0 hlt
  go_enter Try.func32, Try.ntmps32
  go_wp2
  go_loopw [12] (fun iv wr => ∃ (i : Nat), i ≤ i0 ∧ iv = .int .i64 i ∧ Hid (Below w.heap.size w wr) ∧ Hid (Bx wr w.heap.size ⟨x, y, z, u⟩)) (fun iv _ => n - (intOf iv).toNat)
  case atStart => exact ⟨0, by omega, rfl, HB, HX⟩
  case round =>
    obtain ⟨i, hi, rfl, hb, hx⟩ := hrel
    have hL := HL.out
    obtain ⟨g, rfl, y1, y2, y3, y4⟩ := HCELL.out wr i hb.out (by omega)
    have hsz : w.heap.size ≤ wr.heap.size := hb.out.size
    have i1 : (i : Int) < (n : Int) := by omega
    have i2 : (0 : Int) ≤ (i : Int) := by omega
    obtain ⟨⟨qn, qf, qt, qa⟩, hq⟩ : ∃ q, ps.getD i qz = q := ⟨_, rfl⟩
    rw [hq] at y1 y2 y3 y4
    simp only [] at y1 y2 y3 y4
    have hx1 := hx.out.later ((Below.refl _ _).alloc (Nat.le_refl _) (.cells #[.int .i64 qn, .int .i64 qf, .int .i64 qt, .int .i64 qa] tOutR))
    have HB1 := Lib.hid (hb.out.alloc hsz (.cells #[.int .i64 qn, .int .i64 qf, .int .i64 qt, .int .i64 qa] tOutR))
    have HX1 := Lib.hid hx1
    have b0 := hx1.1
    simp only [] at b0
    obtain ⟨e0, e1, e2, e3⟩ := Bx.new wr tOutR qn qf qt qa
    simp only [] at e0 e1 e2 e3
    by_cases he : i = i0
    · have hqn : qn = x := by have := HI.out.eq; rw [← he, hq] at this; exact this
      subst hqn
      clear hx hx1 hb hq he hsz hL hi
      go_wp2
      go_ret
      exact ⟨rfl, HB1.out⟩
    · have hqn : ¬ (qn = x) := by have := HI.out.no i (by omega); rw [hq] at this; exact this
      have HNX := Lib.hid (show i + 1 ≤ i0 by omega)
      have HNN := Lib.hid (show i < n by omega)
      have HIW := Lib.hid (show wrap64 ((i : Int) + 1) = ((i + 1 : Nat) : Int) from wrap_q (by omega) (by omega) (by omega))
      clear hx hx1 hb hq he hsz hL hi
      go_wp2
      go_roundw
      case rel => exact ⟨i + 1, HNX.out, by first | rfl | (rw [HIW.out]) | go_num, HB1, HX1⟩
      case measure => have := HNN.out; simp [intOf]; omega

set_option maxHeartbeats 1000000 in
set_option maxRecDepth 10000 in
/-- Add, of a number that isn't there. -/
theorem ffladd_yes (h : FlF ty tOutR m0 o ff w B p v ps) (x y z u : Int) (hno : NoneQ ps x) (hm : ps.length ≤ 1099511627775) :
    Calls Try.prog 32 #[.pointer (some ⟨p, o, none⟩), .agg #[.int .i64 x, .int .i64 y, .int .i64 z, .int .i64 u]] w fun e w' => e = .returned (.bool true) ∧ ∃ v', FlF ty tOutR m0 o ff w' B p v' (ps ++ [⟨x, y, z, u⟩]) ∧ SC w w' (Fft p v) (Fft p v') := by
  obtain ⟨A, c, hv⟩ := h.own.form
  obtain ⟨n, hn⟩ : ∃ n, ps.length = n := ⟨_, rfl⟩
  rw [hn] at hv hm
  have hb := (Below.refl w.heap.size w).alloc (Nat.le_refl _) (.cells #[.int .i64 x, .int .i64 y, .int .i64 z, .int .i64 u] tOutR)
  have c0 := (h.later hb).co
  rw [hv] at c0
  have HCELL := Lib.hid (show ∀ (W : World) k, Below w.heap.size w W → k < n → ∃ g, A = some ⟨g, 0, none⟩ ∧ W.cell? ⟨g, k * 4, none⟩ = some (.int .i64 (ps.getD k qz).n) ∧ W.cell? ⟨g, k * 4 + 1, none⟩ = some (.int .i64 (ps.getD k qz).f) ∧ W.cell? ⟨g, k * 4 + 2, none⟩ = some (.int .i64 (ps.getD k qz).t) ∧ W.cell? ⟨g, k * 4 + 3, none⟩ = some (.int .i64 (ps.getD k qz).a) from fun W k hb hk => by
    have h1 := (h.later hb).own
    rw [hv] at h1
    obtain ⟨g, rfl, _⟩ := h1.at (by omega)
    exact ⟨g, rfl, h1.cells k hk⟩)
  have HB := Lib.hid hb
  have HBX0 := Lib.hid (Bx.new w tOutR x y z u)
  have HNO := Lib.hid hno
  have HN := Lib.hid hn
  have HL := Lib.hid hm
  have H := Lib.hid h
  have HV := Lib.hid hv
  have HVB := Lib.hid (show ¬ v.ownBlock = some w.heap.size from fun e => by have := (h.own.lt _ e).2; omega)
  have HPB := Lib.hid (show w.heap.size ≠ (⟨p, o, none⟩ : Addr).block from fun e => by have := h.lt; simp only at e; omega)
  clear h hv hn hb hno
  go_enter Try.func32, Try.ntmps32
  go_wp2
  go_loopw [12] (fun iv wr => ∃ (i : Nat), i ≤ n ∧ iv = .int .i64 i ∧ Hid (Below w.heap.size w wr) ∧ Hid (Bx wr w.heap.size ⟨x, y, z, u⟩)) (fun iv _ => n - (intOf iv).toNat)
  case atStart => exact ⟨0, by omega, rfl, HB, HBX0⟩
  case round =>
    obtain ⟨i, hi, rfl, hb, hx⟩ := hrel
    by_cases hin : i < n
    · obtain ⟨g, rfl, y1, y2, y3, y4⟩ := HCELL.out wr i hb.out (by omega)
      have hsz : w.heap.size ≤ wr.heap.size := hb.out.size
      have i1 : (i : Int) < (n : Int) := by omega
      have i2 : (0 : Int) ≤ (i : Int) := by omega
      have hqn := HNO.out i (by rw [HN.out]; exact hin)
      obtain ⟨⟨qn, qf, qt, qa⟩, hq⟩ : ∃ q, ps.getD i qz = q := ⟨_, rfl⟩
      rw [hq] at y1 y2 y3 y4 hqn
      simp only [] at y1 y2 y3 y4 hqn
      have hx1 := hx.out.later ((Below.refl _ _).alloc (Nat.le_refl _) (.cells #[.int .i64 qn, .int .i64 qf, .int .i64 qt, .int .i64 qa] tOutR))
      have HB1 := Lib.hid (hb.out.alloc hsz (.cells #[.int .i64 qn, .int .i64 qf, .int .i64 qt, .int .i64 qa] tOutR))
      have HX1 := Lib.hid hx1
      have b0 := hx1.1
      simp only [] at b0
      obtain ⟨e0, e1, e2, e3⟩ := Bx.new wr tOutR qn qf qt qa
      simp only [] at e0 e1 e2 e3
      have HNX := Lib.hid (show i + 1 ≤ n by omega)
      have HNN := Lib.hid (show i < n by omega)
      have HIW := Lib.hid (show wrap64 ((i : Int) + 1) = ((i + 1 : Nat) : Int) from wrap_q (by omega) (by omega) (by omega))
      clear hx hx1 hb hq hsz hi hin
      go_wp2
      go_roundw
      case rel => exact ⟨i + 1, HNX.out, by first | rfl | (rw [HIW.out]) | go_num, HB1, HX1⟩
      case measure => have := HNN.out; simp [intOf]; omega
    · have : i = n := by omega
      subst this
      have j1 : ¬ ((i : Int) < (i : Int)) := by omega
      have HBB := Lib.hid hb.out
      have HX := Lib.hid (H.out.later HBB.out)
      have HBX := Lib.hid hx.out
      clear hi hin hb hx c0
      go_wp2_with fail
      obtain ⟨W, hW⟩ : ∃ W, wr.drew = W := ⟨_, rfl⟩
      have hX : FlF ty tOutR m0 o ff W B p v ps := by rw [← hW]; exact HX.out.drewN 1
      have hgw : SC w W (Fft p v) (Fft p v) := by rw [← hW]; exact SC.of_below (HBB.out.trans ⟨rfl, rfl, rfl, Nat.le_refl _, fun _ _ => rfl⟩)
      have hs0 : Bx W w.heap.size ⟨x, y, z, u⟩ := by rw [← hW]; exact HBX.out
      have hsz : w.heap.size ≤ W.heap.size := by rw [← hW]; exact HBB.out.size
      have hbl : w.heap.size < W.heap.size := World.block_lt_of_cell? W _ hs0.1
      have c0 := hX.co
      rw [HV.out] at c0
      obtain ⟨A', c', w3, hrun, ho, ht, hf⟩ := app_q (P := Try.prog) 51 51 _ Try.underlying51 (info_tOutR) rfl hX.own i HN.out (by have := HL.out; omega) hX.size ⟨x, y, z, u⟩
      rw [HV.out] at hrun
      have c0a := (hX.alloc (.cells #[.int .i64 x, .int .i64 y, .int .i64 z, .int .i64 u] tOutR)).co
      rw [HV.out] at c0a
      obtain ⟨y1, y2, hnew⟩ := hX.put ht ho hf
      have hs1 : Bx (W.alloc (.cells #[.int .i64 x, .int .i64 y, .int .i64 z, .int .i64 u] tOutR)) w.heap.size ⟨x, y, z, u⟩ := hs0.of_block (heap_alloc_old W _ hbl)
      have hs2 : Bx w3 w.heap.size ⟨x, y, z, u⟩ := hs0.of_block (ht.block _ hbl HVB.out)
      have hs3 : Bx (w3.setCell ⟨p, o, none⟩ (.slice A' (i + 1) c')) w.heap.size ⟨x, y, z, u⟩ := hs2.of_block (heap_setCell_other _ _ _ _ HPB.out)
      have HNEW := Lib.hid hnew
      have HGW := Lib.hid hgw
      have S0 := Lib.hid (show Bx wr.drew w.heap.size ⟨x, y, z, u⟩ by rw [hW]; exact hs0)
      have S0W := Lib.hid hs0
      have S1 := Lib.hid hs1
      have S2 := Lib.hid hs2
      have S3 := Lib.hid hs3
      clear hX hgw hnew ho ht hf hs0 hs1 hs2 hs3 hsz hbl HX HBB HBX HVB HPB
      refine wp_region_held_drew (S := fun wi => wi.cell? ⟨w.heap.size, 0, none⟩ = some (.int .i64 x) ∧ wi.cell? ⟨w.heap.size, 1, none⟩ = some (.int .i64 y) ∧ wi.cell? ⟨w.heap.size, 2, none⟩ = some (.int .i64 z) ∧ wi.cell? ⟨w.heap.size, 3, none⟩ = some (.int .i64 u)) (by kernel_rfl) S0.out ?_
      intro hHeld
      rw [hW]
      clear hW
      refine wpAnyH_take (i := 0) (v := ?_) rfl (by kernel_rfl) (by kernel_rfl) (by kernel_rfl) (fun _ _ _ h => h) (Or.inl ⟨by rfl, ?_⟩) (by assumption) ?_
      rotate_left
      · intro w hSw
        (try dsimp only at hSw)
        go_simp
        try (with_reducible rfl)
      try simp only [Act.put, List.getElem_toArray, List.getElem_cons_zero, List.setIfInBounds_toArray, List.set_cons_zero, List.set_cons_succ]
      refine wpAnyH_take (i := 1) (v := ?_) rfl (by kernel_rfl) (by kernel_rfl) (by kernel_rfl) (fun _ _ _ h => h) (Or.inl ⟨by rfl, ?_⟩) (by assumption) ?_
      rotate_left
      · intro w hSw
        (try dsimp only at hSw)
        go_simp
        try (with_reducible rfl)
      try simp only [Act.put, List.getElem_toArray, List.getElem_cons_zero, List.getElem_cons_succ, List.setIfInBounds_toArray, List.set_cons_zero, List.set_cons_succ]
      refine wpAnyH_take (i := 2) (v := ?_) rfl (by kernel_rfl) (by kernel_rfl) (by kernel_rfl) (fun _ _ _ h => h) (Or.inl ⟨by rfl, ?_⟩) (by assumption) ?_
      rotate_left
      · intro w hSw
        (try dsimp only at hSw)
        go_simp
        try (with_reducible rfl)
      try simp only [Act.put, List.getElem_toArray, List.getElem_cons_zero, List.getElem_cons_succ, List.setIfInBounds_toArray, List.set_cons_zero, List.set_cons_succ]
      refine wpAnyH_take (i := 3) (v := ?_) rfl (by kernel_rfl) (by kernel_rfl) (by kernel_rfl) (fun _ _ _ h => h) (Or.inl ⟨by rfl, ?_⟩) (by assumption) ?_
      rotate_left
      · intro w hSw
        (try dsimp only at hSw)
        go_simp
        try (with_reducible rfl)
      try simp only [Act.put, List.getElem_toArray, List.getElem_cons_zero, List.getElem_cons_succ, List.setIfInBounds_toArray, List.set_cons_zero, List.set_cons_succ]
      refine wpAnyH_take (i := 5) (v := ?_) rfl (by kernel_rfl) (by kernel_rfl) (by kernel_rfl) (fun _ _ _ h => h) (Or.inl ⟨by rfl, ?_⟩) (by assumption) ?_
      rotate_left
      · intro w hSw
        (try dsimp only at hSw)
        go_simp
        try (with_reducible rfl)
      try simp only [Act.put, List.getElem_toArray, List.getElem_cons_zero, List.getElem_cons_succ, List.setIfInBounds_toArray, List.set_cons_zero, List.set_cons_succ]
      refine wpAnyH_ready (rs := [4, 6]) (by kernel_rfl) (by simp) ?_
      refine AllReadyH.cons rfl (fun K hK => ?_) (AllReadyH.cons rfl (fun K hK => ?_) AllReadyH.nil)
      · go_simp
        refine hK.out _ _ S0W.out (fun hHeld2 => ?_)
        clear hK K hHeld
        have hHeld := hHeld2
        clear hHeld2
        try simp only [Act.put, List.getElem_toArray, List.getElem_cons_zero, List.getElem_cons_succ, List.setIfInBounds_toArray, List.set_cons_zero, List.set_cons_succ]
        refine wpAnyH_ready (rs := [6]) (by kernel_rfl) (by simp) ?_
        refine AllReadyH.cons rfl (fun K hK => ?_) AllReadyH.nil
        go_simp
        refine hK.out _ _ S1.out (fun hHeld2 => ?_)
        clear hK K hHeld
        have hHeld := hHeld2
        clear hHeld2
        try simp only [Act.put, List.getElem_toArray, List.getElem_cons_zero, List.getElem_cons_succ, List.setIfInBounds_toArray, List.set_cons_zero, List.set_cons_succ]
        refine wpAnyH_ready (rs := [7]) (by kernel_rfl) (by simp) ?_
        refine AllReadyH.cons rfl (fun K hK => ?_) AllReadyH.nil
        refine step_app_r4 (by rfl) (.tmp 26) (.tmp 28) 51 rfl _ _ _ rfl rfl hrun ?_
        refine hK.out _ _ S2.out (fun hHeld2 => ?_)
        clear hK K hHeld
        have hHeld := hHeld2
        clear hHeld2
        try simp only [Act.put, List.getElem_toArray, List.getElem_cons_zero, List.getElem_cons_succ, List.setIfInBounds_toArray, List.set_cons_zero, List.set_cons_succ]
        refine wpAnyH_take (i := 8) (v := ?_) rfl (by kernel_rfl) (by kernel_rfl) (by kernel_rfl) (fun _ _ _ h => h) (Or.inl ⟨by rfl, ?_⟩) (by assumption) ?_
        rotate_left
        · intro w hSw
          (try dsimp only at hSw)
          go_simp
          try (with_reducible rfl)
        try simp only [Act.put, List.getElem_toArray, List.getElem_cons_zero, List.getElem_cons_succ, List.setIfInBounds_toArray, List.set_cons_zero, List.set_cons_succ]
        refine wpAnyH_take (i := 9) (v := ?_) rfl (by kernel_rfl) (by kernel_rfl) (by kernel_rfl) (fun _ _ _ h => h) (Or.inl ⟨by rfl, ?_⟩) (by assumption) ?_
        rotate_left
        · intro w hSw
          (try dsimp only at hSw)
          go_simp
          try (with_reducible rfl)
        try simp only [Act.put, List.getElem_toArray, List.getElem_cons_zero, List.getElem_cons_succ, List.setIfInBounds_toArray, List.set_cons_zero, List.set_cons_succ]
        refine wpAnyH_ready (rs := [10]) (by kernel_rfl) (by simp) ?_
        refine AllReadyH.cons rfl (fun K hK => ?_) AllReadyH.nil
        go_simp
        refine hK.out _ _ S3.out (fun hHeld2 => ?_)
        clear hK K hHeld
        have hHeld := hHeld2
        clear hHeld2
        try simp only [Act.put, List.getElem_toArray, List.getElem_cons_zero, List.getElem_cons_succ, List.setIfInBounds_toArray, List.set_cons_zero, List.set_cons_succ]
        refine wpAnyH_done (by kernel_rfl) ?_ _
        go_wp2
        go_ret
        exact ⟨rfl, _, HNEW.out.1, HGW.out.trans HNEW.out.2⟩
      · go_simp
        refine hK.out _ _ S1.out (fun hHeld2 => ?_)
        clear hK K hHeld
        have hHeld := hHeld2
        clear hHeld2
        try simp only [Act.put, List.getElem_toArray, List.getElem_cons_zero, List.getElem_cons_succ, List.setIfInBounds_toArray, List.set_cons_zero, List.set_cons_succ]
        refine wpAnyH_ready (rs := [4]) (by kernel_rfl) (by simp) ?_
        refine AllReadyH.cons rfl (fun K hK => ?_) AllReadyH.nil
        go_simp
        refine hK.out _ _ S1.out (fun hHeld2 => ?_)
        clear hK K hHeld
        have hHeld := hHeld2
        clear hHeld2
        try simp only [Act.put, List.getElem_toArray, List.getElem_cons_zero, List.getElem_cons_succ, List.setIfInBounds_toArray, List.set_cons_zero, List.set_cons_succ]
        refine wpAnyH_ready (rs := [7]) (by kernel_rfl) (by simp) ?_
        refine AllReadyH.cons rfl (fun K hK => ?_) AllReadyH.nil
        refine step_app_r4 (by rfl) (.tmp 26) (.tmp 28) 51 rfl _ _ _ rfl rfl hrun ?_
        refine hK.out _ _ S2.out (fun hHeld2 => ?_)
        clear hK K hHeld
        have hHeld := hHeld2
        clear hHeld2
        try simp only [Act.put, List.getElem_toArray, List.getElem_cons_zero, List.getElem_cons_succ, List.setIfInBounds_toArray, List.set_cons_zero, List.set_cons_succ]
        refine wpAnyH_take (i := 8) (v := ?_) rfl (by kernel_rfl) (by kernel_rfl) (by kernel_rfl) (fun _ _ _ h => h) (Or.inl ⟨by rfl, ?_⟩) (by assumption) ?_
        rotate_left
        · intro w hSw
          (try dsimp only at hSw)
          go_simp
          try (with_reducible rfl)
        try simp only [Act.put, List.getElem_toArray, List.getElem_cons_zero, List.getElem_cons_succ, List.setIfInBounds_toArray, List.set_cons_zero, List.set_cons_succ]
        refine wpAnyH_take (i := 9) (v := ?_) rfl (by kernel_rfl) (by kernel_rfl) (by kernel_rfl) (fun _ _ _ h => h) (Or.inl ⟨by rfl, ?_⟩) (by assumption) ?_
        rotate_left
        · intro w hSw
          (try dsimp only at hSw)
          go_simp
          try (with_reducible rfl)
        try simp only [Act.put, List.getElem_toArray, List.getElem_cons_zero, List.getElem_cons_succ, List.setIfInBounds_toArray, List.set_cons_zero, List.set_cons_succ]
        refine wpAnyH_ready (rs := [10]) (by kernel_rfl) (by simp) ?_
        refine AllReadyH.cons rfl (fun K hK => ?_) AllReadyH.nil
        go_simp
        refine hK.out _ _ S3.out (fun hHeld2 => ?_)
        clear hK K hHeld
        have hHeld := hHeld2
        clear hHeld2
        try simp only [Act.put, List.getElem_toArray, List.getElem_cons_zero, List.getElem_cons_succ, List.setIfInBounds_toArray, List.set_cons_zero, List.set_cons_succ]
        refine wpAnyH_done (by kernel_rfl) ?_ _
        go_wp2
        go_ret
        exact ⟨rfl, _, HNEW.out.1, HGW.out.trans HNEW.out.2⟩
end
end Go.Proofs.Ytlkoenlimdfifaa

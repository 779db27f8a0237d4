/-
  What Append does, behind what speaks against it (its function literal): contracts over the program.
-/
import Derived.Test.YtfafonfphholmaaStDo
import Derived.Test.YtfafonfphholmaaBase
import Derived.Deep.DeepCutAuto
import Derived.Deep.RegionLaw
namespace Go.Proofs.Ytfafonfphholmaa
open Go.RowKit Go.Maps

section
variable {w w1 w2 : World} {B p m : Nat} {L : List Ent} {fu : Bool} {lf : Int} {de : Bool}

/-- More bytes behind. -/
def Blk.more (k : Blk) (ys : List Int) : Blk := ⟨k.n, k.xs ++ ys, k.s, k.f⟩

theorem Cont.setv {e : Ent} (h : Cont w B e) (ys : List Int) (v : Value) (ho : Own .u8 5 w1 B v (e.k.xs ++ ys)) (ht : w.grownBy w1 e.v.ownBlock) (hl : (e.k.xs ++ ys).length ≤ 1099511627776) :
    Cont (w1.setCell ⟨e.b, 0, none⟩ v) B ⟨e.k.more ys, e.b, v⟩ ∧ Trn w (w1.setCell ⟨e.b, 0, none⟩ v) e.foot := by
  have t1 : Trn w w1 e.foot := (Trn.of_grown ht).mono (fun k _ hk => .inr hk)
  have t2 : Trn w1 (w1.setCell ⟨e.b, 0, none⟩ v) (fun k => k = e.b) := (Trn.of_grown (setCell_one w1 e.b 0 _)).mono (fun k _ hk => by simp at hk; exact hk.symm)
  have hne0 : e.v.ownBlock ≠ some e.b := h.ne h.row (by decide)
  have hr1 : w1.rowIs e.b 50 3 (conF e.v e.k.s e.k.f) := h.row.of_block (ht.block e.b h.row.lt (fun e1 => hne0 e1.symm))
  have hne : ∀ g, v.ownBlock = some g → ¬ g = e.b := fun g hg e1 => by
    subst e1
    rcases ho.2 with ⟨hv, _⟩ | ⟨g, cap, cur, hv, _, hh, _⟩
    · rw [hv] at hg; simp [Value.ownBlock] at hg
    · rw [hv] at hg
      simp only [Value.ownBlock, Option.some.injEq] at hg
      subst hg
      obtain ⟨cur', hh', _⟩ := hr1
      rw [hh] at hh'
      injection hh' with hh'
      injection hh' with _ ht'
      revert ht'; decide
  refine ⟨⟨?_, t2.own ho hne, h.ge, hl, h.num⟩, t1.trans t2 (fun _ hk => hk) (fun k _ hk => .inl hk)⟩
  exact (hr1.set 0 v).congr fun i hi => by
    have : i = 0 ∨ i = 1 ∨ i = 2 := by omega
    rcases this with rfl | rfl | rfl <;> simp [conF, Blk.more]

/-- The block is there: it was, or it is made. -/
def AppSt (w0 : World) (B p m : Nat) (L : List Ent) (fu : Bool) (lf : Int) (de : Bool) (n : Int) (w' : World) : Prop :=
  ∃ L' e, e ∈ L' ∧ e.k.n = n ∧ StoreAt w' B p m L' fu lf de ∧ SC w0 w' (Foot p m L) (Foot p m L') ∧ ((e ∈ L ∧ L' = L) ∨ ((∀ x ∈ L, x.k.n ≠ n) ∧ e.k = ⟨n, [], 0, false⟩ ∧ L' = insB (·.k.n) e L))
/-- A store's blocks, with more bytes behind one. -/
def appB (n : Int) (ys : List Int) (bs : List Blk) : List Blk :=
  (if bs.any (fun k => decide (k.n = n)) then bs else insB (·.n) ⟨n, [], 0, false⟩ bs).map fun k => if k.n = n then k.more ys else k
/-- What Append leaves. -/
def AppEnd (w0 : World) (B p m : Nat) (L : List Ent) (fu : Bool) (lf : Int) (de : Bool) (n : Int) (ys : List Int) (w' : World) : Prop :=
  ∃ L', StoreAt w' B p m L' fu lf de ∧ L'.map (·.k) = appB n ys (L.map (·.k)) ∧ SC w0 w' (Foot p m L) (Foot p m L')
theorem appB_eq {n : Int} {ys : List Int} {L' : List Ent} {e : Ent} (hr : L'.Pairwise (fun x y => x.k.n < y.k.n)) (he : e ∈ L') (hn : e.k.n = n) (b : Nat) (v : Value)
    (h : (e ∈ L ∧ L' = L) ∨ ((∀ x ∈ L, x.k.n ≠ n) ∧ e.k = ⟨n, [], 0, false⟩ ∧ L' = insB (·.k.n) e L)) : (updE n ⟨e.k.more ys, b, v⟩ L').map (·.k) = appB n ys (L.map (·.k)) := by
  have h1 : L'.map (·.k) = if (L.map (·.k)).any (fun k => decide (k.n = n)) then L.map (·.k) else insB (·.n) ⟨n, [], 0, false⟩ (L.map (·.k)) := by
    rcases h with ⟨h1, rfl⟩ | ⟨h1, h2, rfl⟩
    · rw [if_pos (by simp; exact ⟨e, h1, hn⟩)]
    · rw [if_neg (by simpa using h1), insB_map (key := fun x : Ent => x.k.n) (key' := fun x : Blk => x.n) (fun x : Ent => x.k) (fun _ => rfl), h2]
  unfold appB updE
  rw [← h1, List.map_map, List.map_map]
  refine List.map_congr_left (fun x hx => ?_)
  by_cases hxn : x.k.n = n
  · have : x = e := by
      clear h h1
      induction L' with
      | nil => cases hx
      | cons z r ih =>
        obtain ⟨a1, a2⟩ := List.pairwise_cons.1 hr
        rcases List.mem_cons.1 hx with rfl | hx'
        · rcases List.mem_cons.1 he with rfl | he'
          · rfl
          · have := a1 e he'; omega
        · rcases List.mem_cons.1 he with rfl | he'
          · have := a1 x hx'; omega
          · exact ih a2 he' hx'
    subst this
    simp [hxn]
  · simp [hxn]

/-- append, and where its result lies. -/
theorem run_app_f {P : Program} (w : World) (k : IntKind) (t ty e : TypeId) (z : Value) (bytes : Nat) (ht : P.underlying t = some (.slice e)) (hinfo : (P.info? e).map (fun i => (i.zero, i.size, i.bytes)) = some (some z, 1, bytes)) (hz1 : z.cells.size = 1)
    (B : Nat) (v : Value) (xs : List Int) (hown : Own k e w B v xs) (A : Option Addr) (m c : Nat) (ys : List Int) (hm : ys.length = m) (hr : Rd k w A ys)
    (hmax : xs.length + m ≤ maxLen) (hbytes : (xs.length + m) * bytes ≤ 140737488355328) (hB : B ≤ w.heap.size) :
    ∃ A' c' w', (Builtin.append_ #[t, t] ty #[v, .slice A m c]).run P w = .ok (.slice A' (xs.length + m) c') w' ∧ Own k e w' B (.slice A' (xs.length + m) c') (xs ++ ys) ∧ w.grownBy w' v.ownBlock ∧
      ∀ g, (Value.slice A' (xs.length + m) c').ownBlock = some g → v.ownBlock = some g ∨ w.heap.size ≤ g := by
  cases A with
  | some ad =>
    obtain ⟨A', c', w', hrun, h2, h3⟩ := run_app (P := P) w k t ty e z bytes ht hinfo hz1 B v xs hown (some ad) m c ys hm hr hmax hbytes hB
    exact ⟨A', c', w', hrun, h2, h3, app_block (P := P) w k t ty e z bytes ht hinfo hz1 B v xs hown ad m c ys hm hr hmax hbytes hrun⟩
  | none =>
    obtain ⟨i, hi, hz0, hz2, hz3⟩ := info_parts hinfo
    have hy : ys = [] := by
      rcases hr with h | ⟨b, off, h, _⟩
      · exact h
      · cases h
    subst hy
    have hm0 : m = 0 := by simpa using hm.symm
    subst hm0
    obtain ⟨A', c', rfl⟩ := hown.form
    have hrun : (Builtin.append_ #[t, t] ty #[.slice A' xs.length c', .slice none 0 c]).run P w = .ok (.slice A' xs.length c') w := by
      rcases hown.2 with ⟨hv, h0⟩ | ⟨g, cap, cur, hv, _, _, hnc, _⟩
      · injection hv with h1 _ h3
        subst h1; subst h3
        rw [h0]
        simp [Builtin.append_, run_underlying ht, sizeOf, typeInfo, hi, Builtin.lenOf, Builtin.firstCells]
      · injection hv with h1 _ h3
        subst h1; subst h3
        simp [Builtin.append_, run_underlying ht, sizeOf, typeInfo, hi, Builtin.lenOf, Builtin.firstCells, hnc, storeCells]
    exact ⟨A', c', w, by simpa using hrun, by simpa using hown, World.grownBy.refl _ _, fun g hg => .inl (by simpa using hg)⟩

/-- append at a step of a region that draws, by its run. -/
theorem step_app_r {P : Program} {w w' : World} {ops : Array Oper} {o : Oper} {a : Act} {K : Act → World → Prop} {Q : Exit → Act → World → Prop} {E : Prop} (hw : Region.wanted o (yielded ops a.tmps) = true) (s x : Operand) (t : TypeId)
    (ho : o.op = .call { callee := .builtin .append, args := #[s, x], argTypes := #[t, t] }) (v vx v' : Value) (hs : a.eval s = v) (hx : a.eval x = vx) (hrun : (Builtin.append_ #[t, t] o.type #[v, vx]).run P w = .ok v' w') (h : K (a.put o.dst v') w') :
    if Region.wanted o (yielded ops a.tmps) = true then Oper.wp P o a w K Q else E := by
  rw [if_pos hw]
  unfold Oper.wp execOp
  simp only [ho, resolve, invoke, builtin, Sem.run_bind, Sem.run_pure, Result.andThen_ok, List.map_toArray, List.map_cons, List.map_nil, hs, hx, hrun]
  exact h

theorem look_of (h : StoreAt w B p m L fu lf de) {e : Ent} (he : e ∈ L) {W : World} (hm : W.heap[m]? = w.heap[m]?) : (Instr.lookup 44 (.map (some m)) (.int .i64 e.k.n) false).run Try.prog W = .ok (.pointer (some ⟨e.b, 0, none⟩)) W := by
  have hn := (h.each e he).num
  have hmap : W.ownsMap Try.prog 3 ptr m L.length (DL L) := by
    obtain ⟨es, clock, hb, r⟩ := h.map
    exact ⟨es, clock, hm.trans hb, r⟩
  obtain ⟨v, ps, hrun, hv⟩ := hmap.lookup keyI Try.underlying44 (zeroP W) (zd := .lit (.int .i64 (-1))) (zp := []) rfl (keyN (by omega) hn.2)
  rw [DL_at h.rise he] at hv
  rw [hrun, ptr_some hv]

theorem rd_trn {F : Nat → Prop} {A : Option Addr} {ys : List Int} (hr : Rd .u8 w A ys) (ht : Trn w w1 F) (hA : ∀ a, A = some a → ¬ F a.block) : Rd .u8 w1 A ys := by
  rcases hr with h | ⟨b, off, rfl, h⟩
  · exact .inl h
  · refine .inr ⟨b, off, rfl, fun i hi => ?_⟩
    have h1 := h i hi
    have hlt := World.block_lt_of_cell? w _ h1
    rw [World.cell?_of_block (ht.block b hlt (hA _ rfl))]
    exact h1

theorem eqlP (c : Bool) (r : Option Nat) (hc : c = r.isNone) (w : World) : (binOp .eql 48 (ptrV r) (.pointer none)).run Try.prog w = .ok (.bool c) w := by
  subst hc
  cases r <;> kernel_rfl

def Boxes (w : World) (q0 q1 q2 p : Nat) (n : Int) (A : Option Addr) (l c : Nat) : Prop :=
  w.cell? ⟨q0, 0, none⟩ = some (.pointer (some ⟨p, 0, none⟩)) ∧ w.cell? ⟨q1, 0, none⟩ = some (.int .i64 n) ∧ w.cell? ⟨q2, 0, none⟩ = some (.slice A l c)

set_option maxRecDepth 10000 in
set_option maxHeartbeats 1000000 in
/-- Append's. -/
theorem appdo_any (h : StoreAt w B p m L fu lf de) (n : Int) (hn1 : 1 ≤ n) (hn2 : n ≤ 9223372036854775807) (q0 q1 q2 : Nat) (A : Option Addr) (l c : Nat) (ys : List Int) (hbx : Boxes w q0 q1 q2 p n A l c)
    (hlen : ys.length = l) (hr : Rd .u8 w A ys) (hB : B ≤ w.heap.size) (hq : ∀ k, Foot p m L k → k ≠ q0 ∧ k ≠ q1 ∧ k ≠ q2) (hmany : L.length < 1099511627776) (hl : l ≤ 1048576) (hxs : ∀ e ∈ L, e.k.xs.length ≤ 1099510579200)
    (hra : ∀ a, A = some a → ¬ Foot p m L a.block) :
    Calls Try.prog 27 #[.pointer (some ⟨q0, 0, none⟩), .pointer (some ⟨q1, 0, none⟩), .pointer (some ⟨q2, 0, none⟩)] w fun x w' => x = .returned (.tuple #[]) ∧ AppEnd w B p m L fu lf de n ys w' := by
  have s0 := h.s0
  have hlk : ∃ r : Option Nat, (∀ k, (Instr.lookup 44 (.map (some m)) (.int .i64 n) false).run Try.prog (w.drewN k) = .ok (ptrV r) (w.drewN k)) ∧
      ((r = none ∧ ∀ e ∈ L, e.k.n ≠ n) ∨ ∃ e ∈ L, e.k.n = n ∧ r = some e.b) := by
    by_cases hx : ∃ e ∈ L, e.k.n = n
    · obtain ⟨e, he, hen⟩ := hx
      exact ⟨some e.b, fun k => by have := look_some (h.drewN k) he; rw [hen] at this; exact this, .inr ⟨e, he, hen, rfl⟩⟩
    · exact ⟨none, fun k => look_none (h.drewN k) (fun e he hen => hx ⟨e, he, hen⟩) (by omega) hn2, .inl ⟨rfl, fun e he hen => hx ⟨e, he, hen⟩⟩⟩
  obtain ⟨r, hl1, hl2⟩ := hlk
  obtain ⟨C, hC⟩ : ∃ C, C = r.isNone := ⟨_, rfl⟩
  have heq := eqlP C r hC
  have hpm := h.p_ne.1
  have H := Lib.hid h
  have HL2 := Lib.hid hl2
  have HBX := Lib.hid hbx
  have HR := Lib.hid hr
  have HC := Lib.hid hC
  have HQ := Lib.hid hq
  have HLEN := Lib.hid hlen
  obtain ⟨b0, b1, b2⟩ := hbx
  obtain ⟨R, hR⟩ : ∃ R, ptrV r = .pointer R := by cases r <;> exact ⟨_, rfl⟩
  rw [hR] at hl1 heq
  clear h hl2 hr hC hq hR hlen
  go_enter Try.func27, Try.ntmps27
  go_wp2_with fail
  go_quiet (fail)
  go_upto_if 9 with (fail)
  go_cut [] (fun wx => Hid (AppSt w B p m L fu lf de n wx) ∧ Hid (Boxes wx q0 q1 q2 p n A l c) ∧ Hid (Rd .u8 wx A ys))
  case first =>
    cases C
    · go_wp2_with fail
      go_meet
      have hr : r ≠ none := fun e1 => by have := HC.out; rw [e1] at this; cases this
      refine ⟨?_, HBX.out, HR.out⟩
      rcases HL2.out with ⟨h1, _⟩ | ⟨e, he, hen, _⟩
      · exact absurd h1 hr
      · exact ⟨L, e, he, hen, H.out.drewN nq, ⟨⟨rfl, rfl, rfl, Nat.le_refl _, fun _ _ _ => rfl⟩, fun _ h => .inl h⟩, .inl ⟨he, rfl⟩⟩
    · have hno : ∀ e ∈ L, e.k.n ≠ n := by
        rcases HL2.out with ⟨_, h1⟩ | ⟨e, he, hen, h1⟩
        · exact h1
        · have := HC.out; rw [h1] at this; cases this
      have HNO := Lib.hid hno
      obtain ⟨w0, hw0⟩ : ∃ w0, w0 = w.drewN nq := ⟨_, rfl⟩
      have hs0 : StoreAt w0.drew B p m L fu lf de := by rw [hw0]; exact (H.out.drewN nq).drewN 1
      have hal := hs0.map.alloc (.cells #[.slice none 0 0, .int .i64 0, .bool false] 50)
      obtain ⟨w2, hrun, hm2, hg2⟩ := hal.update keyI Try.underlying44 (by unfold maxLen; omega) (keyN (by omega) hn2) (val := .pointer (some ⟨w0.heap.size, 0, none⟩)) (d := .lit (.int .i64 (w0.heap.size : Nat))) (ps := []) rfl
      have hrun' : (Instr.mapUpdate 44 (.map (some m)) (.int .i64 n) (.pointer (some ⟨w0.heap.size, 0, none⟩))).run Try.prog (w0.alloc (.cells #[.slice none 0 0, .int .i64 0, .bool false] 50)).drew = .ok () w2 := hrun
      have HI := Lib.hid (hs0.ins (e := ⟨⟨n, [], 0, false⟩, w0.heap.size, .slice none 0 0⟩) (fun x hx => hno x hx)
        (Cont.make (w := w0.drew) (B := B) (k := ⟨n, [], 0, false⟩) (Own.nil _ _ _ _) (by rw [hw0]; exact hB) (by simp) ⟨hn1, hn2⟩) (Nat.le_refl _) ((Below.refl _ _).alloc (Nat.le_refl _) _)
        (fun k hk => by
          rcases hk with rfl | hk
          · exact Nat.le_refl _
          · simp [Value.ownBlock] at hk) hm2 hg2 hmany)
      have HG2 := Lib.hid hg2
      have HW0 := Lib.hid hw0
      have d0 : w0.cell? ⟨q0, 0, none⟩ = some (.pointer (some ⟨p, 0, none⟩)) := by rw [hw0]; exact b0
      have d1 : w0.cell? ⟨q1, 0, none⟩ = some (.int .i64 n) := by rw [hw0]; exact b1
      have d2 : w0.cell? ⟨p, 0, none⟩ = some (.map (some m)) := by rw [hw0]; exact s0
      have g0 := cell_later ((Below.refl w0.heap.size w0).drew.alloc (Nat.le_refl _) (.cells #[.slice none 0 0, .int .i64 0, .bool false] 50)) d0
      have g1 := cell_later ((Below.refl w0.heap.size w0).drew.alloc (Nat.le_refl _) (.cells #[.slice none 0 0, .int .i64 0, .bool false] 50)) d1
      have g2 := cell_later ((Below.refl w0.heap.size w0).drew.alloc (Nat.le_refl _) (.cells #[.slice none 0 0, .int .i64 0, .bool false] 50)) d2
      have hmq := HQ.out m (.inr (.inl rfl))
      have k0 := hg2.cell g0 (by simp; exact fun e => hmq.1 e.symm)
      have k1 := hg2.cell g1 (by simp; exact fun e => hmq.2.1 e.symm)
      have k2 := hg2.cell g2 (by simp; exact hpm)
      rw [← hw0]
      clear hmq
      clear hs0 hal hm2 hg2 hno hw0 b0 b1 b2 s0 heq hl1 hrun
      go_wp2_with fail
      go_region_held3 (fun wi => wi.cell? ⟨q0, 0, none⟩ = some (.pointer (some ⟨p, 0, none⟩)) ∧ wi.cell? ⟨q1, 0, none⟩ = some (.int .i64 n) ∧ wi.cell? ⟨p, 0, none⟩ = some (.map (some m)))
        (first
          | exact ⟨d0, d1, d2⟩
          | assumption
          | exact ⟨g0, g1, g2⟩
          | exact ⟨k0, k1, k2⟩)
        (fail)
      go_wp2_with fail
      go_meet
      have hsc0 : SC w w0.drew (Foot p m L) (Foot p m L) := by rw [HW0.out]; exact ⟨⟨rfl, rfl, rfl, Nat.le_refl _, fun _ _ _ => rfl⟩, fun _ h => .inl h⟩
      obtain ⟨_, _, x2⟩ := HBX.out
      have hmq := HQ.out m (.inr (.inl rfl))
      have x3 : w0.cell? ⟨q2, 0, none⟩ = some (.slice A l c) := by rw [HW0.out]; exact x2
      have x4 := cell_later ((Below.refl w0.heap.size w0).drew.alloc (Nat.le_refl _) (.cells #[.slice none 0 0, .int .i64 0, .bool false] 50)) x3
      have hrd : Rd .u8 w2 A ys := rd_trn HR.out (hsc0.trans HI.out.2).trn hra
      refine ⟨⟨_, _, mem_insB.2 (.inl rfl), rfl, HI.out.1, hsc0.trans HI.out.2, .inr ⟨HNO.out, rfl, rfl⟩⟩, ⟨k0, k1, HG2.out.cell x4 (by simp; exact fun e => hmq.2.2 e.symm)⟩, hrd⟩
  case rest =>
    obtain ⟨hst, hbx, hrd⟩ := hcut
    obtain ⟨L', e, he, hen, hs, hsc, hor⟩ := hst.out
    have s1 := hs.s0
    have hlk := fun W => look_of (W := W) hs he
    rw [hen] at hlk
    have hc := hs.each e he
    have c0 := hc.c0
    have f0 := hc.fr 0
    obtain ⟨x0, x1, x2⟩ := hbx.out
    have hlen := hc.len
    obtain ⟨Av, cv, hv⟩ := hc.own.form
    obtain ⟨N, hN⟩ : ∃ N, e.k.xs.length = N := ⟨_, rfl⟩
    obtain ⟨b, hb⟩ : ∃ b, e.b = b := ⟨_, rfl⟩
    have ho := hc.own
    have hmb : m ≠ b := fun e1 => hs.m_ne e he (.inl (e1.trans hb.symm))
    have hpf := hs.p_ne.2 e he
    have hqf : ∀ k, e.foot k → k ≠ q0 ∧ k ≠ q1 ∧ k ≠ q2 := fun k hk => by
      rcases hsc.sub k (.inr (.inr ⟨e, he, hk⟩)) with h1 | h1
      · exact HQ.out k h1
      · have l0 := World.block_lt_of_cell? w _ b0
        have l1 := World.block_lt_of_cell? w _ b1
        have l2 := World.block_lt_of_cell? w _ b2
        simp only at l0 l1 l2
        omega
    have hBc : B ≤ wc.heap.size := Nat.le_trans hc.ge (Nat.le_of_lt hc.row.lt)
    have hnl : N + l ≤ 1099511627776 := by
      rcases hor with ⟨h1, _⟩ | ⟨_, h1, _⟩
      · have := hxs e h1; omega
      · rw [h1] at hN; simp at hN; omega
    rw [hv] at c0 ho
    rw [hN] at c0 ho hlen
    rw [hb] at c0 f0 hlk
    have hl4 := hlk wc.drew rfl
    obtain ⟨A', c', w', hrun, ho', hg', hb'⟩ := run_app_f (P := Try.prog) wc.drew .u8 29 29 5 (.int .u8 0) 1 Try.underlying29 info_byte rfl B (.slice Av N cv) e.k.xs ho A l c ys HLEN.out hrd.out (by rw [hN]; unfold maxLen; omega) (by rw [hN]; omega) hBc
    rw [hN] at hrun ho' hb'
    have hne : ∀ k, ¬ e.foot k → some k ≠ (Value.slice Av N cv).ownBlock := fun k hk e1 => hk (.inr (by rw [hv, hN]; exact e1.symm))
    have hbo : some b ≠ (Value.slice Av N cv).ownBlock := fun e1 => hc.ne hc.row (by decide) (by rw [hv, hN, hb]; exact e1.symm)
    have hl5 := hlk w' (hg'.block m hs.map.lt (hne m (hs.m_ne e he)))
    have y0 := hg'.cell x0 (hne q0 (fun hk => (hqf q0 hk).1 rfl))
    have y1 := hg'.cell x1 (hne q1 (fun hk => (hqf q1 hk).2.1 rfl))
    have y2 := hg'.cell s1 (hne p hpf)
    have y3 := hg'.cell x2 (hne q2 (fun hk => (hqf q2 hk).2.2 rfl))
    have f1 : w'.frozen? ⟨b, 0, none⟩ = false := by
      rw [World.frozen?_of_block (hg'.block b (hb ▸ hc.row.lt) hbo)]
      exact f0
    have y4 := hg'.cell c0 hbo
    have hl6 := hlk (w'.setCell ⟨b, 0, none⟩ (.slice A' (N + l) c')) (((setCell_one w' b 0 (.slice A' (N + l) c')).block m (Nat.lt_of_lt_of_le hs.map.lt hg'.size) (by simp; exact hmb)).trans (hg'.block m hs.map.lt (hne m (hs.m_ne e he))))
    have z0 := (setCell_one w' b 0 (.slice A' (N + l) c')).cell y0 (by simp; exact fun e1 => (hqf b (.inl hb.symm)).1 e1.symm)
    have z1 := (setCell_one w' b 0 (.slice A' (N + l) c')).cell y1 (by simp; exact fun e1 => (hqf b (.inl hb.symm)).2.1 e1.symm)
    have z2 := (setCell_one w' b 0 (.slice A' (N + l) c')).cell y2 (by simp; exact fun e1 => hpf (.inl (e1.trans hb.symm)))
    have z3 := (setCell_one w' b 0 (.slice A' (N + l) c')).cell y3 (by simp; exact fun e1 => (hqf b (.inl hb.symm)).2.2 e1.symm)
    have HHE := Lib.hid he
    have HHN := Lib.hid hen
    have HHS := Lib.hid hs
    have HHSC := Lib.hid hsc
    have HHOR := Lib.hid hor
    have HHC := Lib.hid hc
    have HV := Lib.hid hv
    have HB := Lib.hid hb
    have HN := Lib.hid hN
    have HO := Lib.hid ho'
    have HG := Lib.hid hg'
    have HBB := Lib.hid hb'
    clear he hen hs hsc hor hc hv hb hN b0 b1 b2 s0 heq hl1 hst hbx ho ho' hg' hb' hlk hne hpf hqf hbo hBc
    go_wp2_with fail
    refine wp_region_held_drew (S := fun wi => wi.cell? ⟨q0, 0, none⟩ = some (.pointer (some ⟨p, 0, none⟩)) ∧ wi.cell? ⟨q1, 0, none⟩ = some (.int .i64 n) ∧ wi.cell? ⟨p, 0, none⟩ = some (.map (some m)) ∧ wi.cell? ⟨q2, 0, none⟩ = some (.slice A l c) ∧
        (Instr.lookup 44 (.map (some m)) (.int .i64 n) false).run Try.prog wi = .ok (.pointer (some ⟨b, 0, none⟩)) wi) (by kernel_rfl) ⟨x0, x1, s1, x2, hl4⟩ ?_
    intro hHeld
    refine wpAnyH_take (i := 0) (v := ?_) rfl (by kernel_rfl) (by kernel_rfl) (by kernel_rfl) (fun _ _ _ h => h) (Or.inl ⟨by rfl, ?_⟩) (by assumption) ?_
    rotate_left
    · intro w hSw
      (try dsimp only at hSw)
      go_simp
      try (with_reducible rfl)
    try simp only [Act.put, List.getElem_toArray, List.getElem_cons_zero, List.setIfInBounds_toArray, List.set_cons_zero, List.set_cons_succ]
    refine wpAnyH_take (i := 1) (v := ?_) rfl (by kernel_rfl) (by kernel_rfl) (by kernel_rfl) (fun _ _ _ h => h) (Or.inl ⟨by rfl, ?_⟩) (by assumption) ?_
    rotate_left
    · intro w hSw
      (try dsimp only at hSw)
      go_simp
      try (with_reducible rfl)
    try simp only [Act.put, List.getElem_toArray, List.getElem_cons_zero, List.getElem_cons_succ, List.setIfInBounds_toArray, List.set_cons_zero, List.set_cons_succ]
    refine wpAnyH_take (i := 2) (v := ?_) rfl (by kernel_rfl) (by kernel_rfl) (by kernel_rfl) (fun _ _ _ h => h) (Or.inl ⟨by rfl, ?_⟩) (by assumption) ?_
    rotate_left
    · intro w hSw
      (try dsimp only at hSw)
      go_simp
      try (with_reducible rfl)
    try simp only [Act.put, List.getElem_toArray, List.getElem_cons_zero, List.getElem_cons_succ, List.setIfInBounds_toArray, List.set_cons_zero, List.set_cons_succ]
    refine wpAnyH_take (i := 3) (v := ?_) rfl (by kernel_rfl) (by kernel_rfl) (by kernel_rfl) (fun _ _ _ h => h) (Or.inl ⟨by rfl, ?_⟩) (by assumption) ?_
    rotate_left
    · intro w hSw
      (try dsimp only at hSw)
      go_simp
      try (with_reducible rfl)
    try simp only [Act.put, List.getElem_toArray, List.getElem_cons_zero, List.getElem_cons_succ, List.setIfInBounds_toArray, List.set_cons_zero, List.set_cons_succ]
    refine wpAnyH_take (i := 4) (v := ?_) rfl (by kernel_rfl) (by kernel_rfl) (by kernel_rfl) (fun _ _ _ h => h) (Or.inl ⟨by rfl, ?_⟩) (by assumption) ?_
    rotate_left
    · intro w hSw
      (try dsimp only at hSw)
      go_simp
      try (with_reducible rfl)
    try simp only [Act.put, List.getElem_toArray, List.getElem_cons_zero, List.getElem_cons_succ, List.setIfInBounds_toArray, List.set_cons_zero, List.set_cons_succ]
    refine wpAnyH_take (i := 5) (v := ?_) rfl (by kernel_rfl) (by kernel_rfl) (by kernel_rfl) (fun _ _ _ h => h) (Or.inl ⟨by rfl, ?_⟩) (by assumption) ?_
    rotate_left
    · intro w hSw
      (try dsimp only at hSw)
      go_simp
      try (with_reducible rfl)
    try simp only [Act.put, List.getElem_toArray, List.getElem_cons_zero, List.getElem_cons_succ, List.setIfInBounds_toArray, List.set_cons_zero, List.set_cons_succ]
    refine wpAnyH_take (i := 6) (v := ?_) rfl (by kernel_rfl) (by kernel_rfl) (by kernel_rfl) (fun _ _ _ h => h) (Or.inl ⟨by rfl, ?_⟩) (by assumption) ?_
    rotate_left
    · intro w hSw
      (try dsimp only at hSw)
      go_simp
      try (with_reducible rfl)
    try simp only [Act.put, List.getElem_toArray, List.getElem_cons_zero, List.getElem_cons_succ, List.setIfInBounds_toArray, List.set_cons_zero, List.set_cons_succ]
    refine wpAnyH_take (i := 7) (v := ?_) rfl (by kernel_rfl) (by kernel_rfl) (by kernel_rfl) (fun _ _ _ h => h) (Or.inl ⟨by rfl, ?_⟩) (by assumption) ?_
    rotate_left
    · intro w hSw
      (try dsimp only at hSw)
      go_simp
      try (with_reducible rfl)
    try simp only [Act.put, List.getElem_toArray, List.getElem_cons_zero, List.getElem_cons_succ, List.setIfInBounds_toArray, List.set_cons_zero, List.set_cons_succ]
    refine wpAnyH_take (i := 8) (v := ?_) rfl (by kernel_rfl) (by kernel_rfl) (by kernel_rfl) (fun _ _ _ h => h) (Or.inl ⟨by rfl, ?_⟩) (by assumption) ?_
    rotate_left
    · intro w hSw
      (try dsimp only at hSw)
      go_simp
      try (with_reducible rfl)
    try simp only [Act.put, List.getElem_toArray, List.getElem_cons_zero, List.getElem_cons_succ, List.setIfInBounds_toArray, List.set_cons_zero, List.set_cons_succ]
    refine wpAnyH_take (i := 9) (v := ?_) rfl (by kernel_rfl) (by kernel_rfl) (by kernel_rfl) (fun _ _ _ h => h) (Or.inl ⟨by rfl, ?_⟩) (by assumption) ?_
    rotate_left
    · intro w hSw
      (try dsimp only at hSw)
      go_simp
      try (with_reducible rfl)
    try simp only [Act.put, List.getElem_toArray, List.getElem_cons_zero, List.getElem_cons_succ, List.setIfInBounds_toArray, List.set_cons_zero, List.set_cons_succ]
    refine wpAnyH_take (i := 10) (v := ?_) rfl (by kernel_rfl) (by kernel_rfl) (by kernel_rfl) (fun _ _ _ h => h) (Or.inl ⟨by rfl, ?_⟩) (by assumption) ?_
    rotate_left
    · intro w hSw
      (try dsimp only at hSw)
      go_simp
      try (with_reducible rfl)
    try simp only [Act.put, List.getElem_toArray, List.getElem_cons_zero, List.getElem_cons_succ, List.setIfInBounds_toArray, List.set_cons_zero, List.set_cons_succ]
    refine wpAnyH_take (i := 11) (v := ?_) rfl (by kernel_rfl) (by kernel_rfl) (by kernel_rfl) (fun _ _ _ h => h) (Or.inl ⟨by rfl, ?_⟩) (by assumption) ?_
    rotate_left
    · intro w hSw
      (try dsimp only at hSw)
      go_simp
      try (with_reducible rfl)
    try simp only [Act.put, List.getElem_toArray, List.getElem_cons_zero, List.getElem_cons_succ, List.setIfInBounds_toArray, List.set_cons_zero, List.set_cons_succ]
    refine wpAnyH_take (i := 12) (v := ?_) rfl (by kernel_rfl) (by kernel_rfl) (by kernel_rfl) (fun _ _ _ h => h) (Or.inl ⟨by rfl, ?_⟩) (by assumption) ?_
    rotate_left
    · intro w hSw
      (try dsimp only at hSw)
      go_simp
      try (with_reducible rfl)
    try simp only [Act.put, List.getElem_toArray, List.getElem_cons_zero, List.getElem_cons_succ, List.setIfInBounds_toArray, List.set_cons_zero, List.set_cons_succ]
    refine wpAnyH_take (i := 13) (v := ?_) rfl (by kernel_rfl) (by kernel_rfl) (by kernel_rfl) (fun _ _ _ h => h) (Or.inl ⟨by rfl, ?_⟩) (by assumption) ?_
    rotate_left
    · intro w hSw
      (try dsimp only at hSw)
      go_simp
      try (with_reducible rfl)
    try simp only [Act.put, List.getElem_toArray, List.getElem_cons_zero, List.getElem_cons_succ, List.setIfInBounds_toArray, List.set_cons_zero, List.set_cons_succ]
    refine wpAnyH_take (i := 15) (v := ?_) rfl (by kernel_rfl) (by kernel_rfl) (by kernel_rfl) (fun _ _ _ h => h) (Or.inl ⟨by rfl, ?_⟩) (by assumption) ?_
    rotate_left
    · intro w hSw
      (try dsimp only at hSw)
      go_simp
      try (with_reducible rfl)
    try simp only [Act.put, List.getElem_toArray, List.getElem_cons_zero, List.getElem_cons_succ, List.setIfInBounds_toArray, List.set_cons_zero, List.set_cons_succ]
    refine wpAnyH_ready (rs := [14]) (by kernel_rfl) (by simp) ?_
    refine AllReadyH.cons rfl (fun K hK => ?_) AllReadyH.nil
    go_simp
    refine hK.out _ _ ⟨x0, x1, s1, x2, hl4⟩ (fun hHeld2 => ?_)
    clear hK K hHeld
    have hHeld := hHeld2
    clear hHeld2
    try simp only [Act.put, List.getElem_toArray, List.getElem_cons_zero, List.getElem_cons_succ, List.setIfInBounds_toArray, List.set_cons_zero, List.set_cons_succ]
    refine wpAnyH_ready (rs := [16]) (by kernel_rfl) (by simp) ?_
    refine AllReadyH.cons rfl (fun K hK => ?_) AllReadyH.nil
    refine step_app_r (by rfl) (.tmp 31) (.tmp 32) 29 rfl _ _ _ rfl rfl hrun ?_
    refine hK.out _ _ ⟨y0, y1, y2, y3, hl5⟩ (fun hHeld2 => ?_)
    clear hK K hHeld
    have hHeld := hHeld2
    clear hHeld2
    try simp only [Act.put, List.getElem_toArray, List.getElem_cons_zero, List.getElem_cons_succ, List.setIfInBounds_toArray, List.set_cons_zero, List.set_cons_succ]
    refine wpAnyH_take (i := 17) (v := ?_) rfl (by kernel_rfl) (by kernel_rfl) (by kernel_rfl) (fun _ _ _ h => h) (Or.inl ⟨by rfl, ?_⟩) (by assumption) ?_
    rotate_left
    · intro w hSw
      (try dsimp only at hSw)
      go_simp
      try (with_reducible rfl)
    try simp only [Act.put, List.getElem_toArray, List.getElem_cons_zero, List.getElem_cons_succ, List.setIfInBounds_toArray, List.set_cons_zero, List.set_cons_succ]
    refine wpAnyH_take (i := 18) (v := ?_) rfl (by kernel_rfl) (by kernel_rfl) (by kernel_rfl) (fun _ _ _ h => h) (Or.inl ⟨by rfl, ?_⟩) (by assumption) ?_
    rotate_left
    · intro w hSw
      (try dsimp only at hSw)
      go_simp
      try (with_reducible rfl)
    try simp only [Act.put, List.getElem_toArray, List.getElem_cons_zero, List.getElem_cons_succ, List.setIfInBounds_toArray, List.set_cons_zero, List.set_cons_succ]
    refine wpAnyH_ready (rs := [19]) (by kernel_rfl) (by simp) ?_
    refine AllReadyH.cons rfl (fun K hK => ?_) AllReadyH.nil
    go_simp
    refine hK.out _ _ ⟨z0, z1, z2, z3, hl6⟩ (fun hHeld2 => ?_)
    clear hK K hHeld
    have hHeld := hHeld2
    clear hHeld2
    try simp only [Act.put, List.getElem_toArray, List.getElem_cons_zero, List.getElem_cons_succ, List.setIfInBounds_toArray, List.set_cons_zero, List.set_cons_succ]
    refine wpAnyH_done (by kernel_rfl) ?_ _
    go_wp2
    go_end0
    have hgw : wc.grownBy w' e.v.ownBlock := by rw [HV.out, HN.out]; exact ⟨HG.out.os, HG.out.tape, HG.out.output, HG.out.size, HG.out.block⟩
    have hc2 := HHC.out.setv ys (.slice A' (N + l) c') HO.out hgw (by rw [List.length_append, HN.out, HLEN.out]; exact hnl)
    rw [HB.out] at hc2
    have hle := HHS.out.sle e HHE.out
    have hup := HHS.out.upd' HHE.out (e1 := ⟨e.k.more ys, b, .slice A' (N + l) c'⟩) rfl HB.out.symm hc2.1 (by simp [Blk.more]; omega) hc2.2 (fun g hg => by rw [HV.out, HN.out]; exact HBB.out g hg)
    rw [HHN.out] at hup
    exact ⟨rfl, _, hup.1, appB_eq HHS.out.rise HHE.out HHN.out _ _ HHOR.out, HHSC.out.trans hup.2⟩
end
end Go.Proofs.Ytfafonfphholmaa

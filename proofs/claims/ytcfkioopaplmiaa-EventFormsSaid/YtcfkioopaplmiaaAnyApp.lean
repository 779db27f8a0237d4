/-
  A region that draws, by an invariant, with one append in it onto a row of the call's own. No function of the program.
-/
import Derived.Test.YtcfkioopaplmiaaAnyReg
namespace Go.Proofs.Ytcfkioopaplmiaa
open Go.RowKit

/-- Small blocks stay as they are. -/
def Gr (w w' : World) : Prop := ∀ (b : Nat) (C : Array Value) (t : TypeId) (fr : Nat × Nat), w.heap[b]? = some (.cells C t fr) → C.size ≤ 20 → w'.heap[b]? = some (.cells C t fr)
/-- What an operation yields, ahead of the append (false) and behind it (true). -/
structure Yf where
  p : Bool → World → Value → Prop
  mono : ∀ {d w w' x}, Below w.heap.size w w' → p d w x → p d w' x
  app : ∀ {w w' x}, Gr w w' → p false w x → p true w' x
def Yf.c (v : Value) : Yf := ⟨fun _ _ x => x = v, fun _ h => h, fun _ h => h⟩
def Yf.any : Yf := ⟨fun _ _ _ => True, fun _ h => h, fun _ h => h⟩
theorem heap_later {w w' : World} {b : Nat} {o : Obj} (hb : Below w.heap.size w w') (h : w.heap[b]? = some o) : w'.heap[b]? = some o := by
  rw [← h]
  refine hb.block b ?_
  rcases Nat.lt_or_ge b w.heap.size with h9 | h9
  · exact h9
  · rw [Array.getElem?_eq_none h9] at h; cases h
/-- These few bytes, a block of their own. -/
def Yf.s (xs : List Int) (hs : xs.length ≤ 20) : Yf :=
  ⟨fun _ w x => ∃ (b : Nat) (t : TypeId) (fr : Nat × Nat), x = .slice (some ⟨b, 0, none⟩) xs.length xs.length ∧ w.heap[b]? = some (.cells (bts xs) t fr),
   fun hb ⟨b, t, fr, e, h⟩ => ⟨b, t, fr, e, heap_later hb h⟩, fun hg ⟨b, t, fr, e, h⟩ => ⟨b, t, fr, e, hg b _ t fr h (by simp [bts]; exact hs)⟩⟩
/-- The same in an element with a number. -/
def Yf.el (xs : List Int) (at' : Int) (hs : xs.length ≤ 20) : Yf :=
  ⟨fun _ w x => ∃ (b : Nat) (t : TypeId) (fr : Nat × Nat), x = .agg #[.slice (some ⟨b, 0, none⟩) xs.length xs.length, .int .i64 at'] ∧ w.heap[b]? = some (.cells (bts xs) t fr),
   fun hb ⟨b, t, fr, e, h⟩ => ⟨b, t, fr, e, heap_later hb h⟩, fun hg ⟨b, t, fr, e, h⟩ => ⟨b, t, fr, e, hg b _ t fr h (by simp [bts]; exact hs)⟩⟩
/-- A row of the call's own, till it is appended onto. -/
def Yf.own (B : Nat) (xs : List Int) : Yf :=
  ⟨fun d w x => d = false → ∃ (A : Option Addr) (c : Nat), x = .slice A xs.length c ∧ Own .u8 5 w B (.slice A xs.length c) xs,
   fun hb h hd => by obtain ⟨A, c, e, h⟩ := h hd; exact ⟨A, c, e, h.later hb⟩, fun _ _ hd => by cases hd⟩
/-- The same behind it. -/
def Yf.own' (B : Nat) (xs : List Int) : Yf :=
  ⟨fun d w x => d = true ∧ ∃ (A : Option Addr) (c : Nat), x = .slice A xs.length c ∧ Own .u8 5 w B (.slice A xs.length c) xs,
   fun hb ⟨hd, A, c, e, h⟩ => ⟨hd, A, c, e, h.later hb⟩, fun _ h => by cases h.1⟩
def Yf.el' (B : Nat) (xs : List Int) (at' : Int) : Yf :=
  ⟨fun d w x => d = true ∧ ∃ (A : Option Addr) (c : Nat), x = .agg #[.slice A xs.length c, .int .i64 at'] ∧ Own .u8 5 w B (.slice A xs.length c) xs,
   fun hb ⟨hd, A, c, e, h⟩ => ⟨hd, A, c, e, h.later hb⟩, fun _ h => by cases h.1⟩
/-- A list of bytes and numbers in a block. -/
structure TblAt (w : World) (g : Nat) (T : List (List Int × Nat)) : Prop where
  row : ∀ i, i < T.length → ∃ (A : Option Addr) (c : Nat), w.cell? ⟨g, i * 2, none⟩ = some (.slice A (T.getD i default).1.length c) ∧ w.cell? ⟨g, i * 2 + 1, none⟩ = some (.int .i64 ((T.getD i default).2 : Nat)) ∧
    Rd .u8 w A (T.getD i default).1 ∧ (A = none → c = 0 ∧ (T.getD i default).1.length = 0)
theorem TblAt.later {w w' : World} {g : Nat} {T : List (List Int × Nat)} (h : TblAt w g T) (hb : Below w.heap.size w w') : TblAt w' g T := ⟨fun i hi => by
  obtain ⟨A, c, h1, h2, h3, h4⟩ := h.row i hi
  exact ⟨A, c, cell_later hb h1, cell_later hb h2, h3.later hb, h4⟩⟩
def Yf.tbl (n : Nat) (T : List (List Int × Nat)) : Yf :=
  ⟨fun d w x => d = true ∧ ∃ g : Nat, x = .slice (some ⟨g, 0, none⟩) n n ∧ TblAt w g T,
   fun hb ⟨hd, g, e, h⟩ => ⟨hd, g, e, h.later hb⟩, fun _ h => by cases h.1⟩
/-- One of its elements as cells. -/
structure Be where
  A : Option Addr
  n : Nat
  c : Nat
  at' : Int
instance : Inhabited Be := ⟨⟨none, 0, 0, 0⟩⟩
def Be.cs (b : Be) : List Value := [.slice b.A b.n b.c, .int .i64 b.at']
def Be.val (b : Be) : Value := .agg #[.slice b.A b.n b.c, .int .i64 b.at']
def bes (bs : List Be) : List Value := bs.flatMap Be.cs
theorem bes_cons (b : Be) (bs : List Be) : bes (b :: bs) = b.cs ++ bes bs := by simp [bes]
theorem bes_len (bs : List Be) : (bes bs).length = bs.length * 2 := by
  induction bs with
  | nil => rfl
  | cons b bs ih => rw [bes_cons, List.length_append, ih, List.length_cons]; simp [Be.cs]; omega
theorem bes_get (bs : List Be) (i : Nat) (hi : i < bs.length) (j : Nat) (hj : j < 2) : (bes bs)[i * 2 + j]? = (bs.getD i default).cs[j]? := by
  induction bs generalizing i with
  | nil => simp at hi
  | cons b bs ih =>
    rw [bes_cons]
    have hl : b.cs.length = 2 := rfl
    cases i with
    | zero =>
      rw [Nat.zero_mul, Nat.zero_add, List.getElem?_append_left (by rw [hl]; exact hj)]
      rfl
    | succ i =>
      rw [List.getElem?_append_right (by rw [hl]; omega), hl, show (i + 1) * 2 + j - 2 = i * 2 + j by omega, ih i (by simpa using hi)]
      simp [List.getD]
theorem bes_flat (bs : List Be) : ((bs.map Be.val).flatMap fun v => v.cells.toList) = bes bs := by
  induction bs with
  | nil => rfl
  | cons b bs ih => rw [List.map_cons, List.flatMap_cons, ih, bes_cons]; rfl
theorem bes_cell (w : World) (bs : List Be) (t : TypeId) (i : Nat) (hi : i < bs.length) :
    (w.alloc (.cells (bes bs).toArray t)).cell? ⟨w.heap.size, i * 2, none⟩ = some (.slice (bs.getD i default).A (bs.getD i default).n (bs.getD i default).c) ∧
    (w.alloc (.cells (bes bs).toArray t)).cell? ⟨w.heap.size, i * 2 + 1, none⟩ = some (.int .i64 (bs.getD i default).at') := by
  have h := World.rangeAt_of_block (C := (bes bs).toArray) (t := t) (fr := (0, 0)) (heap_alloc_new w _) 0 (bes bs).length
  have h0 := h (i * 2 + 0) (.slice (bs.getD i default).A (bs.getD i default).n (bs.getD i default).c) (by
    simp only [Nat.zero_add, Array.toList_extract, List.extract_eq_take_drop]
    simp only [Nat.sub_zero, List.drop_zero, List.take_length]
    exact bes_get bs i hi 0 (by omega))
  have h1 := h (i * 2 + 1) (.int .i64 (bs.getD i default).at') (by
    simp only [Nat.zero_add, Array.toList_extract, List.extract_eq_take_drop]
    simp only [Nat.sub_zero, List.drop_zero, List.take_length]
    exact bes_get bs i hi 1 (by omega))
  simp only [Nat.zero_add] at h0 h1
  exact ⟨h0, h1⟩
/-- Elements that say what a list says. -/
def Bes (w : World) : List Be → List (List Int × Nat) → Prop
  | [], [] => True
  | b :: bs, p :: T => (b.n = p.1.length ∧ b.at' = ((p.2 : Nat) : Int) ∧ Rd .u8 w b.A p.1 ∧ (b.A = none → b.c = 0 ∧ p.1.length = 0)) ∧ Bes w bs T
  | _, _ => False
theorem Bes.get {w : World} : ∀ {bs : List Be} {T : List (List Int × Nat)}, Bes w bs T → bs.length = T.length ∧ ∀ i, i < T.length → (bs.getD i default).n = (T.getD i default).1.length ∧ (bs.getD i default).at' = (((T.getD i default).2 : Nat) : Int) ∧ Rd .u8 w (bs.getD i default).A (T.getD i default).1 ∧
    ((bs.getD i default).A = none → (bs.getD i default).c = 0 ∧ (T.getD i default).1.length = 0)
  | [], [], _ => ⟨rfl, fun i hi => absurd hi (by simp)⟩
  | b :: bs, p :: T, h => by
    obtain ⟨h1, h2⟩ := h
    obtain ⟨l, r⟩ := Bes.get h2
    refine ⟨by simp [l], fun i hi => ?_⟩
    cases i with
    | zero => simpa using h1
    | succ i => simpa using r i (by simpa using hi)
theorem tbl_of {w : World} {bs : List Be} {T : List (List Int × Nat)} (t : TypeId) (h : Bes w bs T) : TblAt (w.alloc (.cells (bes bs).toArray t)) w.heap.size T := by
  obtain ⟨l, r⟩ := h.get
  refine ⟨fun i hi => ?_⟩
  obtain ⟨h1, h2, h3, h4⟩ := r i hi
  obtain ⟨g1, g2⟩ := bes_cell w bs t i (by omega)
  exact ⟨(bs.getD i default).A, (bs.getD i default).c, by rw [g1, h1], by rw [g2, h2], h3.alloc _, h4⟩
/-- A block's bytes are read. -/
theorem rd_heap {w : World} {b : Nat} {xs : List Int} {t : TypeId} {fr : Nat × Nat} (h : w.heap[b]? = some (.cells (bts xs) t fr)) : Rd .u8 w (some ⟨b, 0, none⟩) xs := by
  refine .inr ⟨b, 0, rfl, fun i hi => ?_⟩
  have h2 := World.rangeAt_of_block h 0 xs.length
  have h3 := h2 i (.int .u8 (xs.getD i 0)) (by
    simp [bts, List.getD, hi, List.take_of_length_le])
  simpa using h3
theorem gr_of {w w' : World} {g n c : Nat} {B : Nat} {xs : List Int} (ho : Own .u8 5 w B (.slice (some ⟨g, 0, none⟩) n c) xs) (hl : 20 < xs.length) (hg : w.grownBy w' (some g)) : Gr w w' := by
  intro b C t fr h hC
  have hne : b ≠ g := by
    intro e
    subst e
    have hn : 0 < n := by
      obtain ⟨A', c', hv⟩ := ho.form
      injection hv with _ h2 _
      omega
    obtain ⟨g', hA, _, _, hxn, hcell, _⟩ := ho.block hn
    injection hA with hA
    injection hA with hA
    subst hA
    have h9 := hcell 20 (by omega)
    rw [World.cell?, h] at h9
    simp at h9
    have := (Array.getElem?_eq_some_iff.1 h9).1
    omega
  rw [← h]
  refine hg.block b ?_ (by simp; exact hne)
  rcases Nat.lt_or_ge b w.heap.size with h9 | h9
  · exact h9
  · rw [Array.getElem?_eq_none h9] at h; cases h

section
variable {P : Program} {ops : Array Oper} {Q : Exit → Act → World → Prop} {n c k : Nat} {t0 : Array Value} {ys : List Yf} {W0 : World} {listed : Array Bool} {a : Act} {w w' : World} {i : Nat} {v : Value}
/-- The invariant: k is the append. -/
abbrev AnyF (n c k : Nat) (t0 : Array Value) (ys : List Yf) (W0 : World) := AnyI n c t0 (fun l j w x => (ys.getD j Yf.any).p (l.getD k false) w x) (fun w => Below W0.heap.size W0 w)
theorem ex_lit2 {o : Oper} {ps : Array (Nat × Operand)} {k : Nat} {st et : TypeId} {z : Value} {by' : Nat} (ho : o.op = .buildSlice st k ps) (hu : P.underlying st = some (.slice et)) (hinfo : (P.info? et).map (fun i => (i.zero, i.size, i.bytes)) = some (some z, 2, by'))
    (bs : List Be) (hn : bs.length = k) (hpos : 0 < k) (hmost : k ≤ 1000) (hp : (ps.toList.map fun (i, x) => (i, a.eval x)) = ((bs.map Be.val).zipIdx 0).map fun x => (x.2, x.1)) :
    (execOp a.eval o).run P w = .ok (.value (.slice (some ⟨w.heap.size, 0, none⟩) k k)) (w.alloc (.cells (bes bs).toArray et)) := by
  obtain ⟨i, hi, hz0, hz2, hz3⟩ := info_parts hinfo
  have := run_buildSlice (P := P) w st et k (ps.map fun (i, x) => (i, a.eval x)) (bes bs).toArray i _ hu hi hz0 (by rw [hz2]; omega) (by rw [hz2]; omega) (by
    rw [hz2, Array.toList_map, hp, Great.fill_whole (by omega) (bs.map Be.val) _ (by
      intro v hv
      obtain ⟨m, _, rfl⟩ := List.mem_map.1 hv
      rfl) (by simp [hn])]
    rw [bes_flat])
  simp only [execOp, ho, Sem.run_bind, this, Result.andThen_ok, Sem.run_pure]
theorem ex_app {o : Oper} {s x : Operand} {v : Value} {A : Option Addr} {m c' B : Nat} {xs zs : List Int} (ho : o.op = .call { callee := .builtin .append, args := #[s, x], argTypes := #[22, 22] }) (hs : a.eval s = v) (hx : a.eval x = .slice A m c')
    (hown : Own .u8 5 w B v xs) (hm : zs.length = m) (hr : Rd .u8 w A zs) (hmax : xs.length + m ≤ 100000) (hB : B ≤ w.heap.size) :
    ∃ A' c'' w', (execOp a.eval o).run Try.prog w = .ok (.value (.slice A' (xs.length + m) c'')) w' ∧ Own .u8 5 w' B (.slice A' (xs.length + m) c'') (xs ++ zs) ∧ w.grownBy w' v.ownBlock := by
  obtain ⟨A', c'', w', hrun, h2, h3⟩ := run_app (P := Try.prog) w .u8 22 o.type 5 (.int .u8 0) 1 Try.underlying22 info_byte rfl B v xs hown A m c' zs hm hr (by unfold maxLen; omega) (by omega) hB
  refine ⟨A', c'', w', ?_, h2, h3⟩
  unfold execOp
  simp only [ho, resolve, invoke, builtin, Sem.run_bind, Sem.run_pure, Result.andThen_ok, List.map_toArray, List.map_cons, List.map_nil, hs, hx, hrun]
theorem AnyI.gof (h : AnyF n c k t0 ys W0 listed a w) {o : Oper} (ho : ops[i]? = some o) (hg : o.guard = none) (hd : o.dst = some (c + i)) (hi : i < n) (hk : i ≠ k) (hc : c + n ≤ t0.size)
    (hrun : (execOp a.eval o).run P w = .ok (.value v) w') (hy : (ys.getD i Yf.any).p (listed.getD k false) w' v) (hb : Below w.heap.size w w') :
    wpOp P ops Q i (fun a' w' => True ∧ AnyF n c k t0 ys W0 (listed.setIfInBounds i true) a' w') a w := by
  have hs : (listed.setIfInBounds i true).getD k false = listed.getD k false := by
    rw [getD_set, if_neg (fun e => hk e.1)]
  exact AnyI.step (S := fun _ => True) h ho hg hd hi hc hrun (by rw [hs]; exact hy) (Below.trans h.r (hb.mono h.r.size)) trivial (fun j x _ _ hx => by rw [hs]; exact (ys.getD j Yf.any).mono hb hx)
/-- The same, the operation out of the list: it is met written out. -/
theorem AnyI.gofl (h : AnyF n c k t0 ys W0 listed a w) {o : Oper} (ho : ops.toList[i]? = some o) (hg : o.guard = none) (hd : o.dst = some (c + i)) (hi : i < n) (hk : i ≠ k) (hc : c + n ≤ t0.size)
    (hrun : (execOp a.eval o).run P w = .ok (.value v) w') (hy : (ys.getD i Yf.any).p (listed.getD k false) w' v) (hb : Below w.heap.size w w') :
    wpOp P ops Q i (fun a' w' => True ∧ AnyF n c k t0 ys W0 (listed.setIfInBounds i true) a' w') a w :=
  AnyI.gof h (by simpa using ho) hg hd hi hk hc hrun hy hb
/-- The append itself. -/
theorem AnyI.goapp (h : AnyF n c k t0 ys W0 listed a w) {o : Oper} (ho : ops[k]? = some o) (hg : o.guard = none) (hd : o.dst = some (c + k)) (hi : k < n) (hc : c + n ≤ t0.size) (hnot : listed.getD k true = false)
    (hrun : (execOp a.eval o).run P w = .ok (.value v) w') (hy : (ys.getD k Yf.any).p true w' v) (hb : Below W0.heap.size W0 w') (hgr : Gr w w') :
    wpOp P ops Q k (fun a' w' => True ∧ AnyF n c k t0 ys W0 (listed.setIfInBounds k true) a' w') a w := by
  have hl : k < listed.size := by rw [h.ln]; exact hi
  have hs : (listed.setIfInBounds k true).getD k false = true := by
    rw [getD_set, if_pos ⟨rfl, hl⟩]
  have h0 : listed.getD k false = false := by
    simp [Array.getD, hl] at hnot ⊢
    exact hnot
  refine AnyI.step (S := fun _ => True) h ho hg hd hi hc hrun (by rw [hs]; exact hy) hb trivial (fun j x _ _ hx => ?_)
  rw [hs]
  rw [h0] at hx
  exact (ys.getD j Yf.any).app hgr hx
theorem AnyI.goapp2 (h : AnyF n c k t0 ys W0 listed a w) {o : Oper} (ho : ops[k]? = some o) (s x : Operand) (hop : o.op = .call { callee := .builtin .append, args := #[s, x], argTypes := #[22, 22] }) (hg : o.guard = none) (hd : o.dst = some (c + k)) (hi : k < n) (hc : c + n ≤ t0.size) (hnot : listed.getD k true = false)
    {A : Option Addr} {m c' : Nat} {xs zs : List Int} (hs : a.eval s = v) (hx : a.eval x = .slice A m c') (hown : Own .u8 5 w W0.heap.size v xs) (hm : zs.length = m) (hr : Rd .u8 w A zs) (hmax : xs.length + m ≤ 100000) (hgr : ∀ w', w.grownBy w' v.ownBlock → Gr w w')
    (hy : ∀ A' c'' w', Own .u8 5 w' W0.heap.size (.slice A' (xs.length + m) c'') (xs ++ zs) → (ys.getD k Yf.any).p true w' (.slice A' (xs.length + m) c'')) :
    wpOp Try.prog ops Q k (fun a' w' => True ∧ AnyF n c k t0 ys W0 (listed.setIfInBounds k true) a' w') a w := by
  obtain ⟨A', c'', w', hrun, h2, h3⟩ := ex_app (o := o) (w := w) hop hs hx hown hm hr hmax h.r.size
  exact AnyI.goapp h ho hg hd hi hc hnot hrun (hy A' c'' w' h2) (h.r.grown h3 h.r.size (fun g hg => (hown.lt g hg).1)) (hgr w' h3)
/-- A call. -/
theorem AnyI.gocall (h : AnyF n c k t0 ys W0 listed a w) {o : Oper} (ho : ops[i]? = some o) (hg : o.guard = none) (hd : o.dst = some (c + i)) (hi : i < n) (hk : i ≠ k) (hc : c + n ≤ t0.size) {f : FuncId} {args : Array Value} {E : Ending → World → Prop}
    (hrun : (execOp a.eval o).run P w = .ok (.enter f args) w) (hcall : Calls P f args w E) (hE : ∀ e w', E e w' → ∃ v, e = .returned v ∧ (ys.getD i Yf.any).p (listed.getD k false) w' v ∧ Below w.heap.size w w') :
    wpOp P ops Q i (fun a' w' => True ∧ AnyF n c k t0 ys W0 (listed.setIfInBounds i true) a' w') a w := by
  have hs : (listed.setIfInBounds i true).getD k false = listed.getD k false := by
    rw [getD_set, if_neg (fun e => hk e.1)]
  unfold wpOp
  rw [ho]
  simp only [Region.wanted, hg, if_true]
  refine .inl ?_
  unfold Oper.wp
  rw [hrun]
  simp only [Oper.upon]
  refine hcall.mono (fun e w' he => ?_)
  obtain ⟨v, rfl, hy, hb⟩ := hE e w' he
  simp only
  rw [hd]
  exact ⟨trivial, AnyI.put h hi hc (by rw [hs]; exact hy) (Below.trans h.r (hb.mono h.r.size)) (fun j x _ _ hx => by rw [hs]; exact (ys.getD j Yf.any).mono hb hx)⟩
theorem region_app {id : Nat} (n c k : Nat) (ys : List Yf) (W0 : World) (hm : P.follows .mixedOrders = true)
    (hc : c + n ≤ a.tmps.size) (hn : ops.size = n) (hel : elder ops = true) (hdf : a.defers = []) (hb : Below W0.heap.size W0 w)
    (hstep : ∀ t0 : Array Value, (∀ k, t0.getD k undef = a.tmps.getD k undef) → c + n ≤ t0.size → ∀ listed a' w' Q', AnyF n c k t0 ys W0 listed a' w' → ∀ i, i < n → listed.getD i true = false →
      (∀ o, ops[i]? = some o → ∀ e ∈ o.after, Region.binds .any e = true → listed.getD e.on false = true) → wpOp P ops Q' i (fun a'' w'' => True ∧ AnyF n c k t0 ys W0 (listed.setIfInBounds i true) a'' w'') a' w')
    (hdone : ∀ a' w', a'.tmps.size = a.tmps.size → a'.defers = [] → Below W0.heap.size W0 w' → (∀ k, k < c ∨ c + n ≤ k → a'.tmps.getD k undef = a.tmps.getD k undef) →
      (∀ j, j < n → ∃ d, (ys.getD j Yf.any).p d w' (a'.tmps.getD (c + j) undef)) → Q .normal a' w') : (Code.region id ops true).wp P Q a w := by
  refine wp_region_held_drew (S := fun _ => True) hm trivial (fun _ => ?_)
  refine wpAnyH_inv (AnyF n c k a.tmps ys W0) (fun listed a' w' i hI hi => ?_) (fun listed a' w' hI hr => ?_) _ _ _ _ (by simp) ?_
  · obtain ⟨h1, h2, h3⟩ := ready_spec hi
    exact hstep a.tmps (fun _ => rfl) hc listed a' w' Q hI i (by omega) h2 h3
  · have hall := ready_nil (by rw [hI.ln, hn]) (elder_spec hel) hr
    exact hdone a' w' hI.sz hI.df hI.r hI.old (fun j hj => ⟨_, hI.val j (hall j (by omega))⟩)
  · rw [hn]
    refine ⟨rfl, hdf, by simp, hb.drew, fun k _ => rfl, fun j hj => ?_⟩
    rw [Array.getD_eq_getD_getElem?, Array.getElem?_replicate] at hj
    split at hj <;> simp at hj
end
end Go.Proofs.Ytcfkioopaplmiaa

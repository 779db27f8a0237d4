/-
  A region that draws, by an invariant, where what each operation yields is said by a list ('Yv'). No function of the program.
-/
import Derived.Test.YtcfkioopaplmiaaEvLit
import Derived.Test.YtcfkioopaplmiaaLend
import Derived.Laws.BitsLemmas
namespace Go.Proofs.Ytcfkioopaplmiaa
open Go.RowKit

/-- What an operation yields: it stays so in later worlds. -/
structure Yv where
  p : World → Value → Prop
  mono : ∀ {w w' x}, Below w.heap.size w w' → p w x → p w' x
def Yv.c (v : Value) : Yv := ⟨fun _ x => x = v, fun _ h => h⟩
/-- These bytes, in a block. -/
def Yv.s (xs : List Int) : Yv := ⟨fun w x => ∃ b, x = .slice (some ⟨b, 0, none⟩) xs.length xs.length ∧ Rd .u8 w (some ⟨b, 0, none⟩) xs, fun hb ⟨b, e, h⟩ => ⟨b, e, h.later hb⟩⟩
/-- An event that may not be. -/
def Yv.e : Yv := ⟨fun w x => ∃ m : EvM, x = m.val ∧ m.at w ∧ (m.e.ok = false ∧ m.e.plainL.length ≤ 10000), fun hb ⟨m, e, h, o⟩ => ⟨m, e, EvAt.later h hb, o⟩⟩
/-- So many events that may not be. -/
def Yv.l (n : Nat) : Yv := ⟨fun w x => ∃ (b : Nat) (ms : List EvM), x = .slice (some ⟨b, 0, none⟩) n n ∧ ms.length = n ∧ Evs w (some ⟨b, 0, none⟩) ms ∧ ∀ m ∈ ms, m.e.ok = false ∧ m.e.plainL.length ≤ 10000,
  fun hb ⟨b, ms, e, l, h, o⟩ => ⟨b, ms, e, l, h.later hb, o⟩⟩
def Yv.any : Yv := ⟨fun _ _ => True, fun _ h => h⟩
theorem below_alloc (w : World) (o : Obj) : Below w.heap.size w (w.alloc o) := (Below.refl _ _).alloc (Nat.le_refl _) o

section
variable {P : Program} {ops : Array Oper} {Q : Exit → Act → World → Prop} {n c : Nat} {t0 : Array Value} {ys : List Yv} {W0 : World} {listed : Array Bool} {a : Act} {w w' : World} {i : Nat} {v : Value}
/-- The invariant: 'AnyI' with a list. -/
abbrev AnyY (n c : Nat) (t0 : Array Value) (ys : List Yv) (W0 : World) := AnyI n c t0 (fun _ j w x => (ys.getD j Yv.any).p w x) (fun w => Below W0.heap.size W0 w)
theorem AnyI.go (h : AnyY n c t0 ys W0 listed a w) {o : Oper} (ho : ops[i]? = some o) (hg : o.guard = none) (hd : o.dst = some (c + i)) (hi : i < n) (hc : c + n ≤ t0.size)
    (hrun : (execOp a.eval o).run P w = .ok (.value v) w') (hy : (ys.getD i Yv.any).p w' v) (hb : Below w.heap.size w w') :
    wpOp P ops Q i (fun a' w' => True ∧ AnyY n c t0 ys W0 (listed.setIfInBounds i true) a' w') a w :=
  AnyI.step (S := fun _ => True) h ho hg hd hi hc hrun hy (Below.trans h.r (hb.mono h.r.size)) trivial (fun j _ _ _ hx => (ys.getD j Yv.any).mono hb hx)
theorem AnyI.begin (n c : Nat) (t0 : Array Value) (ys : List Yv) (W0 : World) (a : Act) (w : World) (ht : a.tmps = t0) (hd : a.defers = []) (hb : Below W0.heap.size W0 w) : AnyY n c t0 ys W0 (Array.replicate n false) a w :=
  ⟨by rw [ht], hd, by simp, hb, fun k _ => by rw [ht], fun j hj => by
    rw [Array.getD_eq_getD_getElem?, Array.getElem?_replicate] at hj
    split at hj <;> simp at hj⟩
theorem ex_move {o : Oper} {x : Operand} (ho : o.op = .move x) (h : a.eval x = v) : (execOp a.eval o).run P w = .ok (.value v) w := by
  simp [execOp, ho, h]
theorem ex_neg {o : Oper} {t : TypeId} {x : Operand} {k : Int} (ho : o.op = .unOp .neg t x) (h : a.eval x = .int .i64 k) (h1 : -9223372036854775808 < k) (h2 : k ≤ 9223372036854775807) : (execOp a.eval o).run P w = .ok (.value (.int .i64 (-k))) w := by
  have hw : IntKind.i64.wrap (-k) = -k := by rw [IntKind.wrap_i64]; omega
  unfold execOp
  rw [ho]
  simp only [h]
  go_simp
theorem ex_add {o : Oper} {t r : TypeId} {x y : Operand} {j k : Int} (ho : o.op = .binOp .add t x y r) (hx : a.eval x = .int .i64 j) (h : a.eval y = .int .i64 k) (h1 : -9223372036854775808 ≤ j + k) (h2 : j + k ≤ 9223372036854775807) : (execOp a.eval o).run P w = .ok (.value (.int .i64 (j + k))) w := by
  have hw : IntKind.i64.wrap (j + k) = j + k := by rw [IntKind.wrap_i64]; omega
  unfold execOp
  rw [ho]
  simp only [h, hx]
  go_simp
theorem ex_build {o : Oper} {t : TypeId} {ps : Array (Nat × Operand)} (ho : o.op = .build t ps) {pv : List (Nat × Value)} (hp : (ps.toList.map fun (i, x) => (i, a.eval x)) = pv) {cells : Array Value} (hc : P.built t pv = some cells) :
    (execOp a.eval o).run P w = .ok (.value (.agg cells)) w := by
  have := run_build (P := P) w t (ps.map fun (i, x) => (i, a.eval x)) cells (by rw [Array.toList_map, hp]; exact hc)
  simp only [execOp, ho, Sem.run_bind, this, Result.andThen_ok, Sem.run_pure]
theorem ex_litE {o : Oper} {ps : Array (Nat × Operand)} {k : Nat} (ho : o.op = .buildSlice 29 k ps) (ms : List EvM) (hn : ms.length = k) (hpos : 0 < k) (hmost : k ≤ 1000)
    (hp : (ps.toList.map fun (i, x) => (i, a.eval x)) = ((ms.map EvM.val).zipIdx 0).map fun x => (x.2, x.1)) :
    (execOp a.eval o).run Try.prog w = .ok (.value (.slice (some ⟨w.heap.size, 0, none⟩) k k)) (w.alloc (.cells (evs ms).toArray 28)) := by
  have := run_litE w (ps.map fun (i, x) => (i, a.eval x)) ms k hn hpos hmost (by rw [Array.toList_map]; exact hp)
  simp only [execOp, ho, Sem.run_bind, this, Result.andThen_ok, Sem.run_pure]
theorem ex_len {o : Oper} {t : TypeId} {x : Operand} {A : Option Addr} {n c : Nat} (ho : o.op = .call { callee := .builtin .len, args := #[x], argTypes := #[t] }) (hu : ∃ e, P.underlying t = some (.slice e)) (h : a.eval x = .slice A n c) :
    (execOp a.eval o).run P w = .ok (.value (.int .i64 n)) w := by
  obtain ⟨e, he⟩ := hu
  unfold execOp
  rw [ho]
  simp [resolve, invoke, builtin, h, Builtin.len_, run_underlying he]
  rfl
theorem ex_make {o : Oper} {x : Operand} {L : Nat} (ho : o.op = .makeSlice 22 x x) (h : a.eval x = .int .i64 (L : Int)) (hL : L ≤ 100000) :
    (execOp a.eval o).run Try.prog w = .ok (.value (.slice (some ⟨w.heap.size, 0, none⟩) L L)) (w.alloc (.cells (bts (List.replicate L 0)) 5)) := by
  have := run_make_row' (P := Try.prog) 22 5 (.int .u8 0) 1 Try.underlying22 info_byte rfl .i64 .i64 L (by omega) (by omega) w
  simp only [execOp, ho, h, Sem.run_bind, this, Result.andThen_ok, Sem.run_pure, madeByte, bts, List.map_replicate]
theorem bts_flat (xs : List Int) : ((xs.map (Value.int .u8)).flatMap fun v => v.cells.toList) = xs.map (Value.int .u8) := by
  induction xs with
  | nil => rfl
  | cons x xs ih => rw [List.map_cons, List.flatMap_cons, ih]; rfl
theorem ex_bytes {o : Oper} {ps : Array (Nat × Operand)} {k : Nat} (ho : o.op = .buildSlice 22 k ps) (xs : List Int) (hn : xs.length = k) (hpos : 0 < k) (hmost : k ≤ 1000)
    (hp : (ps.toList.map fun (i, x) => (i, a.eval x)) = ((xs.map (Value.int .u8)).zipIdx 0).map fun x => (x.2, x.1)) :
    (execOp a.eval o).run Try.prog w = .ok (.value (.slice (some ⟨w.heap.size, 0, none⟩) k k)) (w.alloc (.cells (bts xs) 5)) := by
  obtain ⟨i, hi, hz0, hz2, hz3⟩ := info_parts info_byte
  have := run_buildSlice (P := Try.prog) w 22 5 k (ps.map fun (i, x) => (i, a.eval x)) (bts xs) i _ Try.underlying22 hi hz0 (by rw [hz2]; omega) (by rw [hz2]; omega) (by
    rw [hz2, Array.toList_map, hp, Great.fill_whole (by omega) (xs.map (Value.int .u8)) _ (by
      intro v hv
      obtain ⟨m, _, rfl⟩ := List.mem_map.1 hv
      rfl) (by simp [hn])]
    unfold bts
    rw [bts_flat])
  simp only [execOp, ho, Sem.run_bind, this, Result.andThen_ok, Sem.run_pure]
theorem ex_load {o : Oper} {x : Operand} {b : Nat} {ty : TypeId} {cs : List Value} {d : TypeDesc} (ho : o.op = .load ty x) (h : a.eval x = .pointer (some ⟨b, 0, none⟩)) (hr : w.rangeAt b 0 cs)
    (hu : P.underlying ty = some d) (hd : d.isRow = true) (hi : (P.info? ty).map (·.size) = some cs.length) : (execOp a.eval o).run P w = .ok (.value (.agg cs.toArray)) w := by
  simp only [execOp, ho, h, Sem.run_bind, run_loadAt_mid w b 0 ty cs d hr hu hd hi, Result.andThen_ok, Sem.run_pure]
theorem ys_new (w : World) (xs : List Int) (n : Nat) (t : TypeId) (hn : n = xs.length) : (Yv.s xs).p (w.alloc (.cells (bts xs) t)) (.slice (some ⟨w.heap.size, 0, none⟩) n n) := by
  subst hn
  exact ⟨_, rfl, Rd.new w xs t⟩
end
end Go.Proofs.Ytcfkioopaplmiaa

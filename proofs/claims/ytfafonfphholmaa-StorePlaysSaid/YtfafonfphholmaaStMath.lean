/-
  A store's blocks as mathematics ('Blk'), in memory ('Ent', 'Cont', 'StoreAt'), and how a call turns the world ('Trn', 'SC'). No function of the program.
-/
import Derived.Test.YtfafonfphholmaaBase
import Derived.Maps.RangeWalk
import Derived.Maps.Ext
import Derived.Maps.OwnSet
import Derived.Deep.OwnRows
namespace Go.Proofs.Ytfafonfphholmaa
open Go.RowKit Go.Maps

/-- A block: its number, its bytes, how many of the first are synced, whether a crash leaves it. -/
structure Blk where
  n : Int
  xs : List Int
  s : Nat
  f : Bool

/-- A block, and where it lies: the content's block, the bytes' slice. -/
structure Ent where
  k : Blk
  b : Nat
  v : Value

/-- Laid into a list that rises. -/
def insB {α : Type} (key : α → Int) (x : α) : List α → List α
  | [] => [x]
  | y :: r => if key x < key y then x :: y :: r else y :: insB key x r

section
variable {α β : Type} {key : α → Int}
theorem insB_map {key' : β → Int} (g : α → β) (hk : ∀ a, key' (g a) = key a) (x : α) : ∀ l : List α, (insB key x l).map g = insB key' (g x) (l.map g)
  | [] => rfl
  | y :: r => by
    unfold insB
    simp only [List.map_cons, hk]
    split
    · rfl
    · rw [List.map_cons, insB_map g hk x r]
theorem mem_insB {x z : α} : ∀ {l : List α}, z ∈ insB key x l ↔ z = x ∨ z ∈ l
  | [] => by simp [insB]
  | y :: r => by
    unfold insB
    split
    · simp
    · simp only [List.mem_cons, mem_insB (l := r)]
      constructor
      · rintro (h | h | h)
        · exact .inr (.inl h)
        · exact .inl h
        · exact .inr (.inr h)
      · rintro (h | h | h)
        · exact .inr (.inl h)
        · exact .inl h
        · exact .inr (.inr h)
theorem length_insB (x : α) : ∀ l : List α, (insB key x l).length = l.length + 1
  | [] => rfl
  | y :: r => by
    unfold insB
    split
    · rfl
    · simp [length_insB x r]
/-- A relation that holds both ways between the new one and all others. -/
theorem pairwise_insB {R : α → α → Prop} {x : α} : ∀ {l : List α}, l.Pairwise R → (∀ y ∈ l, key y ≠ key x) → (∀ y ∈ l, key x < key y → R x y) → (∀ y ∈ l, key y < key x → R y x) → l.Pairwise (fun a b => key a < key b) → (insB key x l).Pairwise R
  | [], _, _, _, _, _ => by simp [insB]
  | y :: r, h, hne, h1, h2, hs => by
    unfold insB
    obtain ⟨ha, hb⟩ := List.pairwise_cons.1 h
    obtain ⟨sa, sb⟩ := List.pairwise_cons.1 hs
    split
    · rename_i hlt
      refine List.pairwise_cons.2 ⟨fun z hz => ?_, h⟩
      rcases List.mem_cons.1 hz with rfl | hz'
      · exact h1 z (by simp) hlt
      · exact h1 z hz (by have := sa z hz'; omega)
    · rename_i hlt
      refine List.pairwise_cons.2 ⟨fun z hz => ?_, pairwise_insB hb (fun z hz => hne z (by simp [hz])) (fun z hz => h1 z (by simp [hz])) (fun z hz => h2 z (by simp [hz])) sb⟩
      rcases mem_insB.1 hz with rfl | hz'
      · exact h2 y (by simp) (by have := hne y (by simp); omega)
      · exact ha z hz'
end

/-- How a step turns the world: blocks of F, and new ones. -/
structure Trn (w w' : World) (F : Nat → Prop) : Prop where
  os : w'.os = w.os
  tape : w'.tape = w.tape
  output : w'.output = w.output
  size : w.heap.size ≤ w'.heap.size
  block : ∀ k, k < w.heap.size → ¬ F k → w'.heap[k]? = w.heap[k]?

section
variable {w w1 w' w2 w0 : World} {F G F' F'' : Nat → Prop}
theorem Trn.refl (w : World) (F : Nat → Prop) : Trn w w F := ⟨rfl, rfl, rfl, Nat.le_refl _, fun _ _ _ => rfl⟩
theorem Trn.of_grown {row : Option Nat} (h : w.grownBy w' row) : Trn w w' (fun k => row = some k) := ⟨h.os, h.tape, h.output, h.size, fun k hk hn => h.block k hk (fun e => hn e.symm)⟩
theorem Trn.of_below (h : Below w.heap.size w w') : Trn w w' F := ⟨h.os, h.tape, h.output, h.size, fun k hk _ => h.block k hk⟩
theorem Trn.trans (h : Trn w w1 F) (h' : Trn w1 w2 F') (hF : ∀ k, F k → G k) (hG : ∀ k, k < w.heap.size → F' k → G k) : Trn w w2 G :=
  ⟨h'.os.trans h.os, h'.tape.trans h.tape, h'.output.trans h.output, Nat.le_trans h.size h'.size, fun k hk hn =>
    (h'.block k (Nat.lt_of_lt_of_le hk h.size) (fun e => hn (hG k hk e))).trans (h.block k hk (fun e => hn (hF k e)))⟩
theorem Trn.mono (h : Trn w w' F) (hF : ∀ k, k < w.heap.size → F k → G k) : Trn w w' G := ⟨h.os, h.tape, h.output, h.size, fun k hk hn => h.block k hk (fun e => hn (hF k hk e))⟩
theorem Trn.below {B : Nat} (h : Trn w w' F) (hB : B ≤ w.heap.size) (hF : ∀ k, F k → B ≤ k) : Below B w w' :=
  ⟨h.os, h.tape, h.output, h.size, fun k hk => h.block k (by omega) (fun e => by have := hF k e; omega)⟩
theorem Trn.rowIs {b : Nat} {t : TypeId} {n : Nat} {f : Nat → Value} (h : Trn w w' F) (hr : w.rowIs b t n f) (hb : ¬ F b) : w'.rowIs b t n f := hr.of_block (h.block b hr.lt hb)
theorem Trn.own {q : IntKind} {e : TypeId} {B : Nat} {v : Value} {xs : List Int} (h : Trn w w' F) (ho : Own q e w B v xs) (hb : ∀ g, v.ownBlock = some g → ¬ F g) : Own q e w' B v xs := by
  refine ⟨ho.1, ?_⟩
  rcases ho.2 with h2 | ⟨g, cap, cur, rfl, hB, hg, r⟩
  · exact .inl h2
  · exact .inr ⟨g, cap, cur, rfl, hB, by rw [h.block g (Array.getElem?_eq_some_iff.1 hg).1 (hb g rfl)]; exact hg, r⟩
theorem Trn.map {P : Program} {t : TypeId} {R : Value → Option (DataW Unit × List MemPlace)} {b n : Nat} {D : DataW Unit} (h : Trn w w' F) (ho : w.ownsMap P t R b n D) (hb : ¬ F b) : w'.ownsMap P t R b n D := by
  have hlt := ho.lt
  obtain ⟨es, clock, hh, r⟩ := ho
  exact ⟨es, clock, (h.block b hlt hb).trans hh, r⟩

/-- How a call on something whose blocks are F (behind it: F') turns the world. -/
structure SC (w w' : World) (F F' : Nat → Prop) : Prop where
  trn : Trn w w' F
  sub : ∀ k, F' k → F k ∨ w.heap.size ≤ k
theorem SC.trans (h : SC w w1 F F') (h' : SC w1 w2 F' F'') : SC w w2 F F'' :=
  ⟨h.trn.trans h'.trn (fun _ hk => hk) (fun k hk hF => (h.sub k hF).resolve_right (by omega)), fun k hk => by
    rcases h'.sub k hk with h1 | h1
    · exact h.sub k h1
    · exact .inr (Nat.le_trans h.trn.size h1)⟩
theorem SC.refl (w : World) (F : Nat → Prop) : SC w w F F := ⟨Trn.refl _ _, fun _ h => .inl h⟩
theorem SC.of_below (h : Below w.heap.size w w') : SC w w' F F := ⟨Trn.of_below h, fun _ h => .inl h⟩
theorem SC.below {B : Nat} (h : SC w w' F F') (hB : B ≤ w.heap.size) (hF : ∀ k, F k → B ≤ k) : Below B w w' := h.trn.below hB hF
/-- What lies elsewhere stays elsewhere. -/
theorem SC.out {g : Nat} (h : SC w w' F F') (hg : g < w.heap.size) (hn : ¬ F g) : ¬ F' g := fun e => (h.sub g e).elim hn (fun h1 => by omega)
end

/-- The cells of a content, and of a store. -/
def conF (v : Value) (s : Nat) (f : Bool) (i : Nat) : Value := if i = 0 then v else if i = 1 then .int .i64 (s : Nat) else .bool f
def stoF (m : Nat) (fu : Bool) (lf : Int) (de : Bool) (i : Nat) : Value := if i = 0 then .map (some m) else if i = 1 then .bool fu else if i = 2 then .int .i64 lf else .bool de

/-- Block e.b of w is a content with the bytes e.k.xs (from B on, the call's own). -/
structure Cont (w : World) (B : Nat) (e : Ent) : Prop where
  row : w.rowIs e.b 50 3 (conF e.v e.k.s e.k.f)
  own : Own .u8 5 w B e.v e.k.xs
  ge : B ≤ e.b
  len : e.k.xs.length ≤ 1099511627776
  num : 1 ≤ e.k.n ∧ e.k.n ≤ 9223372036854775807

/-- The blocks of an entry. -/
def Ent.foot (e : Ent) (k : Nat) : Prop := k = e.b ∨ e.v.ownBlock = some k

section
variable {w w' : World} {B : Nat} {e : Ent} {F : Nat → Prop}
theorem Cont.kept (h : Cont w B e) (ht : Trn w w' F) (hf : ∀ k, e.foot k → ¬ F k) : Cont w' B e :=
  ⟨ht.rowIs h.row (hf _ (.inl rfl)), ht.own h.own (fun g hg => hf g (.inr hg)), h.ge, h.len, h.num⟩
theorem Cont.foot_lt (h : Cont w B e) : ∀ k, e.foot k → B ≤ k ∧ k < w.heap.size := by
  rintro k (rfl | hk)
  · exact ⟨h.ge, h.row.lt⟩
  · exact h.own.lt k hk
theorem Cont.c0 (h : Cont w B e) : w.cell? ⟨e.b, 0, none⟩ = some e.v := World.rowIs.cell (i := 0) h.row (by omega)
theorem Cont.c1 (h : Cont w B e) : w.cell? ⟨e.b, 0 + 1, none⟩ = some (.int .i64 (e.k.s : Nat)) := World.rowIs.cell (i := 1) h.row (by omega)
theorem Cont.c2 (h : Cont w B e) : w.cell? ⟨e.b, 0 + 2, none⟩ = some (.bool e.k.f) := World.rowIs.cell (i := 2) h.row (by omega)
theorem Cont.fr (h : Cont w B e) (i : Nat) : w.frozen? ⟨e.b, i, none⟩ = false := World.rowIs.frozen h.row i
/-- The bytes' block is no content's. -/
theorem Cont.ne (h : Cont w B e) {b' : Nat} {t : TypeId} {n : Nat} {f : Nat → Value} (hr : w.rowIs b' t n f) (ht : 5 ≠ t) : e.v.ownBlock ≠ some b' := by
  rcases h.own.2 with ⟨hv, _⟩ | ⟨g, cap, cur, hv, _, hh, _⟩
  · rw [hv]; simp [Value.ownBlock]
  · rw [hv]
    intro he
    simp only [Value.ownBlock, Option.some.injEq] at he
    subst he
    obtain ⟨cur', hh', _⟩ := hr
    rw [hh] at hh'
    injection hh' with hh'
    injection hh' with _ ht'
    exact ht ht'
end

/-- How the map's elements read: a pointer as its block's number. -/
def ptr (v : Value) : Option (DataW Unit × List MemPlace) :=
  match v with
  | .pointer none => some (.lit (.int .i64 (-1)), [])
  | .pointer (some ⟨b, 0, none⟩) => some (.lit (.int .i64 (b : Nat)), [])
  | _ => none
def ptrV : Option Nat → Value
  | none => .pointer none
  | some b => .pointer (some ⟨b, 0, none⟩)
theorem ptr_inv (v : Value) (y : DataW Unit × List MemPlace) (h : ptr v = some y) : ∃ c, v = ptrV c := by
  unfold ptr at h
  split at h
  · exact ⟨none, rfl⟩
  · exact ⟨some _, rfl⟩
  · cases h
theorem ptr_some {v : Value} {b : Nat} {ps : List MemPlace} (h : ptr v = some (.lit (.int .i64 (b : Nat)), ps)) : v = .pointer (some ⟨b, 0, none⟩) := by
  unfold ptr at h
  split at h
  · simp at h
  · simp at h; obtain ⟨h1, _⟩ := h; rw [Int.ofNat.inj h1]
  · cases h
theorem ptr_none {v : Value} {ps : List MemPlace} (h : ptr v = some (.lit (.int .i64 (-1)), ps)) : v = .pointer none := by
  unfold ptr at h
  split at h
  · rfl
  · simp at h
  · cases h

/-- The map as it reads. -/
def DL (L : List Ent) : DataW Unit := .map (L.map fun e => (.int .i64 e.k.n, .lit (.int .i64 (e.b : Nat))))

section
variable {L : List Ent}
theorem DL_size : Maps.size (DL L) = L.length := by simp [DL, Maps.size]
theorem DL_has (n : Int) : Maps.has (DL L) (.int .i64 n) = L.any (fun e => decide (e.k.n = n)) := by
  simp only [DL, Maps.has, List.any_map]
  congr 1
  funext e
  simp [Lit.sameKey]
theorem DL_at_none {n : Int} (h : ∀ e ∈ L, e.k.n ≠ n) (z : DataW Unit) : (DL L).atKey (.int .i64 n) z = z := by
  have : (L.map fun e => ((Lit.int .i64 e.k.n, DataW.lit (.int .i64 (e.b : Nat))) : Lit × DataW Unit)).find? (fun p => p.1.sameKey (.int .i64 n)) = none := by
    rw [List.find?_eq_none]
    intro p hp
    obtain ⟨e, he, rfl⟩ := List.mem_map.1 hp
    simp [Lit.sameKey, h e he]
  simp [DL, DataW.atKey, this]
theorem DL_at {e : Ent} (hs : L.Pairwise (fun x y => x.k.n < y.k.n)) (he : e ∈ L) (z : DataW Unit) : (DL L).atKey (.int .i64 e.k.n) z = .lit (.int .i64 (e.b : Nat)) := by
  have : ∀ l : List Ent, l.Pairwise (fun x y => x.k.n < y.k.n) → e ∈ l → (l.map fun e => ((Lit.int .i64 e.k.n, DataW.lit (.int .i64 (e.b : Nat))) : Lit × DataW Unit)).find? (fun p => p.1.sameKey (.int .i64 e.k.n)) = some (Lit.int .i64 e.k.n, DataW.lit (.int .i64 (e.b : Nat))) := by
    intro l
    induction l with
    | nil => intro _ h; cases h
    | cons y r ih =>
      intro hp hm
      obtain ⟨h1, h2⟩ := List.pairwise_cons.1 hp
      rcases List.mem_cons.1 hm with rfl | hm'
      · simp [Lit.sameKey]
      · have := h1 e hm'
        rw [List.map_cons, List.find?_cons_of_neg (by simp [Lit.sameKey]; omega)]
        exact ih h2 hm'
  simp [DL, DataW.atKey, this L hs he]
theorem DL_put {e : Ent} (h : ∀ x ∈ L, x.k.n ≠ e.k.n) : (DL L).put (.int .i64 e.k.n) (.lit (.int .i64 (e.b : Nat))) = DL (insB (·.k.n) e L) := by
  unfold DL
  simp only [DataW.put]
  rw [List.filter_eq_self.2 (fun p hp => by obtain ⟨x, hx, rfl⟩ := List.mem_map.1 hp; simp [Lit.sameKey, h x hx])]
  congr 1
  clear h
  induction L with
  | nil => rfl
  | cons y r ih =>
    unfold insB DataW.insert
    simp only [Lit.before]
    by_cases hlt : e.k.n < y.k.n
    · simp [hlt]
    · simp only [List.map_cons, hlt, decide_false, if_false, Bool.false_eq_true]
      rw [ih]
theorem DL_del (n : Int) : (DL L).del (.int .i64 n) = DL (L.filter fun e => decide (e.k.n ≠ n)) := by
  unfold DL
  simp only [DataW.del, List.filter_map]
  congr 2
  apply List.filter_congr
  intro e _
  simp [Lit.sameKey]
end

/-- What holds of a store: its block, its map, its entries, which share nothing. -/
structure StoreAt (w : World) (B p m : Nat) (L : List Ent) (fu : Bool) (lf : Int) (de : Bool) : Prop where
  row : w.rowIs p 46 4 (stoF m fu lf de)
  map : w.ownsMap Try.prog 3 ptr m L.length (DL L)
  each : ∀ e ∈ L, Cont w B e
  rise : L.Pairwise (fun x y => x.k.n < y.k.n)
  apart : L.Pairwise (fun x y => ∀ k, x.foot k → ¬ y.foot k)
  gep : B ≤ p
  gem : B ≤ m
  left : 0 ≤ lf
  many : L.length ≤ 1099511627776
  sle : ∀ e ∈ L, e.k.s ≤ e.k.xs.length

/-- The blocks of a store. -/
def Foot (p m : Nat) (L : List Ent) (k : Nat) : Prop := k = p ∨ k = m ∨ ∃ e ∈ L, e.foot k

section
variable {w w' : World} {B p m : Nat} {L : List Ent} {fu : Bool} {lf : Int} {de : Bool} {F : Nat → Prop}
theorem StoreAt.foot_lt (h : StoreAt w B p m L fu lf de) : ∀ k, Foot p m L k → B ≤ k ∧ k < w.heap.size := by
  rintro k (rfl | rfl | ⟨e, he, hk⟩)
  · exact ⟨h.gep, h.row.lt⟩
  · exact ⟨h.gem, h.map.lt⟩
  · exact (h.each e he).foot_lt k hk
theorem StoreAt.kept (h : StoreAt w B p m L fu lf de) (ht : Trn w w' F) (hf : ∀ k, Foot p m L k → ¬ F k) : StoreAt w' B p m L fu lf de :=
  ⟨ht.rowIs h.row (hf _ (.inl rfl)), ht.map h.map (hf _ (.inr (.inl rfl))), fun e he => (h.each e he).kept ht (fun k hk => hf k (.inr (.inr ⟨e, he, hk⟩))), h.rise, h.apart, h.gep, h.gem, h.left, h.many, h.sle⟩
theorem StoreAt.later (h : StoreAt w B p m L fu lf de) (hb : Below w.heap.size w w') : StoreAt w' B p m L fu lf de := h.kept (F := fun _ => False) (Trn.of_below hb) (fun _ _ h => h)
theorem StoreAt.drewN (h : StoreAt w B p m L fu lf de) (n : Nat) : StoreAt (w.drewN n) B p m L fu lf de := h.later ⟨rfl, rfl, rfl, Nat.le_refl _, fun _ _ => rfl⟩
theorem StoreAt.s0 (h : StoreAt w B p m L fu lf de) : w.cell? ⟨p, 0, none⟩ = some (.map (some m)) := World.rowIs.cell (i := 0) h.row (by omega)
theorem StoreAt.s1 (h : StoreAt w B p m L fu lf de) : w.cell? ⟨p, 0 + 1, none⟩ = some (.bool fu) := World.rowIs.cell (i := 1) h.row (by omega)
theorem StoreAt.s2 (h : StoreAt w B p m L fu lf de) : w.cell? ⟨p, 0 + 2, none⟩ = some (.int .i64 lf) := World.rowIs.cell (i := 2) h.row (by omega)
theorem StoreAt.s3 (h : StoreAt w B p m L fu lf de) : w.cell? ⟨p, 0 + 3, none⟩ = some (.bool de) := World.rowIs.cell (i := 3) h.row (by omega)
theorem StoreAt.fr (h : StoreAt w B p m L fu lf de) (i : Nat) : w.frozen? ⟨p, i, none⟩ = false := World.rowIs.frozen h.row i
/-- Its own block is no other one's of its blocks. -/
theorem StoreAt.p_ne (h : StoreAt w B p m L fu lf de) : p ≠ m ∧ ∀ e ∈ L, ¬ e.foot p := by
  obtain ⟨cur, hp, _⟩ := h.row
  constructor
  · rintro rfl
    obtain ⟨es, clock, hm, _⟩ := h.map
    rw [hp] at hm; cases hm
  · rintro e he (rfl | hk)
    · obtain ⟨cur', hp', _⟩ := (h.each e he).row
      rw [hp] at hp'
      injection hp' with hp'
      injection hp' with _ ht
      revert ht; decide
    · exact (h.each e he).ne h.row (by decide) hk
theorem StoreAt.m_ne (h : StoreAt w B p m L fu lf de) : ∀ e ∈ L, ¬ e.foot m := by
  obtain ⟨es, clock, hm, _⟩ := h.map
  rintro e he (rfl | hk)
  · obtain ⟨cur', hp', _⟩ := (h.each e he).row
    rw [hm] at hp'; cases hp'
  · rcases (h.each e he).own.2 with ⟨hv, _⟩ | ⟨g, cap, cur, hv, _, hh, _⟩
    · rw [hv] at hk; simp [Value.ownBlock] at hk
    · rw [hv] at hk
      simp only [Value.ownBlock, Option.some.injEq] at hk
      subst hk
      rw [hm] at hh; cases hh
theorem StoreAt.apart' (h : StoreAt w B p m L fu lf de) {x y : Ent} (hx : x ∈ L) (hy : y ∈ L) (hne : x.k.n ≠ y.k.n) : ∀ k, x.foot k → ¬ y.foot k := by
  have hp := h.apart
  have hr := h.rise
  clear h
  induction L with
  | nil => cases hx
  | cons z r ih =>
    obtain ⟨a1, a2⟩ := List.pairwise_cons.1 hp
    obtain ⟨b1, b2⟩ := List.pairwise_cons.1 hr
    rcases List.mem_cons.1 hx with rfl | hx'
    · rcases List.mem_cons.1 hy with rfl | hy'
      · exact absurd rfl hne
      · exact a1 y hy'
    · rcases List.mem_cons.1 hy with rfl | hy'
      · exact fun k hk hy => a1 x hx' k hy hk
      · exact ih hx' hy' a2 b2
theorem StoreAt.inj (h : StoreAt w B p m L fu lf de) {x y : Ent} (hx : x ∈ L) (hy : y ∈ L) (he : x.k.n = y.k.n) : x = y := by
  have hr := h.rise
  clear h
  induction L with
  | nil => cases hx
  | cons z r ih =>
    obtain ⟨b1, b2⟩ := List.pairwise_cons.1 hr
    rcases List.mem_cons.1 hx with rfl | hx'
    · rcases List.mem_cons.1 hy with rfl | hy'
      · rfl
      · have := b1 y hy'; omega
    · rcases List.mem_cons.1 hy with rfl | hy'
      · have := b1 x hx'; omega
      · exact ih hx' hy' b2
/-- A store into its own block. -/
theorem StoreAt.set (h : StoreAt w B p m L fu lf de) (i : Nat) (v : Value) (fu' : Bool) (lf' : Int) (de' : Bool) (hl : 0 ≤ lf') (hv : ∀ j, j < 4 → (if j = i then v else stoF m fu lf de j) = stoF m fu' lf' de' j) :
    StoreAt (w.setCell ⟨p, i, none⟩ v) B p m L fu' lf' de' := by
  obtain ⟨hpm, hpe⟩ := h.p_ne
  have ht : Trn w (w.setCell ⟨p, i, none⟩ v) (fun k => some p = some k) := Trn.of_grown (setCell_one w p i v)
  exact ⟨(h.row.set i v).congr hv, ht.map h.map (by simp; exact hpm), fun e he => (h.each e he).kept ht (fun k hk e1 => by cases e1; exact hpe e he hk), h.rise, h.apart, h.gep, h.gem, hl, h.many, h.sle⟩
/-- One entry is turned. -/
theorem StoreAt.upd (h : StoreAt w B p m L fu lf de) {e0 e1 : Ent} (he : e0 ∈ L) (hn : e1.k.n = e0.k.n) (hb : e1.b = e0.b) (hc : Cont w' B e1) (hle : e1.k.s ≤ e1.k.xs.length) (ht : Trn w w' e0.foot)
    (hf : ∀ g, e1.v.ownBlock = some g → e0.v.ownBlock = some g ∨ w.heap.size ≤ g) :
    StoreAt w' B p m (L.map fun e => if e.k.n = e0.k.n then e1 else e) fu lf de ∧ SC w w' (Foot p m L) (Foot p m (L.map fun e => if e.k.n = e0.k.n then e1 else e)) := by
  obtain ⟨hpm, hpe⟩ := h.p_ne
  have hme := h.m_ne
  have hf1 : ∀ k, e1.foot k → e0.foot k ∨ w.heap.size ≤ k := by
    rintro k (rfl | hk)
    · exact .inl (.inl hb)
    · rcases hf k hk with h1 | h1
      · exact .inl (.inr h1)
      · exact .inr h1
  have hDL : DL (L.map fun e => if e.k.n = e0.k.n then e1 else e) = DL L := by
    unfold DL
    rw [List.map_map]
    congr 1
    refine List.map_congr_left (fun e hem => ?_)
    by_cases hk : e.k.n = e0.k.n
    · have : e = e0 := h.inj hem he hk
      subst this
      simp [hn, hb]
    · simp [hk]
  have hother : ∀ e ∈ L, e.k.n ≠ e0.k.n → ∀ k, e.foot k → ¬ e1.foot k := fun e hem hk k h1 h2 => by
    rcases hf1 k h2 with h3 | h3
    · exact h.apart' hem he hk k h1 h3
    · have := ((h.each e hem).foot_lt k h1).2; omega
  refine ⟨⟨ht.rowIs h.row (hpe e0 he), by rw [hDL]; simpa using ht.map h.map (hme e0 he), ?_, ?_, ?_, h.gep, h.gem, h.left, by simpa using h.many, ?_⟩, ?_, ?_⟩
  · intro e hem
    obtain ⟨x, hx, rfl⟩ := List.mem_map.1 hem
    by_cases hk : x.k.n = e0.k.n
    · simpa [hk] using hc
    · simp only [hk, if_false]
      exact (h.each x hx).kept ht (h.apart' hx he hk)
  · rw [List.pairwise_map]
    refine h.rise.imp (fun {a b} hab => ?_)
    by_cases h1 : a.k.n = e0.k.n <;> by_cases h2 : b.k.n = e0.k.n <;> simp [h1, h2, hn] <;> omega
  · rw [List.pairwise_map]
    have := h.apart.imp_of_mem (S := fun a b => ∀ k, (if a.k.n = e0.k.n then e1 else a).foot k → ¬ (if b.k.n = e0.k.n then e1 else b).foot k) (l := L) ?_
    · exact this
    · intro a b ha hb' hab k
      by_cases h1 : a.k.n = e0.k.n
      · by_cases h2 : b.k.n = e0.k.n
        · have e2 := h.inj ha hb' (h1.trans h2.symm)
          subst e2
          exact absurd (Or.inl rfl) (hab a.b (.inl rfl))
        · simp only [h1, h2, if_true, if_false]
          exact fun ha1 hb1 => hother b hb' h2 k hb1 ha1
      · by_cases h2 : b.k.n = e0.k.n
        · simp only [h1, h2, if_true, if_false]
          exact hother a ha h1 k
        · simp only [h1, h2, if_false]
          exact hab k
  · intro e hem
    obtain ⟨x, hx, rfl⟩ := List.mem_map.1 hem
    by_cases hk : x.k.n = e0.k.n
    · simpa [hk] using hle
    · simpa [hk] using h.sle x hx
  · exact ht.mono (fun k _ hk => .inr (.inr ⟨e0, he, hk⟩))
  · rintro k (rfl | rfl | ⟨e, hem, hk⟩)
    · exact .inl (.inl rfl)
    · exact .inl (.inr (.inl rfl))
    · obtain ⟨x, hx, rfl⟩ := List.mem_map.1 hem
      by_cases h1 : x.k.n = e0.k.n
      · simp only [h1, if_true] at hk
        rcases hf1 k hk with h2 | h2
        · exact .inl (.inr (.inr ⟨e0, he, h2⟩))
        · exact .inr h2
      · simp only [h1, if_false] at hk
        exact .inl (.inr (.inr ⟨x, hx, hk⟩))
end
end Go.Proofs.Ytfafonfphholmaa

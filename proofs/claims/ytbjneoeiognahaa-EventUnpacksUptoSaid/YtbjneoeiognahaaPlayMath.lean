/-
  What is known while the statements' helps make a packet out of another one ('PP'). No function of the program.
-/
import Derived.Test.YtbjneoeiognahaaPktVar
import Derived.Test.YtbjneoeiognahaaRefSame
import Derived.Test.YtbjneoeiognahaaBase
namespace Go.Proofs.Ytbjneoeiognahaa
open Go.RowKit

/-- A packet whose numbers are ints, and whose bytes are few. -/
structure PkB (pk : Pkt) : Prop where
  byt : ∀ x ∈ pk.da, 0 ≤ x ∧ x < 256
  len : pk.da.length ≤ 80
  bk : -9223372036854775808 ≤ pk.k ∧ pk.k ≤ 9223372036854775807
  bp : -9223372036854775808 ≤ pk.pa ∧ pk.pa ≤ 9223372036854775807
  bn : -9223372036854775808 ≤ pk.nu ∧ pk.nu ≤ 9223372036854775807
  bo : -9223372036854775808 ≤ pk.ofn ∧ pk.ofn ≤ 9223372036854775807
  bf : -9223372036854775808 ≤ pk.fr ∧ pk.fr ≤ 9223372036854775807
  bs : -9223372036854775808 ≤ pk.se ∧ pk.se ≤ 9223372036854775807
  bl : -9223372036854775808 ≤ pk.li ∧ pk.li ≤ 9223372036854775807
/-- The packet that came in lies in block b; the one that is made in block q; the result in block z. -/
structure PP (w wx : World) (b z q : Nat) (p : Pkt) (A : Option Addr) (c : Nat) (pk : Pkt) (B : Option Addr) (d : Nat) : Prop where
  par : PktIn wx b p A c
  p0 : PktAt w p A c
  zr : PkV wx z Pkt.zero none 0
  v : PkV wx q pk B d
  own : Own .u8 5 wx w.heap.size (.slice B pk.da.length d) pk.da
  bd : PkB pk
  bel : Below w.heap.size w wx
  b0 : w.heap.size = b
  zq : z < q
  bq : b < q
  bz : b < z

section
variable {w wx w' : World} {b z q : Nat} {p : Pkt} {A : Option Addr} {c : Nat} {pk : Pkt} {B : Option Addr} {d : Nat}
set_option maxRecDepth 10000 in
theorem PP.later (h : PP w wx b z q p A c pk B d) (hb : Below wx.heap.size wx w') : PP w w' b z q p A c pk B d :=
  ⟨h.par.below hb (World.block_lt_of_cell? wx _ h.par.c0), h.p0, h.zr.later hb, h.v.later hb, h.own.later hb, h.bd, h.bel.trans (hb.mono h.bel.size), h.b0, h.zq, h.bq, h.bz⟩
set_option maxRecDepth 10000 in
theorem PP.drew (h : PP w wx b z q p A c pk B d) : PP w wx.drew b z q p A c pk B d := h.later (Below.refl _ _).drew
set_option maxRecDepth 10000 in
theorem cell_other {w w' : World} {g i q : Nat} (hg : w.grownBy w' (some q)) (hne : g ≠ q) {v : Value} (h : w.cell? ⟨g, i, none⟩ = some v) : w'.cell? ⟨g, i, none⟩ = some v := by
  have hl := World.block_lt_of_cell? w _ h
  rw [World.cell?_of_block (a := ⟨g, i, none⟩) (hg.block g hl (by simp; exact hne))]
  exact h
set_option maxRecDepth 10000 in
/-- A store into what is made. -/
theorem PP.store {i : Nat} {v : Value} {pk' : Pkt} {B' : Option Addr} {d' : Nat} (h : PP w wx b z q p A c pk B d) (hp : PkV (wx.setCell ⟨q, i, none⟩ v) q pk' B' d')
    (ho : Own .u8 5 wx w.heap.size (.slice B' pk'.da.length d') pk'.da) (hbd : PkB pk') : PP w (wx.setCell ⟨q, i, none⟩ v) b z q p A c pk' B' d' := by
  have hg := setCell_one wx q i v
  have hbq := h.bq
  have hzq := h.zq
  have hb0 := h.b0
  have hne : b ≠ q := by omega
  refine ⟨⟨cell_other hg hne h.par.c0, cell_other hg hne h.par.c1, cell_other hg hne h.par.c2, cell_other hg hne h.par.c3, cell_other hg hne h.par.c4, cell_other hg hne h.par.c5, cell_other hg hne h.par.c6, cell_other hg hne h.par.c7, cell_other hg hne h.par.c8⟩, h.p0, h.zr.kept hg (by omega), hp, ho.kept hg (own_not_row ho (by decide) h.v), hbd, h.bel.grown hg h.bel.size (by intro g e; simp at e; omega), h.b0, h.zq, h.bq, h.bz⟩
set_option maxRecDepth 10000 in
theorem PP.pat (h : PP w wx b z q p A c pk B d) : PktAt wx p A c := h.p0.later h.bel
set_option maxRecDepth 10000 in
theorem PkV.kin (h : PkV w q p A c) (x : Int) : PkV (w.setCell ⟨q, 0, none⟩ (.int .i64 x)) q { p with k := x } A c := h.setI fun j hj => by
  match j, hj with
  | 0, _ | 1, _ | 2, _ | 3, _ | 4, _ | 5, _ | 6, _ | 7, _ | 8, _ => rfl
set_option maxRecDepth 10000 in
theorem PkV.all (h : PkV w q p A c) (pk : Pkt) (B : Option Addr) (d : Nat) : PkV (w.setCells q 0 (pk.cs B d)) q pk B d :=
  (((((((((h.kin pk.k).pa pk.pa).nu pk.nu).ofn pk.ofn).frm pk.fr).dat pk.da B d).fin pk.fin).se pk.se).li pk.li)
set_option maxRecDepth 10000 in
/-- All fields are stored. -/
theorem PP.all (h : PP w wx b z q p A c pk B d) (pk' : Pkt) (B' : Option Addr) (d' : Nat) (ho : Own .u8 5 wx w.heap.size (.slice B' pk'.da.length d') pk'.da) (hbd : PkB pk') : PP w (wx.setCells q 0 (pk'.cs B' d')) b z q p A c pk' B' d' := by
  have hg := setCells_one q (pk'.cs B' d') 0 wx
  have hbq := h.bq
  have hzq := h.zq
  have hb0 := h.b0
  have hne : b ≠ q := by omega
  exact ⟨⟨cell_other hg hne h.par.c0, cell_other hg hne h.par.c1, cell_other hg hne h.par.c2, cell_other hg hne h.par.c3, cell_other hg hne h.par.c4, cell_other hg hne h.par.c5, cell_other hg hne h.par.c6, cell_other hg hne h.par.c7, cell_other hg hne h.par.c8⟩, h.p0, h.zr.kept hg (by omega), h.v.all pk' B' d', ho.kept hg (own_not_row ho (by decide) h.v), hbd, h.bel.grown hg h.bel.size (by intro g e; simp at e; omega), h.b0, h.zq, h.bq, h.bz⟩
set_option maxRecDepth 10000 in
theorem PkB.zero : PkB Pkt.zero := ⟨by intro x hx; simp [Pkt.zero] at hx, by decide, by decide, by decide, by decide, by decide, by decide, by decide, by decide⟩
set_option maxRecDepth 10000 in
theorem PkB.kin (h : PkB pk) {x : Int} (hx : -9223372036854775808 ≤ x ∧ x ≤ 9223372036854775807) : PkB { pk with k := x } := { h with bk := hx }
set_option maxRecDepth 10000 in
theorem PkB.pa (h : PkB pk) {x : Int} (hx : -9223372036854775808 ≤ x ∧ x ≤ 9223372036854775807) : PkB { pk with pa := x } := { h with bp := hx }
set_option maxRecDepth 10000 in
theorem PkB.nu (h : PkB pk) {x : Int} (hx : -9223372036854775808 ≤ x ∧ x ≤ 9223372036854775807) : PkB { pk with nu := x } := { h with bn := hx }
set_option maxRecDepth 10000 in
theorem PkB.ofn (h : PkB pk) {x : Int} (hx : -9223372036854775808 ≤ x ∧ x ≤ 9223372036854775807) : PkB { pk with ofn := x } := { h with bo := hx }
set_option maxRecDepth 10000 in
theorem PkB.frm (h : PkB pk) {x : Int} (hx : -9223372036854775808 ≤ x ∧ x ≤ 9223372036854775807) : PkB { pk with fr := x } := { h with bf := hx }
set_option maxRecDepth 10000 in
theorem PkB.se (h : PkB pk) {x : Int} (hx : -9223372036854775808 ≤ x ∧ x ≤ 9223372036854775807) : PkB { pk with se := x } := { h with bs := hx }
set_option maxRecDepth 10000 in
theorem PkB.li (h : PkB pk) {x : Int} (hx : -9223372036854775808 ≤ x ∧ x ≤ 9223372036854775807) : PkB { pk with li := x } := { h with bl := hx }
set_option maxRecDepth 10000 in
theorem PkB.fin (h : PkB pk) (x : Bool) : PkB { pk with fin := x } := { h with bk := h.bk }
set_option maxRecDepth 10000 in
theorem PkB.dat (h : PkB pk) {l : List Int} (hb : ∀ x ∈ l, 0 ≤ x ∧ x < 256) (hl : l.length ≤ 80) : PkB { pk with da := l } := { h with byt := hb, len := hl }
set_option maxRecDepth 10000 in
theorem mod_bd (x n : Int) (h1 : 1 ≤ n) (h2 : n ≤ 9223372036854775807) : -9223372036854775808 ≤ x % n ∧ x % n ≤ 9223372036854775807 := by
  have := Int.emod_nonneg x (show n ≠ 0 by omega)
  have := Int.emod_lt_of_pos x (show 0 < n by omega)
  omega
set_option maxRecDepth 10000 in
/-- A row of the call's own stays behind a store into what is made. -/
theorem PP.row {i : Nat} {v : Value} (h : PP w wx b z q p A c pk B d) {B0 : Nat} {u : Value} {xs : List Int} (ho : Own .u8 5 wx B0 u xs) : Own .u8 5 (wx.setCell ⟨q, i, none⟩ v) B0 u xs :=
  ho.kept (setCell_one wx q i v) (own_not_row ho (by decide) h.v)
set_option maxRecDepth 10000 in
/-- Behind a store of the result. -/
theorem PP.put (h : PP w wx b z q p A c pk B d) (vs : List Value) {u : Value} {xs : List Int} (ho : Own .u8 5 wx w.heap.size u xs) : Own .u8 5 (wx.setCells z 0 vs) w.heap.size u xs ∧ Below w.heap.size w (wx.setCells z 0 vs) := by
  have hg := setCells_one z vs 0 wx
  have hbz := h.bz
  have hb0 := h.b0
  exact ⟨ho.kept hg (own_not_row ho (by decide) h.zr), h.bel.grown hg h.bel.size (by intro g e; simp at e; omega)⟩
set_option maxRecDepth 10000 in
theorem PkV.res (h : PkV w q p A c) (pk' : Pkt) (B' : Option Addr) (d' : Nat) :
    (loadVar 58 ⟨q, 0, none⟩).run Try.prog (w.setCells q 0 (pk'.cs B' d')) = .ok (pk'.val B' d') (w.setCells q 0 (pk'.cs B' d')) :=
  run_loadVar_mid _ q 0 58 (pk'.cs B' d') _ (World.rangeAt_setCells_same w q 0 (pk'.cs B' d') h.there) Try.underlying58 rfl (by kernel_rfl)
end
end Go.Proofs.Ytbjneoeiognahaa

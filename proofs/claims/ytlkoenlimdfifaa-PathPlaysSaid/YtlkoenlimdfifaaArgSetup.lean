/-
  An argument that is a setup (haulierplay.Setup: seven numbers), by value; Config of it. What its reading says; a contract over the program.
-/
import Derived.Test.YtlkoenlimdfifaaMem
import Derived.Test.YtlkoenlimdfifaaRows
import Derived.Test.YtlkoenlimdfifaaWithin
import Derived.Deep.Slices
import Derived.ChangeSame
import Derived.ChangeArms
import Derived.OpenShut
import Derived.ChangeOld
import Derived.BigQuiet
import Derived.Lib.Hide
namespace Go.Proofs.Ytlkoenlimdfifaa
open Go.ChangeShapes Go.WideShapes Go.ChangeAt Go.RowKit

/-- A setup that came in. -/
structure Su where
  pa : Int
  bu : Int
  wi : Int
  ch : Int
  mo : Int
  fi : Int
  sc : Int
def Su.cs (s : Su) : List Value := [.int .i64 s.pa, .int .i64 s.bu, .int .i64 s.wi, .int .i64 s.ch, .int .i64 s.mo, .int .i64 s.fi, .int .i64 s.sc]
def Su.val (s : Su) : Value := .agg #[.int .i64 s.pa, .int .i64 s.bu, .int .i64 s.wi, .int .i64 s.ch, .int .i64 s.mo, .int .i64 s.fi, .int .i64 s.sc]

section
variable {H : Type} {enc : TypeId × Value → H} {w : World} {held : Bool}
set_option maxRecDepth 10000 in
theorem openSu_i {fuel : Nat} {v : Value} {x : DataW H × List MemPlace} (h : DataW.trod enc Try.prog w 0 (fun _ => true) held fuel 3 [v] = some x) : ∃ n, v = .int .i64 n := by
  obtain ⟨n, h0, _, _⟩ := DataW.trod_int Try.underlying3 h
  simp only [List.cons.injEq, and_true] at h0
  exact ⟨n, h0⟩
set_option maxRecDepth 10000 in
theorem open_setup {fuel : Nat} {cs : List Value} {x : DataW H × List MemPlace} (hl : cs.length = 7) (h : DataW.trod enc Try.prog w 0 (fun _ => true) held fuel 42 cs = some x) :
    ∃ s : Su, cs = s.cs := by
  obtain ⟨xs, k, hk, hxy, _, hxl, hf⟩ := DataW.trod_struct Try.underlying42 h
  have hxl9 : xs.length = 7 := hxl
  have some_ : ∀ i, i < 7 → ∃ z, xs[i]? = some z := fun i hi => ⟨_, List.getElem?_eq_getElem (by omega)⟩
  have ci : Try.prog.cellsOf 3 = 1 := by kernel_rfl
  match cs, hl with
  | [v0, v1, v2, v3, v4, v5, v6], _ =>
    have g0 := hf 0 _ rfl
    have g1 := hf 1 _ rfl
    have g2 := hf 2 _ rfl
    have g3 := hf 3 _ rfl
    have g4 := hf 4 _ rfl
    have g5 := hf 5 _ rfl
    have g6 := hf 6 _ rfl
    simp [ci] at g0 g1 g2 g3 g4 g5 g6
    obtain ⟨z0, e0⟩ := some_ 0 (by omega)
    obtain ⟨z1, e1⟩ := some_ 1 (by omega)
    obtain ⟨z2, e2⟩ := some_ 2 (by omega)
    obtain ⟨z3, e3⟩ := some_ 3 (by omega)
    obtain ⟨z4, e4⟩ := some_ 4 (by omega)
    obtain ⟨z5, e5⟩ := some_ 5 (by omega)
    obtain ⟨z6, e6⟩ := some_ 6 (by omega)
    obtain ⟨n0, rfl⟩ := openSu_i (g0.trans e0)
    obtain ⟨n1, rfl⟩ := openSu_i (g1.trans e1)
    obtain ⟨n2, rfl⟩ := openSu_i (g2.trans e2)
    obtain ⟨n3, rfl⟩ := openSu_i (g3.trans e3)
    obtain ⟨n4, rfl⟩ := openSu_i (g4.trans e4)
    obtain ⟨n5, rfl⟩ := openSu_i (g5.trans e5)
    obtain ⟨n6, rfl⟩ := openSu_i (g6.trans e6)
    exact ⟨⟨n0, n1, n2, n3, n4, n5, n6⟩, rfl⟩
end

/-- The configuration of a setup. -/
structure Cf where
  pa : Int
  bu : Int
  wi : Int
  ch : Int
  mo : Int
  fi : Int
  sc : Int
def Cf.val (s : Cf) : Value := .agg #[.int .i64 s.pa, .int .i64 s.bu, .int .i64 s.wi, .int .i64 s.ch, .int .i64 s.mo, .int .i64 s.fi, .int .i64 s.sc]
def Su.cf (s : Su) : Cf := ⟨1 + s.pa % 3, 1 + s.bu % 60, 1 + s.wi % 50, 1 + s.ch % 20, 1 + s.mo % 6, 1 + s.fi % 8, 1 + s.sc % 3⟩
/-- What holds of a configuration of a setup. -/
structure Cf.ok (c : Cf) : Prop where
  pa : 1 ≤ c.pa ∧ c.pa ≤ 3
  bu : 1 ≤ c.bu ∧ c.bu ≤ 60
  wi : 1 ≤ c.wi ∧ c.wi ≤ 50
  ch : 1 ≤ c.ch ∧ c.ch ≤ 20
  mo : 1 ≤ c.mo ∧ c.mo ≤ 6
  fi : 1 ≤ c.fi ∧ c.fi ≤ 8
  sc : 1 ≤ c.sc ∧ c.sc ≤ 3
theorem Su.cf_ok (s : Su) : s.cf.ok := by
  constructor <;> (simp only [Su.cf]; omega)
end Go.Proofs.Ytlkoenlimdfifaa

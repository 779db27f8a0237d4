/-
  The operations of EventForms' region of ten rows.
-/
import Derived.Test.YtcfkioopaplmiaaAnyApp
import Derived.Test.YtcfkioopaplmiaaEvFormsMath
namespace Go.Proofs.Ytcfkioopaplmiaa
open Go.RowKit

/-- What the operations of the region yield. -/
def formY (B : Nat) (A6 : Option Addr) (c6 : Nat) (P2 P3 : List Int) (at1 : Nat) : List Yf := [Yf.s [0] (by decide), Yf.el [0] 0 (by decide), Yf.s [9] (by decide), Yf.el [9] 0 (by decide), Yf.s [1] (by decide), Yf.el [1] 0 (by decide), Yf.s [1, 0] (by decide), Yf.el [1, 0] 0 (by decide), Yf.s [3, 0] (by decide), Yf.el [3, 0] 0 (by decide), Yf.s [7, 3] (by decide), Yf.el [7, 3] 0 (by decide), Yf.s [4, 9, 0, 0] (by decide), Yf.el [4, 9, 0, 0] 0 (by decide), Yf.s [6, 6, 6, 3] (by decide), Yf.el [6, 6, 6, 3] 3 (by decide), Yf.c (.slice A6 P3.length c6), Yf.c (.int .i64 (P2.length : Int)), Yf.c (.slice A6 P2.length c6), Yf.c (.int .i64 (P2.length : Int)), Yf.c (.int .i64 (at1 : Int)), Yf.c (.agg #[.slice A6 P2.length c6, .int .i64 (at1 : Int)]), Yf.c (.slice A6 P3.length c6), Yf.own B P3, Yf.s [200] (by decide), Yf.own' B (P3 ++ [200]), Yf.c (.slice A6 P3.length c6), Yf.c (.int .i64 (P3.length : Int)), Yf.el' B (P3 ++ [200]) (P3.length : Int), Yf.tbl 10 (badT P2 at1 (P3 ++ [200]) P3.length), Yf.c (.int .i64 10), Yf.c (.int .i64 0)]
theorem ex_sub {P : Program} {a : Act} {w : World} {o : Oper} {t r : TypeId} {x y : Operand} {j k : Int} (ho : o.op = .binOp .sub t x y r) (hx : a.eval x = .int .i64 j) (h : a.eval y = .int .i64 k) (h1 : -9223372036854775808 ≤ j - k) (h2 : j - k ≤ 9223372036854775807) : (execOp a.eval o).run P w = .ok (.value (.int .i64 (j - k))) w := by
  have hw : IntKind.i64.wrap (j - k) = j - k := by rw [IntKind.wrap_i64]; omega
  unfold execOp
  rw [ho]
  simp only [h, hx]
  go_simp
theorem ex_cut {a : Act} {w : World} {o : Oper} {x y : Operand} {A : Option Addr} {n c m : Nat} (ho : o.op = .slice 22 x none (some y) none) (hx : a.eval x = .slice A n c) (hy : a.eval y = .int .i64 (m : Int)) (hm : m ≤ c) :
    (execOp a.eval o).run Try.prog w = .ok (.value (.slice A m c)) w := by
  have he := Try.underlying22
  obtain ⟨i, hi, hz0, hz2, hz3⟩ := info_parts info_byte
  have hs : (sizeOf 5).run Try.prog w = .ok 1 w := by simp [sizeOf, typeInfo, hi, hz2]
  unfold execOp
  rw [ho]
  simp only [hx, hy, Option.map_none, Option.map_some]
  go_simp
theorem ex_call {a : Act} {w : World} {o : Oper} {t : TypeId} {x : Operand} {v : Value} (ho : o.op = .call { callee := .value (.func 14), args := #[x], argTypes := #[t] }) (hx : a.eval x = v) : (execOp a.eval o).run Try.prog w = .ok (.enter 14 #[v]) w := by
  have hf : a.eval (.func 14) = .func (.func 14) #[] #[] := rfl
  unfold execOp
  rw [ho]
  simp only [resolve, invoke, hf, List.map_toArray, List.map_cons, List.map_nil, hx]
  go_simp
theorem info_row : (Try.prog.info? 37).map (fun i => (i.zero, i.size, i.bytes)) = some (some (.agg #[.slice none 0 0, .int .i64 0]), 2, 32) := by kernel_rfl
end Go.Proofs.Ytcfkioopaplmiaa


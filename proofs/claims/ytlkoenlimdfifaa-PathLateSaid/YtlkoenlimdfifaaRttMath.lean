/-
  A guess of how long an answer takes, as mathematics: what it holds, what a Sample and a Late make of it, what it waits. No program.
-/
import Derived.Test.YtlkoenlimdfifaaClamp
import Derived.IntWalk
namespace Go.Proofs.Ytlkoenlimdfifaa

/-- A guess: its first wait, whether there was a Sample, mean and spread, how many times it is late. -/
structure Gs where
  first : Int
  sm : Bool
  mean : Int
  spread : Int
  late : Nat

/-- What holds of every guess. -/
structure Gs.ok (g : Gs) : Prop where
  f1 : 1 ≤ g.first
  f2 : g.first ≤ 64
  m1 : 0 ≤ g.mean
  m2 : g.mean ≤ 1048576
  s1 : 0 ≤ g.spread
  s2 : g.spread ≤ 1048576
  l : g.late ≤ 6

def Gs.new (f : Int) : Gs := ⟨clampI f 1 64, false, 0, 0, 0⟩
/-- The spread behind a Sample of n. -/
def Gs.sp (g : Gs) (n : Int) : Int := if g.sm then (3 * g.spread + max (g.mean - n) (n - g.mean)) / 4 else n / 2
/-- The mean behind a Sample of n. -/
def Gs.mn (g : Gs) (n : Int) : Int := if g.sm then (7 * g.mean + n) / 8 else n
def Gs.sample (g : Gs) (n : Int) : Gs := ⟨g.first, true, g.mn (clampI n 0 1048576), g.sp (clampI n 0 1048576), 0⟩
def Gs.later (g : Gs) : Gs := ⟨g.first, g.sm, g.mean, g.spread, min (g.late + 1) 6⟩
/-- The wait, not late. -/
def Gs.base (g : Gs) : Int := if g.sm then clampI (g.mean + max 1 (4 * g.spread)) 1 64 else g.first
def Gs.wait (g : Gs) : Int := min (g.base * 2 ^ g.late) 64

theorem Gs.new_ok (f : Int) : (Gs.new f).ok := ⟨clampI_ge (by decide), clampI_le _ _ _, by simp [Gs.new], by simp [Gs.new], by simp [Gs.new], by simp [Gs.new], by simp [Gs.new]⟩
theorem Gs.sample_ok {g : Gs} (h : g.ok) (n : Int) : (g.sample n).ok := by
  have h1 := clampI_ge (n := n) (lo := 0) (hi := 1048576) (by decide)
  have h2 := clampI_le n 0 1048576
  have := h.m1
  have := h.m2
  have := h.s1
  have := h.s2
  refine ⟨h.f1, h.f2, ?_, ?_, ?_, ?_, Nat.zero_le _⟩
  all_goals simp only [Gs.sample, Gs.mn, Gs.sp]; split <;> omega
theorem Gs.later_ok {g : Gs} (h : g.ok) : g.later.ok := ⟨h.f1, h.f2, h.m1, h.m2, h.s1, h.s2, by simp only [Gs.later]; omega⟩
theorem Gs.base_ge {g : Gs} (h : g.ok) : 1 ≤ g.base ∧ g.base ≤ 64 := by
  unfold Gs.base
  split
  · exact ⟨clampI_ge (by decide), clampI_le _ _ _⟩
  · exact ⟨h.f1, h.f2⟩
theorem two_pow_le {k : Nat} (h : k ≤ 6) : (1 : Int) ≤ 2 ^ k ∧ (2 : Int) ^ k ≤ 64 := by
  have : k = 0 ∨ k = 1 ∨ k = 2 ∨ k = 3 ∨ k = 4 ∨ k = 5 ∨ k = 6 := by omega
  rcases this with rfl | rfl | rfl | rfl | rfl | rfl | rfl <;> decide
theorem Gs.prod {g : Gs} (h : g.ok) : 1 ≤ g.base * 2 ^ g.late ∧ g.base * 2 ^ g.late ≤ 4096 := by
  have ⟨b1, b2⟩ := Gs.base_ge h
  obtain ⟨b, hb⟩ : ∃ b, g.base = b := ⟨_, rfl⟩
  rw [hb] at b1 b2 ⊢
  have hl := h.l
  have : g.late = 0 ∨ g.late = 1 ∨ g.late = 2 ∨ g.late = 3 ∨ g.late = 4 ∨ g.late = 5 ∨ g.late = 6 := by omega
  rcases this with e | e | e | e | e | e | e <;> rw [e] <;> simp <;> omega
theorem Gs.wait_in {g : Gs} (h : g.ok) : 1 ≤ g.wait ∧ g.wait ≤ 64 := by
  have := Gs.prod h
  unfold Gs.wait
  omega
theorem Gs.wait_now {g : Gs} (h : g.ok) (hl : g.late = 0) : g.wait = g.base := by
  have := (Gs.base_ge h).2
  unfold Gs.wait
  rw [hl]
  simp
  omega
theorem Gs.wait_later {g : Gs} (_h : g.ok) (hl : g.late < 6) : g.later.wait = min (2 * g.wait) 64 := by
  have hb : g.later.base = g.base := rfl
  have hk : g.later.late = g.late + 1 := by simp only [Gs.later]; omega
  unfold Gs.wait
  rw [hb, hk]
  obtain ⟨b, hb⟩ : ∃ b, g.base = b := ⟨_, rfl⟩
  rw [hb]
  have : g.late = 0 ∨ g.late = 1 ∨ g.late = 2 ∨ g.late = 3 ∨ g.late = 4 ∨ g.late = 5 := by omega
  rcases this with e | e | e | e | e | e <;> rw [e] <;> simp <;> omega
end Go.Proofs.Ytlkoenlimdfifaa

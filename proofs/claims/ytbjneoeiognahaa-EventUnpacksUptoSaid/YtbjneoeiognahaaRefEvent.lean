/-
  What the document's RightEvent answers of an event: a contract over the program.
-/
import Derived.Test.YtbjneoeiognahaaEvMath
import Derived.Test.YtbjneoeiognahaaRefSame
import Derived.Test.YtbjneoeiognahaaRefRight
namespace Go.Proofs.Ytbjneoeiognahaa
open Go.RowKit

set_option maxRecDepth 10000 in
theorem EvIn.new (w : World) (e : Ev) (A : Option Addr) (c : Nat) (B : Option Addr) (d : Nat) (t : TypeId) : EvIn (w.alloc (.cells (e.cs A c B d).toArray t)) w.heap.size 0 e A c B d := evIn_of (Ev.range w e A c B d t)

set_option maxRecDepth 10000 in
set_option maxHeartbeats 2000000 in
theorem rightEv1 (n : Int) (da : List Int) (pk : Pkt) (A : Option Addr) (c : Nat) (B : Option Addr) (d : Nat) (w : World) (h : EvAt w ⟨1, n, da, pk⟩ A c B d) :
    Calls Try.prog 36 #[(⟨1, n, da, pk⟩ : Ev).val A c B d] w fun x w' => x = .returned (.bool (Ev.ok ⟨1, n, da, pk⟩)) ∧ Below w.heap.size w w' := by
  have hno := fun W (h : PktAt W pk B d) => nothing_any pk B d W h
  have hri := fun W => right_any pk B d W h.pk.reach
  have HP := Lib.hid h.pk
  have hl := h.reach
  have hin := EvIn.new w ⟨1, n, da, pk⟩ A c B d 60
  unfold Ev.cs at hin
  have he : Ev.ok ⟨1, n, da, pk⟩ = (decide (1 ≤ da.length) && decide (da.length ≤ 4096) && decide (n = 0) && pk.same Pkt.zero) := by simp [Ev.ok]
  rw [he]
  unfold Ev.val
  simp only at hl hin ⊢
  obtain ⟨m, hm⟩ : ∃ m, da.length = m := ⟨_, rfl⟩
  have HM := Lib.hid hm
  obtain ⟨z, hz⟩ : ∃ z, pk.same Pkt.zero = z := ⟨_, rfl⟩
  obtain ⟨y, hy⟩ : ∃ y, pk.ok = y := ⟨_, rfl⟩
  simp only [hz] at hno ⊢
  simp only [hy] at hri ⊢
  rw [hm] at hl hin ⊢
  obtain ⟨r, hr⟩ : ∃ r, (decide (1 ≤ m) && decide (m ≤ 4096) && decide (n = 0) && z) = r := ⟨_, rfl⟩
  rw [hr]
  have HR := Lib.hid hr
  have HNO := Lib.hid hno
  have HRI := Lib.hid hri
  have HI := Lib.hid hin
  unfold Pkt.val at HNO HRI
  clear hm hno h hr hri hz hy hin he
  have hb : ∀ o, Below w.heap.size w (w.alloc o) := fun o => (Below.refl _ _).alloc (Nat.le_refl _) _
  go_enter Try.func36, Try.ntmps36
  go_wp2_with fail
  · refine (HNO.out _ (HP.out.alloc _)).mono ?_
    rintro e w2 ⟨rfl, hb9⟩
    have HB9 := Lib.hid hb9
    clear hb9
    cases z
    · go_wp2_with fail
      go_ret
      exact ⟨ret_b (by rw [← HR.out]; simp), (hb _).trans (HB9.out.mono (by simp))⟩
    · go_wp2_with fail
      go_ret
      exact ⟨ret_b (by rw [← HR.out]; clear HNO HRI HP hb HR HI HB9; simp_all <;> (intros; omega)), (hb _).trans (HB9.out.mono (by simp))⟩
  all_goals (go_ret; exact ⟨ret_b (by rw [← HR.out]; clear HNO HRI HP hb HR HI; rw [Bool.eq_iff_iff]; simp_all <;> (intros; omega)), hb _⟩)

set_option maxRecDepth 10000 in
set_option maxHeartbeats 2000000 in
theorem rightEv2 (n : Int) (da : List Int) (pk : Pkt) (A : Option Addr) (c : Nat) (B : Option Addr) (d : Nat) (w : World) (h : EvAt w ⟨2, n, da, pk⟩ A c B d) :
    Calls Try.prog 36 #[(⟨2, n, da, pk⟩ : Ev).val A c B d] w fun x w' => x = .returned (.bool (Ev.ok ⟨2, n, da, pk⟩)) ∧ Below w.heap.size w w' := by
  have hno := fun W (h : PktAt W pk B d) => nothing_any pk B d W h
  have hri := fun W => right_any pk B d W h.pk.reach
  have HP := Lib.hid h.pk
  have hl := h.reach
  have hin := EvIn.new w ⟨2, n, da, pk⟩ A c B d 60
  unfold Ev.cs at hin
  have he : Ev.ok ⟨2, n, da, pk⟩ = (decide (1 ≤ da.length) && decide (da.length ≤ 4096) && decide (n = 0) && pk.same Pkt.zero) := by simp [Ev.ok]
  rw [he]
  unfold Ev.val
  simp only at hl hin ⊢
  obtain ⟨m, hm⟩ : ∃ m, da.length = m := ⟨_, rfl⟩
  have HM := Lib.hid hm
  obtain ⟨z, hz⟩ : ∃ z, pk.same Pkt.zero = z := ⟨_, rfl⟩
  obtain ⟨y, hy⟩ : ∃ y, pk.ok = y := ⟨_, rfl⟩
  simp only [hz] at hno ⊢
  simp only [hy] at hri ⊢
  rw [hm] at hl hin ⊢
  obtain ⟨r, hr⟩ : ∃ r, (decide (1 ≤ m) && decide (m ≤ 4096) && decide (n = 0) && z) = r := ⟨_, rfl⟩
  rw [hr]
  have HR := Lib.hid hr
  have HNO := Lib.hid hno
  have HRI := Lib.hid hri
  have HI := Lib.hid hin
  unfold Pkt.val at HNO HRI
  clear hm hno h hr hri hz hy hin he
  have hb : ∀ o, Below w.heap.size w (w.alloc o) := fun o => (Below.refl _ _).alloc (Nat.le_refl _) _
  go_enter Try.func36, Try.ntmps36
  go_wp2_with fail
  · refine (HNO.out _ (HP.out.alloc _)).mono ?_
    rintro e w2 ⟨rfl, hb9⟩
    have HB9 := Lib.hid hb9
    clear hb9
    cases z
    · go_wp2_with fail
      go_ret
      exact ⟨ret_b (by rw [← HR.out]; simp), (hb _).trans (HB9.out.mono (by simp))⟩
    · go_wp2_with fail
      go_ret
      exact ⟨ret_b (by rw [← HR.out]; clear HNO HRI HP hb HR HI HB9; simp_all <;> (intros; omega)), (hb _).trans (HB9.out.mono (by simp))⟩
  all_goals (go_ret; exact ⟨ret_b (by rw [← HR.out]; clear HNO HRI HP hb HR HI; rw [Bool.eq_iff_iff]; simp_all <;> (intros; omega)), hb _⟩)

set_option maxRecDepth 10000 in
set_option maxHeartbeats 2000000 in
theorem rightEv3 (n : Int) (da : List Int) (pk : Pkt) (A : Option Addr) (c : Nat) (B : Option Addr) (d : Nat) (w : World) (h : EvAt w ⟨3, n, da, pk⟩ A c B d) :
    Calls Try.prog 36 #[(⟨3, n, da, pk⟩ : Ev).val A c B d] w fun x w' => x = .returned (.bool (Ev.ok ⟨3, n, da, pk⟩)) ∧ Below w.heap.size w w' := by
  have hno := fun W (h : PktAt W pk B d) => nothing_any pk B d W h
  have hri := fun W => right_any pk B d W h.pk.reach
  have HP := Lib.hid h.pk
  have hl := h.reach
  have hin := EvIn.new w ⟨3, n, da, pk⟩ A c B d 60
  unfold Ev.cs at hin
  have he : Ev.ok ⟨3, n, da, pk⟩ = (decide (1 ≤ n) && decide (n ≤ 1048576) && decide (da.length = 0) && pk.same Pkt.zero) := by simp [Ev.ok]
  rw [he]
  unfold Ev.val
  simp only at hl hin ⊢
  obtain ⟨m, hm⟩ : ∃ m, da.length = m := ⟨_, rfl⟩
  have HM := Lib.hid hm
  obtain ⟨z, hz⟩ : ∃ z, pk.same Pkt.zero = z := ⟨_, rfl⟩
  obtain ⟨y, hy⟩ : ∃ y, pk.ok = y := ⟨_, rfl⟩
  simp only [hz] at hno ⊢
  simp only [hy] at hri ⊢
  rw [hm] at hl hin ⊢
  obtain ⟨r, hr⟩ : ∃ r, (decide (1 ≤ n) && decide (n ≤ 1048576) && decide (m = 0) && z) = r := ⟨_, rfl⟩
  rw [hr]
  have HR := Lib.hid hr
  have HNO := Lib.hid hno
  have HRI := Lib.hid hri
  have HI := Lib.hid hin
  unfold Pkt.val at HNO HRI
  clear hm hno h hr hri hz hy hin he
  have hb : ∀ o, Below w.heap.size w (w.alloc o) := fun o => (Below.refl _ _).alloc (Nat.le_refl _) _
  go_enter Try.func36, Try.ntmps36
  go_wp2_with fail
  refine (between_any _ _ _ _).mono ?_
  rintro e w' ⟨rfl, rfl⟩
  cases h1 : (decide (1 ≤ n) && decide (n ≤ 1048576))
  · go_wp2_with fail
    go_ret
    exact ⟨ret_b (by rw [← HR.out]; clear HNO HRI HP hb HR HI; rw [Bool.eq_iff_iff]; simp_all <;> (intros; omega)), hb _⟩
  · go_wp2_with fail
    · refine (HNO.out _ (HP.out.alloc _)).mono ?_
      rintro e w2 ⟨rfl, hb9⟩
      have HB9 := Lib.hid hb9
      clear hb9
      cases z
      · go_wp2_with fail
        go_ret
        exact ⟨ret_b (by rw [← HR.out]; simp), (hb _).trans (HB9.out.mono (by simp))⟩
      · go_wp2_with fail
        go_ret
        exact ⟨ret_b (by rw [← HR.out]; clear HNO HRI HP hb HR HI HB9; simp_all <;> (intros; omega)), (hb _).trans (HB9.out.mono (by simp))⟩
    all_goals (go_ret; exact ⟨ret_b (by rw [← HR.out]; clear HNO HRI HP hb HR HI; rw [Bool.eq_iff_iff]; simp_all <;> (intros; omega)), hb _⟩)

set_option maxRecDepth 10000 in
set_option maxHeartbeats 2000000 in
theorem rightEv4 (n : Int) (da : List Int) (pk : Pkt) (A : Option Addr) (c : Nat) (B : Option Addr) (d : Nat) (w : World) (h : EvAt w ⟨4, n, da, pk⟩ A c B d) :
    Calls Try.prog 36 #[(⟨4, n, da, pk⟩ : Ev).val A c B d] w fun x w' => x = .returned (.bool (Ev.ok ⟨4, n, da, pk⟩)) ∧ Below w.heap.size w w' := by
  have hno := fun W (h : PktAt W pk B d) => nothing_any pk B d W h
  have hri := fun W => right_any pk B d W h.pk.reach
  have HP := Lib.hid h.pk
  have hl := h.reach
  have hin := EvIn.new w ⟨4, n, da, pk⟩ A c B d 60
  unfold Ev.cs at hin
  have he : Ev.ok ⟨4, n, da, pk⟩ = (pk.ok && decide (n = 0) && decide (da.length = 0)) := by simp [Ev.ok]
  rw [he]
  unfold Ev.val
  simp only at hl hin ⊢
  obtain ⟨m, hm⟩ : ∃ m, da.length = m := ⟨_, rfl⟩
  have HM := Lib.hid hm
  obtain ⟨z, hz⟩ : ∃ z, pk.same Pkt.zero = z := ⟨_, rfl⟩
  obtain ⟨y, hy⟩ : ∃ y, pk.ok = y := ⟨_, rfl⟩
  simp only [hz] at hno ⊢
  simp only [hy] at hri ⊢
  rw [hm] at hl hin ⊢
  obtain ⟨r, hr⟩ : ∃ r, (y && decide (n = 0) && decide (m = 0)) = r := ⟨_, rfl⟩
  rw [hr]
  have HR := Lib.hid hr
  have HNO := Lib.hid hno
  have HRI := Lib.hid hri
  have HI := Lib.hid hin
  unfold Pkt.val at HNO HRI
  clear hm hno h hr hri hz hy hin he
  have hb : ∀ o, Below w.heap.size w (w.alloc o) := fun o => (Below.refl _ _).alloc (Nat.le_refl _) _
  go_enter Try.func36, Try.ntmps36
  go_wp2_with fail
  refine (HRI.out _).mono ?_
  rintro e w2 ⟨rfl, hb9⟩
  have hin := HI.out.below hb9 (by simp)
  have HB9 := Lib.hid ((hb _).trans (hb9.mono (by simp)))
  obtain ⟨c0, c1, c2, c3, c4, c5, c6, c7, c8, c9, c10, c11⟩ := hin
  simp only [Nat.zero_add, HM.out] at c0 c1 c2 c3 c4 c5 c6 c7 c8 c9 c10 c11
  clear hb9
  cases y
  · go_wp2_with fail
    go_ret
    exact ⟨ret_b (by rw [← HR.out]; simp), HB9.out⟩
  · go_wp2_with fail
    all_goals (go_ret; exact ⟨ret_b (by rw [← HR.out]; clear HNO HRI HP hb HR HI HB9 c0 c1 c2 c3 c4 c5 c6 c7 c8 c9 c10 c11; rw [Bool.eq_iff_iff]; simp_all <;> (intros; omega)), HB9.out⟩)

set_option maxRecDepth 10000 in
set_option maxHeartbeats 2000000 in
theorem rightEv5 (n : Int) (da : List Int) (pk : Pkt) (A : Option Addr) (c : Nat) (B : Option Addr) (d : Nat) (w : World) (h : EvAt w ⟨5, n, da, pk⟩ A c B d) :
    Calls Try.prog 36 #[(⟨5, n, da, pk⟩ : Ev).val A c B d] w fun x w' => x = .returned (.bool (Ev.ok ⟨5, n, da, pk⟩)) ∧ Below w.heap.size w w' := by
  have hno := fun W (h : PktAt W pk B d) => nothing_any pk B d W h
  have hri := fun W => right_any pk B d W h.pk.reach
  have HP := Lib.hid h.pk
  have hl := h.reach
  have hin := EvIn.new w ⟨5, n, da, pk⟩ A c B d 60
  unfold Ev.cs at hin
  have he : Ev.ok ⟨5, n, da, pk⟩ = (pk.ok && decide (n = 0) && decide (da.length = 0)) := by simp [Ev.ok]
  rw [he]
  unfold Ev.val
  simp only at hl hin ⊢
  obtain ⟨m, hm⟩ : ∃ m, da.length = m := ⟨_, rfl⟩
  have HM := Lib.hid hm
  obtain ⟨z, hz⟩ : ∃ z, pk.same Pkt.zero = z := ⟨_, rfl⟩
  obtain ⟨y, hy⟩ : ∃ y, pk.ok = y := ⟨_, rfl⟩
  simp only [hz] at hno ⊢
  simp only [hy] at hri ⊢
  rw [hm] at hl hin ⊢
  obtain ⟨r, hr⟩ : ∃ r, (y && decide (n = 0) && decide (m = 0)) = r := ⟨_, rfl⟩
  rw [hr]
  have HR := Lib.hid hr
  have HNO := Lib.hid hno
  have HRI := Lib.hid hri
  have HI := Lib.hid hin
  unfold Pkt.val at HNO HRI
  clear hm hno h hr hri hz hy hin he
  have hb : ∀ o, Below w.heap.size w (w.alloc o) := fun o => (Below.refl _ _).alloc (Nat.le_refl _) _
  go_enter Try.func36, Try.ntmps36
  go_wp2_with fail
  refine (HRI.out _).mono ?_
  rintro e w2 ⟨rfl, hb9⟩
  have hin := HI.out.below hb9 (by simp)
  have HB9 := Lib.hid ((hb _).trans (hb9.mono (by simp)))
  obtain ⟨c0, c1, c2, c3, c4, c5, c6, c7, c8, c9, c10, c11⟩ := hin
  simp only [Nat.zero_add, HM.out] at c0 c1 c2 c3 c4 c5 c6 c7 c8 c9 c10 c11
  clear hb9
  cases y
  · go_wp2_with fail
    go_ret
    exact ⟨ret_b (by rw [← HR.out]; simp), HB9.out⟩
  · go_wp2_with fail
    all_goals (go_ret; exact ⟨ret_b (by rw [← HR.out]; clear HNO HRI HP hb HR HI HB9 c0 c1 c2 c3 c4 c5 c6 c7 c8 c9 c10 c11; rw [Bool.eq_iff_iff]; simp_all <;> (intros; omega)), HB9.out⟩)

set_option maxRecDepth 10000 in
set_option maxHeartbeats 2000000 in
theorem rightEv6 (n : Int) (da : List Int) (pk : Pkt) (A : Option Addr) (c : Nat) (B : Option Addr) (d : Nat) (w : World) (h : EvAt w ⟨6, n, da, pk⟩ A c B d) :
    Calls Try.prog 36 #[(⟨6, n, da, pk⟩ : Ev).val A c B d] w fun x w' => x = .returned (.bool (Ev.ok ⟨6, n, da, pk⟩)) ∧ Below w.heap.size w w' := by
  have hno := fun W (h : PktAt W pk B d) => nothing_any pk B d W h
  have hri := fun W => right_any pk B d W h.pk.reach
  have HP := Lib.hid h.pk
  have hl := h.reach
  have hin := EvIn.new w ⟨6, n, da, pk⟩ A c B d 60
  unfold Ev.cs at hin
  have he : Ev.ok ⟨6, n, da, pk⟩ = (decide (n = 0) && decide (da.length = 0) && pk.same Pkt.zero) := by simp [Ev.ok]
  rw [he]
  unfold Ev.val
  simp only at hl hin ⊢
  obtain ⟨m, hm⟩ : ∃ m, da.length = m := ⟨_, rfl⟩
  have HM := Lib.hid hm
  obtain ⟨z, hz⟩ : ∃ z, pk.same Pkt.zero = z := ⟨_, rfl⟩
  obtain ⟨y, hy⟩ : ∃ y, pk.ok = y := ⟨_, rfl⟩
  simp only [hz] at hno ⊢
  simp only [hy] at hri ⊢
  rw [hm] at hl hin ⊢
  obtain ⟨r, hr⟩ : ∃ r, (decide (n = 0) && decide (m = 0) && z) = r := ⟨_, rfl⟩
  rw [hr]
  have HR := Lib.hid hr
  have HNO := Lib.hid hno
  have HRI := Lib.hid hri
  have HI := Lib.hid hin
  unfold Pkt.val at HNO HRI
  clear hm hno h hr hri hz hy hin he
  have hb : ∀ o, Below w.heap.size w (w.alloc o) := fun o => (Below.refl _ _).alloc (Nat.le_refl _) _
  go_enter Try.func36, Try.ntmps36
  go_wp2_with fail
  · refine (HNO.out _ (HP.out.alloc _)).mono ?_
    rintro e w2 ⟨rfl, hb9⟩
    have HB9 := Lib.hid hb9
    clear hb9
    cases z
    · go_wp2_with fail
      go_ret
      exact ⟨ret_b (by rw [← HR.out]; simp), (hb _).trans (HB9.out.mono (by simp))⟩
    · go_wp2_with fail
      go_ret
      exact ⟨ret_b (by rw [← HR.out]; clear HNO HRI HP hb HR HI HB9; simp_all <;> (intros; omega)), (hb _).trans (HB9.out.mono (by simp))⟩
  all_goals (go_ret; exact ⟨ret_b (by rw [← HR.out]; clear HNO HRI HP hb HR HI; rw [Bool.eq_iff_iff]; simp_all <;> (intros; omega)), hb _⟩)

set_option maxRecDepth 10000 in
set_option maxHeartbeats 2000000 in
theorem rightEv7 (n : Int) (da : List Int) (pk : Pkt) (A : Option Addr) (c : Nat) (B : Option Addr) (d : Nat) (w : World) (h : EvAt w ⟨7, n, da, pk⟩ A c B d) :
    Calls Try.prog 36 #[(⟨7, n, da, pk⟩ : Ev).val A c B d] w fun x w' => x = .returned (.bool (Ev.ok ⟨7, n, da, pk⟩)) ∧ Below w.heap.size w w' := by
  have hno := fun W (h : PktAt W pk B d) => nothing_any pk B d W h
  have hri := fun W => right_any pk B d W h.pk.reach
  have HP := Lib.hid h.pk
  have hl := h.reach
  have hin := EvIn.new w ⟨7, n, da, pk⟩ A c B d 60
  unfold Ev.cs at hin
  have he : Ev.ok ⟨7, n, da, pk⟩ = (inB n 2 && decide (da.length = 0) && pk.same Pkt.zero) := by simp [Ev.ok]
  rw [he]
  unfold Ev.val
  simp only at hl hin ⊢
  obtain ⟨m, hm⟩ : ∃ m, da.length = m := ⟨_, rfl⟩
  have HM := Lib.hid hm
  obtain ⟨z, hz⟩ : ∃ z, pk.same Pkt.zero = z := ⟨_, rfl⟩
  obtain ⟨y, hy⟩ : ∃ y, pk.ok = y := ⟨_, rfl⟩
  simp only [hz] at hno ⊢
  simp only [hy] at hri ⊢
  rw [hm] at hl hin ⊢
  obtain ⟨r, hr⟩ : ∃ r, (inB n 2 && decide (m = 0) && z) = r := ⟨_, rfl⟩
  rw [hr]
  have HR := Lib.hid hr
  have HNO := Lib.hid hno
  have HRI := Lib.hid hri
  have HI := Lib.hid hin
  unfold Pkt.val at HNO HRI
  clear hm hno h hr hri hz hy hin he
  have hb : ∀ o, Below w.heap.size w (w.alloc o) := fun o => (Below.refl _ _).alloc (Nat.le_refl _) _
  go_enter Try.func36, Try.ntmps36
  go_wp2_with fail
  refine (between_in _ _ _).mono ?_
  rintro e w' ⟨rfl, rfl⟩
  cases h1 : inB n 2
  · go_wp2_with fail
    go_ret
    exact ⟨ret_b (by rw [← HR.out]; clear HNO HRI HP hb HR HI; rw [Bool.eq_iff_iff]; simp_all <;> (intros; omega)), hb _⟩
  · go_wp2_with fail
    · refine (HNO.out _ (HP.out.alloc _)).mono ?_
      rintro e w2 ⟨rfl, hb9⟩
      have HB9 := Lib.hid hb9
      clear hb9
      cases z
      · go_wp2_with fail
        go_ret
        exact ⟨ret_b (by rw [← HR.out]; simp), (hb _).trans (HB9.out.mono (by simp))⟩
      · go_wp2_with fail
        go_ret
        exact ⟨ret_b (by rw [← HR.out]; clear HNO HRI HP hb HR HI HB9; simp_all <;> (intros; omega)), (hb _).trans (HB9.out.mono (by simp))⟩
    all_goals (go_ret; exact ⟨ret_b (by rw [← HR.out]; clear HNO HRI HP hb HR HI; rw [Bool.eq_iff_iff]; simp_all <;> (intros; omega)), hb _⟩)

set_option maxRecDepth 10000 in
set_option maxHeartbeats 2000000 in
theorem rightEv8 (n : Int) (da : List Int) (pk : Pkt) (A : Option Addr) (c : Nat) (B : Option Addr) (d : Nat) (w : World) (h : EvAt w ⟨8, n, da, pk⟩ A c B d) :
    Calls Try.prog 36 #[(⟨8, n, da, pk⟩ : Ev).val A c B d] w fun x w' => x = .returned (.bool (Ev.ok ⟨8, n, da, pk⟩)) ∧ Below w.heap.size w w' := by
  have hno := fun W (h : PktAt W pk B d) => nothing_any pk B d W h
  have hri := fun W => right_any pk B d W h.pk.reach
  have HP := Lib.hid h.pk
  have hl := h.reach
  have hin := EvIn.new w ⟨8, n, da, pk⟩ A c B d 60
  unfold Ev.cs at hin
  have he : Ev.ok ⟨8, n, da, pk⟩ = (inB n 2 && decide (da.length = 0) && pk.same Pkt.zero) := by simp [Ev.ok]
  rw [he]
  unfold Ev.val
  simp only at hl hin ⊢
  obtain ⟨m, hm⟩ : ∃ m, da.length = m := ⟨_, rfl⟩
  have HM := Lib.hid hm
  obtain ⟨z, hz⟩ : ∃ z, pk.same Pkt.zero = z := ⟨_, rfl⟩
  obtain ⟨y, hy⟩ : ∃ y, pk.ok = y := ⟨_, rfl⟩
  simp only [hz] at hno ⊢
  simp only [hy] at hri ⊢
  rw [hm] at hl hin ⊢
  obtain ⟨r, hr⟩ : ∃ r, (inB n 2 && decide (m = 0) && z) = r := ⟨_, rfl⟩
  rw [hr]
  have HR := Lib.hid hr
  have HNO := Lib.hid hno
  have HRI := Lib.hid hri
  have HI := Lib.hid hin
  unfold Pkt.val at HNO HRI
  clear hm hno h hr hri hz hy hin he
  have hb : ∀ o, Below w.heap.size w (w.alloc o) := fun o => (Below.refl _ _).alloc (Nat.le_refl _) _
  go_enter Try.func36, Try.ntmps36
  go_wp2_with fail
  refine (between_in _ _ _).mono ?_
  rintro e w' ⟨rfl, rfl⟩
  cases h1 : inB n 2
  · go_wp2_with fail
    go_ret
    exact ⟨ret_b (by rw [← HR.out]; clear HNO HRI HP hb HR HI; rw [Bool.eq_iff_iff]; simp_all <;> (intros; omega)), hb _⟩
  · go_wp2_with fail
    · refine (HNO.out _ (HP.out.alloc _)).mono ?_
      rintro e w2 ⟨rfl, hb9⟩
      have HB9 := Lib.hid hb9
      clear hb9
      cases z
      · go_wp2_with fail
        go_ret
        exact ⟨ret_b (by rw [← HR.out]; simp), (hb _).trans (HB9.out.mono (by simp))⟩
      · go_wp2_with fail
        go_ret
        exact ⟨ret_b (by rw [← HR.out]; clear HNO HRI HP hb HR HI HB9; simp_all <;> (intros; omega)), (hb _).trans (HB9.out.mono (by simp))⟩
    all_goals (go_ret; exact ⟨ret_b (by rw [← HR.out]; clear HNO HRI HP hb HR HI; rw [Bool.eq_iff_iff]; simp_all <;> (intros; omega)), hb _⟩)

set_option maxRecDepth 10000 in
set_option maxHeartbeats 2000000 in
theorem rightEvx (k n : Int) (da : List Int) (pk : Pkt) (A : Option Addr) (c : Nat) (B : Option Addr) (d : Nat) (w : World) (h1 : k ≠ 1) (h2 : k ≠ 2) (h3 : k ≠ 3) (h4 : k ≠ 4) (h5 : k ≠ 5) (h6 : k ≠ 6) (h7 : k ≠ 7) (h8 : k ≠ 8) :
    Calls Try.prog 36 #[(⟨k, n, da, pk⟩ : Ev).val A c B d] w fun x w' => x = .returned (.bool (Ev.ok ⟨k, n, da, pk⟩)) ∧ Below w.heap.size w w' := by
  have he : Ev.ok ⟨k, n, da, pk⟩ = false := by simp [Ev.ok, h1, h2, h3, h4, h5, h6, h7, h8]
  rw [he]
  unfold Ev.val
  simp only
  have q1 : (k == 1) = false := by simp [h1]
  have q2 : (k == 2) = false := by simp [h2]
  have q3 : (k == 3) = false := by simp [h3]
  have q4 : (k == 4) = false := by simp [h4]
  have q5 : (k == 5) = false := by simp [h5]
  have q6 : (k == 6) = false := by simp [h6]
  have q7 : (k == 7) = false := by simp [h7]
  have q8 : (k == 8) = false := by simp [h8]
  go_enter Try.func36, Try.ntmps36
  go_wp2_with fail
  go_ret
  exact ⟨rfl, (Below.refl _ _).alloc (Nat.le_refl _) _⟩

set_option maxRecDepth 10000 in
theorem rightEvent_any (e : Ev) (A : Option Addr) (c : Nat) (B : Option Addr) (d : Nat) (w : World) (h : EvAt w e A c B d) :
    Calls Try.prog 36 #[e.val A c B d] w fun x w' => x = .returned (.bool e.ok) ∧ Below w.heap.size w w' := by
  obtain ⟨k, n, da, pk⟩ := e
  by_cases h1 : k = 1
  · subst h1; exact rightEv1 n da pk A c B d w h
  by_cases h2 : k = 2
  · subst h2; exact rightEv2 n da pk A c B d w h
  by_cases h3 : k = 3
  · subst h3; exact rightEv3 n da pk A c B d w h
  by_cases h4 : k = 4
  · subst h4; exact rightEv4 n da pk A c B d w h
  by_cases h5 : k = 5
  · subst h5; exact rightEv5 n da pk A c B d w h
  by_cases h6 : k = 6
  · subst h6; exact rightEv6 n da pk A c B d w h
  by_cases h7 : k = 7
  · subst h7; exact rightEv7 n da pk A c B d w h
  by_cases h8 : k = 8
  · subst h8; exact rightEv8 n da pk A c B d w h
  exact rightEvx k n da pk A c B d w h1 h2 h3 h4 h5 h6 h7 h8
end Go.Proofs.Ytbjneoeiognahaa

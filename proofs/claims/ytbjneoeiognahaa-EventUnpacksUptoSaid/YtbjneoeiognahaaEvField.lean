/-
  What package event's field makes of an event that may be: contracts over the program.
-/
import Derived.Test.YtbjneoeiognahaaEvMath
import Derived.Test.YtbjneoeiognahaaSpanPack
import Derived.Test.YtbjneoeiognahaaPktPlain
namespace Go.Proofs.Ytbjneoeiognahaa
open Go.RowKit

set_option maxRecDepth 10000 in
theorem Ev.ok_kind0 {e : Ev} (h : e.ok = true) : e.k = 1 ∨ e.k = 2 ∨ e.k = 3 ∨ e.k = 4 ∨ e.k = 5 ∨ e.k = 6 ∨ e.k = 7 ∨ e.k = 8 := by
  unfold Ev.ok at h
  split at h
  · omega
  · split at h
    · omega
    · split at h
      · omega
      · split at h
        · omega
        · split at h
          · omega
          · simp at h

set_option maxRecDepth 10000 in
set_option maxHeartbeats 1000000 in
theorem fieldE1 (n : Int) (da : List Int) (pk : Pkt) (A : Option Addr) (c : Nat) (B : Option Addr) (d : Nat) (w : World) (h : EvAt w ⟨1, n, da, pk⟩ A c B d) (hok : Ev.ok ⟨1, n, da, pk⟩ = true) :
    Calls Try.prog 95 #[(⟨1, n, da, pk⟩ : Ev).val A c B d] w fun x w' => ∃ A' c', x = .returned (.slice A' (Ev.restL ⟨1, n, da, pk⟩).length c') ∧ Own .u8 5 w' w.heap.size (.slice A' (Ev.restL ⟨1, n, da, pk⟩).length c') (Ev.restL ⟨1, n, da, pk⟩) ∧ Below w.heap.size w w' := by
  have he : Ev.restL ⟨1, n, da, pk⟩ = putL da.length ++ da := by simp [Ev.restL]
  rw [he]
  have hl : da.length ≤ 140737488351232 := by simp [Ev.ok] at hok; omega
  have hR := Lib.hid h.rd
  clear h he hok
  unfold Ev.val
  have hb : ∀ o, Below w.heap.size w (w.alloc o) := fun o => (Below.refl _ _).alloc (Nat.le_refl _) _
  go_enter Try.func95, Try.ntmps95
  go_wp2_with fail
  refine (pack_any A da.length c da _ rfl (hR.out.alloc _) hl).mono ?_
  rintro x w1 ⟨A', c', rfl, ho, hb1⟩
  have HO := Lib.hid (ho.less (B' := w.heap.size) (by simp))
  have HB := Lib.hid ((hb _).trans (hb1.mono (by simp)))
  clear ho hb1
  go_wp2_with fail
  go_ret
  rw [List.length_append]
  exact ⟨A', c', rfl, HO.out, HB.out⟩

set_option maxRecDepth 10000 in
set_option maxHeartbeats 1000000 in
theorem fieldE2 (n : Int) (da : List Int) (pk : Pkt) (A : Option Addr) (c : Nat) (B : Option Addr) (d : Nat) (w : World) (h : EvAt w ⟨2, n, da, pk⟩ A c B d) (hok : Ev.ok ⟨2, n, da, pk⟩ = true) :
    Calls Try.prog 95 #[(⟨2, n, da, pk⟩ : Ev).val A c B d] w fun x w' => ∃ A' c', x = .returned (.slice A' (Ev.restL ⟨2, n, da, pk⟩).length c') ∧ Own .u8 5 w' w.heap.size (.slice A' (Ev.restL ⟨2, n, da, pk⟩).length c') (Ev.restL ⟨2, n, da, pk⟩) ∧ Below w.heap.size w w' := by
  have he : Ev.restL ⟨2, n, da, pk⟩ = putL da.length ++ da := by simp [Ev.restL]
  rw [he]
  have hl : da.length ≤ 140737488351232 := by simp [Ev.ok] at hok; omega
  have hR := Lib.hid h.rd
  clear h he hok
  unfold Ev.val
  have hb : ∀ o, Below w.heap.size w (w.alloc o) := fun o => (Below.refl _ _).alloc (Nat.le_refl _) _
  go_enter Try.func95, Try.ntmps95
  go_wp2_with fail
  refine (pack_any A da.length c da _ rfl (hR.out.alloc _) hl).mono ?_
  rintro x w1 ⟨A', c', rfl, ho, hb1⟩
  have HO := Lib.hid (ho.less (B' := w.heap.size) (by simp))
  have HB := Lib.hid ((hb _).trans (hb1.mono (by simp)))
  clear ho hb1
  go_wp2_with fail
  go_ret
  rw [List.length_append]
  exact ⟨A', c', rfl, HO.out, HB.out⟩

set_option maxRecDepth 10000 in
set_option maxHeartbeats 1000000 in
theorem fieldE3 (n : Int) (da : List Int) (pk : Pkt) (A : Option Addr) (c : Nat) (B : Option Addr) (d : Nat) (w : World) (_h : EvAt w ⟨3, n, da, pk⟩ A c B d) (_hok : Ev.ok ⟨3, n, da, pk⟩ = true) :
    Calls Try.prog 95 #[(⟨3, n, da, pk⟩ : Ev).val A c B d] w fun x w' => ∃ A' c', x = .returned (.slice A' (Ev.restL ⟨3, n, da, pk⟩).length c') ∧ Own .u8 5 w' w.heap.size (.slice A' (Ev.restL ⟨3, n, da, pk⟩).length c') (Ev.restL ⟨3, n, da, pk⟩) ∧ Below w.heap.size w w' := by
  have he : Ev.restL ⟨3, n, da, pk⟩ = putL n := by simp [Ev.restL]
  rw [he]
  have HP := Lib.hid (put_own n)
  clear _h he _hok
  unfold Ev.val
  have hb : ∀ o, Below w.heap.size w (w.alloc o) := fun o => (Below.refl _ _).alloc (Nat.le_refl _) _
  go_enter Try.func95, Try.ntmps95
  go_wp2_with fail
  refine (HP.out _).mono ?_
  rintro x w1 ⟨A', c', rfl, ho, hb1⟩
  have HO := Lib.hid (ho.less (B' := w.heap.size) (by simp))
  have HB := Lib.hid ((hb _).trans (hb1.mono (by simp)))
  clear ho hb1
  go_wp2_with fail
  go_ret
  exact ⟨A', c', rfl, HO.out, HB.out⟩

set_option maxRecDepth 10000 in
set_option maxHeartbeats 1000000 in
theorem fieldE4 (n : Int) (da : List Int) (pk : Pkt) (A : Option Addr) (c : Nat) (B : Option Addr) (d : Nat) (w : World) (h : EvAt w ⟨4, n, da, pk⟩ A c B d) (hok : Ev.ok ⟨4, n, da, pk⟩ = true) :
    Calls Try.prog 95 #[(⟨4, n, da, pk⟩ : Ev).val A c B d] w fun x w' => ∃ A' c', x = .returned (.slice A' (Ev.restL ⟨4, n, da, pk⟩).length c') ∧ Own .u8 5 w' w.heap.size (.slice A' (Ev.restL ⟨4, n, da, pk⟩).length c') (Ev.restL ⟨4, n, da, pk⟩) ∧ Below w.heap.size w w' := by
  have he : Ev.restL ⟨4, n, da, pk⟩ = pk.plainL := by simp [Ev.restL]
  rw [he]
  have hok2 : pk.ok = true := by simp [Ev.ok] at hok; exact hok.1.1
  have hpo : pk.plainO = pk.plainL := by unfold Pkt.plainO; rw [if_pos hok2]
  have hpl := fun W (h : PktAt W pk B d) => plain_any pk B d W h
  simp only [hpo, hok2, if_true] at hpl
  have HPL := Lib.hid hpl
  have HPK := Lib.hid h.pk
  unfold Pkt.val at HPL
  clear hpl hpo hok2
  clear h he hok
  unfold Ev.val
  have hb : ∀ o, Below w.heap.size w (w.alloc o) := fun o => (Below.refl _ _).alloc (Nat.le_refl _) _
  go_enter Try.func95, Try.ntmps95
  go_wp2_with fail
  refine (HPL.out _ (HPK.out.alloc _)).mono ?_
  rintro x w1 ⟨A', c', rfl, ho, hb1⟩
  have HO := Lib.hid (ho.less (B' := w.heap.size) (by simp))
  have HB := Lib.hid ((hb _).trans (hb1.mono (by simp)))
  clear ho hb1
  go_wp2_with fail
  go_ret
  exact ⟨A', c', rfl, HO.out, HB.out⟩

set_option maxRecDepth 10000 in
set_option maxHeartbeats 1000000 in
theorem fieldE5 (n : Int) (da : List Int) (pk : Pkt) (A : Option Addr) (c : Nat) (B : Option Addr) (d : Nat) (w : World) (h : EvAt w ⟨5, n, da, pk⟩ A c B d) (hok : Ev.ok ⟨5, n, da, pk⟩ = true) :
    Calls Try.prog 95 #[(⟨5, n, da, pk⟩ : Ev).val A c B d] w fun x w' => ∃ A' c', x = .returned (.slice A' (Ev.restL ⟨5, n, da, pk⟩).length c') ∧ Own .u8 5 w' w.heap.size (.slice A' (Ev.restL ⟨5, n, da, pk⟩).length c') (Ev.restL ⟨5, n, da, pk⟩) ∧ Below w.heap.size w w' := by
  have he : Ev.restL ⟨5, n, da, pk⟩ = pk.plainL := by simp [Ev.restL]
  rw [he]
  have hok2 : pk.ok = true := by simp [Ev.ok] at hok; exact hok.1.1
  have hpo : pk.plainO = pk.plainL := by unfold Pkt.plainO; rw [if_pos hok2]
  have hpl := fun W (h : PktAt W pk B d) => plain_any pk B d W h
  simp only [hpo, hok2, if_true] at hpl
  have HPL := Lib.hid hpl
  have HPK := Lib.hid h.pk
  unfold Pkt.val at HPL
  clear hpl hpo hok2
  clear h he hok
  unfold Ev.val
  have hb : ∀ o, Below w.heap.size w (w.alloc o) := fun o => (Below.refl _ _).alloc (Nat.le_refl _) _
  go_enter Try.func95, Try.ntmps95
  go_wp2_with fail
  refine (HPL.out _ (HPK.out.alloc _)).mono ?_
  rintro x w1 ⟨A', c', rfl, ho, hb1⟩
  have HO := Lib.hid (ho.less (B' := w.heap.size) (by simp))
  have HB := Lib.hid ((hb _).trans (hb1.mono (by simp)))
  clear ho hb1
  go_wp2_with fail
  go_ret
  exact ⟨A', c', rfl, HO.out, HB.out⟩

set_option maxRecDepth 10000 in
set_option maxHeartbeats 1000000 in
theorem fieldE6 (n : Int) (da : List Int) (pk : Pkt) (A : Option Addr) (c : Nat) (B : Option Addr) (d : Nat) (w : World) (_h : EvAt w ⟨6, n, da, pk⟩ A c B d) (_hok : Ev.ok ⟨6, n, da, pk⟩ = true) :
    Calls Try.prog 95 #[(⟨6, n, da, pk⟩ : Ev).val A c B d] w fun x w' => ∃ A' c', x = .returned (.slice A' (Ev.restL ⟨6, n, da, pk⟩).length c') ∧ Own .u8 5 w' w.heap.size (.slice A' (Ev.restL ⟨6, n, da, pk⟩).length c') (Ev.restL ⟨6, n, da, pk⟩) ∧ Below w.heap.size w w' := by
  have he : Ev.restL ⟨6, n, da, pk⟩ = [] := by simp [Ev.restL]
  rw [he]
  clear _h he _hok
  unfold Ev.val
  have hb : ∀ o, Below w.heap.size w (w.alloc o) := fun o => (Below.refl _ _).alloc (Nat.le_refl _) _
  go_enter Try.func95, Try.ntmps95
  go_wp2_with fail
  go_ret
  exact ⟨none, 0, rfl, Own.nil _ _ _ _, hb _⟩

set_option maxRecDepth 10000 in
set_option maxHeartbeats 1000000 in
theorem fieldE7 (n : Int) (da : List Int) (pk : Pkt) (A : Option Addr) (c : Nat) (B : Option Addr) (d : Nat) (w : World) (_h : EvAt w ⟨7, n, da, pk⟩ A c B d) (_hok : Ev.ok ⟨7, n, da, pk⟩ = true) :
    Calls Try.prog 95 #[(⟨7, n, da, pk⟩ : Ev).val A c B d] w fun x w' => ∃ A' c', x = .returned (.slice A' (Ev.restL ⟨7, n, da, pk⟩).length c') ∧ Own .u8 5 w' w.heap.size (.slice A' (Ev.restL ⟨7, n, da, pk⟩).length c') (Ev.restL ⟨7, n, da, pk⟩) ∧ Below w.heap.size w w' := by
  have he : Ev.restL ⟨7, n, da, pk⟩ = putL n := by simp [Ev.restL]
  rw [he]
  have HP := Lib.hid (put_own n)
  clear _h he _hok
  unfold Ev.val
  have hb : ∀ o, Below w.heap.size w (w.alloc o) := fun o => (Below.refl _ _).alloc (Nat.le_refl _) _
  go_enter Try.func95, Try.ntmps95
  go_wp2_with fail
  refine (HP.out _).mono ?_
  rintro x w1 ⟨A', c', rfl, ho, hb1⟩
  have HO := Lib.hid (ho.less (B' := w.heap.size) (by simp))
  have HB := Lib.hid ((hb _).trans (hb1.mono (by simp)))
  clear ho hb1
  go_wp2_with fail
  go_ret
  exact ⟨A', c', rfl, HO.out, HB.out⟩

set_option maxRecDepth 10000 in
set_option maxHeartbeats 1000000 in
theorem fieldE8 (n : Int) (da : List Int) (pk : Pkt) (A : Option Addr) (c : Nat) (B : Option Addr) (d : Nat) (w : World) (_h : EvAt w ⟨8, n, da, pk⟩ A c B d) (_hok : Ev.ok ⟨8, n, da, pk⟩ = true) :
    Calls Try.prog 95 #[(⟨8, n, da, pk⟩ : Ev).val A c B d] w fun x w' => ∃ A' c', x = .returned (.slice A' (Ev.restL ⟨8, n, da, pk⟩).length c') ∧ Own .u8 5 w' w.heap.size (.slice A' (Ev.restL ⟨8, n, da, pk⟩).length c') (Ev.restL ⟨8, n, da, pk⟩) ∧ Below w.heap.size w w' := by
  have he : Ev.restL ⟨8, n, da, pk⟩ = putL n := by simp [Ev.restL]
  rw [he]
  have HP := Lib.hid (put_own n)
  clear _h he _hok
  unfold Ev.val
  have hb : ∀ o, Below w.heap.size w (w.alloc o) := fun o => (Below.refl _ _).alloc (Nat.le_refl _) _
  go_enter Try.func95, Try.ntmps95
  go_wp2_with fail
  refine (HP.out _).mono ?_
  rintro x w1 ⟨A', c', rfl, ho, hb1⟩
  have HO := Lib.hid (ho.less (B' := w.heap.size) (by simp))
  have HB := Lib.hid ((hb _).trans (hb1.mono (by simp)))
  clear ho hb1
  go_wp2_with fail
  go_ret
  exact ⟨A', c', rfl, HO.out, HB.out⟩

set_option maxRecDepth 10000 in
theorem fieldE_any (e : Ev) (A : Option Addr) (c : Nat) (B : Option Addr) (d : Nat) (w : World) (h : EvAt w e A c B d) (hok : e.ok = true) :
    Calls Try.prog 95 #[e.val A c B d] w fun x w' => ∃ A' c', x = .returned (.slice A' e.restL.length c') ∧ Own .u8 5 w' w.heap.size (.slice A' e.restL.length c') e.restL ∧ Below w.heap.size w w' := by
  have hk := Ev.ok_kind0 hok
  obtain ⟨k, n, da, pk⟩ := e
  simp only at hk
  rcases hk with rfl | rfl | rfl | rfl | rfl | rfl | rfl | rfl
  · exact fieldE1 n da pk A c B d w h hok
  · exact fieldE2 n da pk A c B d w h hok
  · exact fieldE3 n da pk A c B d w h hok
  · exact fieldE4 n da pk A c B d w h hok
  · exact fieldE5 n da pk A c B d w h hok
  · exact fieldE6 n da pk A c B d w h hok
  · exact fieldE7 n da pk A c B d w h hok
  · exact fieldE8 n da pk A c B d w h hok
end Go.Proofs.Ytbjneoeiognahaa

/-
  What Read of the document's own inbox does: contract over the program.
-/
import Derived.Test.YtlljfinagjdihaaDocIn2
import Derived.Lib.AppendZerosOnto
namespace Go.Proofs.Ytlljfinagjdihaa
open Go.RowKit

theorem slice_lhI (A : Option Addr) (n c a b : Nat) (h : a ≤ b) (hb : b ≤ c) (W : World) : (Instr.sliceAt 22 (.slice A n c) (some (.int .i64 (a : Nat))) (some (.int .i64 (b : Nat))) none).run Try.prog W = .ok (.slice (if c = a then A else A.map (·.add a)) (b - a) (c - a)) W := by
  rw [run_sliceAt_slice _ _ _ _ _ _ Try.underlying22, run_slice_lh (P := Try.prog) W 22 A n c Try.underlying22 .i64 .i64 (a : Int) (b : Int) (by omega) (by omega) (by omega)]
  go_simp

/-- L is the k bytes from t on. -/
structure IsRead (g : Int → Option Int) (t : Int) (k : Nat) (L : List Int) : Prop where
  len : L.length = k
  at_ : ∀ j, j < k → g (t + (j : Int)) = some (L.getD j 0)
theorem IsRead.eq {g : Int → Option Int} {t : Int} {k : Nat} {L L' : List Int} (h : IsRead g t k L) (h' : IsRead g t k L') : L = L' := by
  refine list_eq_of_getD (h.len.trans h'.len.symm) fun j hj => ?_
  have := (h.at_ j (by rw [← h.len]; exact hj)).symm.trans (h'.at_ j (by rw [← h.len]; exact hj))
  injection this

theorem In.front_tk {s : In} (h : s.ok) {f : Int} (hf : Front s.g f) : s.tk ≤ f := by
  by_cases hc : s.tk ≤ f
  · exact hc
  · exact absurd hf.no (h.had f hf.ge (by omega))
theorem In.read_ok {s : In} (h : s.ok) {f : Int} (hf : Front s.g f) {k : Int} (h0 : 0 ≤ k) (hk : s.tk + k ≤ f) : (s.read k).ok := by
  have := h.t0
  exact ⟨h.w0, h.w1, by simp only [In.read]; omega, h.e0, h.e1, fun j hj => by have := h.rng j hj; simp only [In.read]; omega, h.end_, fun j h1 h2 => hf.all j h1 (by simp only [In.read] at h2; omega)⟩

section
variable {w : World} {B b : Nat} {bv gv : Value} {xs : List Int} {ps : List (Int × Int)} {s : In}
set_option maxHeartbeats 1000000 in
set_option maxRecDepth 10000 in
theorem diread_any (h : DiAt w B b bv gv xs ps s) (n f : Int) (hf : Front s.g f) (k : Nat) (hk : (k : Int) = min (max n 0) (f - s.tk)) (hb : f ≤ 1048576) :
    Calls Try.prog 22 #[.pointer (some ⟨b, 0, none⟩), .int .i64 n] w fun e w' => ∃ A' c' L, e = .returned (.slice A' k c') ∧ Own .u8 5 w' w.heap.size (.slice A' k c') L ∧ IsRead s.g s.tk k L ∧ DiAt w' B b bv gv xs ps (s.read k) ∧ SC w w' (Dif b bv gv) (Dif b bv gv) := by
  have htk := In.front_tk h.ok hf
  have ht0 := h.ok.t0
  have hrok := In.read_ok h.ok hf (k := k) (by omega) (by omega)
  have hfl : f ≤ xs.length := by
    by_cases h0 : f = 0
    · omega
    · have hg := hf.ge
      have hn := hf.all (f - 1) (by omega) (by omega)
      have hi : ins ps (f - 1) := by
        by_cases hc : ins ps (f - 1)
        · exact hc
        · exact absurd (h.rep.no _ hc) hn
      have := (h.rep.yes _ hi).2.1
      omega
  obtain ⟨Ab, cb, hbv⟩ := h.own.form
  obtain ⟨nb, hnb⟩ : ∃ n, xs.length = n := ⟨_, rfl⟩
  rw [hnb] at hbv hfl
  have hown := h.own
  rw [hbv] at hown
  have hcap := hown.cap
  obtain ⟨T, hT⟩ : ∃ T : Nat, s.tk = T := ⟨s.tk.toNat, by omega⟩
  obtain ⟨TK, hTK⟩ : ∃ T2 : Nat, T2 = T + k := ⟨_, rfl⟩
  obtain ⟨S, hS⟩ : ∃ S, (if cb = T then Ab else Ab.map (·.add T)) = S := ⟨_, rfl⟩
  have hsl := fun W => slice_lhI Ab nb cb T TK (by omega) (by omega) W
  rw [hS, show TK - T = k by omega] at hsl
  have HRY := Lib.hid (diready_any h f hf (by omega) 0)
  have HCL := Lib.hid (fun w => diclamp_any n 0 (f - s.tk) k w hk)
  have HAPP := Lib.hid (show ∀ W, Below w.heap.size w W → ∃ A' c' w' L, (Builtin.append_ #[22, 22] 22 #[.slice none 0 0, .slice S k (cb - T)]).run Try.prog W = .ok (.slice A' k c') w' ∧ Own .u8 5 w' w.heap.size (.slice A' k c') L ∧ IsRead s.g s.tk k L ∧ Below w.heap.size w w' from fun W hW => by
    have hr := ((hown.later hW).rd.drop T cb (by omega) (by omega)).take k
    rw [hS] at hr
    have hll : ((xs.drop T).take k).length = k := by rw [List.length_take, List.length_drop]; omega
    obtain ⟨A', c', w', hrun, ho, hg, _⟩ := run_append_f (P := Try.prog) W .u8 22 22 5 (.int .u8 0) 1 Try.underlying22 info_byteI rfl w.heap.size (.slice none 0 0) [] (Own.nil _ _ _ _) S k (cb - T) ((xs.drop T).take k) hll hr (by simp only [List.length_nil]; unfold maxLen; omega) (by simp only [List.length_nil]; omega) hW.size
    simp only [List.length_nil, Nat.zero_add, List.nil_append] at hrun ho
    refine ⟨A', c', w', _, hrun, ho, ⟨hll, fun j hj => ?_⟩, hW.trans ((Trn.of_grown hg).below hW.size (fun k hk => by simp [Value.ownBlock] at hk))⟩
    have hi : ins ps (s.tk + j) := by
      by_cases hc : ins ps (s.tk + j)
      · exact hc
      · exact absurd (h.rep.no _ hc) (hf.all _ (by omega) (by omega))
    rw [(h.rep.yes _ hi).2.2]
    congr 1
    have e : (s.tk + (j : Int)).toNat = T + j := by omega
    rw [e]
    simp [List.getD, hj])
  have H := Lib.hid h
  have HRK := Lib.hid hrok
  have HTT := Lib.hid hT
  have HW := Lib.hid (show wrap64 ((T : Int) + (k : Int)) = (TK : Int) from wrap_at (by omega) (by omega) (by omega))
  have HBV := Lib.hid hbv
  rw [hT] at HCL HRY
  have HTK := Lib.hid hTK
  clear h hf hk hb htk ht0 hrok hfl hbv hnb hown hcap hTK hS hT
  go_enter Try.func22, Try.ntmps22
  go_wp2_with fail
  refine HRY.out.mono ?_
  rintro e w1 ⟨rfl, k1, rfl⟩
  go_wp2_with fail
  refine (HCL.out _).mono ?_
  rintro e w2 ⟨rfl, rfl⟩
  go_wp2_with fail
  refine still_tail 15 (by kernel_rfl) (by kernel_rfl) ?_
  intro W hW
  have hbW : Below w.heap.size w W := by rw [hW]; exact ⟨rfl, rfl, rfl, Nat.le_refl _, fun _ _ => rfl⟩
  have hX := H.out.later hbW
  have d1 := hX.c1
  have d3 := hX.c3
  rw [HTT.out] at d1
  rw [HBV.out] at d3
  obtain ⟨A', c', w3, L, hrun, ho, hir, hb3⟩ := HAPP.out W hbW
  have hY := H.out.later hb3
  have e1 := hY.c1
  have f1 := hY.fr (0 + 1)
  rw [HTT.out] at e1
  have hs1 := hY.set1 HRK.out
  have hTK2 : (T : Int) + (k : Int) = (TK : Int) := by have := HTK.out; omega
  rw [HTT.out, hTK2] at hs1
  have HS1 := Lib.hid hs1
  have HO := Lib.hid (show Own .u8 5 (w3.setCell ⟨b, 0 + 1, none⟩ (.int .i64 (TK : Int))) w.heap.size (.slice A' k c') L from ho.kept (setCell_one _ _ _ _) (.inr (fun e => by have := (ho.lt b e).1; have := H.out.lt; omega)))
  have HIR := Lib.hid hir
  have HB3 := Lib.hid hb3
  have hwr := HW.out
  have hwr2 : IntKind.i64.wrap ((T : Int) + (k : Int)) = (TK : Int) := (IntWalk.i64_left _).trans hwr
  clear hW hbW hX hY ho hir hb3 hs1 HAPP HRY HCL hTK2
  simp only [List.take_succ_cons, List.take_zero, List.drop_succ_cons, List.drop_zero]
  repeat still_step
  refine wpStill_nil ?_
  go_wp2_with (at_builtin; refine Lib.wpList_append_run _ rfl _ _ _ _ rfl _ _ rfl rfl _ _ hrun ?_)
  go_ret
  exact ⟨A', c', L, rfl, HO.out, HIR.out, HS1.out, (sc_later HB3.out).trans (sc_dif _ _)⟩
end
end Go.Proofs.Ytlljfinagjdihaa

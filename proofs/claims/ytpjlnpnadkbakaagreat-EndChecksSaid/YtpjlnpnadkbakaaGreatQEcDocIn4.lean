/-
  DocIn4 · EnActs · EnTick · EnCome · EnPr · Lab.
-/
import Derived.Test.YtpjlnpnadkbakaaGreatQEcDocIn
import Derived.Lib.AppendZerosOnto
import Derived.Test.YtpjlnpnadkbakaaGreatQEcEnOk
import Derived.Test.YtpjlnpnadkbakaaGreatQEcClamp
namespace Go.Proofs.YtpjlnpnadkbakaaGreat
set_option maxRecDepth 10000
open Go.RowKit

theorem slice_lhI (A : Option Addr) (n c a b : Nat) (h : a ≤ b) (hb : b ≤ c) (W : World) : (Instr.sliceAt 29 (.slice A n c) (some (.int .i64 (a : Nat))) (some (.int .i64 (b : Nat))) none).run Tryz.prog W = .ok (.slice (if c = a then A else A.map (·.add a)) (b - a) (c - a)) W := by
  rw [run_sliceAt_slice _ _ _ _ _ _ Tryz.underlying29, run_slice_lh (P := Tryz.prog) W 29 A n c Tryz.underlying29 .i64 .i64 (a : Int) (b : Int) (by omega) (by omega) (by omega)]
  go_simp

/-- L is the k bytes from t on. -/
structure IsRead (g : Int → Option Int) (t : Int) (k : Nat) (L : List Int) : Prop where
  len : L.length = k
  at_ : ∀ j, j < k → g (t + (j : Int)) = some (L.getD j 0)
theorem IsRead.eq {g : Int → Option Int} {t : Int} {k : Nat} {L L' : List Int} (h : IsRead g t k L) (h' : IsRead g t k L') : L = L' := by
  refine list_eq_of_getD (h.len.trans h'.len.symm) fun j hj => ?_
  have := (h.at_ j (by rw [← h.len]; exact hj)).symm.trans (h'.at_ j (by rw [← h.len]; exact hj))
  injection this

theorem In.front_tk {s : In} (h : s.ok) {f : Int} (hf : Front s.g f) : s.tk ≤ f := by
  by_cases hc : s.tk ≤ f
  · exact hc
  · exact absurd hf.no (h.had f hf.ge (by omega))
theorem In.read_ok {s : In} (h : s.ok) {f : Int} (hf : Front s.g f) {k : Int} (h0 : 0 ≤ k) (hk : s.tk + k ≤ f) : (s.read k).ok := by
  have := h.t0
  exact ⟨h.w0, h.w1, by simp only [In.read]; omega, h.e0, h.e1, fun j hj => by have := h.rng j hj; simp only [In.read]; omega, h.end_, fun j h1 h2 => hf.all j h1 (by simp only [In.read] at h2; omega)⟩

section
variable {w : World} {B b : Nat} {bv gv : Value} {xs : List Int} {ps : List (Int × Int)} {s : In}
set_option maxHeartbeats 1000000 in
theorem diread_any (h : DiAt w B b bv gv xs ps s) (n f : Int) (hf : Front s.g f) (k : Nat) (hk : (k : Int) = min (max n 0) (f - s.tk)) (hb : f ≤ 1048576) :
    Calls Tryz.prog 109 #[.pointer (some ⟨b, 0, none⟩), .int .i64 n] w fun e w' => ∃ A' c' L, e = .returned (.slice A' k c') ∧ Own .u8 5 w' w.heap.size (.slice A' k c') L ∧ IsRead s.g s.tk k L ∧ DiAt w' B b bv gv xs ps (s.read k) ∧ SC w w' (Dif b bv gv) (Dif b bv gv) := by
  have htk := In.front_tk h.ok hf
  have ht0 := h.ok.t0
  have hrok := In.read_ok h.ok hf (k := k) (by omega) (by omega)
  have hfl : f ≤ xs.length := by
    by_cases h0 : f = 0
    · omega
    · have hg := hf.ge
      have hn := hf.all (f - 1) (by omega) (by omega)
      have hi : ins ps (f - 1) := by
        by_cases hc : ins ps (f - 1)
        · exact hc
        · exact absurd (h.rep.no _ hc) hn
      have := (h.rep.yes _ hi).2.1
      omega
  obtain ⟨Ab, cb, hbv⟩ := h.own.form
  obtain ⟨nb, hnb⟩ : ∃ n, xs.length = n := ⟨_, rfl⟩
  rw [hnb] at hbv hfl
  have hown := h.own
  rw [hbv] at hown
  have hcap := hown.cap
  obtain ⟨T, hT⟩ : ∃ T : Nat, s.tk = T := ⟨s.tk.toNat, by omega⟩
  obtain ⟨TK, hTK⟩ : ∃ T2 : Nat, T2 = T + k := ⟨_, rfl⟩
  obtain ⟨S, hS⟩ : ∃ S, (if cb = T then Ab else Ab.map (·.add T)) = S := ⟨_, rfl⟩
  have hsl := fun W => slice_lhI Ab nb cb T TK (by omega) (by omega) W
  rw [hS, show TK - T = k by omega] at hsl
  have HRY := Lib.hid (diready_any h f hf (by omega) 0)
  have HCL := Lib.hid (fun w => diclamp_any n 0 (f - s.tk) k w hk)
  have HAPP := Lib.hid (show ∀ W, Below w.heap.size w W → ∃ A' c' w' L, (Builtin.append_ #[29, 29] 29 #[.slice none 0 0, .slice S k (cb - T)]).run Tryz.prog W = .ok (.slice A' k c') w' ∧ Own .u8 5 w' w.heap.size (.slice A' k c') L ∧ IsRead s.g s.tk k L ∧ Below w.heap.size w w' from fun W hW => by
    have hr := ((hown.later hW).rd.drop T cb (by omega) (by omega)).take k
    rw [hS] at hr
    have hll : ((xs.drop T).take k).length = k := by rw [List.length_take, List.length_drop]; omega
    obtain ⟨A', c', w', hrun, ho, hg, _⟩ := run_append_f (P := Tryz.prog) W .u8 29 29 5 (.int .u8 0) 1 Tryz.underlying29 info_byteI rfl w.heap.size (.slice none 0 0) [] (Own.nil _ _ _ _) S k (cb - T) ((xs.drop T).take k) hll hr (by simp only [List.length_nil]; unfold maxLen; omega) (by simp only [List.length_nil]; omega) hW.size
    simp only [List.length_nil, Nat.zero_add, List.nil_append] at hrun ho
    refine ⟨A', c', w', _, hrun, ho, ⟨hll, fun j hj => ?_⟩, hW.trans ((Trn.of_grown hg).below hW.size (fun k hk => by simp [Value.ownBlock] at hk))⟩
    have hi : ins ps (s.tk + j) := by
      by_cases hc : ins ps (s.tk + j)
      · exact hc
      · exact absurd (h.rep.no _ hc) (hf.all _ (by omega) (by omega))
    rw [(h.rep.yes _ hi).2.2]
    congr 1
    have e : (s.tk + (j : Int)).toNat = T + j := by omega
    rw [e]
    simp [List.getD, hj])
  have H := Lib.hid h
  have HRK := Lib.hid hrok
  have HTT := Lib.hid hT
  have HW := Lib.hid (show wrap64 ((T : Int) + (k : Int)) = (TK : Int) from wrap_at (by omega) (by omega) (by omega))
  have HBV := Lib.hid hbv
  rw [hT] at HCL HRY
  have HTK := Lib.hid hTK
  clear h hf hk hb htk ht0 hrok hfl hbv hnb hown hcap hTK hS hT
  go_enter Tryz.func109, Tryz.ntmps109
  go_wp2_with fail
  refine HRY.out.mono ?_
  rintro e w1 ⟨rfl, k1, rfl⟩
  go_wp2_with fail
  refine (HCL.out _).mono ?_
  rintro e w2 ⟨rfl, rfl⟩
  go_wp2_with fail
  refine still_tail 15 (by kernel_rfl) (by kernel_rfl) ?_
  intro W hW
  have hbW : Below w.heap.size w W := by rw [hW]; exact ⟨rfl, rfl, rfl, Nat.le_refl _, fun _ _ => rfl⟩
  have hX := H.out.later hbW
  have d1 := hX.c1
  have d3 := hX.c3
  rw [HTT.out] at d1
  rw [HBV.out] at d3
  obtain ⟨A', c', w3, L, hrun, ho, hir, hb3⟩ := HAPP.out W hbW
  have hY := H.out.later hb3
  have e1 := hY.c1
  have f1 := hY.fr (0 + 1)
  rw [HTT.out] at e1
  have hs1 := hY.set1 HRK.out
  have hTK2 : (T : Int) + (k : Int) = (TK : Int) := by have := HTK.out; omega
  rw [HTT.out, hTK2] at hs1
  have HS1 := Lib.hid hs1
  have HO := Lib.hid (show Own .u8 5 (w3.setCell ⟨b, 0 + 1, none⟩ (.int .i64 (TK : Int))) w.heap.size (.slice A' k c') L from ho.kept (setCell_one _ _ _ _) (.inr (fun e => by have := (ho.lt b e).1; have := H.out.lt; omega)))
  have HIR := Lib.hid hir
  have HB3 := Lib.hid hb3
  have hwr := HW.out
  have hwr2 : IntKind.i64.wrap ((T : Int) + (k : Int)) = (TK : Int) := (IntWalk.i64_left _).trans hwr
  clear hW hbW hX hY ho hir hb3 hs1 HAPP HRY HCL hTK2
  simp only [List.take_succ_cons, List.take_zero, List.drop_succ_cons, List.drop_zero]
  repeat still_step
  refine wpStill_nil ?_
  go_wp2_with (at_builtin; refine Lib.wpList_append_run _ rfl _ _ _ _ rfl _ _ rfl rfl _ _ hrun ?_)
  go_ret
  exact ⟨A', c', L, rfl, HO.out, HIR.out, HS1.out, (sc_later HB3.out).trans (sc_dif _ _)⟩
end
end Go.Proofs.YtpjlnpnadkbakaaGreat
namespace Go.Proofs.YtpjlnpnadkbakaaGreat
set_option maxRecDepth 10000

namespace In
theorem next_is {s : In} (h : s.ok) {k : Nat} (hk : (k : Int) ≤ s.ready) : IsRead s.g s.tk k (s.next k) := by
  refine ⟨by simp [next], fun j hj => ?_⟩
  have hn := (front_is h).all (s.tk + j) (by have := h.t0; omega) (by unfold ready at hk; omega)
  have e : (s.next k).getD j 0 = (s.g (s.tk + j)).getD 0 := by simp [next, List.getD, hj]
  rw [e]
  cases hg : s.g (s.tk + j) with
  | none => exact absurd hg hn
  | some x => rfl
theorem many_le {s : In} (h : s.ok) (n : Int) : (s.many n : Int) = min (max n 0) (s.front - s.tk) ∧ (s.many n : Int) ≤ s.ready := by
  have := tk_le h
  unfold many ready
  omega
theorem ready_ge {s : In} (h : s.ok) : 0 ≤ s.ready := by have := tk_le h; unfold ready; omega
end In
namespace En
variable {E : En} {N : Nat}
theorem ok.setO (h : E.ok) {o : Ou} (h1 : o.ok) (h2 : E.pl.sent ≤ o.places) (h3 : o.ak ≤ E.pl.sent) (h4 : ∀ x ∈ o.xs, 0 ≤ x ∧ x < 256) : (E.setO o).ok := { h with o := h1, sp := h2, ap := h3, by1 := h4 }
theorem ok.setI (h : E.ok) {i : In} (h1 : i.ok) (h2 : ∀ k, i.g k ≠ none → k < 4096) (h3 : ∀ k x, i.g k = some x → 0 ≤ x ∧ x < 256) : (E.setI i).ok := { h with i := h1, ib := h2, by2 := h3 }
theorem ok.shutO (h : E.ok) : (E.setO E.o.shut).ok := h.setO (Ou.shut_ok h.o) (by
  have := h.sp
  have h2 : E.o.places ≤ (E.o.xs.length : Int) + 1 := by unfold Ou.places; split <;> omega
  show E.pl.sent ≤ (E.o.xs.length : Int) + 1
  omega) h.ap h.by1
theorem takes_le (ys : List Int) : E.takes ys ≤ ys.length := by unfold takes; omega
theorem takes_eq (h : E.ok) (ys : List Int) : (E.takes ys : Int) = min (ys.length : Int) E.o.room := by
  have := (Ou.room_range h.o).1
  unfold takes
  omega
theorem takes_room (h : E.ok) (ys : List Int) : (((ys.take (E.takes ys)).length : Nat) : Int) ≤ E.o.room := by
  rw [List.length_take]
  have := takes_eq h ys
  omega
theorem ok.moreO (h : E.ok) {ys : List Int} (hy : ∀ x ∈ ys, 0 ≤ x ∧ x < 256) : (E.setO (E.o.more (ys.take (E.takes ys)))).ok := h.setO (Ou.more_ok h.o (takes_room h ys)) (by
  have := h.sp
  have h2 : E.o.places ≤ (E.o.more (ys.take (E.takes ys))).places := by
    unfold Ou.places Ou.more
    simp only [List.length_append]
    split <;> omega
  omega) h.ap (fun x hx => by
  rcases List.mem_append.1 hx with hx | hx
  · exact h.by1 x hx
  · exact hy x (List.mem_of_mem_take hx))
theorem ok.readI (h : E.ok) (n : Int) : (E.setI (E.i.read (E.i.many n))).ok := h.setI (In.read_ok h.i (In.front_is h.i) (by omega) (by have := In.many_le h.i n; omega)) h.ib h.by2
theorem readN_by (h : E.ok) (n : Int) : ∀ x ∈ E.readN n, 0 ≤ x ∧ x < 256 := fun x hx => by
  have hr := In.next_is h.i (In.many_le h.i n).2
  obtain ⟨j, hj, rfl⟩ := List.getElem_of_mem hx
  have hl : (E.i.next (E.i.many n)).length = E.i.many n := hr.len
  have hj2 : j < E.i.many n := by rw [← hl]; exact hj
  have := h.by2 _ _ (hr.at_ j hj2)
  have e : (E.i.next (E.i.many n)).getD j 0 = (E.readN n)[j] := by
    have hj3 : j < (E.i.next (E.i.many n)).length := hj
    simp [List.getD, hj3, readN]
  rw [← e]
  exact this
theorem readN_len (h : E.ok) (n : Int) : (E.readN n).length = E.i.many n := (In.next_is h.i (In.many_le h.i n).2).len
theorem ready_le (h : E.ok) : E.i.ready ≤ 4096 := by
  by_cases e : E.i.ready ≤ 4096
  · exact e
  · have := (In.front_is h.i).all 4096 (by omega) (by unfold In.ready at e; have := h.i.t0; omega)
    have := h.ib _ this
    omega
theorem tk_4096 (h : E.ok) : E.i.tk ≤ 4096 := by
  by_cases e : E.i.tk ≤ 4096
  · exact e
  · have := h.i.had 4096 (by omega) (by omega)
    have := h.ib _ this
    omega
theorem front_4096 (h : E.ok) : E.i.front ≤ 4096 := by
  by_cases e : E.i.front ≤ 4096
  · exact e
  · have := (In.front_is h.i).all 4096 (by omega) (by omega)
    have := h.ib _ this
    omega
end En
end Go.Proofs.YtpjlnpnadkbakaaGreat
namespace Go.Proofs.YtpjlnpnadkbakaaGreat
set_option maxRecDepth 10000

namespace En
variable {E : En} {N : Nat}
theorem ok.setNow (h : E.ok) {now : Int} (h1 : E.now ≤ now) (h2 : now ≤ 1048576) : (E.setNow now).ok :=
  { h with n0 := Int.le_trans h.n0 h1, n1 := h2, ps := fun P hP => (h.ps P hP).mono h1 (Int.le_refl _) }
theorem due_at (h : E.ok) {i : Nat} (hi : i < E.ps.length) : 0 ≤ E.due.getD i 0 ∧ E.due.getD i 0 ≤ 1048640 := by
  have hl : i < E.due.length := by rw [h.nd]; exact hi
  exact h.du _ (by simp [List.getD, hl])
theorem keep_join_ps {i : Nat} : (E.join i).ps.length = E.ps.length := by
  unfold join setDue
  exact (keep_say (E := E) i _).len
theorem ok.join (h : E.ok) {i : Nat} (hi : i < E.ps.length) : (E.join i).ok := by
  unfold En.join
  have hk := keep_say (E := E) i ⟨1, i, 0, 0, 0, [], false, 0, 0⟩
  refine (h.say hi _).setDue i ?_
  have := h.n0
  have := h.n1
  have := h.c2
  omega
theorem cap.join (h : E.cap N) (i : Nat) : (E.join i).cap (N + 66) := (h.say i (p := ⟨1, i, 0, 0, 0, [], false, 0, 0⟩) (by simp)).of_eq rfl rfl rfl
theorem late_len (P : Pa) (now : Int) : (P.lates now).length ≤ P.fl.length := List.length_filter_le _ _
theorem late_mem {P : Pa} {now : Int} {q : Qd} (h : q ∈ P.lates now) : q ∈ P.fl := (List.mem_filter.1 h).1
theorem ok.tick1 (h : E.ok) {i : Nat} (hi : i < E.ps.length) : (E.tick1 i).ok := by
  unfold En.tick1
  split
  · exact h.join hi
  · exact (h.setP i ((h.pa hi).lateN (Int.le_refl _))).given _
theorem tick1_len (i : Nat) : (E.tick1 i).ps.length = E.ps.length := by
  unfold tick1
  split
  · exact keep_join_ps
  · rw [(given_sent _ _).2.1]; simp [setP]
theorem cap.tick1 (hok : E.ok) (h : E.cap N) {i : Nat} (hi : i < E.ps.length) : (E.tick1 i).cap (N + 1048642) := by
  unfold En.tick1
  split
  · exact (h.join i).mono (by omega)
  · have h1 : (E.setP i ((E.pa i).lateN E.now)).cap N := h.of_eq rfl rfl rfl
    have h2 := late_len (E.pa i) E.now
    have h3 := (hok.pa hi).ok.n
    exact (h1.given _).mono (by omega)
theorem tickN_len (n : Nat) : (E.tickN n).ps.length = E.ps.length := by
  induction n with
  | zero => rfl
  | succ n ih => unfold tickN; rw [tick1_len, ih]
theorem ok.tickN (h : E.ok) : ∀ n, n ≤ E.ps.length → (E.tickN n).ok := by
  intro n
  induction n with
  | zero => intro _; exact h
  | succ n ih => intro hn; exact (ih (by omega)).tick1 (by rw [tickN_len]; omega)
theorem cap.tickN (hok : E.ok) (h : E.cap N) : ∀ n, n ≤ E.ps.length → (E.tickN n).cap (N + 1048642 * n) := by
  intro n
  induction n with
  | zero => intro _; exact h
  | succ n ih => intro hn; exact (cap.tick1 (hok.tickN n (by omega)) (ih (by omega)) (by rw [tickN_len]; omega)).mono (by omega)
/-- How many are out on the first n paths. -/
def flyN (E : En) : Nat → Int
  | 0 => 0
  | n + 1 => E.flyN n + ((E.pa n).fl.length : Int)
theorem flyN_all : E.flyN E.ps.length = E.flying := by
  have go : ∀ n, n ≤ E.ps.length → E.flyN n = ((E.ps.take n).map fun P => (P.fl.length : Int)).sum := by
    intro n
    induction n with
    | zero => intro _; rfl
    | succ n ih =>
      intro hn
      unfold flyN
      rw [ih (by omega), List.take_succ_eq_append_getElem (show n < E.ps.length by omega), List.map_append, List.sum_append]
      have hl : n < E.ps.length := by omega
      have : E.pa n = E.ps[n] := by simp [pa, List.getD, hl]
      rw [this]
      simp
  rw [go _ (Nat.le_refl _), List.take_length]
  rfl
theorem flyN_range (h : E.ok) : ∀ n, n ≤ E.ps.length → 0 ≤ E.flyN n ∧ E.flyN n ≤ 1048576 * (n : Int) := by
  intro n
  induction n with
  | zero => intro _; exact ⟨Int.le_refl _, by simp [flyN]⟩
  | succ n ih =>
    intro hn
    have h1 := ih (by omega)
    have h2 := (h.pa (i := n) (by omega)).ok.n
    unfold flyN
    omega
/-- One path is asked. -/
def probe1 (E : En) (i : Int) : En := E.sayOut i.toNat (E.probeP i) E.o.ak E.o.ak
theorem probes_snoc (L : List Int) (x : Int) (E : En) : E.probes (L ++ [x]) = (E.probes L).probe1 x := by simp [probes, probe1]
theorem keep_probes (L : List Int) : ∀ E : En, Keep E (E.probes L) := by
  induction L with
  | nil => intro E; exact Keep.refl E
  | cons x L ih => intro E; exact (keep_sayOut _ _ _ _).trans (ih (E.probe1 x))
theorem ok.probe1 (h : E.ok) {i : Nat} (hi : i < E.ps.length) : (E.probe1 (i : Int)).ok := h.sayOut (by simpa using hi) _ h.ap
theorem cap.probe1 (h : E.cap N) (i : Int) : (E.probe1 i).cap (N + 66) := h.sayOut _ (by simp [probeP]) _ _
theorem ok.probes (L : List Int) : ∀ {E : En}, E.ok → (∀ x ∈ L, ∃ i : Nat, x = (i : Int) ∧ i < E.ps.length) → (E.probes L).ok := by
  induction L with
  | nil => intro E h _; exact h
  | cons x L ih =>
    intro E h hL
    obtain ⟨i, rfl, hi⟩ := hL x List.mem_cons_self
    exact ih (h.probe1 hi) fun y hy => by
      obtain ⟨j, h2, h3⟩ := hL y (List.mem_cons_of_mem _ hy)
      exact ⟨j, h2, by have e : (E.probe1 (i : Int)).ps.length = E.ps.length := (keep_sayOut _ _ _ _).len; show j < (E.probe1 (i : Int)).ps.length; rw [e]; exact h3⟩
theorem cap.probes (L : List Int) : ∀ {E : En} {N : Nat}, E.cap N → (E.probes L).cap (N + 66 * L.length) := by
  induction L with
  | nil => intro E N h; exact h
  | cons x L ih => intro E N h; exact (ih (h.probe1 x)).mono (by rw [List.length_cons]; omega)
theorem ok.probe (h : E.ok) : E.probe.ok := by
  unfold En.probe
  split
  · refine h.choose.probes _ fun x hx => ?_
    obtain ⟨i, h2, h3⟩ := chosen_in x hx
    exact ⟨i, h2, by rw [choose_keep.1]; exact h3⟩
  · exact h
theorem cap.probe (hok : E.ok) (h : E.cap N) : E.probe.cap (N + 198) := by
  unfold En.probe
  split
  · exact (h.choose.probes E.chosen).mono (by have := chosen_len (E := E); have := hok.np3; omega)
  · exact h.mono (by omega)
theorem tick1_now {E : En} (i : Nat) : (E.tick1 i).now = E.now ∧ (E.tick1 i).side = E.side := by
  unfold tick1
  split
  · unfold join setDue
    exact ⟨(keep_say (E := E) i _).now, (keep_say (E := E) i _).side⟩
  · have go : ∀ (l : List Qd) (F : En), (F.given l).now = F.now ∧ (F.given l).side = F.side := by
      intro l
      induction l with
      | nil => intro F; exact ⟨rfl, rfl⟩
      | cons x l ih => intro F; exact ih (F.give1 x)
    exact go _ _
theorem tickN_now {E : En} (n : Nat) : (E.tickN n).now = E.now ∧ (E.tickN n).side = E.side := by
  induction n with
  | zero => exact ⟨rfl, rfl⟩
  | succ n ih =>
    unfold tickN
    have := tick1_now (E := E.tickN n) n
    exact ⟨this.1.trans ih.1, this.2.trans ih.2⟩
theorem there_no {E : En} {i : Int} (h : i < 0 ∨ (E.ps.length : Int) ≤ i) : E.there i = false := by
  unfold there
  rcases h with h | h
  · rw [decide_eq_false (show ¬ 0 ≤ i by omega)]; rfl
  · rw [decide_eq_false (show ¬ i < (E.ps.length : Int) by omega), Bool.and_false]
theorem there_yes {E : En} {i : Nat} (h : i < E.ps.length) : E.there (i : Int) = true := by
  unfold there
  rw [decide_eq_true (show 0 ≤ (i : Int) by omega), decide_eq_true (show (i : Int) < (E.ps.length : Int) by omega)]
  rfl
end En
end Go.Proofs.YtpjlnpnadkbakaaGreat
namespace Go.Proofs.YtpjlnpnadkbakaaGreat
set_option maxRecDepth 10000
namespace En
variable {E : En} {N : Nat}
theorem ok.setLim (h : E.ok) {n : Int} (h0 : 0 ≤ n) (h1 : n ≤ 4496) : (E.setLim n).ok := { h with l0 := h0, l1 := h1 }
theorem ok.ackO (h : E.ok) {n : Int} (hn : n ≤ E.pl.sent) : (E.setO (E.o.ack n)).ok := by
  have hx : (E.o.ack n).xs = E.o.xs ∧ (E.o.ack n).places = E.o.places ∧ ((E.o.ack n).ak = E.o.ak ∨ (E.o.ack n).ak = max E.o.ak n) := by
    unfold Ou.ack
    split
    · exact ⟨rfl, rfl, .inr rfl⟩
    · exact ⟨rfl, rfl, .inl rfl⟩
  have ha := h.ap
  refine h.setO (Ou.ack_ok h.o n) (by rw [hx.2.1]; exact h.sp) ?_ (by rw [hx.1]; exact h.by1)
  rcases hx.2.2 with e | e <;> rw [e] <;> omega
theorem put_g (s : In) (f : Int) (ys : List Int) (b : Bool) (k : Int) : (s.put f ys b).g k = if f ≤ k ∧ k < f + ys.length ∧ s.may k then some (ys.getD (k - f).toNat 0) else s.g k := by
  have : (s.put f ys b).g = (s.steps f ys ys.length).1.g := by
    unfold In.put In.fin
    split
    · rfl
    · rfl
  rw [this, In.steps_g]
theorem ok.putI (h : E.ok) {f : Int} {ys : List Int} {b : Bool} (hf : f + (ys.length : Int) ≤ 4096) (hy : ∀ x ∈ ys, 0 ≤ x ∧ x < 256) : (E.setI (E.i.put f ys b)).ok := by
  refine h.setI (In.put_ok h.i f ys b) (fun k hk => ?_) (fun k x hx => ?_)
  · rw [put_g] at hk
    split at hk
    · omega
    · exact h.ib k hk
  · rw [put_g] at hx
    split at hx
    · next hc =>
      injection hx with hx
      subst hx
      have hl : (k - f).toNat < ys.length := by omega
      exact hy _ (by rw [List.getD, List.getElem?_eq_getElem hl]; exact List.getElem_mem hl)
    · exact h.by2 k x hx
theorem pa_setP {i : Nat} (hi : i < E.ps.length) (P : Pa) : (E.setP i P).pa i = P := by simp [setP, En.pa, List.getD, hi]
end En
end Go.Proofs.YtpjlnpnadkbakaaGreat
namespace Go.Proofs.YtpjlnpnadkbakaaGreat
set_option maxRecDepth 10000

/-- The packets that were said among some events. -/
def saids (l : List Ev) : List Pkt := (l.filter fun x => x.k == 5).map Ev.pk
theorem saids_app (a b : List Ev) : saids (a ++ b) = saids a ++ saids b := by simp [saids]
theorem saids_no {x : Ev} (h : x.k ≠ 5) : saids [x] = [] := by simp [saids, h]
theorem saids_yes (p : Pkt) : saids [evP 5 p] = [p] := rfl
theorem saids_len (l : List Ev) : (saids l).length ≤ l.length := by unfold saids; rw [List.length_map]; exact List.length_filter_le _ _
theorem bump_bump (m : Nat → Int) (i : Nat) (a b : Int) : bump (bump m i a) i b = bump m i (a + b) := by
  funext j
  unfold bump
  by_cases e : j = i
  · simp only [if_pos e]; omega
  · simp only [if_neg e]
theorem bump_zero (m : Nat → Int) (i : Nat) : bump m i 0 = m := by
  funext j
  unfold bump
  by_cases e : j = i
  · simp only [if_pos e]; omega
  · simp only [if_neg e]
def losts (p : Pl) (l : List Qd) : Pl := l.foldl (fun p q => p.lost q.f q.t) p
theorem losts_snoc (p : Pl) (l : List Qd) (x : Qd) : losts p (l ++ [x]) = (losts p l).lost x.f x.t := by simp [losts]

namespace En
variable {E : En}
/-- An event is noted; if a packet is said by it, it is said. -/
def noteS (E : En) (x : Ev) : En := { E with ev := E.ev ++ [x], out := E.out ++ saids [x], m := bump E.m 0 1 }
theorem noteS_in {x : Ev} (h : x.k ≠ 5) : E.noteS x = E.note x := by unfold noteS note; rw [saids_no h, List.append_nil]
theorem say1_eq (i : Nat) (p : Pkt) : E.say1 i p = (((E.setP i (E.pa i).num).noteS (evP 5 (p.num (E.pa i).sent))).count 1 1).count 2 (p.da.length : Int) := rfl
theorem given_eq : ∀ (l : List Qd) (E : En), E.given l = (E.setPl (losts E.pl l)).count 7 (l.length : Int) := by
  intro l
  induction l with
  | nil =>
    intro E
    show E = (E.setPl E.pl).count 7 ((0 : Nat) : Int)
    unfold En.count En.setPl
    simp only [Int.ofNat_zero, bump_zero]
  | cons q l ih =>
    intro E
    show (E.give1 q).given l = _
    rw [ih (E.give1 q)]
    unfold En.count En.setPl En.give1
    simp only [bump_bump, List.length_cons]
    rw [show (1 : Int) + (l.length : Int) = ((l.length + 1 : Nat) : Int) by omega]
    rfl
theorem cap.noteS {N : Nat} (h : E.cap N) (x : Ev) : (E.noteS x).cap (N + 1) := ⟨by simp only [En.noteS, List.length_append, List.length_singleton]; have := h.ev; omega, by simp only [En.noteS, List.length_append]; have := h.out; have := saids_len [x]; simp at this; omega, bump_range h.m (by omega) (k := 1) (by omega)⟩
theorem ok.noteS (h : E.ok) (x : Ev) : (E.noteS x).ok := { h with }

/-- Which paths are usable, but behind. -/
def bs (E : En) : List Int := E.ps.map fun P => if P.usable && P.be then 0 else -1
theorem bs_len : E.bs.length = E.ps.length := by simp [bs]
theorem bs_at {i : Nat} (hi : i < E.ps.length) : E.bs.getD i 0 = if ((E.pa i).usable && (E.pa i).be) = true then 0 else -1 := by simp [bs, pa, List.getD, hi]
theorem fresh_no (h : E.fresh = false) : ∀ i, i < E.ps.length → ((E.pa i).usable && !(E.pa i).be) = false := fun i hi => by
  cases hx : ((E.pa i).usable && !(E.pa i).be)
  · rfl
  · have : E.fresh = true := (any_take (fun P : Pa => P.usable && !P.be) E.ps).2 ⟨i, hi, hx⟩
    rw [h] at this
    cases this
theorem bs_us (h : E.fresh = false) : E.bs = E.us := by
  unfold bs us
  apply List.map_congr_left
  intro P hP
  obtain ⟨i, hi, rfl⟩ := List.getElem_of_mem hP
  have := fresh_no h i hi
  have hp : E.pa i = E.ps[i] := by simp [pa, List.getD, hi]
  rw [hp] at this
  cases hu : E.ps[i].usable <;> cases hb : E.ps[i].be <;> simp [hu, hb] at this ⊢
theorem fresh_means (h : E.fresh = false) : NoneU E.means := fun i hi => by
  rw [means_len] at hi
  rw [means_at hi, if_neg (by rw [fresh_no h i hi]; decide)]
  decide
theorem means_fresh (hok : E.ok) (h : E.fresh = true) : ¬ NoneU E.means := fun hn => by
  obtain ⟨i, hi, hx⟩ := (any_take (fun P : Pa => P.usable && !P.be) E.ps).1 h
  have hx' : ((E.pa i).usable && !(E.pa i).be) = true := hx
  have h1 := hn i (by rw [means_len]; exact hi)
  rw [means_at hi, if_pos hx'] at h1
  have := (hok.pa hi).ok.g.m1
  omega
/-- What a Sched picks of the means: the paths that are chosen, if some path is fresh; none else. -/
theorem pick_fresh (hok : E.ok) (hf : E.fresh = true) {L : List Int} {l' : Int} (h : IsPick E.k E.l E.means L l') : L = E.chosen ∧ ({ E with l := l' } : En) = E.choose ∧ 0 < L.length := by
  obtain ⟨h1, h2⟩ := h.eq (pickF_is E.k E.l E.means)
  subst h1
  subst h2
  refine ⟨by unfold chosen; rw [if_pos hf], by unfold choose; rw [if_pos hf], ?_⟩
  have hn : ¬ (can E.means).length = 0 := fun e => means_fresh hok hf (can_none.2 (List.eq_nil_of_length_eq_zero e))
  unfold pickF
  rw [if_neg hn]
  split
  · show 0 < (can E.means).length
    omega
  · split <;> simp
theorem pick_stale (hf : E.fresh = false) {L : List Int} {l' : Int} (h : IsPick E.k E.l E.means L l') : L = [] ∧ ({ E with l := l' } : En) = E.choose ∧ canF E.bs E.ps.length = E.chosen := by
  obtain ⟨h1, h2⟩ := h.eq (pickF_is E.k E.l E.means)
  have hc : (can E.means).length = 0 := by rw [can_none.1 (fresh_means hf)]; rfl
  have hp : pickF E.k E.l E.means = ([], E.l) := by unfold pickF; rw [if_pos hc]
  rw [hp] at h1 h2
  refine ⟨h1, by subst h2; unfold choose; rw [hf]; rfl, ?_⟩
  unfold chosen
  rw [hf, bs_us hf, if_neg (by decide), alls_eq]
end En
end Go.Proofs.YtpjlnpnadkbakaaGreat
namespace Go.Proofs.YtpjlnpnadkbakaaGreat
set_option maxRecDepth 10000
open Go.RowKit

/-- Whose each block is. -/
abbrev Lab := Nat → Nat
/-- Blocks that are new (from n on) are i's. -/
def relab (L : Lab) (n i : Nat) : Lab := fun k => if k < n then L k else i
/-- All blocks of F are i's. -/
def Of (L : Lab) (i : Nat) (F : Nat → Prop) : Prop := ∀ k, F k → L k = i
/-- A row's block is i's. -/
def OfV (L : Lab) (i : Nat) (v : Value) : Prop := ∀ g, v.ownBlock = some g → L g = i
/-- Only the things of S turn; all that was there stays whose it was. -/
structure Tn (w w' : World) (L L' : Lab) (S : Nat → Prop) : Prop where
  trn : Trn w w' (fun k => S (L k))
  old : ∀ k, k < w.heap.size → L' k = L k

section
variable {w w1 w' : World} {L L1 L' : Lab} {S S' : Nat → Prop} {F F' : Nat → Prop} {i j n k : Nat} {v v' : Value}
theorem relab_old (h : k < n) : relab L n i k = L k := by unfold relab; rw [if_pos h]
theorem relab_new (h : n ≤ k) : relab L n i k = i := by unfold relab; rw [if_neg (by omega)]
theorem Tn.refl (w : World) (L : Lab) (S : Nat → Prop) : Tn w w L L S := ⟨Trn.refl _ _, fun _ _ => rfl⟩
theorem Tn.size (h : Tn w w' L L' S) : w.heap.size ≤ w'.heap.size := h.trn.size
theorem Tn.trans (h : Tn w w1 L L1 S) (h' : Tn w1 w' L1 L' S) : Tn w w' L L' S :=
  ⟨h.trn.trans h'.trn (fun _ x => x) (fun k hk x => by rw [← h.old k hk]; exact x), fun k hk => (h'.old k (Nat.lt_of_lt_of_le hk h.trn.size)).trans (h.old k hk)⟩
theorem Tn.mono (h : Tn w w' L L' S) (hS : ∀ x, S x → S' x) : Tn w w' L L' S' := ⟨h.trn.mono (fun _ _ x => hS _ x), h.old⟩
/-- A call on what is i's: what is new is i's, too. -/
theorem Tn.of_sc (h : SC w w' F F') (hF : Of L i F) (hS : S i) : Tn w w' L (relab L w.heap.size i) S :=
  ⟨h.trn.mono (fun k _ hk => by rw [hF k hk]; exact hS), fun k hk => relab_old hk⟩
theorem Of.sc (h : SC w w' F F') (hF : Of L i F) : Of (relab L w.heap.size i) i F' := fun k hk => by
  by_cases e : k < w.heap.size
  · rw [relab_old e]
    exact (h.sub k hk).elim (hF k) (fun h1 => by omega)
  · exact relab_new (by omega)
/-- Only new blocks: whoever's. -/
theorem Tn.of_below (h : Below w.heap.size w w') (L : Lab) (i : Nat) (S : Nat → Prop) : Tn w w' L (relab L w.heap.size i) S := ⟨Trn.of_below h, fun _ hk => relab_old hk⟩
theorem Tn.drewN (w : World) (L : Lab) (n : Nat) (S : Nat → Prop) : Tn w (w.drewN n) L L S := ⟨Trn.of_below ⟨rfl, rfl, rfl, Nat.le_refl _, fun _ _ => rfl⟩, fun _ _ => rfl⟩
theorem Tn.of_grown (h : w.grownBy w' (some n)) (hn : L n = i) (hS : S i) : Tn w w' L (relab L w.heap.size i) S :=
  ⟨(Trn.of_grown h).mono (fun k _ hk => by obtain rfl := Option.some.inj hk; rw [hn]; exact hS), fun k hk => relab_old hk⟩
theorem Tn.of_row (h : w.grownBy w' v.ownBlock) (hv : OfV L i v) (hS : S i) : Tn w w' L (relab L w.heap.size i) S :=
  ⟨(Trn.of_grown h).mono (fun k _ hk => by rw [hv k hk]; exact hS), fun k hk => relab_old hk⟩
/-- A row that lies where it lay, or in a new block. -/
theorem OfV.row (hv : OfV L i v) (h : ∀ g, v'.ownBlock = some g → v.ownBlock = some g ∨ w.heap.size ≤ g) : OfV (relab L w.heap.size i) i v' := fun g hg => by
  by_cases e : g < w.heap.size
  · rw [relab_old e]
    exact (h g hg).elim (hv g) (fun h1 => by omega)
  · exact relab_new (by omega)
theorem OfV.new (h : ∀ g, v.ownBlock = some g → n ≤ g) : OfV (relab L n i) i v := fun g hg => relab_new (h g hg)
theorem OfV.nil : OfV L i (.slice none 0 0) := fun g hg => by simp [Value.ownBlock] at hg
theorem OfV.len {A : Option Addr} {n c n' c' : Nat} (h : OfV L i (.slice A n c)) : OfV L i (.slice A n' c') := fun g hg => h g (by cases A with | none => simp [Value.ownBlock] at hg | some a => exact hg)
theorem Of.keep (h : Of L i F) (ht : Tn w w' L L' S) (hF : ∀ k, F k → k < w.heap.size) : Of L' i F := fun k hk => (ht.old k (hF k hk)).trans (h k hk)
theorem OfV.keep (h : OfV L i v) (ht : Tn w w' L L' S) (hF : ∀ g, v.ownBlock = some g → g < w.heap.size) : OfV L' i v := fun g hg => (ht.old g (hF g hg)).trans (h g hg)
theorem Tn.lab (ht : Tn w w' L L' S) (h : L n = i) (hn : n < w.heap.size) : L' n = i := (ht.old n hn).trans h
/-- What is i's lies apart from what turns. -/
theorem Of.apart (h : Of L i F) (hi : ¬ S i) : ∀ k, F k → ¬ S (L k) := fun k hk => by rw [h k hk]; exact hi
theorem OfV.apart (h : OfV L i v) (hi : ¬ S i) : ∀ g, v.ownBlock = some g → ¬ S (L g) := fun g hg => by rw [h g hg]; exact hi
theorem Tn.own {q : IntKind} {e : TypeId} {B : Nat} {xs : List Int} (ht : Tn w w' L L' S) (h : Own q e w B v xs) (hv : OfV L i v) (hi : ¬ S i) : Own q e w' B v xs := ht.trn.own h (hv.apart hi)
theorem Tn.row {b : Nat} {t : TypeId} {n : Nat} {f : Nat → Value} (ht : Tn w w' L L' S) (h : w.rowIs b t n f) (hb : L b = i) (hi : ¬ S i) : w'.rowIs b t n f := ht.trn.rowIs h (by rw [hb]; exact hi)
/-- Blocks of others, where all that turns is elsewhere. -/
theorem Tn.block (ht : Tn w w' L L' S) (hn : L n = i) (hi : ¬ S i) (hlt : n < w.heap.size) : w'.heap[n]? = w.heap[n]? := ht.trn.block n hlt (by rw [hn]; exact hi)
end

/-- As 'Tn', of the blocks below n alone. -/
structure TnB (n : Nat) (w w' : World) (L L' : Lab) (S : Nat → Prop) : Prop where
  os : w'.os = w.os
  tape : w'.tape = w.tape
  output : w'.output = w.output
  size : w.heap.size ≤ w'.heap.size
  le : n ≤ w.heap.size
  block : ∀ k, k < n → ¬ S (L k) → w'.heap[k]? = w.heap[k]?
  old : ∀ k, k < n → L' k = L k
section
variable {w w1 w' : World} {L L1 L' : Lab} {S S' : Nat → Prop} {i n : Nat}
theorem Tn.toB (h : Tn w w' L L' S) (hn : n ≤ w.heap.size) : TnB n w w' L L' S := ⟨h.trn.os, h.trn.tape, h.trn.output, h.trn.size, hn, fun k hk hS => h.trn.block k (by omega) hS, fun k hk => h.old k (by omega)⟩
theorem TnB.toTn (h : TnB w.heap.size w w' L L' S) : Tn w w' L L' S := ⟨⟨h.os, h.tape, h.output, h.size, h.block⟩, h.old⟩
theorem TnB.refl (w : World) (L : Lab) (S : Nat → Prop) (hn : n ≤ w.heap.size) : TnB n w w L L S := ⟨rfl, rfl, rfl, Nat.le_refl _, hn, fun _ _ _ => rfl, fun _ _ => rfl⟩
theorem TnB.trans (h : TnB n w w1 L L1 S) (h' : TnB n w1 w' L1 L' S) : TnB n w w' L L' S :=
  ⟨h'.os.trans h.os, h'.tape.trans h.tape, h'.output.trans h.output, Nat.le_trans h.size h'.size, h.le, fun k hk hS => (h'.block k hk (by rw [h.old k hk]; exact hS)).trans (h.block k hk hS), fun k hk => (h'.old k hk).trans (h.old k hk)⟩
theorem TnB.then (h : TnB n w w1 L L1 S) (h' : Tn w1 w' L1 L' S) : TnB n w w' L L' S := h.trans (h'.toB (Nat.le_trans h.le h.size))
/-- A store into what is new. -/
theorem TnB.store (w : World) (L : Lab) (S : Nat → Prop) (a : Addr) (v : Value) (hn : n ≤ a.block) (hl : n ≤ w.heap.size) : TnB n w (w.setCell a v) L L S :=
  ⟨rfl, rfl, rfl, by simp, hl, fun k hk _ => heap_setCell_other w a k v (by omega), fun _ _ => rfl⟩
theorem TnB.below (h : TnB n w w1 L L1 S) (hb : Below w1.heap.size w1 w') (i : Nat) : TnB n w w' L (relab L1 w1.heap.size i) S := h.then (Tn.of_below hb L1 i S)
theorem TnB.drewN (h : TnB n w w1 L L1 S) (k : Nat) : TnB n w (w1.drewN k) L L1 S := h.then (Tn.drewN w1 L1 k S)
/-- A store into a block of one's own. -/
theorem Tn.store (w : World) (L : Lab) (a : Addr) (v : Value) (ha : L a.block = i) (hS : S i) : Tn w (w.setCell a v) L L S :=
  ⟨⟨rfl, rfl, rfl, by simp, fun k _ hk => heap_setCell_other w a k v (by intro e; subst e; exact hk (by rw [ha]; exact hS))⟩, fun _ _ => rfl⟩
end
end Go.Proofs.YtpjlnpnadkbakaaGreat

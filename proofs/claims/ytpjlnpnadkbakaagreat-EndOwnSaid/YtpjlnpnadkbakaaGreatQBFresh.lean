/-
  Fresh · DocIn2 · DocIn4 · EnActs · EnTick · EnCome · EnPr · Lab.
-/
import Derived.Test.YtpjlnpnadkbakaaGreatQBMem
import Derived.Deep.OwnRows
import Derived.Test.YtpjlnpnadkbakaaGreatQBPair
import Derived.Deep.LoopGhost
import Derived.Lib.AppendZerosOnto
import Derived.Test.YtpjlnpnadkbakaaGreatQBEnOk
namespace Go.Proofs.YtpjlnpnadkbakaaGreat
set_option maxRecDepth 10000
open Go.RowKit
section
variable {P : Program} (w : World)
theorem app_block (k : IntKind) (t ty e : TypeId) (z : Value) (bytes : Nat) (ht : P.underlying t = some (.slice e)) (hinfo : (P.info? e).map (fun i => (i.zero, i.size, i.bytes)) = some (some z, 1, bytes)) (hz1 : z.cells.size = 1)
    (B : Nat) (v : Value) (xs : List Int) (hown : Own k e w B v xs) (ad : Addr) (m c : Nat) (ys : List Int) (hm : ys.length = m) (hr : Rd k w (some ad) ys)
    (hmax : xs.length + m ≤ maxLen) (hbytes : (xs.length + m) * bytes ≤ 140737488355328) {v' : Value} {w' : World} (hrun : (Builtin.append_ #[t, t] ty #[v, .slice (some ad) m c]).run P w = .ok v' w') :
    ∀ g, v'.ownBlock = some g → v.ownBlock = some g ∨ w.heap.size ≤ g := by
  obtain ⟨i, hi, hz0, hz2, hz3⟩ := info_parts hinfo
  have hlc : (cel k ys).length = m * i.size := by simp [cel, hm, hz2]
  have hnews := hr.cells ad rfl
  rcases hown.2 with ⟨rfl, h0⟩ | ⟨b, cap, cur, rfl, _, hb, hnc, _, hcs, htake⟩
  · obtain ⟨v2, w2, hrun2, h2, _, _⟩ := run_append_own (P := P) w w.heap.size t ty e i z 1 bytes ht hi hz0 hz2 hz3 hz1 (by omega) (.slice none 0 0) xs.length (cel k xs) ⟨hown.1, .inl ⟨rfl, h0⟩⟩ ad m c (cel k ys) (by simp [cel, hm]) hnews (cel_one k ys) hmax hbytes (Nat.le_refl _)
    rw [hrun2] at hrun
    injection hrun with hv _
    subst hv
    intro g hg
    exact .inr (h2.lt g hg).1
  · by_cases hroom : xs.length + m ≤ cap
    · have hr1 := run_append_room (P := P) w t ty e i ht hi b xs.length cap cur hb ad m c (cel k ys) hlc hnews (cel_one k ys) hroom (by rw [hz2, hcs, cel_len]; omega)
      rw [hr1] at hrun
      injection hrun with hv _
      subst hv
      intro g hg
      exact .inl (by simpa [Value.ownBlock] using hg)
    · have holds := hown.cells (g := b) rfl
      have hr1 := run_append_grow (P := P) w t ty e i z ht hi hz0 ⟨b, 0, none⟩ xs.length cap (cel k xs) (by simp [cel, hz2]) holds ad m c (cel k ys) hlc hnews (by omega) (by unfold maxLen at hmax; omega) (growslice_fits (by omega) (by rw [hz3]; exact hbytes))
      rw [hr1] at hrun
      injection hrun with hv _
      subst hv
      intro g hg
      right
      simp [Value.ownBlock] at hg
      omega
theorem run_append_f (k : IntKind) (t ty e : TypeId) (z : Value) (bytes : Nat) (ht : P.underlying t = some (.slice e)) (hinfo : (P.info? e).map (fun i => (i.zero, i.size, i.bytes)) = some (some z, 1, bytes)) (hz1 : z.cells.size = 1)
    (B : Nat) (v : Value) (xs : List Int) (hown : Own k e w B v xs) (A : Option Addr) (m c : Nat) (ys : List Int) (hm : ys.length = m) (hr : Rd k w A ys)
    (hmax : xs.length + m ≤ maxLen) (hbytes : (xs.length + m) * bytes ≤ 140737488355328) (hB : B ≤ w.heap.size) :
    ∃ A' c' w', (Builtin.append_ #[t, t] ty #[v, .slice A m c]).run P w = .ok (.slice A' (xs.length + m) c') w' ∧ Own k e w' B (.slice A' (xs.length + m) c') (xs ++ ys) ∧ w.grownBy w' v.ownBlock ∧
      ∀ g, (Value.slice A' (xs.length + m) c').ownBlock = some g → v.ownBlock = some g ∨ w.heap.size ≤ g := by
  cases A with
  | some ad =>
    obtain ⟨A', c', w', h1, h2, h3⟩ := run_app (P := P) w k t ty e z bytes ht hinfo hz1 B v xs hown (some ad) m c ys hm hr hmax hbytes hB
    exact ⟨A', c', w', h1, h2, h3, app_block (P := P) w k t ty e z bytes ht hinfo hz1 B v xs hown ad m c ys hm hr hmax hbytes h1⟩
  | none =>
    obtain ⟨i, hi, hz0, hz2, hz3⟩ := info_parts hinfo
    have hy : ys = [] := by
      rcases hr with h | ⟨b, off, h, _⟩
      · exact h
      · cases h
    subst hy
    have hm0 : m = 0 := by simpa using hm.symm
    subst hm0
    obtain ⟨A', c', rfl⟩ := hown.form
    have hrun : (Builtin.append_ #[t, t] ty #[.slice A' xs.length c', .slice none 0 c]).run P w = .ok (.slice A' xs.length c') w := by
      rcases hown.2 with ⟨hv, h0⟩ | ⟨g, cap, cur, hv, _, _, hnc, _⟩
      · injection hv with h1 _ h3
        subst h1; subst h3
        rw [h0]
        simp [Builtin.append_, run_underlying ht, sizeOf, typeInfo, hi, Builtin.lenOf, Builtin.firstCells]
      · injection hv with h1 _ h3
        subst h1; subst h3
        simp [Builtin.append_, run_underlying ht, sizeOf, typeInfo, hi, Builtin.lenOf, Builtin.firstCells, hnc, storeCells]
    refine ⟨A', c', w, by simpa using hrun, by simpa using hown, World.grownBy.refl _ _, fun g hg => .inl hg⟩
theorem step_append_r {w' : World} {ops : Array Oper} {o : Oper} {a : Act} {K : Act → World → Prop} {Q : Exit → Act → World → Prop} {E : Prop} (hw : Region.wanted o (yielded ops a.tmps) = true) (s x : Operand) (t : TypeId)
    (ho : o.op = .call { callee := .builtin .append, args := #[s, x], argTypes := #[t, t] }) (v vx v' : Value) (hs : a.eval s = v) (hx : a.eval x = vx) (hrun : (Builtin.append_ #[t, t] o.type #[v, vx]).run P w = .ok v' w') (h : K (a.put o.dst v') w') :
    if Region.wanted o (yielded ops a.tmps) = true then Oper.wp P o a w K Q else E := by
  rw [if_pos hw]
  unfold Oper.wp execOp
  simp only [ho, resolve, invoke, builtin, Sem.run_bind, Sem.run_pure, Result.andThen_ok, List.map_toArray, List.map_cons, List.map_nil, hs, hx, hrun]
  exact h
end
end Go.Proofs.YtpjlnpnadkbakaaGreat
namespace Go.Proofs.YtpjlnpnadkbakaaGreat
set_option maxRecDepth 10000
open Go.RowKit
section
variable {xs : List Int} {ps : List (Int × Int)} {g : Int → Option Int}
theorem Rep.set (h : Rep xs ps g) (k : Nat) (x : Int) (hk : ¬ ins ps k) : Rep (xs.set k x) ps g := by
  refine ⟨h.norm, fun j hj => ?_, h.no⟩
  obtain ⟨h1, h2, h3⟩ := h.yes j hj
  refine ⟨h1, by rw [List.length_set]; exact h2, ?_⟩
  rw [h3]
  congr 1
  have hne : k ≠ j.toNat := fun e => hk (by rw [e, Int.toNat_of_nonneg h1]; exact hj)
  simp [List.getD, hne]
theorem Rep.lay (h : Rep xs ps g) (k : Nat) (x : Int) (hl : k < xs.length) (hk : (k : Int) < 1099511627776) : Rep (xs.set k x) (addN ps k (k + 1)) (fun j => if j = k then some x else g j) := by
  have hn := addN_norm h.norm (k : Int) (k + 1)
  have hi : ∀ j : Int, ins (addN ps k (k + 1)) j ↔ ins ps j ∨ j = k := fun j => by
    rw [hn.2]
    constructor
    · rintro (h1 | h1)
      · exact .inl h1
      · exact .inr (by omega)
    · rintro (h1 | h1)
      · exact .inl h1
      · exact .inr (by omega)
  refine ⟨hn.1, fun j hj => ?_, fun j hj => ?_⟩
  · by_cases e : j = k
    · subst e
      refine ⟨by omega, by rw [List.length_set]; omega, ?_⟩
      rw [if_pos rfl]
      simp [List.getD, hl]
    · have hj' := ((hi j).1 hj).resolve_right e
      obtain ⟨h1, h2, h3⟩ := h.yes j hj'
      refine ⟨h1, by rw [List.length_set]; exact h2, ?_⟩
      rw [if_neg e, h3]
      congr 1
      have hne : k ≠ j.toNat := fun e' => e (by rw [e', Int.toNat_of_nonneg h1])
      simp [List.getD, hne]
  · have e : j ≠ k := fun e => hj ((hi j).2 (.inr e))
    rw [if_neg e]
    exact h.no j (fun h1 => hj ((hi j).2 (.inl h1)))
end
section
variable {w w' : World} {B b : Nat} {bv gv : Value} {xs : List Int} {ps : List (Int × Int)} {s : In}
theorem DiAt.byte {g n c : Nat} (h : DiAt w B b (.slice (some ⟨g, 0, none⟩) n c) gv xs ps s) (hn : xs.length = n) (k : Nat) (hk : ¬ ins ps k) (x : Int) :
    DiAt (w.setCell ⟨g, k, none⟩ (.int .u8 x)) B b (.slice (some ⟨g, 0, none⟩) n c) gv (xs.set k x) ps s ∧ SC w (w.setCell ⟨g, k, none⟩ (.int .u8 x)) (Dif b (.slice (some ⟨g, 0, none⟩) n c) gv) (Dif b (.slice (some ⟨g, 0, none⟩) n c) gv) := by
  have hg : Trn w (w.setCell ⟨g, k, none⟩ (.int .u8 x)) (fun j => j = g) := (Trn.of_grown (setCell_one w g k _)).mono (fun j _ hj => (Option.some.inj hj).symm)
  refine ⟨⟨h.sf.kept hg ?_, h.own.stored hn k x, h.rep.set k x hk, h.ok⟩, hg.mono (fun j _ hj => .inr (.inr (by rw [hj]; rfl))), fun j hj => .inl hj⟩
  rintro j (rfl | hj) e
  · exact h.nb (by rw [e]; rfl)
  · exact h.ng g rfl (by rw [← e]; exact hj)
theorem sc_later {F : Nat → Prop} (hb : Below w.heap.size w w') : SC w w' F F := SC.of_below hb
end
theorem In.fin_no {s : In} {k : Int} {b : Bool} (h : ¬ (b = true ∧ s.ends k)) : s.fin k b = s := by
  unfold In.fin
  rw [if_neg h]
theorem In.fin_yes {s : In} {k : Int} (h : s.ends k) : s.fin k true = s.shut k := by
  unfold In.fin
  rw [if_pos ⟨rfl, h⟩]
def topOf (ps : List (Int × Int)) : Int := match ps.getLast? with | none => 0 | some q => q.2
theorem top_iff {xs : List Int} {ps : List (Int × Int)} {g : Int → Option Int} (h : Rep xs ps g) (k : Int) (hk : 0 ≤ k) : topOf ps ≤ k ↔ ∀ j, k ≤ j → g j = none := by
  unfold topOf
  rcases List.eq_nil_or_concat ps with rfl | ⟨qs, q, rfl⟩
  · simp only [List.getLast?_nil]
    exact ⟨fun _ j _ => h.no j (ins_nil j), fun _ => hk⟩
  · simp only [List.concat_eq_append] at h ⊢
    simp only [List.getLast?_append, List.getLast?_singleton, Option.some_or]
    have hq := h.norm.each q (by simp)
    have hlast : ∀ r ∈ qs ++ [q], r.2 ≤ q.2 := fun r hr => by
      rcases List.mem_append.1 hr with h1 | h1
      · have hp := (List.pairwise_append.1 h.norm.gap).2.2 r h1 q (by simp)
        have := (h.norm.each r hr)
        omega
      · have : r = q := by simpa using h1
        rw [this]; omega
    constructor
    · intro h1 j hj
      refine h.no j ?_
      rintro ⟨r, hr, h2, h3⟩
      have := hlast r hr
      omega
    · intro h1
      by_cases hc : q.2 ≤ k
      · exact hc
      · have hy := (h.yes (max k q.1) ⟨q, by simp, by omega, by omega⟩).2.2
        rw [h1 _ (by omega)] at hy
        cases hy
theorem top_get {ps : List (Int × Int)} {n : Nat} (hn : ps.length = n + 1) : topOf ps = (ps.getD n (0, 0)).2 := by
  unfold topOf
  rw [List.getLast?_eq_getElem?, hn]
  simp [List.getD, hn]
end Go.Proofs.YtpjlnpnadkbakaaGreat
namespace Go.Proofs.YtpjlnpnadkbakaaGreat
set_option maxRecDepth 10000
open Go.RowKit
structure IsRead (g : Int → Option Int) (t : Int) (k : Nat) (L : List Int) : Prop where
  len : L.length = k
  at_ : ∀ j, j < k → g (t + (j : Int)) = some (L.getD j 0)
theorem IsRead.eq {g : Int → Option Int} {t : Int} {k : Nat} {L L' : List Int} (h : IsRead g t k L) (h' : IsRead g t k L') : L = L' := by
  refine list_eq_of_getD (h.len.trans h'.len.symm) fun j hj => ?_
  have := (h.at_ j (by rw [← h.len]; exact hj)).symm.trans (h'.at_ j (by rw [← h.len]; exact hj))
  injection this
theorem In.front_tk {s : In} (h : s.ok) {f : Int} (hf : Front s.g f) : s.tk ≤ f := by
  by_cases hc : s.tk ≤ f
  · exact hc
  · exact absurd hf.no (h.had f hf.ge (by omega))
theorem In.read_ok {s : In} (h : s.ok) {f : Int} (hf : Front s.g f) {k : Int} (h0 : 0 ≤ k) (hk : s.tk + k ≤ f) : (s.read k).ok := by
  have := h.t0
  exact ⟨h.w0, h.w1, by simp only [In.read]; omega, h.e0, h.e1, fun j hj => by have := h.rng j hj; simp only [In.read]; omega, h.end_, fun j h1 h2 => hf.all j h1 (by simp only [In.read] at h2; omega)⟩
section
variable {w : World} {B b : Nat} {bv gv : Value} {xs : List Int} {ps : List (Int × Int)} {s : In}
end
end Go.Proofs.YtpjlnpnadkbakaaGreat
namespace Go.Proofs.YtpjlnpnadkbakaaGreat
set_option maxRecDepth 10000
namespace In
theorem next_is {s : In} (h : s.ok) {k : Nat} (hk : (k : Int) ≤ s.ready) : IsRead s.g s.tk k (s.next k) := by
  refine ⟨by simp [next], fun j hj => ?_⟩
  have hn := (front_is h).all (s.tk + j) (by have := h.t0; omega) (by unfold ready at hk; omega)
  have e : (s.next k).getD j 0 = (s.g (s.tk + j)).getD 0 := by simp [next, List.getD, hj]
  rw [e]
  cases hg : s.g (s.tk + j) with
  | none => exact absurd hg hn
  | some x => rfl
theorem many_le {s : In} (h : s.ok) (n : Int) : (s.many n : Int) = min (max n 0) (s.front - s.tk) ∧ (s.many n : Int) ≤ s.ready := by
  have := tk_le h
  unfold many ready
  omega
end In
namespace En
variable {E : En} {N : Nat}
theorem ok.setO (h : E.ok) {o : Ou} (h1 : o.ok) (h2 : E.pl.sent ≤ o.places) (h3 : o.ak ≤ E.pl.sent) (h4 : ∀ x ∈ o.xs, 0 ≤ x ∧ x < 256) : (E.setO o).ok := { h with o := h1, sp := h2, ap := h3, by1 := h4 }
theorem ok.setI (h : E.ok) {i : In} (h1 : i.ok) (h2 : ∀ k, i.g k ≠ none → k < 4096) (h3 : ∀ k x, i.g k = some x → 0 ≤ x ∧ x < 256) : (E.setI i).ok := { h with i := h1, ib := h2, by2 := h3 }
theorem ok.shutO (h : E.ok) : (E.setO E.o.shut).ok := h.setO (Ou.shut_ok h.o) (by
  have := h.sp
  have h2 : E.o.places ≤ (E.o.xs.length : Int) + 1 := by unfold Ou.places; split <;> omega
  show E.pl.sent ≤ (E.o.xs.length : Int) + 1
  omega) h.ap h.by1
theorem takes_le (ys : List Int) : E.takes ys ≤ ys.length := by unfold takes; omega
theorem takes_eq (h : E.ok) (ys : List Int) : (E.takes ys : Int) = min (ys.length : Int) E.o.room := by
  have := (Ou.room_range h.o).1
  unfold takes
  omega
theorem takes_room (h : E.ok) (ys : List Int) : (((ys.take (E.takes ys)).length : Nat) : Int) ≤ E.o.room := by
  rw [List.length_take]
  have := takes_eq h ys
  omega
theorem ok.moreO (h : E.ok) {ys : List Int} (hy : ∀ x ∈ ys, 0 ≤ x ∧ x < 256) : (E.setO (E.o.more (ys.take (E.takes ys)))).ok := h.setO (Ou.more_ok h.o (takes_room h ys)) (by
  have := h.sp
  have h2 : E.o.places ≤ (E.o.more (ys.take (E.takes ys))).places := by
    unfold Ou.places Ou.more
    simp only [List.length_append]
    split <;> omega
  omega) h.ap (fun x hx => by
  rcases List.mem_append.1 hx with hx | hx
  · exact h.by1 x hx
  · exact hy x (List.mem_of_mem_take hx))
theorem ok.readI (h : E.ok) (n : Int) : (E.setI (E.i.read (E.i.many n))).ok := h.setI (In.read_ok h.i (In.front_is h.i) (by omega) (by have := In.many_le h.i n; omega)) h.ib h.by2
theorem readN_by (h : E.ok) (n : Int) : ∀ x ∈ E.readN n, 0 ≤ x ∧ x < 256 := fun x hx => by
  have hr := In.next_is h.i (In.many_le h.i n).2
  obtain ⟨j, hj, rfl⟩ := List.getElem_of_mem hx
  have hl : (E.i.next (E.i.many n)).length = E.i.many n := hr.len
  have hj2 : j < E.i.many n := by rw [← hl]; exact hj
  have := h.by2 _ _ (hr.at_ j hj2)
  have e : (E.i.next (E.i.many n)).getD j 0 = (E.readN n)[j] := by
    have hj3 : j < (E.i.next (E.i.many n)).length := hj
    simp [List.getD, hj3, readN]
  rw [← e]
  exact this
theorem readN_len (h : E.ok) (n : Int) : (E.readN n).length = E.i.many n := (In.next_is h.i (In.many_le h.i n).2).len
theorem ready_le (h : E.ok) : E.i.ready ≤ 4096 := by
  by_cases e : E.i.ready ≤ 4096
  · exact e
  · have := (In.front_is h.i).all 4096 (by omega) (by unfold In.ready at e; have := h.i.t0; omega)
    have := h.ib _ this
    omega
theorem tk_4096 (h : E.ok) : E.i.tk ≤ 4096 := by
  by_cases e : E.i.tk ≤ 4096
  · exact e
  · have := h.i.had 4096 (by omega) (by omega)
    have := h.ib _ this
    omega
theorem front_4096 (h : E.ok) : E.i.front ≤ 4096 := by
  by_cases e : E.i.front ≤ 4096
  · exact e
  · have := (In.front_is h.i).all 4096 (by omega) (by omega)
    have := h.ib _ this
    omega
end En
end Go.Proofs.YtpjlnpnadkbakaaGreat
namespace Go.Proofs.YtpjlnpnadkbakaaGreat
set_option maxRecDepth 10000
namespace En
variable {E : En} {N : Nat}
theorem ok.setNow (h : E.ok) {now : Int} (h1 : E.now ≤ now) (h2 : now ≤ 1048576) : (E.setNow now).ok :=
  { h with n0 := Int.le_trans h.n0 h1, n1 := h2, ps := fun P hP => (h.ps P hP).mono h1 (Int.le_refl _) }
theorem keep_join_ps {i : Nat} : (E.join i).ps.length = E.ps.length := by
  unfold join setDue
  exact (keep_say (E := E) i _).len
theorem ok.join (h : E.ok) {i : Nat} (hi : i < E.ps.length) : (E.join i).ok := by
  unfold En.join
  have hk := keep_say (E := E) i ⟨1, i, 0, 0, 0, [], false, 0, 0⟩
  refine (h.say hi _).setDue i ?_
  have := h.n0
  have := h.n1
  have := h.c2
  omega
theorem cap.join (h : E.cap N) (i : Nat) : (E.join i).cap (N + 66) := (h.say i (p := ⟨1, i, 0, 0, 0, [], false, 0, 0⟩) (by simp)).of_eq rfl rfl rfl
theorem late_len (P : Pa) (now : Int) : (P.lates now).length ≤ P.fl.length := List.length_filter_le _ _
theorem ok.tick1 (h : E.ok) {i : Nat} (hi : i < E.ps.length) : (E.tick1 i).ok := by
  unfold En.tick1
  split
  · exact h.join hi
  · exact (h.setP i ((h.pa hi).lateN (Int.le_refl _))).given _
theorem tick1_len (i : Nat) : (E.tick1 i).ps.length = E.ps.length := by
  unfold tick1
  split
  · exact keep_join_ps
  · rw [(given_sent _ _).2.1]; simp [setP]
theorem cap.tick1 (hok : E.ok) (h : E.cap N) {i : Nat} (hi : i < E.ps.length) : (E.tick1 i).cap (N + 1048642) := by
  unfold En.tick1
  split
  · exact (h.join i).mono (by omega)
  · have h1 : (E.setP i ((E.pa i).lateN E.now)).cap N := h.of_eq rfl rfl rfl
    have h2 := late_len (E.pa i) E.now
    have h3 := (hok.pa hi).ok.n
    exact (h1.given _).mono (by omega)
theorem tickN_len (n : Nat) : (E.tickN n).ps.length = E.ps.length := by
  induction n with
  | zero => rfl
  | succ n ih => unfold tickN; rw [tick1_len, ih]
theorem ok.tickN (h : E.ok) : ∀ n, n ≤ E.ps.length → (E.tickN n).ok := by
  intro n
  induction n with
  | zero => intro _; exact h
  | succ n ih => intro hn; exact (ih (by omega)).tick1 (by rw [tickN_len]; omega)
theorem cap.tickN (hok : E.ok) (h : E.cap N) : ∀ n, n ≤ E.ps.length → (E.tickN n).cap (N + 1048642 * n) := by
  intro n
  induction n with
  | zero => intro _; exact h
  | succ n ih => intro hn; exact (cap.tick1 (hok.tickN n (by omega)) (ih (by omega)) (by rw [tickN_len]; omega)).mono (by omega)
def flyN (E : En) : Nat → Int
  | 0 => 0
  | n + 1 => E.flyN n + ((E.pa n).fl.length : Int)
theorem flyN_all : E.flyN E.ps.length = E.flying := by
  have go : ∀ n, n ≤ E.ps.length → E.flyN n = ((E.ps.take n).map fun P => (P.fl.length : Int)).sum := by
    intro n
    induction n with
    | zero => intro _; rfl
    | succ n ih =>
      intro hn
      unfold flyN
      rw [ih (by omega), List.take_succ_eq_append_getElem (show n < E.ps.length by omega), List.map_append, List.sum_append]
      have hl : n < E.ps.length := by omega
      have : E.pa n = E.ps[n] := by simp [pa, List.getD, hl]
      rw [this]
      simp
  rw [go _ (Nat.le_refl _), List.take_length]
  rfl
theorem flyN_range (h : E.ok) : ∀ n, n ≤ E.ps.length → 0 ≤ E.flyN n ∧ E.flyN n ≤ 1048576 * (n : Int) := by
  intro n
  induction n with
  | zero => intro _; exact ⟨Int.le_refl _, by simp [flyN]⟩
  | succ n ih =>
    intro hn
    have h1 := ih (by omega)
    have h2 := (h.pa (i := n) (by omega)).ok.n
    unfold flyN
    omega
def probe1 (E : En) (i : Int) : En := E.sayOut i.toNat (E.probeP i) E.o.ak E.o.ak
theorem probes_snoc (L : List Int) (x : Int) (E : En) : E.probes (L ++ [x]) = (E.probes L).probe1 x := by simp [probes, probe1]
theorem keep_probes (L : List Int) : ∀ E : En, Keep E (E.probes L) := by
  induction L with
  | nil => intro E; exact Keep.refl E
  | cons x L ih => intro E; exact (keep_sayOut _ _ _ _).trans (ih (E.probe1 x))
theorem ok.probe1 (h : E.ok) {i : Nat} (hi : i < E.ps.length) : (E.probe1 (i : Int)).ok := h.sayOut (by simpa using hi) _ h.ap
theorem cap.probe1 (h : E.cap N) (i : Int) : (E.probe1 i).cap (N + 66) := h.sayOut _ (by simp [probeP]) _ _
theorem ok.probes (L : List Int) : ∀ {E : En}, E.ok → (∀ x ∈ L, ∃ i : Nat, x = (i : Int) ∧ i < E.ps.length) → (E.probes L).ok := by
  induction L with
  | nil => intro E h _; exact h
  | cons x L ih =>
    intro E h hL
    obtain ⟨i, rfl, hi⟩ := hL x List.mem_cons_self
    exact ih (h.probe1 hi) fun y hy => by
      obtain ⟨j, h2, h3⟩ := hL y (List.mem_cons_of_mem _ hy)
      exact ⟨j, h2, by have e : (E.probe1 (i : Int)).ps.length = E.ps.length := (keep_sayOut _ _ _ _).len; show j < (E.probe1 (i : Int)).ps.length; rw [e]; exact h3⟩
theorem cap.probes (L : List Int) : ∀ {E : En} {N : Nat}, E.cap N → (E.probes L).cap (N + 66 * L.length) := by
  induction L with
  | nil => intro E N h; exact h
  | cons x L ih => intro E N h; exact (ih (h.probe1 x)).mono (by rw [List.length_cons]; omega)
theorem ok.probe (h : E.ok) : E.probe.ok := by
  unfold En.probe
  split
  · refine h.choose.probes _ fun x hx => ?_
    obtain ⟨i, h2, h3⟩ := chosen_in x hx
    exact ⟨i, h2, by rw [choose_keep.1]; exact h3⟩
  · exact h
theorem cap.probe (hok : E.ok) (h : E.cap N) : E.probe.cap (N + 198) := by
  unfold En.probe
  split
  · exact (h.choose.probes E.chosen).mono (by have := chosen_len (E := E); have := hok.np3; omega)
  · exact h.mono (by omega)
theorem tick1_now {E : En} (i : Nat) : (E.tick1 i).now = E.now ∧ (E.tick1 i).side = E.side := by
  unfold tick1
  split
  · unfold join setDue
    exact ⟨(keep_say (E := E) i _).now, (keep_say (E := E) i _).side⟩
  · have go : ∀ (l : List Qd) (F : En), (F.given l).now = F.now ∧ (F.given l).side = F.side := by
      intro l
      induction l with
      | nil => intro F; exact ⟨rfl, rfl⟩
      | cons x l ih => intro F; exact ih (F.give1 x)
    exact go _ _
theorem tickN_now {E : En} (n : Nat) : (E.tickN n).now = E.now ∧ (E.tickN n).side = E.side := by
  induction n with
  | zero => exact ⟨rfl, rfl⟩
  | succ n ih =>
    unfold tickN
    have := tick1_now (E := E.tickN n) n
    exact ⟨this.1.trans ih.1, this.2.trans ih.2⟩
theorem there_no {E : En} {i : Int} (h : i < 0 ∨ (E.ps.length : Int) ≤ i) : E.there i = false := by
  unfold there
  rcases h with h | h
  · rw [decide_eq_false (show ¬ 0 ≤ i by omega)]; rfl
  · rw [decide_eq_false (show ¬ i < (E.ps.length : Int) by omega), Bool.and_false]
theorem there_yes {E : En} {i : Nat} (h : i < E.ps.length) : E.there (i : Int) = true := by
  unfold there
  rw [decide_eq_true (show 0 ≤ (i : Int) by omega), decide_eq_true (show (i : Int) < (E.ps.length : Int) by omega)]
  rfl
end En
end Go.Proofs.YtpjlnpnadkbakaaGreat
namespace Go.Proofs.YtpjlnpnadkbakaaGreat
set_option maxRecDepth 10000
namespace En
variable {E : En} {N : Nat}
theorem ok.setLim (h : E.ok) {n : Int} (h0 : 0 ≤ n) (h1 : n ≤ 4496) : (E.setLim n).ok := { h with l0 := h0, l1 := h1 }
theorem ok.ackO (h : E.ok) {n : Int} (hn : n ≤ E.pl.sent) : (E.setO (E.o.ack n)).ok := by
  have hx : (E.o.ack n).xs = E.o.xs ∧ (E.o.ack n).places = E.o.places ∧ ((E.o.ack n).ak = E.o.ak ∨ (E.o.ack n).ak = max E.o.ak n) := by
    unfold Ou.ack
    split
    · exact ⟨rfl, rfl, .inr rfl⟩
    · exact ⟨rfl, rfl, .inl rfl⟩
  have ha := h.ap
  refine h.setO (Ou.ack_ok h.o n) (by rw [hx.2.1]; exact h.sp) ?_ (by rw [hx.1]; exact h.by1)
  rcases hx.2.2 with e | e <;> rw [e] <;> omega
theorem put_g (s : In) (f : Int) (ys : List Int) (b : Bool) (k : Int) : (s.put f ys b).g k = if f ≤ k ∧ k < f + ys.length ∧ s.may k then some (ys.getD (k - f).toNat 0) else s.g k := by
  have : (s.put f ys b).g = (s.steps f ys ys.length).1.g := by
    unfold In.put In.fin
    split
    · rfl
    · rfl
  rw [this, In.steps_g]
theorem ok.putI (h : E.ok) {f : Int} {ys : List Int} {b : Bool} (hf : f + (ys.length : Int) ≤ 4096) (hy : ∀ x ∈ ys, 0 ≤ x ∧ x < 256) : (E.setI (E.i.put f ys b)).ok := by
  refine h.setI (In.put_ok h.i f ys b) (fun k hk => ?_) (fun k x hx => ?_)
  · rw [put_g] at hk
    split at hk
    · omega
    · exact h.ib k hk
  · rw [put_g] at hx
    split at hx
    · next hc =>
      injection hx with hx
      subst hx
      have hl : (k - f).toNat < ys.length := by omega
      exact hy _ (by rw [List.getD, List.getElem?_eq_getElem hl]; exact List.getElem_mem hl)
    · exact h.by2 k x hx
theorem pa_setP {i : Nat} (hi : i < E.ps.length) (P : Pa) : (E.setP i P).pa i = P := by simp [setP, En.pa, List.getD, hi]
end En
end Go.Proofs.YtpjlnpnadkbakaaGreat
namespace Go.Proofs.YtpjlnpnadkbakaaGreat
set_option maxRecDepth 10000
def saids (l : List Ev) : List Pkt := (l.filter fun x => x.k == 5).map Ev.pk
theorem saids_app (a b : List Ev) : saids (a ++ b) = saids a ++ saids b := by simp [saids]
theorem saids_no {x : Ev} (h : x.k ≠ 5) : saids [x] = [] := by simp [saids, h]
theorem saids_len (l : List Ev) : (saids l).length ≤ l.length := by unfold saids; rw [List.length_map]; exact List.length_filter_le _ _
theorem bump_bump (m : Nat → Int) (i : Nat) (a b : Int) : bump (bump m i a) i b = bump m i (a + b) := by
  funext j
  unfold bump
  by_cases e : j = i
  · simp only [if_pos e]; omega
  · simp only [if_neg e]
theorem bump_zero (m : Nat → Int) (i : Nat) : bump m i 0 = m := by
  funext j
  unfold bump
  by_cases e : j = i
  · simp only [if_pos e]; omega
  · simp only [if_neg e]
def losts (p : Pl) (l : List Qd) : Pl := l.foldl (fun p q => p.lost q.f q.t) p
theorem losts_snoc (p : Pl) (l : List Qd) (x : Qd) : losts p (l ++ [x]) = (losts p l).lost x.f x.t := by simp [losts]
namespace En
variable {E : En}
def noteS (E : En) (x : Ev) : En := { E with ev := E.ev ++ [x], out := E.out ++ saids [x], m := bump E.m 0 1 }
theorem noteS_in {x : Ev} (h : x.k ≠ 5) : E.noteS x = E.note x := by unfold noteS note; rw [saids_no h, List.append_nil]
theorem say1_eq (i : Nat) (p : Pkt) : E.say1 i p = (((E.setP i (E.pa i).num).noteS (evP 5 (p.num (E.pa i).sent))).count 1 1).count 2 (p.da.length : Int) := rfl
theorem given_eq : ∀ (l : List Qd) (E : En), E.given l = (E.setPl (losts E.pl l)).count 7 (l.length : Int) := by
  intro l
  induction l with
  | nil =>
    intro E
    show E = (E.setPl E.pl).count 7 ((0 : Nat) : Int)
    unfold En.count En.setPl
    simp only [Int.ofNat_zero, bump_zero]
  | cons q l ih =>
    intro E
    show (E.give1 q).given l = _
    rw [ih (E.give1 q)]
    unfold En.count En.setPl En.give1
    simp only [bump_bump, List.length_cons]
    rw [show (1 : Int) + (l.length : Int) = ((l.length + 1 : Nat) : Int) by omega]
    rfl
theorem cap.noteS {N : Nat} (h : E.cap N) (x : Ev) : (E.noteS x).cap (N + 1) := ⟨by simp only [En.noteS, List.length_append, List.length_singleton]; have := h.ev; omega, by simp only [En.noteS, List.length_append]; have := h.out; have := saids_len [x]; simp at this; omega, bump_range h.m (by omega) (k := 1) (by omega)⟩
theorem ok.noteS (h : E.ok) (x : Ev) : (E.noteS x).ok := { h with }
def bs (E : En) : List Int := E.ps.map fun P => if P.usable && P.be then 0 else -1
theorem bs_at {i : Nat} (hi : i < E.ps.length) : E.bs.getD i 0 = if ((E.pa i).usable && (E.pa i).be) = true then 0 else -1 := by simp [bs, pa, List.getD, hi]
theorem fresh_no (h : E.fresh = false) : ∀ i, i < E.ps.length → ((E.pa i).usable && !(E.pa i).be) = false := fun i hi => by
  cases hx : ((E.pa i).usable && !(E.pa i).be)
  · rfl
  · have : E.fresh = true := (any_take (fun P : Pa => P.usable && !P.be) E.ps).2 ⟨i, hi, hx⟩
    rw [h] at this
    cases this
theorem bs_us (h : E.fresh = false) : E.bs = E.us := by
  unfold bs us
  apply List.map_congr_left
  intro P hP
  obtain ⟨i, hi, rfl⟩ := List.getElem_of_mem hP
  have := fresh_no h i hi
  have hp : E.pa i = E.ps[i] := by simp [pa, List.getD, hi]
  rw [hp] at this
  cases hu : E.ps[i].usable <;> cases hb : E.ps[i].be <;> simp [hu, hb] at this ⊢
theorem fresh_means (h : E.fresh = false) : NoneU E.means := fun i hi => by
  rw [means_len] at hi
  rw [means_at hi, if_neg (by rw [fresh_no h i hi]; decide)]
  decide
theorem means_fresh (hok : E.ok) (h : E.fresh = true) : ¬ NoneU E.means := fun hn => by
  obtain ⟨i, hi, hx⟩ := (any_take (fun P : Pa => P.usable && !P.be) E.ps).1 h
  have hx' : ((E.pa i).usable && !(E.pa i).be) = true := hx
  have h1 := hn i (by rw [means_len]; exact hi)
  rw [means_at hi, if_pos hx'] at h1
  have := (hok.pa hi).ok.g.m1
  omega
theorem pick_fresh (hok : E.ok) (hf : E.fresh = true) {L : List Int} {l' : Int} (h : IsPick E.k E.l E.means L l') : L = E.chosen ∧ ({ E with l := l' } : En) = E.choose ∧ 0 < L.length := by
  obtain ⟨h1, h2⟩ := h.eq (pickF_is E.k E.l E.means)
  subst h1
  subst h2
  refine ⟨by unfold chosen; rw [if_pos hf], by unfold choose; rw [if_pos hf], ?_⟩
  have hn : ¬ (can E.means).length = 0 := fun e => means_fresh hok hf (can_none.2 (List.eq_nil_of_length_eq_zero e))
  unfold pickF
  rw [if_neg hn]
  split
  · show 0 < (can E.means).length
    omega
  · split <;> simp
theorem pick_stale (hf : E.fresh = false) {L : List Int} {l' : Int} (h : IsPick E.k E.l E.means L l') : L = [] ∧ ({ E with l := l' } : En) = E.choose ∧ canF E.bs E.ps.length = E.chosen := by
  obtain ⟨h1, h2⟩ := h.eq (pickF_is E.k E.l E.means)
  have hc : (can E.means).length = 0 := by rw [can_none.1 (fresh_means hf)]; rfl
  have hp : pickF E.k E.l E.means = ([], E.l) := by unfold pickF; rw [if_pos hc]
  rw [hp] at h1 h2
  refine ⟨h1, by subst h2; unfold choose; rw [hf]; rfl, ?_⟩
  unfold chosen
  rw [hf, bs_us hf, if_neg (by decide), alls_eq]
end En
end Go.Proofs.YtpjlnpnadkbakaaGreat
namespace Go.Proofs.YtpjlnpnadkbakaaGreat
set_option maxRecDepth 10000
open Go.RowKit
abbrev Lab := Nat → Nat
def relab (L : Lab) (n i : Nat) : Lab := fun k => if k < n then L k else i
def Of (L : Lab) (i : Nat) (F : Nat → Prop) : Prop := ∀ k, F k → L k = i
def OfV (L : Lab) (i : Nat) (v : Value) : Prop := ∀ g, v.ownBlock = some g → L g = i
structure Tn (w w' : World) (L L' : Lab) (S : Nat → Prop) : Prop where
  trn : Trn w w' (fun k => S (L k))
  old : ∀ k, k < w.heap.size → L' k = L k
section
variable {w w1 w' : World} {L L1 L' : Lab} {S S' : Nat → Prop} {F F' : Nat → Prop} {i j n k : Nat} {v v' : Value}
theorem relab_old (h : k < n) : relab L n i k = L k := by unfold relab; rw [if_pos h]
theorem relab_new (h : n ≤ k) : relab L n i k = i := by unfold relab; rw [if_neg (by omega)]
theorem Tn.refl (w : World) (L : Lab) (S : Nat → Prop) : Tn w w L L S := ⟨Trn.refl _ _, fun _ _ => rfl⟩
theorem Tn.size (h : Tn w w' L L' S) : w.heap.size ≤ w'.heap.size := h.trn.size
theorem Tn.trans (h : Tn w w1 L L1 S) (h' : Tn w1 w' L1 L' S) : Tn w w' L L' S :=
  ⟨h.trn.trans h'.trn (fun _ x => x) (fun k hk x => by rw [← h.old k hk]; exact x), fun k hk => (h'.old k (Nat.lt_of_lt_of_le hk h.trn.size)).trans (h.old k hk)⟩
theorem Tn.mono (h : Tn w w' L L' S) (hS : ∀ x, S x → S' x) : Tn w w' L L' S' := ⟨h.trn.mono (fun _ _ x => hS _ x), h.old⟩
theorem Tn.of_sc (h : SC w w' F F') (hF : Of L i F) (hS : S i) : Tn w w' L (relab L w.heap.size i) S :=
  ⟨h.trn.mono (fun k _ hk => by rw [hF k hk]; exact hS), fun k hk => relab_old hk⟩
theorem Of.sc (h : SC w w' F F') (hF : Of L i F) : Of (relab L w.heap.size i) i F' := fun k hk => by
  by_cases e : k < w.heap.size
  · rw [relab_old e]
    exact (h.sub k hk).elim (hF k) (fun h1 => by omega)
  · exact relab_new (by omega)
theorem Tn.of_below (h : Below w.heap.size w w') (L : Lab) (i : Nat) (S : Nat → Prop) : Tn w w' L (relab L w.heap.size i) S := ⟨Trn.of_below h, fun _ hk => relab_old hk⟩
theorem Tn.drewN (w : World) (L : Lab) (n : Nat) (S : Nat → Prop) : Tn w (w.drewN n) L L S := ⟨Trn.of_below ⟨rfl, rfl, rfl, Nat.le_refl _, fun _ _ => rfl⟩, fun _ _ => rfl⟩
theorem Tn.of_grown (h : w.grownBy w' (some n)) (hn : L n = i) (hS : S i) : Tn w w' L (relab L w.heap.size i) S :=
  ⟨(Trn.of_grown h).mono (fun k _ hk => by obtain rfl := Option.some.inj hk; rw [hn]; exact hS), fun k hk => relab_old hk⟩
theorem Tn.of_row (h : w.grownBy w' v.ownBlock) (hv : OfV L i v) (hS : S i) : Tn w w' L (relab L w.heap.size i) S :=
  ⟨(Trn.of_grown h).mono (fun k _ hk => by rw [hv k hk]; exact hS), fun k hk => relab_old hk⟩
theorem OfV.row (hv : OfV L i v) (h : ∀ g, v'.ownBlock = some g → v.ownBlock = some g ∨ w.heap.size ≤ g) : OfV (relab L w.heap.size i) i v' := fun g hg => by
  by_cases e : g < w.heap.size
  · rw [relab_old e]
    exact (h g hg).elim (hv g) (fun h1 => by omega)
  · exact relab_new (by omega)
theorem OfV.new (h : ∀ g, v.ownBlock = some g → n ≤ g) : OfV (relab L n i) i v := fun g hg => relab_new (h g hg)
theorem OfV.nil : OfV L i (.slice none 0 0) := fun g hg => by simp [Value.ownBlock] at hg
theorem OfV.len {A : Option Addr} {n c n' c' : Nat} (h : OfV L i (.slice A n c)) : OfV L i (.slice A n' c') := fun g hg => h g (by cases A with | none => simp [Value.ownBlock] at hg | some a => exact hg)
theorem Of.keep (h : Of L i F) (ht : Tn w w' L L' S) (hF : ∀ k, F k → k < w.heap.size) : Of L' i F := fun k hk => (ht.old k (hF k hk)).trans (h k hk)
theorem OfV.keep (h : OfV L i v) (ht : Tn w w' L L' S) (hF : ∀ g, v.ownBlock = some g → g < w.heap.size) : OfV L' i v := fun g hg => (ht.old g (hF g hg)).trans (h g hg)
theorem Tn.lab (ht : Tn w w' L L' S) (h : L n = i) (hn : n < w.heap.size) : L' n = i := (ht.old n hn).trans h
theorem Of.apart (h : Of L i F) (hi : ¬ S i) : ∀ k, F k → ¬ S (L k) := fun k hk => by rw [h k hk]; exact hi
theorem OfV.apart (h : OfV L i v) (hi : ¬ S i) : ∀ g, v.ownBlock = some g → ¬ S (L g) := fun g hg => by rw [h g hg]; exact hi
theorem Tn.own {q : IntKind} {e : TypeId} {B : Nat} {xs : List Int} (ht : Tn w w' L L' S) (h : Own q e w B v xs) (hv : OfV L i v) (hi : ¬ S i) : Own q e w' B v xs := ht.trn.own h (hv.apart hi)
theorem Tn.row {b : Nat} {t : TypeId} {n : Nat} {f : Nat → Value} (ht : Tn w w' L L' S) (h : w.rowIs b t n f) (hb : L b = i) (hi : ¬ S i) : w'.rowIs b t n f := ht.trn.rowIs h (by rw [hb]; exact hi)
theorem Tn.block (ht : Tn w w' L L' S) (hn : L n = i) (hi : ¬ S i) (hlt : n < w.heap.size) : w'.heap[n]? = w.heap[n]? := ht.trn.block n hlt (by rw [hn]; exact hi)
end
structure TnB (n : Nat) (w w' : World) (L L' : Lab) (S : Nat → Prop) : Prop where
  os : w'.os = w.os
  tape : w'.tape = w.tape
  output : w'.output = w.output
  size : w.heap.size ≤ w'.heap.size
  le : n ≤ w.heap.size
  block : ∀ k, k < n → ¬ S (L k) → w'.heap[k]? = w.heap[k]?
  old : ∀ k, k < n → L' k = L k
section
variable {w w1 w' : World} {L L1 L' : Lab} {S S' : Nat → Prop} {i n : Nat}
theorem Tn.toB (h : Tn w w' L L' S) (hn : n ≤ w.heap.size) : TnB n w w' L L' S := ⟨h.trn.os, h.trn.tape, h.trn.output, h.trn.size, hn, fun k hk hS => h.trn.block k (by omega) hS, fun k hk => h.old k (by omega)⟩
theorem TnB.toTn (h : TnB w.heap.size w w' L L' S) : Tn w w' L L' S := ⟨⟨h.os, h.tape, h.output, h.size, h.block⟩, h.old⟩
theorem TnB.refl (w : World) (L : Lab) (S : Nat → Prop) (hn : n ≤ w.heap.size) : TnB n w w L L S := ⟨rfl, rfl, rfl, Nat.le_refl _, hn, fun _ _ _ => rfl, fun _ _ => rfl⟩
theorem TnB.trans (h : TnB n w w1 L L1 S) (h' : TnB n w1 w' L1 L' S) : TnB n w w' L L' S :=
  ⟨h'.os.trans h.os, h'.tape.trans h.tape, h'.output.trans h.output, Nat.le_trans h.size h'.size, h.le, fun k hk hS => (h'.block k hk (by rw [h.old k hk]; exact hS)).trans (h.block k hk hS), fun k hk => (h'.old k hk).trans (h.old k hk)⟩
theorem TnB.then (h : TnB n w w1 L L1 S) (h' : Tn w1 w' L1 L' S) : TnB n w w' L L' S := h.trans (h'.toB (Nat.le_trans h.le h.size))
theorem TnB.store (w : World) (L : Lab) (S : Nat → Prop) (a : Addr) (v : Value) (hn : n ≤ a.block) (hl : n ≤ w.heap.size) : TnB n w (w.setCell a v) L L S :=
  ⟨rfl, rfl, rfl, by simp, hl, fun k hk _ => heap_setCell_other w a k v (by omega), fun _ _ => rfl⟩
theorem TnB.below (h : TnB n w w1 L L1 S) (hb : Below w1.heap.size w1 w') (i : Nat) : TnB n w w' L (relab L1 w1.heap.size i) S := h.then (Tn.of_below hb L1 i S)
theorem TnB.drewN (h : TnB n w w1 L L1 S) (k : Nat) : TnB n w (w1.drewN k) L L1 S := h.then (Tn.drewN w1 L1 k S)
theorem Tn.store (w : World) (L : Lab) (a : Addr) (v : Value) (ha : L a.block = i) (hS : S i) : Tn w (w.setCell a v) L L S :=
  ⟨⟨rfl, rfl, rfl, by simp, fun k _ hk => heap_setCell_other w a k v (by intro e; subst e; exact hk (by rw [ha]; exact hS))⟩, fun _ _ => rfl⟩
end
end Go.Proofs.YtpjlnpnadkbakaaGreat

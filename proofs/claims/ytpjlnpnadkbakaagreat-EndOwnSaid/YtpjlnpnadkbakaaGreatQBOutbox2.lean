/-
  Outbox2 · InMath2 · SetHas · Lend.
-/
import Derived.Test.YtpjlnpnadkbakaaGreatQBOutbox
import Derived.Lib.SliceRun
import Derived.StillTailTactics
import Derived.Test.YtpjlnpnadkbakaaGreatQBFresh
import Derived.Test.YtpjlnpnadkbakaaGreatQBCountMath
import Derived.Test.YtpjlnpnadkbakaaGreatQBSets
import Derived.Laws.StructEq
import Derived.Laws.ResultCell
import Derived.Test.YtpjlnpnadkbakaaGreatQBCopy
import Derived.Laws.CopyOwn
import Derived.Deep.OwnRows
import Derived.Deep.QuietTactic
import Derived.BigQuiet
namespace Go.Proofs.YtpjlnpnadkbakaaGreat
set_option maxRecDepth 10000
open Go.RowKit
set_option maxHeartbeats 400000 in
theorem sclone_any (A : Option Addr) (n c : Nat) (xs : List Int) (w : World) (hn : xs.length = n) (hr : Rd .u8 w A xs) (hb : n ≤ 140737488355328) (hnil : A = none → c = 0 ∧ n = 0) :
    Calls Tryz.prog 174 #[.slice A n c] w fun e w' => ∃ A' c', e = .returned (.slice A' n c') ∧ Own .u8 5 w' w.heap.size (.slice A' n c') xs ∧ Below w.heap.size w w' := by
  have ke := fun (w : World) (a : Option Addr) (n c : Nat) => Lib.run_eql_slice_nil (P := Tryz.prog) w 29 5 a n c 0 0 Tryz.underlying29
  cases A with
  | none =>
    obtain ⟨rfl, rfl⟩ := hnil rfl
    have : xs = [] := List.eq_nil_of_length_eq_zero hn
    subst this
    clear hn hr hnil
    go_enter Tryz.func174, Tryz.ntmps174
    go_wp2
    go_ret
    exact ⟨_, _, rfl, Own.nil _ _ _ _, Below.refl _ _⟩
  | some a =>
    clear hnil
    have h0 : Own .u8 5 (w.alloc (.cells (bts []) 5)) w.heap.size (.slice (some ⟨w.heap.size, 0, none⟩) 0 0) [] := Own.new w [] _ (by simp [maxLen])
    have H0 := Lib.hid h0
    have HN := Lib.hid hn
    have HR := Lib.hid hr
    clear h0 hn hr
    go_enter Tryz.func174, Tryz.ntmps174
    go_wp2_with (at_builtin; refine wpList_app _ .u8 rfl (.tmp 5) (.tmp 6) 29 rfl 5 (.int .u8 0) 1 Tryz.underlying29 info_byte rfl w.heap.size (.slice (some ⟨w.heap.size, 0, none⟩) 0 0) [] rfl H0.out (some a) n c rfl xs HN.out (HR.out.alloc _) (by simp [maxLen]; omega) (by simp; omega) (by simp) ?_; intro A' c' w' ho hg)
    go_ret
    simp only [List.length_nil, Nat.zero_add, List.nil_append] at ho ⊢
    exact ⟨A', c', rfl, ho, ((Below.refl _ _).alloc (Nat.le_refl _) _).trans (grown_below hg (by simp) (by simp [Value.ownBlock]))⟩
theorem Own.slice_cap' {q : IntKind} {ty : TypeId} {w : World} {B len c : Nat} {A : Option Addr} {xs : List Int} (h : Own q ty w B (.slice A len c) xs) : len ≤ c ∧ c ≤ 9223372036854775807 := by
  refine ⟨h.cap, ?_⟩
  rcases h.2 with ⟨hv, _⟩ | ⟨g, cap, cur, hv, _, _, _, hm, _⟩
  · injection hv with _ _ h3; omega
  · injection hv with _ _ h3
    unfold maxLen at hm; omega
section
variable {w : World} {B p : Nat} {v : Value} {o : Ou}
theorem all_any (h : OutAt w B p v o) : Calls Tryz.prog 135 #[.pointer (some ⟨p, 0, none⟩)] w fun e w' => ∃ A' c', e = .returned (.slice A' o.xs.length c') ∧ Own .u8 5 w' w.heap.size (.slice A' o.xs.length c') o.xs ∧ Below w.heap.size w w' := by
  obtain ⟨A, c, hv⟩ := h.own.form
  have c1 := h.c1
  have hl := h.ok.l
  have ho := h.own
  rw [hv] at c1 ho
  obtain ⟨n, hn⟩ : ∃ n, o.xs.length = n := ⟨_, rfl⟩
  rw [hn] at c1 hl ho ⊢
  have HC := Lib.hid (sclone_any A n c o.xs w hn ho.rd (by omega) (fun e => ho.none_len e))
  clear h hv hn ho
  go_enter Tryz.func135, Tryz.ntmps135
  go_wp2_with fail
  refine HC.out.mono ?_
  rintro e w' ⟨A', c', rfl, h1, h2⟩
  go_wp2
  go_ret
  exact ⟨_, _, rfl, h1, h2⟩
def PieceEnd (w : World) (ys : List Int) (b : Bool) (e : Ending) (w' : World) : Prop :=
  ∃ A' c', e = .returned (.tuple #[.slice A' ys.length c', .bool b]) ∧ Own .u8 5 w' w.heap.size (.slice A' ys.length c') ys ∧ Below w.heap.size w w'
theorem slice_lh (A : Option Addr) (n c a b : Nat) (h : a ≤ b) (hb : b ≤ c) (W : World) : (Instr.sliceAt 29 (.slice A n c) (some (.int .i64 (a : Nat))) (some (.int .i64 (b : Nat))) none).run Tryz.prog W = .ok (.slice (if c = a then A else A.map (·.add a)) (b - a) (c - a)) W := by
  rw [run_sliceAt_slice _ _ _ _ _ _ Tryz.underlying29, run_slice_lh (P := Tryz.prog) W 29 A n c Tryz.underlying29 .i64 .i64 (a : Int) (b : Int) (by omega) (by omega) (by omega)]
  go_simp
set_option maxHeartbeats 1000000 in
theorem piece_ok (h : OutAt w B p v o) (f t : Int) (hb : o.has f t = true) : Calls Tryz.prog 143 #[.pointer (some ⟨p, 0, none⟩), .int .i64 f, .int .i64 t] w (PieceEnd w (o.cut f t) (o.fin f t)) := by
  obtain ⟨A, c, hv⟩ := h.own.form
  have c1 := h.c1
  have hl := h.ok.l
  have ho := h.own
  rw [hv] at c1 ho
  have HP := Lib.hid (places_any h)
  have hb' : 0 ≤ f ∧ f ≤ t ∧ t ≤ o.places := by simpa [Ou.has] using hb
  have hcap := ho.slice_cap'
  unfold Ou.cut Ou.fin
  obtain ⟨xs, hxs⟩ : ∃ xs, o.xs = xs := ⟨_, rfl⟩
  rw [hxs] at c1 hl ho hcap ⊢
  obtain ⟨n, hn⟩ : ∃ n, xs.length = n := ⟨_, rfl⟩
  rw [hn] at c1 hl ho hcap ⊢
  obtain ⟨P, hP⟩ : ∃ P, o.places = P := ⟨_, rfl⟩
  rw [hP] at HP hb'
  obtain ⟨b0, b1, b2⟩ := hb'
  obtain ⟨F, rfl⟩ := Int.eq_ofNat_of_zero_le b0
  obtain ⟨T, rfl⟩ := Int.eq_ofNat_of_zero_le (Int.le_trans b0 b1)
  simp only [Int.toNat_natCast]
  obtain ⟨a, ha⟩ : ∃ a, min F n = a := ⟨_, rfl⟩
  obtain ⟨b, hbb⟩ : ∃ b, min T n = b := ⟨_, rfl⟩
  have m1 := run_min2 (F : Int) (n : Int) (a : Int) (by omega)
  have m2 := run_min2 (T : Int) (n : Int) (b : Int) (by omega)
  have q1 : a ≤ b := by omega
  have q2 : b ≤ n := by omega
  have hsl := slice_lh A n c a b q1 (by omega)
  obtain ⟨A', hA'⟩ : ∃ A', (if c = a then A else A.map (·.add a)) = A' := ⟨_, rfl⟩
  have hcut : (xs.take b).drop a = (xs.take T).drop F := by
    apply List.ext_getElem?
    intro i
    rw [List.getElem?_drop, List.getElem?_drop, List.getElem?_take, List.getElem?_take]
    by_cases e1 : F ≤ n
    · have : a = F := by omega
      subst this
      by_cases e2 : T ≤ n
      · have : b = T := by omega
        rw [this]
      · have : b = n := by omega
        subst this
        by_cases e3 : a + i < b
        · rw [if_pos e3, if_pos (by omega)]
        · rw [if_neg e3]
          split
          · rw [List.getElem?_eq_none (by omega)]
          · rfl
    · have e4 : a = n := by omega
      have e5 : b = n := by omega
      rw [if_neg (by omega)]
      split
      · rw [List.getElem?_eq_none (by omega)]
      · rfl
  have hlen : ((xs.take b).drop a).length = b - a := by rw [List.length_drop, List.length_take]; omega
  have hrd : Rd .u8 w A' ((xs.take b).drop a) := by
    rw [← hA']
    have := (ho.rd.take b).drop a c (by rw [List.length_take]; omega) (by rw [List.length_take]; omega)
    exact this
  rw [hA'] at hsl
  have HC := Lib.hid (sclone_any A' (b - a) (c - a) ((xs.take b).drop a) w hlen hrd (by omega) (fun e => by
    rw [e] at hA'
    have hA0 : A = none := by
      split at hA'
      · exact hA'
      · cases A with
        | none => rfl
        | some x => simp at hA'
    have := ho.none_len hA0
    omega))
  rw [hcut] at hlen HC
  have HL := Lib.hid hlen
  have q3 : ¬ (F : Int) > (T : Int) := by omega
  have q4 : ¬ (T : Int) > P := by omega
  have q5 : ¬ (F : Int) < 0 := by omega
  obtain ⟨k1, hk1⟩ : ∃ k, decide ((F : Int) ≤ (n : Int)) = k := ⟨_, rfl⟩
  obtain ⟨k2, hk2⟩ : ∃ k, decide ((n : Int) < (T : Int)) = k := ⟨_, rfl⟩
  rw [hk1, hk2]
  have hk3 : decide (F ≤ n) = k1 := by rw [← hk1]; exact decide_eq_decide.2 (by omega)
  have hk4 : decide (n < T) = k2 := by rw [← hk2]; exact decide_eq_decide.2 (by omega)
  obtain ⟨ys, hys⟩ : ∃ ys, (xs.take T).drop F = ys := ⟨_, rfl⟩
  rw [hys] at HC HL ⊢
  clear h hb hv ho hcap hxs hn hP b0 b1 b2 ha hbb hA' hcut hrd hlen hys
  have HA : Hid (∀ A'' c'' W, Own .u8 5 W w.heap.size (.slice A'' (b - a) c'') ys → Below w.heap.size w W → PieceEnd w ys (k1 && k2) (.returned (.tuple #[.slice A'' (b - a) c'', .bool (k1 && k2)])) W) := Lib.hid (fun A'' c'' W h1 h2 => ⟨A'', c'', by rw [HL.out], by rw [HL.out]; exact h1, h2⟩)
  cases k1
  all_goals
    go_enter Tryz.func143, Tryz.ntmps143
    go_wp2_with fail
    refine HP.out.mono ?_
    rintro e w' ⟨rfl, rfl⟩
    go_wp2_with fail
    refine HC.out.mono ?_
    rintro e w' ⟨A2, c2, rfl, h1, h2⟩
    go_wp2
    go_ret2
    exact HA.out _ _ _ h1 h2
end
end Go.Proofs.YtpjlnpnadkbakaaGreat
namespace Go.Proofs.YtpjlnpnadkbakaaGreat
set_option maxRecDepth 10000
namespace In
variable {s : In}
theorem shut_may {e k : Int} (h : s.en < 0) (hk : k < e) : (s.shut e).may k ↔ s.may k := by
  unfold may shut
  exact ⟨fun ⟨h1, h2, _, h4⟩ => ⟨h1, h2, .inl h, h4⟩, fun ⟨h1, h2, _, h4⟩ => ⟨h1, h2, .inr hk, h4⟩⟩
theorem steps_shut (h : s.en < 0) (f : Int) (ys : List Int) (e : Int) (i : Nat) (hi : f + i ≤ e) : (s.shut e).steps f ys i = ((s.steps f ys i).1.shut e, (s.steps f ys i).2) := by
  induction i with
  | zero => rfl
  | succ i ih =>
    have ih := ih (by omega)
    have hen := (steps_same (s := s) f ys i).2.2
    have hm : ((s.steps f ys i).1.shut e).may (f + i) ↔ (s.steps f ys i).1.may (f + i) := shut_may (by rw [hen]; exact h) (by omega)
    show ((((s.shut e).steps f ys i).1.put1 (f + i) (ys.getD i 0), ((s.shut e).steps f ys i).2 + ((s.shut e).steps f ys i).1.cnt1 (f + i)) : In × Int) = (((s.steps f ys i).1.put1 (f + i) (ys.getD i 0)).shut e, (s.steps f ys i).2 + (s.steps f ys i).1.cnt1 (f + i))
    rw [ih]
    simp only []
    unfold put1 cnt1
    by_cases hc : (s.steps f ys i).1.may (f + i)
    · rw [if_pos hc, if_pos hc, if_pos (hm.2 hc), if_pos (hm.2 hc)]
      rfl
    · rw [if_neg hc, if_neg hc, if_neg (fun x => hc (hm.1 x)), if_neg (fun x => hc (hm.1 x))]
theorem steps_ends (f : Int) (ys : List Int) (i : Nat) : (s.steps f ys i).1.ends (f + i) ↔ s.ends (f + i) := by
  unfold ends
  rw [(steps_same (s := s) f ys i).2.2]
  refine and_congr Iff.rfl (and_congr Iff.rfl (and_congr Iff.rfl (forall_congr' fun j => ?_)))
  refine imp_congr_right fun hj => ?_
  rw [steps_g, if_neg (by omega)]
theorem put_first (f : Int) (ys : List Int) (b : Bool) : (s.fin (f + ys.length) b).steps f ys ys.length = (s.put f ys b, s.new_ f ys) := by
  unfold put new_
  by_cases h : b = true ∧ s.ends (f + ys.length)
  · obtain ⟨rfl, h⟩ := h
    rw [fin_yes h, fin_yes ((steps_ends f ys _).2 h), steps_shut h.1 f ys _ _ (Int.le_refl _)]
  · rw [fin_no h, fin_no (fun x => h ⟨x.1, (steps_ends f ys _).1 x.2⟩)]
theorem steps_sum (f : Int) (ys : List Int) (i : Nat) : (s.steps f ys i).2 = sumI s.cnt1 f i := by
  induction i with
  | zero => rfl
  | succ i ih => rw [steps_n, ih]; rfl
end In
theorem cnt_put {ps us : List (Int × Int)} (hp : Norm ps) (hu : Norm us) {F : Int} {m : Nat} (h0 : 0 ≤ F) (hm : F + (m : Nat) ≤ 1099511627776) (h : ∀ k, ins us k ↔ ins ps k ∨ (F ≤ k ∧ k < F + (m : Nat))) : cntL us - cntL ps = (m : Nat) - win ps F m := by
  have hq : ∃ qs, Norm qs ∧ ∀ k, ins qs k ↔ ins ps k ∧ ¬ (F ≤ k ∧ k < F + (m : Nat)) := ⟨cutN ps F (F + (m : Nat)), cutN_norm hp _ _⟩
  obtain ⟨qs, hq, hk⟩ := hq
  have e1 := cnt_cut hp hq h0 hm hk
  have e2 := cnt_cut hu hq h0 hm (fun k => by rw [hk, h]; exact ⟨fun ⟨h1, h2⟩ => ⟨.inl h1, h2⟩, fun ⟨h1, h2⟩ => ⟨h1.resolve_right h2, h2⟩⟩)
  have e3 : win us F m = (m : Nat) := sumI_one (fun k h1 h2 => ind_yes ((h k).2 (.inr ⟨h1, h2⟩)))
  omega
theorem new_cnt {s : In} {ps us : List (Int × Int)} (hp : Norm ps) (hu : Norm us) (hg : ∀ k, ins ps k ↔ s.g k ≠ none) (f : Int) (ys : List Int) (i : Nat) (F T : Int) (h0 : 0 ≤ F) (hT : T ≤ 1099511627776)
    (hw : ∀ k, (F ≤ k ∧ k < T) ↔ (f ≤ k ∧ k < f + i ∧ 0 ≤ k ∧ k < s.tk + s.win ∧ (s.en < 0 ∨ k < s.en))) (h : ∀ k, ins us k ↔ ins ps k ∨ (F ≤ k ∧ k < T)) : cntL us - cntL ps = (s.steps f ys i).2 := by
  rw [In.steps_sum]
  by_cases hFT : F < T
  · obtain ⟨m, hm⟩ : ∃ m : Nat, T = F + (m : Nat) := ⟨(T - F).toNat, by omega⟩
    have hin := (hw F).1 ⟨Int.le_refl _, hFT⟩
    have hin2 := (hw (T - 1)).1 ⟨by omega, by omega⟩
    obtain ⟨a, ha⟩ : ∃ a : Nat, F = f + (a : Nat) := ⟨(F - f).toNat, by omega⟩
    obtain ⟨b, hb⟩ : ∃ b : Nat, i = (a + m) + b := ⟨i - (a + m), by omega⟩
    rw [cnt_put (m := m) hp hu h0 (by omega) (fun k => by rw [h, hm])]
    rw [hb, sumI_app, sumI_app]
    have out : ∀ k, ¬ (F ≤ k ∧ k < T) → f ≤ k → k < f + i → s.cnt1 k = 0 := fun k hk h1 h2 => by
      unfold In.cnt1
      rw [if_neg]
      rintro ⟨m1, m2, m3, _⟩
      exact hk ((hw k).2 ⟨h1, h2, m1, m2, m3⟩)
    rw [sumI_zero (n := a) (fun k h1 h2 => out k (by omega) (by omega) (by omega)), sumI_zero (n := b) (fun k h1 h2 => out k (by omega) (by omega) (by omega)), ← ha]
    have hmid : sumI (fun k => s.cnt1 k + ind (ins ps k)) F m = (m : Nat) := sumI_one fun k h1 h2 => by
      obtain ⟨_, _, m1, m2, m3⟩ := (hw k).1 ⟨h1, by omega⟩
      unfold In.cnt1
      by_cases hk : ins ps k
      · rw [ind_yes hk, if_neg (fun hmay => (hg k).1 hk hmay.2.2.2)]
        rfl
      · rw [ind_no hk, if_pos ⟨m1, m2, m3, by
          by_cases hc : s.g k = none
          · exact hc
          · exact absurd ((hg k).2 hc) hk⟩]
        rfl
    rw [sumI_add] at hmid
    have e : win ps F m = sumI (fun k => ind (ins ps k)) F m := rfl
    have e2 : sumI s.cnt1 F m = sumI (fun k => s.cnt1 k) F m := rfl
    omega
  · have hus : us = ps := Norm.ext hu hp (fun k => by rw [h]; exact ⟨fun x => x.elim id (fun y => by omega), .inl⟩)
    rw [hus, sumI_zero (fun k h1 h2 => ?_)]
    · omega
    · unfold In.cnt1
      rw [if_neg]
      rintro ⟨m1, m2, m3, _⟩
      have := (hw k).2 ⟨h1, h2, m1, m2, m3⟩
      omega
def Ring (xs : List Int) (s : In) : Prop := (xs.length : Int) = s.win ∧ ∀ k x, s.tk ≤ k → s.g k = some x → xs.getD (k % s.win).toNat 0 = x
theorem mod_ne {a b t n : Int} (hn : 0 < n) (h1 : t ≤ a) (h2 : a < t + n) (h3 : t ≤ b) (h4 : b < t + n) (h : a % n = b % n) : a = b := by
  have e1 := Int.emod_add_mul_ediv a n
  have e2 := Int.emod_add_mul_ediv b n
  rw [h] at e1
  have e : a - b = n * (a / n - b / n) := by rw [Int.mul_sub]; omega
  have h5 : a / n - b / n = 0 := by
    by_cases h6 : a / n - b / n ≥ 1
    · have := Int.mul_le_mul_of_nonneg_left h6 (Int.le_of_lt hn)
      omega
    · by_cases h7 : a / n - b / n ≤ -1
      · have := Int.mul_le_mul_of_nonneg_left h7 (Int.le_of_lt hn)
        omega
      · omega
  rw [h5] at e
  omega
structure Laid (xs : List Int) (s : In) (f : Int) (ys : List Int) (F k : Int) : Prop where
  ring : Ring xs s
  new : ∀ j, F ≤ j → j < k → s.g j = none → xs.getD (j % s.win).toNat 0 = ys.getD (j - f).toNat 0
theorem Laid.start {xs : List Int} {s : In} (h : Ring xs s) (f : Int) (ys : List Int) (F : Int) : Laid xs s f ys F F := ⟨h, fun j h1 h2 => by omega⟩
theorem Laid.skip {xs : List Int} {s : In} {f : Int} {ys : List Int} {F k : Int} (h : Laid xs s f ys F k) (hk : s.g k ≠ none) : Laid xs s f ys F (k + 1) :=
  ⟨h.ring, fun j h1 h2 h3 => h.new j h1 (by
    by_cases e : j = k
    · subst e; exact absurd h3 hk
    · omega) h3⟩
theorem Laid.lay {xs : List Int} {s : In} {f : Int} {ys : List Int} {F k : Int} (hok : s.ok) (h : Laid xs s f ys F k) (h0 : 0 ≤ F) (hF : F ≤ k) (hk : k < s.tk + s.win) (hg : s.g k = .none) : Laid (xs.set (k % s.win).toNat (ys.getD (k - f).toNat 0)) s f ys F (k + 1) := by
  have w0 := hok.w0
  have w1 := hok.w1
  have hl := h.ring.1
  have htk : ∀ j, 0 ≤ j → s.g j = .none → s.tk ≤ j := fun j h1 h2 => by
    by_cases hc : s.tk ≤ j
    · exact hc
    · exact absurd h2 (hok.had j h1 (by omega))
  have hk0 := htk k (by omega) hg
  have b1 := Int.emod_nonneg k (show s.win ≠ 0 by omega)
  have b2 := Int.emod_lt_of_pos k (show 0 < s.win by omega)
  have other : ∀ j, s.tk ≤ j → j < s.tk + s.win → j ≠ k → (xs.set (k % s.win).toNat (ys.getD (k - f).toNat 0)).getD (j % s.win).toNat 0 = xs.getD (j % s.win).toNat 0 := fun j h1 h2 h3 => by
    have hne : (k % s.win).toNat ≠ (j % s.win).toNat := fun e => by
      have c1 := Int.emod_nonneg j (show s.win ≠ 0 by omega)
      exact h3 (mod_ne (t := s.tk) (n := s.win) (by omega) h1 h2 hk0 hk (by omega))
    simp only [List.getD_eq_getElem?_getD, List.getElem?_set_ne hne]
  refine ⟨⟨by rw [List.length_set]; exact hl, fun j x h1 h2 => ?_⟩, fun j h1 h2 h3 => ?_⟩
  · have hr := hok.rng j (by rw [h2]; simp)
    rw [other j h1 hr.2 (fun e => by rw [e, hg] at h2; cases h2)]
    exact h.ring.2 j x h1 h2
  · by_cases e : j = k
    · subst e
      have hlt : (j % s.win).toNat < xs.length := by omega
      simp [List.getD_eq_getElem?_getD, List.getElem?_set_self hlt]
    · rw [other j (htk j (by omega) h3) (by omega) e]
      exact h.new j h1 (by omega) h3
theorem Laid.all {xs : List Int} {s : In} {f : Int} {ys : List Int} {F T : Int} {i : Nat} (h : Laid xs s f ys F T) (hw : ∀ k, (F ≤ k ∧ k < T) ↔ (f ≤ k ∧ k < f + i ∧ 0 ≤ k ∧ k < s.tk + s.win ∧ (s.en < 0 ∨ k < s.en))) : Ring xs (s.steps f ys i).1 := by
  obtain ⟨e1, e2, _⟩ := In.steps_same (s := s) f ys i
  refine ⟨by rw [e1]; exact h.ring.1, fun k x h1 h2 => ?_⟩
  rw [e2] at h1
  rw [e1]
  rw [In.steps_g] at h2
  by_cases hc : f ≤ k ∧ k < f + i ∧ s.may k
  · rw [if_pos hc] at h2
    injection h2 with h2
    rw [← h2]
    obtain ⟨c1, c2, m1, m2, m3, m4⟩ := hc
    have := (hw k).2 ⟨c1, c2, m1, m2, m3⟩
    exact h.new k this.1 this.2 m4
  · rw [if_neg hc] at h2
    exact h.ring.2 k x h1 h2
theorem steps_ins {s : In} {ps us : List (Int × Int)} (hg : ∀ k, ins ps k ↔ s.g k ≠ none) {f : Int} {ys : List Int} {F T : Int} {i : Nat} (hw : ∀ k, (F ≤ k ∧ k < T) ↔ (f ≤ k ∧ k < f + i ∧ 0 ≤ k ∧ k < s.tk + s.win ∧ (s.en < 0 ∨ k < s.en))) (h : ∀ k, ins us k ↔ ins ps k ∨ (F ≤ k ∧ k < T)) : ∀ k, ins us k ↔ (s.steps f ys i).1.g k ≠ none := by
  intro k
  rw [In.steps_g, h, hg]
  by_cases hc : f ≤ k ∧ k < f + i ∧ s.may k
  · rw [if_pos hc]
    obtain ⟨c1, c2, m1, m2, m3, m4⟩ := hc
    exact ⟨fun _ => by simp, fun _ => .inr ((hw k).2 ⟨c1, c2, m1, m2, m3⟩)⟩
  · rw [if_neg hc]
    refine ⟨fun x => x.elim id (fun y => fun e => hc ?_), .inl⟩
    obtain ⟨c1, c2, m1, m2, m3⟩ := (hw k).1 y
    exact ⟨c1, c2, m1, m2, m3, e⟩
theorem rep_of {s : In} {ps : List (Int × Int)} (hp : Norm ps) (hok : s.ok) (hg : ∀ k, ins ps k ↔ s.g k ≠ none) : ∃ xs, Rep xs ps s.g := by
  refine ⟨(List.range (s.tk + s.win).toNat).map (fun k => (s.g (k : Nat)).getD 0), hp, fun k hk => ?_, fun k hk => ?_⟩
  · have h1 := (hg k).1 hk
    have h2 := hok.rng k h1
    refine ⟨h2.1, by rw [List.length_map, List.length_range]; omega, ?_⟩
    obtain ⟨x, hx⟩ := Option.ne_none_iff_exists'.1 h1
    have hlt : k.toNat < (s.tk + s.win).toNat := by omega
    have e : ((k.toNat : Nat) : Int) = k := by omega
    simp only [List.getD_eq_getElem?_getD, List.getElem?_map, List.getElem?_range hlt, Option.map_some, Option.getD_some, e, hx]
  · by_cases hc : s.g k = none
    · exact hc
    · exact absurd ((hg k).2 hc) hk
end Go.Proofs.YtpjlnpnadkbakaaGreat
namespace Go.Proofs.YtpjlnpnadkbakaaGreat
set_option maxRecDepth 10000
open Go.RowKit
open Go.Sort (grow grow_grow grow_empty alloc_eq_grow)
set_option maxHeartbeats 400000 in
theorem front_none (p : Nat) (v : Value) (B : Nat) (w : World) (hs : SetAt w B p v []) :
    Calls Tryz.prog 155 #[.pointer (some ⟨p, 0, none⟩)] w fun e w' => e = .returned (.int .i64 0) ∧ Below w.heap.size w w' := by
  have H := Lib.hid (first_none p v B w hs)
  clear hs
  go_enter Tryz.func155, Tryz.ntmps155
  go_wp2_with fail
  refine H.out.mono ?_
  rintro e w1 ⟨rfl, hb⟩
  have HB := Lib.hid hb
  clear hb
  go_wp2
  go_ret
  exact ⟨rfl, HB.out.alloc HB.out.size _⟩
set_option maxHeartbeats 400000 in
theorem has_any (p : Nat) (v : Value) (ps : List (Int × Int)) (B : Nat) (f t : Int) (r : Bool) (w : World) (hs : SetAt w B p v ps) (hl : ps.length ≤ 1099511627776) (hr : r = true ↔ ∀ k, f ≤ k → k < t → ins ps k) :
    Calls Tryz.prog 152 #[.pointer (some ⟨p, 0, none⟩), .int .i64 f, .int .i64 t] w fun e w' => e = .returned (.bool r) ∧ Below w.heap.size w w' := by
  by_cases h : t ≤ f
  · obtain rfl : r = true := hr.2 fun k h1 h2 => by omega
    clear hr hs
    go_enter Tryz.func152, Tryz.ntmps152
    go_wp2
    go_ret
    exact ⟨rfl, Below.refl _ _⟩
  · obtain ⟨a, ha, a1, a2⟩ := reach_exists hs.norm t
    have hiff := has_iff hs.norm (show f < t by omega) ha a1 a2
    rw [← hr] at hiff
    have HR := Lib.hid (reaching_any p v ps B a t w hs ⟨ha, a1, a2⟩ (by omega))
    have HBEL := Lib.hid (show ∀ q os, Below w.heap.size w (grow (w.drewN q) os) from fun q os => below_grow _ _ _ _ (Nat.le_refl _))
    have H0 : ¬ (t ≤ f) := h
    obtain ⟨A, c, hv⟩ := hs.own.form
    by_cases hal : a < ps.length
    · rcases hs.form with ⟨_, h1⟩ | ⟨g, c, rfl⟩
      · rw [h1] at hal; simp at hal
      · have HC := Lib.hid (show ∀ q os, (grow (w.drewN q) os).cell? ⟨p, 0, none⟩ = some (.slice (some ⟨g, 0, none⟩) ps.length c) ∧ (grow (w.drewN q) os).cell? ⟨g, a * 2, none⟩ = some (.int .i64 (ps.getD a (0, 0)).1) from fun q os => ⟨(hs.grow q os).c0, ((hs.grow q os).own.cells a hal).1⟩)
        obtain ⟨y, hy⟩ : ∃ y, (ps.getD a (0, 0)).1 = y := ⟨_, rfl⟩
        rw [hy] at HC hiff
        have er : decide (y ≤ f) = r := by
          cases r with
          | true => exact decide_eq_true (hiff.2 rfl).2
          | false => exact decide_eq_false fun h => by have := hiff.1 ⟨hal, h⟩; cases this
        obtain ⟨n, hn⟩ : ∃ n, ps.length = n := ⟨_, rfl⟩
        rw [hn] at HC hal
        have i1 : (a : Int) < (n : Int) := by omega
        have i2 : (0 : Int) ≤ (a : Int) := by omega
        have ER := Lib.hid er
        clear er hr hs hiff ha a1 a2 hl hy hn hv h
        go_enter Tryz.func152, Tryz.ntmps152
        go_wp2_with fail
        refine HR.out.mono ?_
        rintro e w1 ⟨rfl, q, os, rfl⟩
        obtain ⟨c0, c1⟩ := HC.out q os
        have HB := Lib.hid (HBEL.out q os)
        generalize grow (w.drewN q) os = W at *
        go_wp2
        go_ret
        exact ⟨ret_b ER.out, HB.out⟩
    · have er : r = false := by
        cases r with
        | true => exact absurd (hiff.2 rfl).1 hal
        | false => rfl
      subst er
      have hal' : a = ps.length := by omega
      subst hal'
      have HC := Lib.hid (show ∀ q os, (grow (w.drewN q) os).cell? ⟨p, 0, none⟩ = some v from fun q os => (hs.grow q os).c0)
      subst hv
      obtain ⟨n, hn⟩ : ∃ n, ps.length = n := ⟨_, rfl⟩
      rw [hn] at HC HR
      clear hr hs hiff ha a1 a2 hl hn h hal
      go_enter Tryz.func152, Tryz.ntmps152
      go_wp2_with fail
      refine HR.out.mono ?_
      rintro e w1 ⟨rfl, q, os, rfl⟩
      have c0 := HC.out q os
      have HB := Lib.hid (HBEL.out q os)
      generalize grow (w.drewN q) os = W at *
      go_wp2
      go_ret
      exact ⟨rfl, HB.out⟩
theorem cnt_le {ps : List (Int × Int)} (h : Norm ps) : ∀ lo : Int, lo ≤ 1099511627776 → (∀ p ∈ ps, lo ≤ p.1) → 0 ≤ cntL ps ∧ cntL ps ≤ 1099511627776 - lo := by
  induction ps with
  | nil => intro lo hlo _; simp [cntL]; omega
  | cons p ps ih =>
    intro lo hlo hp
    have h1 := h.head
    have h2 := hp p List.mem_cons_self
    have h3 := ih h.tail p.2 h1.2.2 (fun q hq => by have := h.rest q hq; omega)
    simp only [cntL]
    omega
theorem cnt_bd {ps : List (Int × Int)} (h : Norm ps) : 0 ≤ cntL ps ∧ cntL ps ≤ 1099511627776 := by
  have := cnt_le h 0 (by omega) (fun p hp => (h.each p hp).1)
  omega
theorem cnt_step (ps : List (Int × Int)) (k : Nat) (hk : k < ps.length) : cntL (ps.take (k + 1)) = cntL (ps.take k) + ((ps.getD k (0, 0)).2 - (ps.getD k (0, 0)).1) := by
  rw [List.take_add_one, cntL_app]
  simp [List.getD, hk, cntL]
set_option maxHeartbeats 400000 in
theorem count_any (p : Nat) (v : Value) (ps : List (Int × Int)) (B : Nat) (w : World) (hs : SetAt w B p v ps) (hl : ps.length ≤ 1099511627776) :
    Calls Tryz.prog 153 #[.pointer (some ⟨p, 0, none⟩)] w fun e w' => e = .returned (.int .i64 (cntL ps)) ∧ Below w.heap.size w w' := by
  obtain ⟨A, c, hv⟩ := hs.own.form
  have c0 := hs.c0
  have HCELL := Lib.hid (show ∀ (W : World) k, Below w.heap.size w W → k < ps.length → ∃ g, A = some ⟨g, 0, none⟩ ∧ W.cell? ⟨g, k * 2, none⟩ = some (.int .i64 (ps.getD k (0, 0)).1) ∧ W.cell? ⟨g, k * 2 + 1, none⟩ = some (.int .i64 (ps.getD k (0, 0)).2) from fun W k hb hk => by
    have h1 := (hs.later hb).own
    rw [hv] at h1
    obtain ⟨g, rfl, _⟩ := h1.at (by omega)
    exact ⟨g, rfl, h1.cells k hk⟩)
  have HBD := Lib.hid (show ∀ k, 0 ≤ cntL (ps.take k) ∧ cntL (ps.take k) ≤ 1099511627776 from fun k => cnt_bd (hs.norm.take k))
  have HAT := Lib.hid (show ∀ k, k < ps.length → 0 ≤ (ps.getD k (0, 0)).1 ∧ (ps.getD k (0, 0)).1 < (ps.getD k (0, 0)).2 ∧ (ps.getD k (0, 0)).2 ≤ 1099511627776 from fun k hk => hs.norm.at k hk)
  have HST := Lib.hid (cnt_step ps)
  subst hv
  obtain ⟨n, hn⟩ : ∃ n, ps.length = n := ⟨_, rfl⟩
  have HN := Lib.hid hn
  rw [hn] at c0 hl HCELL HAT HST
  clear hs hn
  go_enter Tryz.func153, Tryz.ntmps153
  go_wp2
  go_loopw [3, 11] (fun s i wr => ∃ k : Nat, k ≤ n ∧ i = .int .i64 k ∧ s = .int .i64 (cntL (ps.take k)) ∧ Hid (Below w.heap.size w wr)) (fun _ i _ => n - (intOf i).toNat)
  case atStart => exact ⟨0, by omega, rfl, rfl, Below.refl _ _⟩
  case round =>
    obtain ⟨k, hk, rfl, rfl, hb⟩ := hrel
    by_cases hlt : k < n
    · obtain ⟨g, rfl, c1, c2⟩ := HCELL.out wr k hb.out hlt
      have hst := HST.out k hlt
      have hat := HAT.out k hlt
      have hbd := HBD.out k
      obtain ⟨x, hx⟩ : ∃ x, (ps.getD k (0, 0)).1 = x := ⟨_, rfl⟩
      obtain ⟨y, hy⟩ : ∃ y, (ps.getD k (0, 0)).2 = y := ⟨_, rfl⟩
      obtain ⟨s, hs⟩ : ∃ s, cntL (ps.take k) = s := ⟨_, rfl⟩
      rw [hx, hy, hs] at hst
      rw [hx, hy] at hat
      rw [hx] at c1
      rw [hy] at c2
      rw [hs] at hbd ⊢
      have HST2 := Lib.hid hst
      have i1 : (k : Int) < (n : Int) := by omega
      have i2 : (0 : Int) ≤ (k : Int) := by omega
      clear hst hx hy hs
      go_wp2
      go_roundw
      case rel => exact ⟨k + 1, by omega, by go_num, by rw [HST2.out], hb.out.alloc hb.out.size _⟩
      case measure => simp [intOf]; omega
    · have : k = n := by omega
      subst this
      rw [show ps.take k = ps from by rw [← HN.out, List.take_length]]
      obtain ⟨s, hs⟩ : ∃ s, cntL ps = s := ⟨_, rfl⟩
      rw [hs]
      have HSS := Lib.hid hs
      clear hs
      go_wp2
      go_ret
      exact ⟨ret_i HSS.out.symm, hb.out⟩
end Go.Proofs.YtpjlnpnadkbakaaGreat
namespace Go.Proofs.YtpjlnpnadkbakaaGreat
set_option maxRecDepth 10000
open Go.RowKit
theorem madeByte (n : Nat) : madeCells #[.int .u8 0] n = ((List.replicate n (Value.int .u8 0))).toArray := by
  rw [← toList_madeCells_one]
end Go.Proofs.YtpjlnpnadkbakaaGreat

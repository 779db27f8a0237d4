/-
  EnOk · EnCap · EnGiven · PlanSmall.
-/
import Derived.Test.YtpjlnpnadkbakaaGreatQBEvMem
import Derived.Test.YtpjlnpnadkbakaaGreatQBRangesMath
import Derived.WalkKit
import Derived.IntWalk
namespace Go.Proofs.YtpjlnpnadkbakaaGreat
set_option maxRecDepth 10000
structure Pa.fine (P : Pa) (now s : Int) : Prop where
  ok : P.ok
  len : (P.fl.length : Int) ≤ P.sent
  out : ∀ q ∈ P.fl, 0 ≤ q.n ∧ q.n < P.sent ∧ 0 ≤ q.a ∧ q.a ≤ now ∧ q.t ≤ s
structure En.ok (E : En) : Prop where
  np1 : 1 ≤ E.ps.length
  np3 : E.ps.length ≤ 3
  npc : (E.ps.length : Int) = E.c.np
  nd : E.due.length = E.ps.length
  side : E.side = 0 ∨ E.side = 1
  c1 : 1 ≤ E.c.chk ∧ E.c.chk ≤ 64
  c2 : 1 ≤ E.c.first ∧ E.c.first ≤ 64
  n0 : 0 ≤ E.now
  n1 : E.now ≤ 1048576
  ps : ∀ P ∈ E.ps, P.fine E.now E.pl.sent
  du : ∀ d ∈ E.due, 0 ≤ d ∧ d ≤ 1048640
  l0 : 0 ≤ E.limit
  l1 : E.limit ≤ 4496
  o : E.o.ok
  pl : E.pl.ok
  sp : E.pl.sent ≤ E.o.places
  ap : E.o.ak ≤ E.pl.sent
  i : E.i.ok
  ib : ∀ k, E.i.g k ≠ none → k < 4096
  by1 : ∀ x ∈ E.o.xs, 0 ≤ x ∧ x < 256
  by2 : ∀ k x, E.i.g k = some x → 0 ≤ x ∧ x < 256
  la : -1 ≤ E.l ∧ E.l ≤ 3
structure En.cap (E : En) (N : Nat) : Prop where
  ev : E.ev.length ≤ N
  out : E.out.length ≤ N
  m : ∀ j, 0 ≤ E.m j ∧ E.m j ≤ N
theorem Pa.fine.mono {P : Pa} {now s now' s' : Int} (h : P.fine now s) (h1 : now ≤ now') (h2 : s ≤ s') : P.fine now' s' := ⟨h.ok, h.len, fun q hq => by have := h.out q hq; omega⟩
theorem Pa.fine.num {P : Pa} {now s : Int} (h : P.fine now s) (hs : P.sent ≤ 65535) : P.num.fine now s := ⟨h.ok.num hs, by have := h.len; simp only [Pa.num]; omega, fun q hq => by have := h.out q hq; simp only [Pa.num]; omega⟩
theorem Pa.fine.setUp {P : Pa} {now s : Int} (h : P.fine now s) (b : Bool) : (P.setUp b).fine now s := ⟨h.ok.setUp b, h.len, h.out⟩
theorem Pa.fine.setJo {P : Pa} {now s : Int} (h : P.fine now s) (b : Bool) : (P.setJo b).fine now s := ⟨h.ok.setJo b, h.len, h.out⟩
theorem Pa.fine.down {P : Pa} {now s : Int} (h : P.fine now s) : P.down.fine now s := ⟨h.ok.down, by have := h.ok.s1; simp [Pa.down, Pa.setFl, Pa.setUp]; omega, fun q hq => by simp [Pa.down, Pa.setFl, Pa.setUp] at hq⟩
theorem Pa.fine.sent {P : Pa} {now s : Int} (h : P.fine now s) (hs : P.sent ≤ 65535) {f t : Int} (h0 : 0 ≤ now) (ht : t ≤ s) : (P.num.out ⟨P.sent, f, t, now⟩).fine now s := by
  have hl := h.len
  have h1 := h.ok.s1
  refine ⟨(h.ok.num hs).out _ (by show P.fl.length < 1048576; omega), ?_, fun q hq => ?_⟩
  · simp only [Pa.out, Pa.setFl, Pa.num, List.length_append, List.length_singleton]
    omega
  · simp only [Pa.out, Pa.setFl, Pa.num] at hq ⊢
    rcases List.mem_append.1 hq with hq | hq
    · have := h.out q hq
      omega
    · simp at hq
      subst hq
      simp only
      omega
theorem Pa.fine.none {P : Pa} {now s : Int} (h : P.fine now s) : NoneQ P.fl P.sent := fun j hj => by
  have hm : P.fl.getD j qz ∈ P.fl := by simp [List.getD, hj]
  have := h.out _ hm
  omega
theorem Pa.fine.lateN {P : Pa} {now s n' : Int} (h : P.fine n' s) (hn : n' ≤ now) : (P.lateN now).fine now s := by
  unfold Pa.lateN
  split
  · exact h.mono hn (Int.le_refl _)
  · refine ⟨h.ok.late now, ?_, fun q hq => ?_⟩
    · have := stay_len P.fl (now - P.g.wait)
      have := h.len
      simp only [Pa.late]
      omega
    · have hq' : q ∈ P.fl := by
        simp only [Pa.late, stayQ] at hq
        exact (List.mem_filter.1 hq).1
      have := h.out q hq'
      simp only [Pa.late]
      omega
theorem gone_mem {l : List Qd} {i : Nat} {q : Qd} (h : q ∈ goneQ l i) : q ∈ l := by
  unfold goneQ at h
  rcases List.mem_append.1 h with h | h
  · exact List.mem_of_mem_take h
  · exact List.mem_of_mem_drop h
theorem ackP_cases (P : Pa) (x now : Int) : (NoneQ P.fl x ∧ ackP P x now = P) ∨ ∃ i, FirstQ P.fl x i ∧ ackP P x now = P.acked i now := by
  unfold ackP
  cases h : P.fl.findIdx? (fun q => q.n == x) with
  | none =>
    left
    refine ⟨fun j hj => ?_, rfl⟩
    have := (List.findIdx?_eq_none_iff.1 h) (P.fl.getD j qz) (by simp [List.getD, hj])
    simpa using this
  | some i =>
    right
    obtain ⟨h1, h2, h3⟩ := List.findIdx?_eq_some_iff_getElem.1 h
    refine ⟨i, ⟨h1, ?_, fun k hk => ?_⟩, rfl⟩
    · simpa [List.getD, h1] using h2
    · have := h3 k hk
      simpa [List.getD, show k < P.fl.length by omega] using this
theorem Pa.fine.ackP {P : Pa} {now s : Int} (h : P.fine now s) (x : Int) : (ackP P x now).fine now s := by
  rcases ackP_cases P x now with ⟨_, e⟩ | ⟨i, hi, e⟩
  · rw [e]; exact h
  · rw [e]
    refine ⟨h.ok.acked i now hi.1, ?_, fun q hq => ?_⟩
    · have := goneQ_len hi.1
      have := h.len
      simp only [Pa.acked]
      omega
    · have := h.out q (gone_mem (by simpa only [Pa.acked] using hq))
      simpa only [Pa.acked] using this
namespace En
variable {E : En} {N : Nat}
theorem pa_get {i : Nat} (hi : i < E.ps.length) : E.pa i ∈ E.ps := by simp [pa, List.getD, hi]
theorem ok.pa (h : E.ok) {i : Nat} (hi : i < E.ps.length) : (E.pa i).fine E.now E.pl.sent := h.ps _ (pa_get hi)
theorem set_fine {l : List Pa} {i : Nat} {P : Pa} {now s : Int} (h : ∀ Q ∈ l, Q.fine now s) (hP : P.fine now s) : ∀ Q ∈ l.set i P, Q.fine now s := fun Q hQ => by
  rcases List.mem_or_eq_of_mem_set hQ with hQ | rfl
  · exact h Q hQ
  · exact hP
theorem ok.setP (h : E.ok) (i : Nat) {P : Pa} (hP : P.fine E.now E.pl.sent) : (E.setP i P).ok :=
  { h with np1 := by simpa [En.setP] using h.np1, np3 := by simpa [En.setP] using h.np3, npc := by simpa [En.setP] using h.npc, nd := by simpa [En.setP] using h.nd, ps := set_fine h.ps hP }
theorem ok.note (h : E.ok) (x : Ev) : (E.note x).ok := { h with }
theorem ok.count (h : E.ok) (j : Nat) (n : Int) : (E.count j n).ok := { h with }
theorem ok.setDue (h : E.ok) (i : Nat) {d : Int} (hd : 0 ≤ d ∧ d ≤ 1048640) : (E.setDue i d).ok :=
  { h with nd := by simpa [En.setDue] using h.nd, du := fun x hx => (List.mem_or_eq_of_mem_set hx).elim (h.du x) (fun e => e ▸ hd) }
theorem ok.say1 (h : E.ok) {i : Nat} (hi : i < E.ps.length) (hs : (E.pa i).sent ≤ 65535) (p : Pkt) : (E.say1 i p).ok :=
  { h with np1 := by simpa [En.say1] using h.np1, np3 := by simpa [En.say1] using h.np3, npc := by simpa [En.say1] using h.npc, nd := by simpa [En.say1] using h.nd, ps := set_fine h.ps ((h.pa hi).num hs) }
theorem ok.say (h : E.ok) {i : Nat} (hi : i < E.ps.length) (p : Pkt) : (E.say i p).ok := by
  unfold En.say
  split
  · exact h.say1 hi (by assumption) p
  · exact h
theorem ok.sayOut (h : E.ok) {i : Nat} (hi : i < E.ps.length) (p : Pkt) {f t : Int} (ht : t ≤ E.pl.sent) : (E.sayOut i p f t).ok := by
  unfold En.sayOut
  split
  · next hs =>
    exact (h.say1 hi hs p).setP i ((h.pa hi).sent hs h.n0 ht)
  · exact h
theorem ok.setPl (h : E.ok) {p : Pl} (hp : p.ok) (h1 : E.pl.sent ≤ p.sent) (h2 : p.sent ≤ E.o.places) : (E.setPl p).ok :=
  { h with ps := fun P hP => (h.ps P hP).mono (Int.le_refl _) h1, pl := hp, sp := h2, ap := Int.le_trans h.ap h1 }
theorem nx_sent (h : E.ok) : E.pl.sent ≤ E.nx.p.sent ∧ E.nx.p.sent ≤ E.o.places ∧ (E.nx.ok = true → E.nx.f < E.nx.t ∧ 0 ≤ E.nx.f ∧ E.nx.t ≤ E.nx.p.sent) := by
  have h1 := Pl.cut_ok h.pl 0 E.o.ak
  have hsp := h.sp
  unfold nx Pl.next Pl.step
  cases hc : cutN E.pl.ls 0 E.o.ak with
  | nil =>
    simp only []
    have ht := Pl.till_range h.o E.limit
    have htp : E.o.till E.limit ≤ E.o.places := by
      have h3 : (E.o.xs.length : Int) ≤ E.o.places := by unfold Ou.places; split <;> omega
      have h4 := Ou.places_range h.o
      unfold Ou.till
      split <;> omega
    split
    · rename_i hlt
      have := Pl.reach_range E.o (Pl.chk_range E.c.chk).1 hlt
      have := h.pl.s0
      simp only []
      omega
    · simp
      exact hsp
  | cons q qs =>
    rw [hc] at h1
    have hm := Pl.mem_range h1 List.mem_cons_self
    simp only [] at hm ⊢
    have := Pl.reach_range E.o (f := q.1) (t := q.2) (Pl.chk_range E.c.chk).1 hm.2.1
    omega
theorem ok.setNx (h : E.ok) : (E.setPl E.nx.p).ok := h.setPl (Pl.next_ok h.pl h.o _ _) (nx_sent h).1 (nx_sent h).2.1
theorem ok.setL (h : E.ok) {l : Int} (hl : -1 ≤ l ∧ l ≤ 3) : ({ E with l := l } : En).ok := { h with la := hl }
theorem means_len : E.means.length = E.ps.length := by simp [means]
theorem ok.choose (h : E.ok) : E.choose.ok := by
  unfold En.choose
  split
  · exact h.setL ((pickF_is E.k E.l E.means).last h.la (by rw [means_len]; have := h.np3; omega))
  · exact h
theorem pick_in {k l : Int} {ms : List Int} {n : Nat} (hn : ms.length = n) : ∀ x ∈ (pickF k l ms).1, ∃ i : Nat, x = (i : Int) ∧ i < n ∧ 0 ≤ ms.getD i 0 := by
  have hc : ∀ j, j < (can ms).length → ∃ i : Nat, (can ms).getD j 0 = (i : Int) ∧ i < n ∧ 0 ≤ ms.getD i 0 := fun j hj => by
    obtain ⟨p, h1, h2, h3⟩ := canF_at (ms := ms) (i := ms.length) hj
    exact ⟨p, h1, by omega, h3⟩
  intro x hx
  rcases pickF_is k l ms with ⟨_, h2, _⟩ | ⟨_, ⟨_, h2, _⟩ | ⟨_, b, h3, h2, _⟩ | ⟨_, _, b, h3, h2, _⟩⟩
  · rw [h2] at hx; simp at hx
  · rw [h2] at hx
    obtain ⟨j, hj, rfl⟩ := List.getElem_of_mem hx
    obtain ⟨i, h4, h5⟩ := hc j hj
    exact ⟨i, by rw [← h4]; simp [List.getD, hj], h5⟩
  · rw [h2] at hx
    simp at hx
    have := h3.lt
    exact ⟨b, hx, by omega, h3.us⟩
  · rw [h2] at hx
    simp at hx
    have := h3.lt
    exact ⟨b, hx, by omega, h3.us⟩
theorem can_in {ms : List Int} {n : Nat} (hn : ms.length = n) : ∀ x ∈ can ms, ∃ i : Nat, x = (i : Int) ∧ i < n ∧ 0 ≤ ms.getD i 0 := fun x hx => by
  obtain ⟨j, hj, rfl⟩ := List.getElem_of_mem hx
  obtain ⟨p, h1, h2, h3⟩ := canF_at (ms := ms) (i := ms.length) hj
  exact ⟨p, by rw [← h1]; unfold can at hj ⊢; simp [List.getD, hj], by omega, h3⟩
theorem chosen_in : ∀ x ∈ E.chosen, ∃ i : Nat, x = (i : Int) ∧ i < E.ps.length := fun x hx => by
  unfold chosen at hx
  split at hx
  · obtain ⟨i, h1, h2, _⟩ := pick_in means_len x hx
    exact ⟨i, h1, h2⟩
  · obtain ⟨i, h1, h2, _⟩ := can_in (n := E.ps.length) (by simp) x hx
    exact ⟨i, h1, h2⟩
theorem chosen_len : E.chosen.length ≤ E.ps.length := by
  unfold chosen
  split
  · have := (pickF_is E.k E.l E.means).len
    rw [means_len] at this
    exact this
  · have := canF_len (E.ps.map fun P => if P.usable then 0 else -1) (E.ps.map fun P => if P.usable then (0 : Int) else -1).length
    unfold alls can
    simpa using this
structure Keep (E F : En) : Prop where
  c : F.c = E.c
  side : F.side = E.side
  now : F.now = E.now
  len : F.ps.length = E.ps.length
  due : F.due = E.due
  limit : F.limit = E.limit
  o : F.o = E.o
  pl : F.pl = E.pl
  i : F.i = E.i
  k : F.k = E.k
  l : F.l = E.l
theorem Keep.refl (E : En) : Keep E E := ⟨rfl, rfl, rfl, rfl, rfl, rfl, rfl, rfl, rfl, rfl, rfl⟩
theorem Keep.trans {F G : En} (h : Keep E F) (h' : Keep F G) : Keep E G := ⟨h'.c.trans h.c, h'.side.trans h.side, h'.now.trans h.now, h'.len.trans h.len, h'.due.trans h.due, h'.limit.trans h.limit, h'.o.trans h.o, h'.pl.trans h.pl, h'.i.trans h.i, h'.k.trans h.k, h'.l.trans h.l⟩
theorem keep_say1 (i : Nat) (p : Pkt) : Keep E (E.say1 i p) := ⟨rfl, rfl, rfl, by simp [say1], rfl, rfl, rfl, rfl, rfl, rfl, rfl⟩
theorem keep_say (i : Nat) (p : Pkt) : Keep E (E.say i p) := by
  unfold say
  split
  · exact keep_say1 i p
  · exact Keep.refl E
theorem keep_sayOut (i : Nat) (p : Pkt) (f t : Int) : Keep E (E.sayOut i p f t) := by
  unfold sayOut
  split
  · exact (keep_say1 i p).trans ⟨rfl, rfl, rfl, by simp [setP], rfl, rfl, rfl, rfl, rfl, rfl, rfl⟩
  · exact Keep.refl E
theorem keep_datas (f t : Int) (L : List Int) : ∀ E : En, Keep E (E.datas f t L) := by
  induction L with
  | nil => intro E; exact Keep.refl E
  | cons x L ih => intro E; exact (keep_sayOut _ _ f t).trans (ih (E.data x f t))
theorem ok.datas {f t : Int} (L : List Int) : ∀ {E : En}, E.ok → t ≤ E.pl.sent → (∀ x ∈ L, ∃ i : Nat, x = (i : Int) ∧ i < E.ps.length) → (E.datas f t L).ok := by
  induction L with
  | nil => intro E h _ _; exact h
  | cons x L ih =>
    intro E h ht hL
    obtain ⟨i, rfl, hi⟩ := hL x List.mem_cons_self
    have hk := keep_sayOut (E := E) ((i : Int)).toNat (E.dataP i f t) f t
    have h1 : (E.data i f t).ok := h.sayOut (by simpa using hi) _ ht
    refine ih h1 ?_ fun y hy => ?_
    · have : (E.data i f t).pl = E.pl := hk.pl
      rw [this]; exact ht
    · obtain ⟨j, h2, h3⟩ := hL y (List.mem_cons_of_mem _ hy)
      exact ⟨j, h2, by rw [show (E.data i f t).ps.length = E.ps.length from hk.len]; exact h3⟩
theorem choose_keep : E.choose.ps = E.ps ∧ E.choose.pl = E.pl ∧ E.choose.o = E.o ∧ E.choose.limit = E.limit ∧ E.choose.c = E.c ∧ E.choose.now = E.now := by
  unfold choose
  split <;> exact ⟨rfl, rfl, rfl, rfl, rfl, rfl⟩
theorem ok.piece (h : E.ok) (hx : E.nx.ok = true) : E.piece.ok := by
  unfold En.piece
  have h1 := h.setNx.choose
  have hk := choose_keep (E := E.setPl E.nx.p)
  refine h1.datas _ ?_ fun x hx => ?_
  · rw [hk.2.1]; exact ((nx_sent h).2.2 hx).2.2
  · obtain ⟨i, h2, h3⟩ := chosen_in x hx
    exact ⟨i, h2, by rw [hk.1]; exact h3⟩
theorem cnt_pos {ps : List (Int × Int)} (h : Norm ps) : 0 ≤ cntL ps := by rw [cnt_win h]; exact (win_le _ _ _).1
theorem nx_less (h : E.ok) (hx : E.nx.ok = true) : (E.setPl E.nx.p).left + 1 ≤ E.left := by
  have h1 := Pl.cut_ok h.pl 0 E.o.ak
  have hs1 := h.pl.s1
  have hs0 := h.pl.s0
  have hcp := cnt_pos h.pl.norm
  have hcut : cntL (cutN E.pl.ls 0 E.o.ak) ≤ cntL E.pl.ls := by
    by_cases ha : 0 < E.o.ak
    · have hak : E.o.ak ≤ 4097 := by have := h.o.a2; have := Ou.places_range h.o; omega
      have := cnt_cut h.pl.norm h1.norm (F := 0) (m := E.o.ak.toNat) (by omega) (by omega) (fun k => by rw [(cutN_norm h.pl.norm 0 E.o.ak).2 k]; constructor <;> rintro ⟨a, b⟩ <;> exact ⟨a, by omega⟩)
      have := (win_le E.pl.ls 0 E.o.ak.toNat).1
      simp only [] at *
      omega
    · unfold cutN
      rw [if_neg ha]
      exact Int.le_refl _
  have hnk := Pl.next_ok h.pl h.o E.limit E.c.chk
  have hn0 := cnt_pos hnk.norm
  unfold left
  show (cntL E.nx.p.ls + (4097 - E.nx.p.sent)).toNat + 1 ≤ _
  suffices hsuf : cntL E.nx.p.ls + (4097 - E.nx.p.sent) + 1 ≤ cntL E.pl.ls + (4097 - E.pl.sent) by
    have h3 : 0 ≤ cntL E.nx.p.ls := hn0
    have h4 : E.nx.p.sent ≤ 4097 := hnk.s1
    omega
  clear hnk hn0
  unfold nx Pl.next Pl.step at hx ⊢
  cases hc : cutN E.pl.ls 0 E.o.ak with
  | nil =>
    rw [hc] at hx
    simp only [] at hx ⊢
    split at hx
    · next hlt =>
      rw [if_pos hlt]
      have := Pl.reach_range E.o (Pl.chk_range E.c.chk).1 hlt
      simp only [cntL]
      simp
      omega
    · simp at hx
  | cons q qs =>
    rw [hc] at h1 hcut
    simp only []
    have hm := Pl.mem_range h1 List.mem_cons_self
    simp only [] at hm
    have hr := Pl.reach_range E.o (f := q.1) (t := q.2) (Pl.chk_range E.c.chk).1 hm.2.1
    obtain ⟨r, hrr⟩ : ∃ r, reachI E.o q.1 q.2 (chk E.c.chk) = r := ⟨_, rfl⟩
    rw [hrr] at hr ⊢
    have h1n : Norm (q :: qs) := h1.norm
    have hcn := cutN_norm h1n q.1 r
    have h5 := cnt_cut h1n hcn.1 (F := q.1) (m := (r - q.1).toNat) hm.1 (by omega) (fun k => by rw [hcn.2 k]; constructor <;> rintro ⟨a, b⟩ <;> exact ⟨a, by omega⟩)
    have h6 : win (q :: qs) q.1 (r - q.1).toNat = ((r - q.1).toNat : Int) := sumI_one fun k h1 h2 => ind_yes ⟨q, List.mem_cons_self, h1, by omega⟩
    rw [h6] at h5
    omega
theorem piece_left : E.piece.left = (E.setPl E.nx.p).left := by
  unfold piece left
  rw [(keep_datas _ _ _ _).pl, (choose_keep (E := E.setPl E.nx.p)).2.1]
theorem pumpF_more : ∀ (n m : Nat) (E : En), E.ok → E.left < n → E.left < m → pumpF n E = pumpF m E := by
  intro n
  induction n with
  | zero => intro m E _ h _; omega
  | succ n ih =>
    intro m E h hn hm
    cases m with
    | zero => omega
    | succ m =>
      unfold pumpF
      split
      · split
        · next hx =>
          have := nx_less h hx
          have := piece_left (E := E)
          exact ih m _ (h.piece hx) (by omega) (by omega)
        · rfl
      · rfl
theorem pump_eq (h : E.ok) : E.pump = if E.usable then (if E.nx.ok then E.piece.pump else E.setPl E.nx.p) else E := by
  unfold pump
  rw [pumpF]
  by_cases hu : E.usable = true
  · rw [if_pos hu, if_pos hu]
    by_cases hx : E.nx.ok = true
    · rw [if_pos hx, if_pos hx]
      have := nx_less h hx
      have := piece_left (E := E)
      exact pumpF_more _ _ _ (h.piece hx) (by omega) (by omega)
    · rw [if_neg hx, if_neg hx]
  · rw [if_neg hu, if_neg hu]
theorem ok.pump (h : E.ok) : E.pump.ok := by
  have go : ∀ n (E : En), E.ok → E.left < n → (pumpF n E).ok := by
    intro n
    induction n with
    | zero => intro E _ h; omega
    | succ n ih =>
      intro E h hn
      unfold pumpF
      split
      · split
        · next hx =>
          have := nx_less h hx
          have := piece_left (E := E)
          exact ih _ (h.piece hx) (by omega)
        · exact h.setNx
      · exact h
  exact go _ E h (Nat.lt_succ_self _)
theorem any_take (f : Pa → Bool) (l : List Pa) : l.any f = true ↔ ∃ i, i < l.length ∧ f (l.getD i pz) = true := by
  rw [List.any_eq_true]
  constructor
  · rintro ⟨x, hx, hf⟩
    obtain ⟨i, hi, rfl⟩ := List.getElem_of_mem hx
    exact ⟨i, hi, by simpa [List.getD, hi] using hf⟩
  · rintro ⟨i, hi, hf⟩
    exact ⟨l.getD i pz, by simp [List.getD, hi], hf⟩
theorem usable_yes {i : Nat} (hi : i < E.ps.length) (hu : (E.pa i).usable = true) : E.usable = true := (any_take _ _).2 ⟨i, hi, hu⟩
theorem usable_no (h : ∀ j, j < E.ps.length → (E.pa j).usable = false) : E.usable = false := by
  rw [Bool.eq_false_iff]
  intro e
  obtain ⟨i, hi, hu⟩ := (any_take _ _).1 e
  have := h i hi
  unfold En.pa at this
  rw [this] at hu
  cases hu
def us (E : En) : List Int := E.ps.map fun P => if P.usable then 0 else -1
theorem us_len : E.us.length = E.ps.length := by simp [us]
theorem means_at {i : Nat} (hi : i < E.ps.length) : E.means.getD i 0 = if ((E.pa i).usable && !(E.pa i).be) = true then (E.pa i).g.mean else -1 := by simp [means, pa, List.getD, hi]
theorem alls_eq : E.alls = canF E.us E.ps.length := by unfold alls can; rw [show (E.ps.map fun P => if P.usable then (0 : Int) else -1) = E.us from rfl, us_len]
theorem take_meansS {i : Nat} (hi : i < E.ps.length) : E.means.take (i + 1) = E.means.take i ++ [E.means.getD i 0] := by
  have hl : i < E.means.length := by rw [means_len]; exact hi
  rw [List.take_succ_eq_append_getElem hl]
  simp [List.getD, hl]
end En
end Go.Proofs.YtpjlnpnadkbakaaGreat
namespace Go.Proofs.YtpjlnpnadkbakaaGreat
set_option maxRecDepth 10000
namespace En
variable {E : En} {N M : Nat}
theorem cap.mono (h : E.cap N) (hM : N ≤ M) : E.cap M := ⟨by have := h.ev; omega, by have := h.out; omega, fun j => by have := h.m j; omega⟩
theorem bump_range {m : Nat → Int} {i : Nat} {n : Int} {N : Nat} (h : ∀ j, 0 ≤ m j ∧ m j ≤ N) (h0 : 0 ≤ n) {k : Nat} (hk : n ≤ k) : ∀ j, 0 ≤ bump m i n j ∧ bump m i n j ≤ (N + k : Nat) := fun j => by
  have := h j
  unfold bump
  split <;> omega
theorem cap.note (h : E.cap N) (x : Ev) : (E.note x).cap (N + 1) := ⟨by simp only [En.note, List.length_append, List.length_singleton]; have := h.ev; omega, by have := h.out; simp only [En.note]; omega, bump_range h.m (by omega) (k := 1) (by omega)⟩
theorem cap.count (h : E.cap N) (j : Nat) {n : Int} (h0 : 0 ≤ n) {k : Nat} (hk : n ≤ k) : (E.count j n).cap (N + k) := ⟨by have := h.ev; simp only [En.count]; omega, by have := h.out; simp only [En.count]; omega, bump_range h.m h0 hk⟩
theorem cap.say1 (h : E.cap N) (i : Nat) {p : Pkt} (hl : p.da.length ≤ 64) : (E.say1 i p).cap (N + 66) := by
  refine ⟨by simp only [En.say1, List.length_append, List.length_singleton]; have := h.ev; omega, by simp only [En.say1, List.length_append, List.length_singleton]; have := h.out; omega, ?_⟩
  have h1 := bump_range (i := 0) h.m (n := 1) (by omega) (k := 1) (by omega)
  have h2 := bump_range (i := 1) h1 (n := 1) (by omega) (k := 1) (by omega)
  have h3 := bump_range (i := 2) h2 (n := (p.da.length : Int)) (by omega) (k := 64) (by omega)
  exact h3
theorem cap.of_eq {F : En} (h : E.cap N) (h1 : F.ev = E.ev) (h2 : F.out = E.out) (h3 : F.m = E.m) : F.cap N := ⟨by rw [h1]; exact h.ev, by rw [h2]; exact h.out, by rw [h3]; exact h.m⟩
theorem cap.say (h : E.cap N) (i : Nat) {p : Pkt} (hl : p.da.length ≤ 64) : (E.say i p).cap (N + 66) := by
  unfold En.say
  split
  · exact h.say1 i hl
  · exact h.mono (by omega)
theorem cap.sayOut (h : E.cap N) (i : Nat) {p : Pkt} (hl : p.da.length ≤ 64) (f t : Int) : (E.sayOut i p f t).cap (N + 66) := by
  unfold En.sayOut
  split
  · exact (h.say1 i hl).of_eq rfl rfl rfl
  · exact h.mono (by omega)
theorem cap.data (h : E.cap N) (i f t : Int) (hl : (E.o.cut f t).length ≤ 64) : (E.data i f t).cap (N + 66) := h.sayOut _ hl f t
theorem cap.datas (f t : Int) (L : List Int) : ∀ {E : En} {N : Nat}, E.cap N → (E.o.cut f t).length ≤ 64 → (E.datas f t L).cap (N + 66 * L.length) := by
  induction L with
  | nil => intro E N h _; exact h
  | cons x L ih =>
    intro E N h hl
    have := ih (h.data x f t hl) (by rw [show (E.data x f t).o = E.o from (keep_sayOut _ _ f t).o]; exact hl)
    exact this.mono (by rw [List.length_cons]; omega)
theorem cap.choose (h : E.cap N) : E.choose.cap N := by
  unfold En.choose
  split
  · exact h.of_eq rfl rfl rfl
  · exact h
theorem cap.setPl (h : E.cap N) (p : Pl) : (E.setPl p).cap N := h.of_eq rfl rfl rfl
theorem datas_snoc (f t : Int) (L : List Int) (x : Int) (E : En) : E.datas f t (L ++ [x]) = (E.datas f t L).data x f t := by simp [datas]
theorem nx_piece (h : E.ok) (hx : E.nx.ok = true) : 0 ≤ E.nx.f ∧ E.nx.f < E.nx.t ∧ E.nx.t ≤ E.o.places ∧ E.nx.t ≤ E.nx.p.sent ∧ (E.o.cut E.nx.f E.nx.t).length ≤ 64 := by
  have h1 := (nx_sent h).2.2 hx
  have h2 := (nx_sent h).2.1
  refine ⟨h1.2.1, h1.1, by omega, h1.2.2, ?_⟩
  have hr : ∃ t, E.nx.t = reachI E.o E.nx.f t (chk E.c.chk) := by
    have hx2 := hx
    unfold nx Pl.next Pl.step at hx2 ⊢
    cases hc : cutN E.pl.ls 0 E.o.ak with
    | nil =>
      rw [hc] at hx2
      simp only [] at hx2 ⊢
      split at hx2
      · next hlt => rw [if_pos hlt]; exact ⟨_, rfl⟩
      · simp at hx2
    | cons q qs => exact ⟨_, rfl⟩
  obtain ⟨t, ht⟩ := hr
  have hck := (Pl.chk_range E.c.chk).2
  unfold Ou.cut
  rw [List.length_drop, List.length_take]
  rw [ht]
  unfold reachI
  split <;> omega
theorem left_le (h : E.ok) : E.left ≤ 8194 := by
  have h1 := h.pl.norm
  have h2 : cntL E.pl.ls ≤ 4097 := by
    rw [cnt_win h1]
    have hz : ∀ k, k < 0 ∨ (0 : Int) + ((4097 : Nat) : Int) ≤ k → ind (ins E.pl.ls k) = 0 := fun k hk => ind_no (fun hi => by
      have h3 := h.pl.below k hi
      have h4 := h.pl.s1
      obtain ⟨p, hp, h5, h6⟩ := hi
      have h7 := h1.each p hp
      omega)
    have := sumI_window (g := fun k => ind (ins E.pl.ls k)) (F := 0) (m := 4097) (N := 1099511627776) (by omega) (by omega) hz
    unfold win
    rw [this]
    exact (win_le E.pl.ls 0 4097).2
  have := h.pl.s0
  unfold left
  omega
theorem cap.pump (hok : E.ok) (h : E.cap N) : E.pump.cap (N + 198 * (E.left + 1)) := by
  have go : ∀ n (E : En) (N : Nat), E.ok → E.cap N → E.left < n → (pumpF n E).cap (N + 198 * n) := by
    intro n
    induction n with
    | zero => intro E N _ _ h; omega
    | succ n ih =>
      intro E N hok h hn
      unfold pumpF
      split
      · split
        · next hx =>
          have := nx_less hok hx
          have := piece_left (E := E)
          have hp := nx_piece hok hx
          have h1 := cap.datas E.nx.f E.nx.t (E.setPl E.nx.p).chosen (h.setPl E.nx.p).choose (by rw [(choose_keep (E := E.setPl E.nx.p)).2.2.1]; exact hp.2.2.2.2)
          have h2 : (E.setPl E.nx.p).chosen.length ≤ 3 := Nat.le_trans chosen_len hok.np3
          exact (ih E.piece (N + 198) (hok.piece hx) (h1.mono (by omega)) (by omega)).mono (by omega)
        · exact (h.setPl _).mono (by omega)
      · exact h.mono (by omega)
  exact go _ E N hok h (Nat.lt_succ_self _)
theorem cap.pump' (hok : E.ok) (h : E.cap N) : E.pump.cap (N + 1623000) := (h.pump hok).mono (by have := left_le hok; omega)
theorem pa_say1 {i : Nat} (hi : i < E.ps.length) (p : Pkt) : (E.say1 i p).pa i = (E.pa i).num := by simp [say1, pa, List.getD, hi]
theorem sayOut_yes {i : Nat} (hs : (E.pa i).sent ≤ 65535) (p : Pkt) (f t : Int) : E.sayOut i p f t = (E.say1 i p).setP i ((E.pa i).num.out ⟨(E.pa i).sent, f, t, E.now⟩) := by unfold sayOut; rw [if_pos hs]
theorem sayOut_no {i : Nat} (hs : 65535 < (E.pa i).sent) (p : Pkt) (f t : Int) : E.sayOut i p f t = E := by unfold sayOut; rw [if_neg (by omega)]
theorem cut_by (h : E.ok) (f t : Int) : ∀ x ∈ E.o.cut f t, 0 ≤ x ∧ x < 256 := fun x hx => by
  unfold Ou.cut at hx
  exact h.by1 x (List.mem_of_mem_take (List.mem_of_mem_drop hx))
end En
end Go.Proofs.YtpjlnpnadkbakaaGreat
namespace Go.Proofs.YtpjlnpnadkbakaaGreat
set_option maxRecDepth 10000
namespace En
theorem given_sent (l : List Qd) : ∀ E : En, (E.given l).pl.sent = E.pl.sent ∧ (E.given l).ps = E.ps ∧ (E.given l).o = E.o := by
  induction l with
  | nil => intro E; exact ⟨rfl, rfl, rfl⟩
  | cons x l ih => intro E; have := ih (E.give1 x); exact this
theorem ok.give1 {E : En} (h : E.ok) (q : Qd) : (E.give1 q).ok := { h with pl := Pl.lost_ok h.pl _ _ }
theorem ok.given (l : List Qd) : ∀ {E : En}, E.ok → (E.given l).ok := by
  induction l with
  | nil => intro E h; exact h
  | cons x l ih => intro E h; exact ih (h.give1 x)
theorem cap.give1 {E : En} {N : Nat} (h : E.cap N) (q : Qd) : (E.give1 q).cap (N + 1) := ⟨by have := h.ev; simp only [En.give1]; omega, by have := h.out; simp only [En.give1]; omega, bump_range h.m (by omega) (k := 1) (by omega)⟩
theorem cap.given (l : List Qd) : ∀ {E : En} {N : Nat}, E.cap N → (E.given l).cap (N + l.length) := by
  induction l with
  | nil => intro E N h; exact h
  | cons x l ih => intro E N h; have := ih (h.give1 x); exact this.mono (by rw [List.length_cons]; omega)
end En
end Go.Proofs.YtpjlnpnadkbakaaGreat
namespace Go.Proofs.YtpjlnpnadkbakaaGreat
set_option maxRecDepth 10000
open Go.RowKit
theorem wrap_at {n m : Int} (h : n = m) (h1 : -9223372036854775808 ≤ m) (h2 : m ≤ 9223372036854775807) : wrap64 n = m := by subst h; unfold wrap64; omega
end Go.Proofs.YtpjlnpnadkbakaaGreat

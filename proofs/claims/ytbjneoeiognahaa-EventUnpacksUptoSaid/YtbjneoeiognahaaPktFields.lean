/-
  What package packet's mark and fields make of a packet: contracts over the program.
-/
import Derived.Test.YtbjneoeiognahaaPktCheck
import Derived.Test.YtbjneoeiognahaaSpanPack
import Derived.Test.YtbjneoeiognahaaBase
namespace Go.Proofs.Ytbjneoeiognahaa
open Go.RowKit

/-- The cells of a packet in a block. -/
structure PktIn (w : World) (b : Nat) (p : Pkt) (A : Option Addr) (c : Nat) : Prop where
  c0 : w.cell? ⟨b, 0, none⟩ = some (.int .i64 p.k)
  c1 : w.cell? ⟨b, 1, none⟩ = some (.int .i64 p.pa)
  c2 : w.cell? ⟨b, 2, none⟩ = some (.int .i64 p.nu)
  c3 : w.cell? ⟨b, 3, none⟩ = some (.int .i64 p.ofn)
  c4 : w.cell? ⟨b, 4, none⟩ = some (.int .i64 p.fr)
  c5 : w.cell? ⟨b, 5, none⟩ = some (.slice A p.da.length c)
  c6 : w.cell? ⟨b, 6, none⟩ = some (.bool p.fin)
  c7 : w.cell? ⟨b, 7, none⟩ = some (.int .i64 p.se)
  c8 : w.cell? ⟨b, 8, none⟩ = some (.int .i64 p.li)
set_option maxRecDepth 10000 in
theorem pktIn_of {w : World} {b : Nat} {p : Pkt} {A : Option Addr} {c : Nat} (h : w.rangeAt b 0 (p.cs A c)) : PktIn w b p A c :=
  ⟨by simpa using h 0 _ rfl, by simpa using h 1 _ rfl, by simpa using h 2 _ rfl, by simpa using h 3 _ rfl, by simpa using h 4 _ rfl, by simpa using h 5 _ rfl, by simpa using h 6 _ rfl, by simpa using h 7 _ rfl, by simpa using h 8 _ rfl⟩
set_option maxRecDepth 10000 in
theorem PktIn.new (w : World) (p : Pkt) (A : Option Addr) (c : Nat) (t : TypeId) : PktIn (w.alloc (.cells (p.cs A c).toArray t)) w.heap.size p A c := pktIn_of (Pkt.range w p A c t)
set_option maxRecDepth 10000 in
theorem PktIn.below {w w' : World} {b B : Nat} {p : Pkt} {A : Option Addr} {c : Nat} (h : PktIn w b p A c) (hb : Below B w w') (hB : b < B) : PktIn w' b p A c :=
  ⟨(hb.cell hB).trans h.c0, (hb.cell hB).trans h.c1, (hb.cell hB).trans h.c2, (hb.cell hB).trans h.c3, (hb.cell hB).trans h.c4, (hb.cell hB).trans h.c5, (hb.cell hB).trans h.c6, (hb.cell hB).trans h.c7, (hb.cell hB).trans h.c8⟩

/-- The byte of a mark. -/
def markV (b : Bool) : Int := if b then 1 else 0
/-- What only its kind has, as bytes. -/
def Pkt.fieldsL (p : Pkt) : List Int :=
  if p.k = 2 then putL p.ofn
  else if p.k = 3 then putL p.fr ++ (putL p.da.length ++ p.da) ++ [markV p.fin]
  else if p.k = 4 then putL p.ofn ++ putL p.se ++ putL p.li
  else []
set_option maxRecDepth 10000 in
theorem Rd.one (w : World) (x : Int) (t : TypeId) : Rd .u8 (w.alloc (.cells #[.int .u8 x] t)) (some ⟨w.heap.size, 0, none⟩) [x] := by
  have := Rd.new w [x] t
  simpa [bts] using this
/-- Three slices in a block. -/
structure Three (w : World) (q : Nat) (a b c : Value) : Prop where
  c0 : w.cell? ⟨q, 0, none⟩ = some a
  c1 : w.cell? ⟨q, 1, none⟩ = some b
  c2 : w.cell? ⟨q, 2, none⟩ = some c
set_option maxRecDepth 10000 in
theorem Three.new (w : World) (a b c : Value) (t : TypeId) : Three (w.alloc (.cells #[a, b, c] t)) w.heap.size a b c := ⟨by simp, by simp, by simp⟩
set_option maxRecDepth 10000 in
theorem Three.later {w w' : World} {q : Nat} {a b c : Value} (h : Three w q a b c) (hb : Below w.heap.size w w') : Three w' q a b c := ⟨cell_later hb h.c0, cell_later hb h.c1, cell_later hb h.c2⟩
/-- Two slices in a block. -/
structure Two2 (w : World) (q : Nat) (a b : Value) : Prop where
  c0 : w.cell? ⟨q, 0, none⟩ = some a
  c1 : w.cell? ⟨q, 1, none⟩ = some b
set_option maxRecDepth 10000 in
theorem Two2.new (w : World) (a b : Value) (t : TypeId) : Two2 (w.alloc (.cells #[a, b] t)) w.heap.size a b := ⟨by simp, by simp⟩
set_option maxRecDepth 10000 in
theorem Two2.later {w w' : World} {q : Nat} {a b : Value} (h : Two2 w q a b) (hb : Below w.heap.size w w') : Two2 w' q a b := ⟨cell_later hb h.c0, cell_later hb h.c1⟩

set_option maxRecDepth 10000 in
theorem markP_any (b : Bool) (w : World) : Calls Try.prog 138 #[.bool b] w fun e w' => e = .returned (.int .u8 (markV b)) ∧ w = w' := by
  cases b
  · go_enter Try.func138, Try.ntmps138
    go_wp2
    go_ret
    exact ⟨rfl, rfl⟩
  · go_enter Try.func138, Try.ntmps138
    go_wp2
    go_ret
    exact ⟨rfl, rfl⟩

set_option maxRecDepth 10000 in
set_option maxHeartbeats 1000000 in
theorem fields_any (p : Pkt) (A : Option Addr) (c : Nat) (w : World) (hp : PktAt w p A c) (hl : p.da.length ≤ 140737488351232) :
    Calls Try.prog 129 #[p.val A c] w fun e w' => ∃ A' c', e = .returned (.slice A' p.fieldsL.length c') ∧ Own .u8 5 w' w.heap.size (.slice A' p.fieldsL.length c') p.fieldsL ∧ Below w.heap.size w w' := by
  obtain ⟨k, pa, nu, o, fr, da, fin, se, li⟩ := p
  have hin := PktIn.new w ⟨k, pa, nu, o, fr, da, fin, se, li⟩ A c 58
  have hrd := hp.rd
  clear hp
  unfold Pkt.fieldsL
  unfold Pkt.cs at hin
  unfold Pkt.val
  simp only at hin hrd hl ⊢
  by_cases h2 : k = 2
  · subst h2
    simp only [if_pos]
    have hpu := fun W => put_own o W
    obtain ⟨l, hl9⟩ : ∃ l, putL o = l := ⟨_, rfl⟩
    simp only [hl9] at hpu ⊢
    have HPU := Lib.hid hpu
    clear hpu hl9 hin hrd hl
    go_enter Try.func129, Try.ntmps129
    go_wp2_with fail
    refine (HPU.out _).mono ?_
    rintro e w1 ⟨B, d, rfl, ho, hb⟩
    go_wp2
    go_ret
    exact ⟨_, _, rfl, ho.less (by simp), ((Below.refl w.heap.size w).alloc (Nat.le_refl _) _).trans (hb.mono (by simp))⟩
  by_cases h3 : k = 3
  · subst h3
    simp only [if_pos, if_neg (show ¬ (3 : Int) = 2 by omega)]
    have hpu := fun W => put_own fr W
    obtain ⟨l1, hl1⟩ : ∃ l, putL fr = l := ⟨_, rfl⟩
    have le1 : l1.length ≤ 8 := by rw [← hl1]; exact putL_len _
    simp only [hl1] at hpu ⊢
    have hpk := fun W (h : Rd .u8 W A da) => pack_any A da.length c da W rfl h hl
    obtain ⟨l2, hl2⟩ : ∃ l, putL (da.length : Int) = l := ⟨_, rfl⟩
    have le2 : l2.length ≤ 8 := by rw [← hl2]; exact putL_len _
    simp only [hl2] at hpk ⊢
    obtain ⟨n, hn⟩ : ∃ n, da.length = n := ⟨_, rfl⟩
    have HN := Lib.hid hn
    simp only [hn] at hpk hl hin ⊢
    have HPU := Lib.hid hpu
    have HPK := Lib.hid hpk
    have HRD := Lib.hid hrd
    have HI := Lib.hid hin
    have hlen : (l1 ++ (l2 ++ da) ++ [markV fin]).length = l1.length + (l2.length + n) + 1 := by simp [hn]; omega
    have HLEN := Lib.hid hlen
    obtain ⟨L, hL⟩ : ∃ L, l1 ++ (l2 ++ da) ++ [markV fin] = L := ⟨_, rfl⟩
    rw [hL] at HLEN ⊢
    rw [HLEN.out]
    have HLL := Lib.hid hL
    obtain ⟨m, hm⟩ : ∃ m, markV fin = m := ⟨_, rfl⟩
    have HM := Lib.hid hm
    clear hpu hpk hl1 hl2 hn hin hrd hlen hL hm
    go_enter Try.func129, Try.ntmps129
    go_wp2_with fail
    have hlt : w.heap.size < (w.alloc (.cells #[.int .i64 3, .int .i64 pa, .int .i64 nu, .int .i64 o, .int .i64 fr, .slice A n c, .bool fin, .int .i64 se, .int .i64 li] 58)).heap.size := by simp
    have hb1 : Below w.heap.size w (w.alloc (.cells #[.int .i64 3, .int .i64 pa, .int .i64 nu, .int .i64 o, .int .i64 fr, .slice A n c, .bool fin, .int .i64 se, .int .i64 li] 58)) := (Below.refl _ _).alloc (Nat.le_refl _) _
    have RD0 := Lib.hid (HRD.out.alloc (.cells #[.int .i64 3, .int .i64 pa, .int .i64 nu, .int .i64 o, .int .i64 fr, .slice A n c, .bool fin, .int .i64 se, .int .i64 li] 58))
    obtain ⟨W, hW⟩ : ∃ W, w.alloc (.cells #[.int .i64 3, .int .i64 pa, .int .i64 nu, .int .i64 o, .int .i64 fr, .slice A n c, .bool fin, .int .i64 se, .int .i64 li] 58) = W := ⟨_, rfl⟩
    rw [hW] at hlt hb1 HI RD0 ⊢
    have HL := Lib.hid hlt
    have HB := Lib.hid hb1
    have RD := RD0
    have C4 : Hid (W.cell? ⟨w.heap.size, 4, none⟩ = some (.int .i64 fr)) := Lib.hid (HI.out.c4)
    have C5 : Hid (W.cell? ⟨w.heap.size, 5, none⟩ = some (.slice A n c)) := Lib.hid (by have h9 := HI.out.c5; simp only [HN.out] at h9; exact h9)
    have C6 : Hid (W.cell? ⟨w.heap.size, 6, none⟩ = some (.bool fin)) := Lib.hid (HI.out.c6)
    clear hW hlt hb1 RD0 HRD HI
    obtain ⟨b, hb9⟩ : ∃ b, w.heap.size = b := ⟨_, rfl⟩
    have HBB := Lib.hid hb9
    rw [hb9] at C4 C5 C6 HL ⊢
    clear hb9
    refine wp_region_held_drew (S := fun wi => Below W.heap.size W wi) (by kernel_rfl) (Below.refl _ _).drew (fun hHeld => ?_)
    have RD9 := Lib.hid (RD.out.drew)
    clear RD
    have RD := RD9
    clear RD9
    obtain ⟨v0, hv9⟩ : ∃ v, W.drew = v := ⟨_, rfl⟩
    rw [hv9] at hHeld RD ⊢
    clear hv9
    refine wpAnyH_take (i := 0) (v := ?_) rfl (by kernel_rfl) (by kernel_rfl) (by kernel_rfl) (fun _ _ _ h => h) (Or.inl ⟨by rfl, ?_⟩) (by assumption) ?_
    rotate_left
    · intro w hSw
      (try dsimp only at hSw)
      go_simp
      try (with_reducible rfl)
    try simp only [Act.put, List.getElem_toArray, List.getElem_cons_zero, List.setIfInBounds_toArray, List.set_cons_zero, List.set_cons_succ]
    refine wpAnyH_take (i := 1) (v := ?_) rfl (by kernel_rfl) (by kernel_rfl) (by kernel_rfl) (fun _ _ _ h => h) (Or.inl ⟨by rfl, ?_⟩) (by assumption) ?_
    rotate_left
    · intro w hSw
      (try dsimp only at hSw)
      have c9 := (hSw.cell HL.out).trans C4.out
      clear hSw
      go_simp
      try (with_reducible rfl)
    try simp only [Act.put, List.getElem_toArray, List.getElem_cons_zero, List.getElem_cons_succ, List.setIfInBounds_toArray, List.set_cons_zero, List.set_cons_succ]
    refine wpAnyH_take (i := 3) (v := ?_) rfl (by kernel_rfl) (by kernel_rfl) (by kernel_rfl) (fun _ _ _ h => h) (Or.inl ⟨by rfl, ?_⟩) (by assumption) ?_
    rotate_left
    · intro w hSw
      (try dsimp only at hSw)
      go_simp
      try (with_reducible rfl)
    try simp only [Act.put, List.getElem_toArray, List.getElem_cons_zero, List.getElem_cons_succ, List.setIfInBounds_toArray, List.set_cons_zero, List.set_cons_succ]
    refine wpAnyH_take (i := 4) (v := ?_) rfl (by kernel_rfl) (by kernel_rfl) (by kernel_rfl) (fun _ _ _ h => h) (Or.inl ⟨by rfl, ?_⟩) (by assumption) ?_
    rotate_left
    · intro w hSw
      (try dsimp only at hSw)
      have c9 := (hSw.cell HL.out).trans C5.out
      clear hSw
      go_simp
      try (with_reducible rfl)
    try simp only [Act.put, List.getElem_toArray, List.getElem_cons_zero, List.getElem_cons_succ, List.setIfInBounds_toArray, List.set_cons_zero, List.set_cons_succ]
    refine wpAnyH_take (i := 6) (v := ?_) rfl (by kernel_rfl) (by kernel_rfl) (by kernel_rfl) (fun _ _ _ h => h) (Or.inl ⟨by rfl, ?_⟩) (by assumption) ?_
    rotate_left
    · intro w hSw
      (try dsimp only at hSw)
      go_simp
      try (with_reducible rfl)
    try simp only [Act.put, List.getElem_toArray, List.getElem_cons_zero, List.getElem_cons_succ, List.setIfInBounds_toArray, List.set_cons_zero, List.set_cons_succ]
    refine wpAnyH_take (i := 7) (v := ?_) rfl (by kernel_rfl) (by kernel_rfl) (by kernel_rfl) (fun _ _ _ h => h) (Or.inl ⟨by rfl, ?_⟩) (by assumption) ?_
    rotate_left
    · intro w hSw
      (try dsimp only at hSw)
      have c9 := (hSw.cell HL.out).trans C6.out
      clear hSw
      go_simp
      try (with_reducible rfl)
    try simp only [Act.put, List.getElem_toArray, List.getElem_cons_zero, List.getElem_cons_succ, List.setIfInBounds_toArray, List.set_cons_zero, List.set_cons_succ]
    refine wpAnyH_ready (rs := [2]) (by kernel_rfl) (by simp) ?_
    refine AllReadyH.cons rfl (fun K hK => ?_) AllReadyH.nil
    go_simp
    refine (HPU.out _).mono ?_
    rintro e v1 ⟨B1, d1, rfl, ho, hb⟩
    have HX := Lib.hid hb
    clear hb
    have R1 := Lib.hid ho.rd
    clear ho
    have RD9 := Lib.hid (RD.out.later HX.out)
    clear RD
    have RD := RD9
    clear RD9
    have hb2 : Below W.heap.size W v1 := Below.trans hHeld (HX.out.mono hHeld.size)
    try go_wp2_with fail
    refine hK.out _ _ hb2 (fun hHeld2 => ?_)
    clear hK K hHeld hb2 HX
    have hHeld := hHeld2
    clear hHeld2
    try simp only [Act.put, List.getElem_toArray, List.getElem_cons_zero, List.getElem_cons_succ, List.setIfInBounds_toArray, List.set_cons_zero, List.set_cons_succ]
    refine wpAnyH_ready (rs := [5]) (by kernel_rfl) (by simp) ?_
    refine AllReadyH.cons rfl (fun K hK => ?_) AllReadyH.nil
    go_simp
    refine (HPK.out _ RD.out).mono ?_
    rintro e v2 ⟨B2, d2, rfl, ho, hb⟩
    have HX := Lib.hid hb
    clear hb
    have R2 := Lib.hid ho.rd
    clear ho
    have RD9 := Lib.hid (RD.out.later HX.out)
    clear RD
    have RD := RD9
    clear RD9
    have R19 := Lib.hid (R1.out.later HX.out)
    clear R1
    have R1 := R19
    clear R19
    have hb2 : Below W.heap.size W v2 := Below.trans hHeld (HX.out.mono hHeld.size)
    try go_wp2_with fail
    refine hK.out _ _ hb2 (fun hHeld2 => ?_)
    clear hK K hHeld hb2 HX
    have hHeld := hHeld2
    clear hHeld2
    try simp only [Act.put, List.getElem_toArray, List.getElem_cons_zero, List.getElem_cons_succ, List.setIfInBounds_toArray, List.set_cons_zero, List.set_cons_succ]
    refine wpAnyH_ready (rs := [8]) (by kernel_rfl) (by simp) ?_
    refine AllReadyH.cons rfl (fun K hK => ?_) AllReadyH.nil
    go_simp
    refine (markP_any fin _).mono ?_
    rintro e w' ⟨rfl, rfl⟩
    rw [HM.out]
    try go_wp2_with fail
    refine hK.out _ _ hHeld (fun hHeld2 => ?_)
    clear hK K hHeld
    have hHeld := hHeld2
    clear hHeld2
    try simp only [Act.put, List.getElem_toArray, List.getElem_cons_zero, List.getElem_cons_succ, List.setIfInBounds_toArray, List.set_cons_zero, List.set_cons_succ]
    refine wpAnyH_ready (rs := [9]) (by kernel_rfl) (by simp) ?_
    refine AllReadyH.cons rfl (fun K hK => ?_) AllReadyH.nil
    go_simp
    have R3 := Lib.hid (Rd.one v2 m 5)
    have HX := Lib.hid ((Below.refl v2.heap.size v2).alloc (Nat.le_refl _) (.cells #[.int .u8 m] 5))
    obtain ⟨q3, hq9⟩ : ∃ q, v2.heap.size = q := ⟨_, rfl⟩
    obtain ⟨v3, hw9⟩ : ∃ V, v2.alloc (.cells #[.int .u8 m] 5) = V := ⟨_, rfl⟩
    rw [hw9] at R3 HX ⊢
    rw [hq9] at R3 ⊢
    clear hw9 hq9
    have RD9 := Lib.hid (RD.out.later HX.out)
    clear RD
    have RD := RD9
    clear RD9
    have R19 := Lib.hid (R1.out.later HX.out)
    clear R1
    have R1 := R19
    clear R19
    have R29 := Lib.hid (R2.out.later HX.out)
    clear R2
    have R2 := R29
    clear R29
    have hb2 : Below W.heap.size W v3 := Below.trans hHeld (HX.out.mono hHeld.size)
    refine hK.out _ _ hb2 (fun hHeld2 => ?_)
    clear hK K hHeld hb2 HX
    have hHeld := hHeld2
    clear hHeld2
    try simp only [Act.put, List.getElem_toArray, List.getElem_cons_zero, List.getElem_cons_succ, List.setIfInBounds_toArray, List.set_cons_zero, List.set_cons_succ]
    refine wpAnyH_ready (rs := [10]) (by kernel_rfl) (by simp) ?_
    refine AllReadyH.cons rfl (fun K hK => ?_) AllReadyH.nil
    go_simp
    have T := Lib.hid (Three.new v3 (.slice B1 l1.length d1) (.slice B2 (l2.length + n) d2) (.slice (some ⟨q3, 0, none⟩) 1 1) 23)
    have HX := Lib.hid ((Below.refl v3.heap.size v3).alloc (Nat.le_refl _) (.cells #[.slice B1 l1.length d1, .slice B2 (l2.length + n) d2, .slice (some ⟨q3, 0, none⟩) 1 1] 23))
    obtain ⟨q4, hq9⟩ : ∃ q, v3.heap.size = q := ⟨_, rfl⟩
    obtain ⟨v4, hw9⟩ : ∃ V, v3.alloc (.cells #[.slice B1 l1.length d1, .slice B2 (l2.length + n) d2, .slice (some ⟨q3, 0, none⟩) 1 1] 23) = V := ⟨_, rfl⟩
    rw [hw9] at T HX ⊢
    rw [hq9] at T ⊢
    clear hw9 hq9
    have RD9 := Lib.hid (RD.out.later HX.out)
    clear RD
    have RD := RD9
    clear RD9
    have R19 := Lib.hid (R1.out.later HX.out)
    clear R1
    have R1 := R19
    clear R19
    have R29 := Lib.hid (R2.out.later HX.out)
    clear R2
    have R2 := R29
    clear R29
    have R39 := Lib.hid (R3.out.later HX.out)
    clear R3
    have R3 := R39
    clear R39
    have hb2 : Below W.heap.size W v4 := Below.trans hHeld (HX.out.mono hHeld.size)
    refine hK.out _ _ hb2 (fun hHeld2 => ?_)
    clear hK K hHeld hb2 HX
    have hHeld := hHeld2
    clear hHeld2
    try simp only [Act.put, List.getElem_toArray, List.getElem_cons_zero, List.getElem_cons_succ, List.setIfInBounds_toArray, List.set_cons_zero, List.set_cons_succ]
    refine wpAnyH_ready (rs := [11]) (by kernel_rfl) (by simp) ?_
    refine AllReadyH.cons rfl (fun K hK => ?_) AllReadyH.nil
    go_simp
    refine (concat3_any q4 B1 l1.length d1 l1 B2 (l2.length + n) d2 (l2 ++ da) (some ⟨q3, 0, none⟩) 1 1 [m] _ T.out.c0 T.out.c1 T.out.c2 rfl (by rw [List.length_append, HN.out]) rfl R1.out R2.out R3.out (by omega)).mono ?_
    rintro e v5 ⟨B5, d5, rfl, ho, hb⟩
    have HX := Lib.hid hb
    clear hb
    have hLL := HLL.out
    rw [HM.out] at hLL
    rw [hLL] at ho
    have OO := Lib.hid (ho.less (B' := W.heap.size) hHeld.size)
    clear ho hLL
    have RD9 := Lib.hid (RD.out.later HX.out)
    clear RD
    have RD := RD9
    clear RD9
    have R19 := Lib.hid (R1.out.later HX.out)
    clear R1
    have R1 := R19
    clear R19
    have R29 := Lib.hid (R2.out.later HX.out)
    clear R2
    have R2 := R29
    clear R29
    have R39 := Lib.hid (R3.out.later HX.out)
    clear R3
    have R3 := R39
    clear R39
    have T9 := Lib.hid (T.out.later HX.out)
    clear T
    have T := T9
    clear T9
    have hb2 : Below W.heap.size W v5 := Below.trans hHeld (HX.out.mono hHeld.size)
    try go_wp2_with fail
    refine hK.out _ _ hb2 (fun hHeld2 => ?_)
    clear hK K hHeld hb2 HX
    have hHeld := hHeld2
    clear hHeld2
    try simp only [Act.put, List.getElem_toArray, List.getElem_cons_zero, List.getElem_cons_succ, List.setIfInBounds_toArray, List.set_cons_zero, List.set_cons_succ]
    refine wpAnyH_take (i := 12) (v := ?_) rfl (by kernel_rfl) (by kernel_rfl) (by kernel_rfl) (fun _ _ _ h => h) (Or.inl ⟨by rfl, ?_⟩) (by assumption) ?_
    rotate_left
    · intro w hSw
      (try dsimp only at hSw)
      go_simp
      try (with_reducible rfl)
    try simp only [Act.put, List.getElem_toArray, List.getElem_cons_zero, List.getElem_cons_succ, List.setIfInBounds_toArray, List.set_cons_zero, List.set_cons_succ]
    refine wpAnyH_done (by kernel_rfl) ?_ _
    have HF := Lib.hid hHeld
    clear hHeld
    go_wp2_with fail
    go_ret
    rw [← HBB.out]
    exact ⟨_, _, rfl, OO.out.less HB.out.size, HB.out.trans (HF.out.mono HB.out.size)⟩
  by_cases h4 : k = 4
  · subst h4
    simp only [if_pos, if_neg (show ¬ (4 : Int) = 2 by omega), if_neg (show ¬ (4 : Int) = 3 by omega)]
    have hp1 := fun W => put_own o W
    have hp2 := fun W => put_own se W
    have hp3 := fun W => put_own li W
    obtain ⟨l1, hl1⟩ : ∃ l, putL o = l := ⟨_, rfl⟩
    have le1 : l1.length ≤ 8 := by rw [← hl1]; exact putL_len _
    obtain ⟨l2, hl2⟩ : ∃ l, putL se = l := ⟨_, rfl⟩
    have le2 : l2.length ≤ 8 := by rw [← hl2]; exact putL_len _
    obtain ⟨l3, hl3⟩ : ∃ l, putL li = l := ⟨_, rfl⟩
    have le3 : l3.length ≤ 8 := by rw [← hl3]; exact putL_len _
    simp only [hl1] at hp1
    simp only [hl2] at hp2
    simp only [hl3] at hp3
    simp only [hl1, hl2, hl3]
    obtain ⟨n, hn⟩ : ∃ n, da.length = n := ⟨_, rfl⟩
    simp only [hn] at hl hin ⊢
    have HP1 := Lib.hid hp1
    have HP2 := Lib.hid hp2
    have HP3 := Lib.hid hp3
    have HRD := Lib.hid hrd
    have HI := Lib.hid hin
    have hlen : (l1 ++ l2 ++ l3).length = l1.length + l2.length + l3.length := by simp; omega
    rw [hlen]
    clear hp1 hp2 hp3 hl1 hl2 hl3 hn hin hrd hlen
    go_enter Try.func129, Try.ntmps129
    go_wp2_with fail
    have hlt : w.heap.size < (w.alloc (.cells #[.int .i64 4, .int .i64 pa, .int .i64 nu, .int .i64 o, .int .i64 fr, .slice A n c, .bool fin, .int .i64 se, .int .i64 li] 58)).heap.size := by simp
    have hb1 : Below w.heap.size w (w.alloc (.cells #[.int .i64 4, .int .i64 pa, .int .i64 nu, .int .i64 o, .int .i64 fr, .slice A n c, .bool fin, .int .i64 se, .int .i64 li] 58)) := (Below.refl _ _).alloc (Nat.le_refl _) _
    have RD0 := Lib.hid (HRD.out.alloc (.cells #[.int .i64 4, .int .i64 pa, .int .i64 nu, .int .i64 o, .int .i64 fr, .slice A n c, .bool fin, .int .i64 se, .int .i64 li] 58))
    obtain ⟨W, hW⟩ : ∃ W, w.alloc (.cells #[.int .i64 4, .int .i64 pa, .int .i64 nu, .int .i64 o, .int .i64 fr, .slice A n c, .bool fin, .int .i64 se, .int .i64 li] 58) = W := ⟨_, rfl⟩
    rw [hW] at hlt hb1 HI RD0 ⊢
    have HL := Lib.hid hlt
    have HB := Lib.hid hb1
    have RD := RD0
    have C4 : Hid (W.cell? ⟨w.heap.size, 3, none⟩ = some (.int .i64 o)) := Lib.hid (HI.out.c3)
    have C5 : Hid (W.cell? ⟨w.heap.size, 7, none⟩ = some (.int .i64 se)) := Lib.hid (HI.out.c7)
    have C6 : Hid (W.cell? ⟨w.heap.size, 8, none⟩ = some (.int .i64 li)) := Lib.hid (HI.out.c8)
    clear hW hlt hb1 RD0 HRD HI
    obtain ⟨b, hb9⟩ : ∃ b, w.heap.size = b := ⟨_, rfl⟩
    have HBB := Lib.hid hb9
    rw [hb9] at C4 C5 C6 HL ⊢
    clear hb9
    refine wp_region_held_drew (S := fun wi => Below W.heap.size W wi) (by kernel_rfl) (Below.refl _ _).drew (fun hHeld => ?_)
    have RD9 := Lib.hid (RD.out.drew)
    clear RD
    have RD := RD9
    clear RD9
    obtain ⟨v0, hv9⟩ : ∃ v, W.drew = v := ⟨_, rfl⟩
    rw [hv9] at hHeld RD ⊢
    clear hv9
    refine wpAnyH_take (i := 0) (v := ?_) rfl (by kernel_rfl) (by kernel_rfl) (by kernel_rfl) (fun _ _ _ h => h) (Or.inl ⟨by rfl, ?_⟩) (by assumption) ?_
    rotate_left
    · intro w hSw
      (try dsimp only at hSw)
      go_simp
      try (with_reducible rfl)
    try simp only [Act.put, List.getElem_toArray, List.getElem_cons_zero, List.setIfInBounds_toArray, List.set_cons_zero, List.set_cons_succ]
    refine wpAnyH_take (i := 1) (v := ?_) rfl (by kernel_rfl) (by kernel_rfl) (by kernel_rfl) (fun _ _ _ h => h) (Or.inl ⟨by rfl, ?_⟩) (by assumption) ?_
    rotate_left
    · intro w hSw
      (try dsimp only at hSw)
      have c9 := (hSw.cell HL.out).trans C4.out
      clear hSw
      go_simp
      try (with_reducible rfl)
    try simp only [Act.put, List.getElem_toArray, List.getElem_cons_zero, List.getElem_cons_succ, List.setIfInBounds_toArray, List.set_cons_zero, List.set_cons_succ]
    refine wpAnyH_take (i := 3) (v := ?_) rfl (by kernel_rfl) (by kernel_rfl) (by kernel_rfl) (fun _ _ _ h => h) (Or.inl ⟨by rfl, ?_⟩) (by assumption) ?_
    rotate_left
    · intro w hSw
      (try dsimp only at hSw)
      go_simp
      try (with_reducible rfl)
    try simp only [Act.put, List.getElem_toArray, List.getElem_cons_zero, List.getElem_cons_succ, List.setIfInBounds_toArray, List.set_cons_zero, List.set_cons_succ]
    refine wpAnyH_take (i := 4) (v := ?_) rfl (by kernel_rfl) (by kernel_rfl) (by kernel_rfl) (fun _ _ _ h => h) (Or.inl ⟨by rfl, ?_⟩) (by assumption) ?_
    rotate_left
    · intro w hSw
      (try dsimp only at hSw)
      have c9 := (hSw.cell HL.out).trans C5.out
      clear hSw
      go_simp
      try (with_reducible rfl)
    try simp only [Act.put, List.getElem_toArray, List.getElem_cons_zero, List.getElem_cons_succ, List.setIfInBounds_toArray, List.set_cons_zero, List.set_cons_succ]
    refine wpAnyH_take (i := 6) (v := ?_) rfl (by kernel_rfl) (by kernel_rfl) (by kernel_rfl) (fun _ _ _ h => h) (Or.inl ⟨by rfl, ?_⟩) (by assumption) ?_
    rotate_left
    · intro w hSw
      (try dsimp only at hSw)
      go_simp
      try (with_reducible rfl)
    try simp only [Act.put, List.getElem_toArray, List.getElem_cons_zero, List.getElem_cons_succ, List.setIfInBounds_toArray, List.set_cons_zero, List.set_cons_succ]
    refine wpAnyH_take (i := 7) (v := ?_) rfl (by kernel_rfl) (by kernel_rfl) (by kernel_rfl) (fun _ _ _ h => h) (Or.inl ⟨by rfl, ?_⟩) (by assumption) ?_
    rotate_left
    · intro w hSw
      (try dsimp only at hSw)
      have c9 := (hSw.cell HL.out).trans C6.out
      clear hSw
      go_simp
      try (with_reducible rfl)
    try simp only [Act.put, List.getElem_toArray, List.getElem_cons_zero, List.getElem_cons_succ, List.setIfInBounds_toArray, List.set_cons_zero, List.set_cons_succ]
    refine wpAnyH_ready (rs := [2]) (by kernel_rfl) (by simp) ?_
    refine AllReadyH.cons rfl (fun K hK => ?_) AllReadyH.nil
    go_simp
    refine (HP1.out _).mono ?_
    rintro e v1 ⟨B1, d1, rfl, ho, hb⟩
    have HX := Lib.hid hb
    clear hb
    have R1 := Lib.hid ho.rd
    clear ho
    have RD9 := Lib.hid (RD.out.later HX.out)
    clear RD
    have RD := RD9
    clear RD9
    have hb2 : Below W.heap.size W v1 := Below.trans hHeld (HX.out.mono hHeld.size)
    try go_wp2_with fail
    refine hK.out _ _ hb2 (fun hHeld2 => ?_)
    clear hK K hHeld hb2 HX
    have hHeld := hHeld2
    clear hHeld2
    try simp only [Act.put, List.getElem_toArray, List.getElem_cons_zero, List.getElem_cons_succ, List.setIfInBounds_toArray, List.set_cons_zero, List.set_cons_succ]
    refine wpAnyH_ready (rs := [5]) (by kernel_rfl) (by simp) ?_
    refine AllReadyH.cons rfl (fun K hK => ?_) AllReadyH.nil
    go_simp
    refine (HP2.out _).mono ?_
    rintro e v2 ⟨B2, d2, rfl, ho, hb⟩
    have HX := Lib.hid hb
    clear hb
    have R2 := Lib.hid ho.rd
    clear ho
    have RD9 := Lib.hid (RD.out.later HX.out)
    clear RD
    have RD := RD9
    clear RD9
    have R19 := Lib.hid (R1.out.later HX.out)
    clear R1
    have R1 := R19
    clear R19
    have hb2 : Below W.heap.size W v2 := Below.trans hHeld (HX.out.mono hHeld.size)
    try go_wp2_with fail
    refine hK.out _ _ hb2 (fun hHeld2 => ?_)
    clear hK K hHeld hb2 HX
    have hHeld := hHeld2
    clear hHeld2
    try simp only [Act.put, List.getElem_toArray, List.getElem_cons_zero, List.getElem_cons_succ, List.setIfInBounds_toArray, List.set_cons_zero, List.set_cons_succ]
    refine wpAnyH_ready (rs := [8]) (by kernel_rfl) (by simp) ?_
    refine AllReadyH.cons rfl (fun K hK => ?_) AllReadyH.nil
    go_simp
    refine (HP3.out _).mono ?_
    rintro e v3 ⟨B3, d3, rfl, ho, hb⟩
    have HX := Lib.hid hb
    clear hb
    have R3 := Lib.hid ho.rd
    clear ho
    have RD9 := Lib.hid (RD.out.later HX.out)
    clear RD
    have RD := RD9
    clear RD9
    have R19 := Lib.hid (R1.out.later HX.out)
    clear R1
    have R1 := R19
    clear R19
    have R29 := Lib.hid (R2.out.later HX.out)
    clear R2
    have R2 := R29
    clear R29
    have hb2 : Below W.heap.size W v3 := Below.trans hHeld (HX.out.mono hHeld.size)
    try go_wp2_with fail
    refine hK.out _ _ hb2 (fun hHeld2 => ?_)
    clear hK K hHeld hb2 HX
    have hHeld := hHeld2
    clear hHeld2
    try simp only [Act.put, List.getElem_toArray, List.getElem_cons_zero, List.getElem_cons_succ, List.setIfInBounds_toArray, List.set_cons_zero, List.set_cons_succ]
    refine wpAnyH_ready (rs := [9]) (by kernel_rfl) (by simp) ?_
    refine AllReadyH.cons rfl (fun K hK => ?_) AllReadyH.nil
    go_simp
    have T := Lib.hid (Three.new v3 (.slice B1 l1.length d1) (.slice B2 l2.length d2) (.slice B3 l3.length d3) 23)
    have HX := Lib.hid ((Below.refl v3.heap.size v3).alloc (Nat.le_refl _) (.cells #[.slice B1 l1.length d1, .slice B2 l2.length d2, .slice B3 l3.length d3] 23))
    obtain ⟨q4, hq9⟩ : ∃ q, v3.heap.size = q := ⟨_, rfl⟩
    obtain ⟨v4, hw9⟩ : ∃ V, v3.alloc (.cells #[.slice B1 l1.length d1, .slice B2 l2.length d2, .slice B3 l3.length d3] 23) = V := ⟨_, rfl⟩
    rw [hw9] at T HX ⊢
    rw [hq9] at T ⊢
    clear hw9 hq9
    have RD9 := Lib.hid (RD.out.later HX.out)
    clear RD
    have RD := RD9
    clear RD9
    have R19 := Lib.hid (R1.out.later HX.out)
    clear R1
    have R1 := R19
    clear R19
    have R29 := Lib.hid (R2.out.later HX.out)
    clear R2
    have R2 := R29
    clear R29
    have R39 := Lib.hid (R3.out.later HX.out)
    clear R3
    have R3 := R39
    clear R39
    have hb2 : Below W.heap.size W v4 := Below.trans hHeld (HX.out.mono hHeld.size)
    refine hK.out _ _ hb2 (fun hHeld2 => ?_)
    clear hK K hHeld hb2 HX
    have hHeld := hHeld2
    clear hHeld2
    try simp only [Act.put, List.getElem_toArray, List.getElem_cons_zero, List.getElem_cons_succ, List.setIfInBounds_toArray, List.set_cons_zero, List.set_cons_succ]
    refine wpAnyH_ready (rs := [10]) (by kernel_rfl) (by simp) ?_
    refine AllReadyH.cons rfl (fun K hK => ?_) AllReadyH.nil
    go_simp
    refine (concat3_any q4 B1 l1.length d1 l1 B2 l2.length d2 l2 B3 l3.length d3 l3 _ T.out.c0 T.out.c1 T.out.c2 rfl rfl rfl R1.out R2.out R3.out (by omega)).mono ?_
    rintro e v5 ⟨B5, d5, rfl, ho, hb⟩
    have HX := Lib.hid hb
    clear hb
    have OO := Lib.hid (ho.less (B' := W.heap.size) hHeld.size)
    clear ho
    have RD9 := Lib.hid (RD.out.later HX.out)
    clear RD
    have RD := RD9
    clear RD9
    have R19 := Lib.hid (R1.out.later HX.out)
    clear R1
    have R1 := R19
    clear R19
    have R29 := Lib.hid (R2.out.later HX.out)
    clear R2
    have R2 := R29
    clear R29
    have R39 := Lib.hid (R3.out.later HX.out)
    clear R3
    have R3 := R39
    clear R39
    have T9 := Lib.hid (T.out.later HX.out)
    clear T
    have T := T9
    clear T9
    have hb2 : Below W.heap.size W v5 := Below.trans hHeld (HX.out.mono hHeld.size)
    try go_wp2_with fail
    refine hK.out _ _ hb2 (fun hHeld2 => ?_)
    clear hK K hHeld hb2 HX
    have hHeld := hHeld2
    clear hHeld2
    try simp only [Act.put, List.getElem_toArray, List.getElem_cons_zero, List.getElem_cons_succ, List.setIfInBounds_toArray, List.set_cons_zero, List.set_cons_succ]
    refine wpAnyH_take (i := 11) (v := ?_) rfl (by kernel_rfl) (by kernel_rfl) (by kernel_rfl) (fun _ _ _ h => h) (Or.inl ⟨by rfl, ?_⟩) (by assumption) ?_
    rotate_left
    · intro w hSw
      (try dsimp only at hSw)
      go_simp
      try (with_reducible rfl)
    try simp only [Act.put, List.getElem_toArray, List.getElem_cons_zero, List.getElem_cons_succ, List.setIfInBounds_toArray, List.set_cons_zero, List.set_cons_succ]
    refine wpAnyH_done (by kernel_rfl) ?_ _
    have HF := Lib.hid hHeld
    clear hHeld
    go_wp2_with fail
    go_ret
    rw [← HBB.out]
    exact ⟨_, _, rfl, OO.out.less HB.out.size, HB.out.trans (HF.out.mono HB.out.size)⟩
  have b2 : (k == 2) = false := by simp [h2]
  have b3 : (k == 3) = false := by simp [h3]
  have b4 : (k == 4) = false := by simp [h4]
  simp only [if_neg h2, if_neg h3, if_neg h4, List.length_nil]
  clear hin
  go_enter Try.func129, Try.ntmps129
  go_wp2
  go_ret
  exact ⟨none, 0, rfl, Own.nil _ _ _ _, (Below.refl w.heap.size w).alloc (Nat.le_refl _) _⟩
end Go.Proofs.Ytbjneoeiognahaa

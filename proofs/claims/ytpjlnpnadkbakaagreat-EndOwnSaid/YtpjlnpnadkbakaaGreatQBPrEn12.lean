/-
  What a packet that came turns in the developers' End: contracts over the program.
-/
import Derived.Test.YtpjlnpnadkbakaaGreatQBPrEn11
namespace Go.Proofs.YtpjlnpnadkbakaaGreat
set_option maxRecDepth 10000
open Go.RowKit
def EeSome (w : World) (L : Lab) (K b : Nat) (s : EeS) (E : En) (e : Ending) (w' : World) : Prop := (∃ v, e = .returned v) ∧ ∃ L', EE w' L' K b s E ∧ Tn w w' L L' (Es K)
theorem eeacked_any {w : World} {L : Lab} {K b : Nat} {s : EeS} {E : En} (h : EE w L K b s E) (hK : K ≠ 0) (hok : E.ok) (i : Nat) (hi : i < E.ps.length) (x : Int) :
    Calls Tryz.prog 75 #[.pointer (some ⟨s.pb.getD i 0, 0, none⟩), .int .i64 x, .int .i64 E.now] w (EeSome w L K b s (E.setP i (ackP (E.pa i) x E.now))) := by
  obtain ⟨q, h⟩ := h
  have hf := hok.pa hi
  have h0 := hok.n0
  have h1 := hok.n1
  rcases ackP_cases (E.pa i) x E.now with ⟨hno, e⟩ | ⟨j, hj, e⟩
  · refine (paacked_no (h.pth i hi) hf.ok x E.now hno).mono ?_
    rintro e2 w' ⟨rfl, hb⟩
    exact ⟨⟨_, rfl⟩, _, by rw [e, setP_self]; exact ⟨_, h.grow hb 0⟩, Tn.of_below hb L 0 _⟩
  · have hq := hf.out _ (show (E.pa i).fl.getD j qz ∈ (E.pa i).fl by have := hj.1; simp [List.getD, this])
    refine (paacked_yes (h.pth i hi) hf.ok x E.now j hj (by omega) (by omega)).mono ?_
    rintro e2 w' ⟨rfl, v', hp, hsc⟩
    obtain ⟨hd, ht⟩ := h.path hK hi hp hsc
    have h5 := h.p.n3
    have hi2 : i < E.view.ps.length := hi
    exact ⟨⟨_, rfl⟩, _, by rw [e]; exact ⟨_, hd⟩, ht.mono (es_path (by omega))⟩
theorem eeackO_any {w : World} {L : Lab} {K b : Nat} {s : EeS} {E : En} (h : EE w L K b s E) (hK : K ≠ 0) (n : Int) :
    Calls Tryz.prog 76 #[.pointer (some ⟨s.ob, 0, none⟩), .int .i64 n] w (EeSome w L K b s (E.setO (E.o.ack n))) := by
  obtain ⟨q, h⟩ := h
  refine (ack_any h.p.out n).mono ?_
  rintro e w' ⟨rfl, ho, hg⟩
  obtain ⟨hd, ht⟩ := h.turnO hK ho (sc_p hg)
  exact ⟨⟨_, rfl⟩, _, ⟨_, hd⟩, ht.mono (fun x hx => by subst hx; exact ⟨by omega, by omega⟩)⟩
theorem eeput_any {w : World} {L : Lab} {K b : Nat} {s : EeS} {E : En} (h : EE w L K b s E) (hK : K ≠ 0) (hok : E.ok) (f : Int) (A : Option Addr) (m c : Nat) (ys : List Int) (hm : ys.length = m) (hr : Rd .u8 w A ys) (ha : ∀ a, A = some a → ¬ Es K (L a.block)) (fin : Bool) (hf : 0 ≤ f ∧ f ≤ 4096) (hmm : m ≤ 80) :
    Calls Tryz.prog 72 #[.pointer (some ⟨s.ib, 0, none⟩), .int .i64 f, .slice A m c, .bool fin] w (EeSome w L K b s (E.setI (E.i.put f ys fin))) := by
  obtain ⟨q, h⟩ := h
  obtain ⟨xs, ps, hin⟩ := h.p.inb
  have ht := En.tk_4096 hok
  have hw := hok.i.w1
  refine (ibput_any hin f A m c ys hm hr (fun a e h0 hx => ?_) fin (by omega) (by omega) (by show E.i.tk + E.i.win ≤ 8192; omega)).mono ?_
  · have h1 := h.p.inl _ hx
    exact ha a e (by rw [h1]; exact ⟨by omega, by omega⟩)
  rintro e w' ⟨rfl, v', xs', us, hd, hsc⟩
  obtain ⟨hd2, ht2⟩ := h.turnI hK (K + 4) hd hsc (.inl rfl)
  exact ⟨⟨_, rfl⟩, _, ⟨_, hd2⟩, ht2.mono (fun x hx => by subst hx; exact ⟨by omega, by omega⟩)⟩
theorem seen_eq {s : In} (h : s.ok) : (if s.front = s.en then s.front + 1 else s.front) = s.seen := by
  unfold In.seen
  have hf := In.front_is h
  by_cases e : s.front = s.en
  · rw [if_pos e, if_pos ⟨by have := hf.ge; omega, by omega⟩]; omega
  · rw [if_neg e, if_neg (fun h2 => ?_)]
    have h3 := hf.all s.en h2.1 (by omega)
    have := h.end_ h2.1 _ h3
    omega
theorem eeseen_any {w : World} {L : Lab} {K b : Nat} {s : EeS} {E : En} (h : EE w L K b s E) (hok : E.ok) :
    Calls Tryz.prog 73 #[.pointer (some ⟨s.ib, 0, none⟩)] w fun e w' => e = .returned (.int .i64 E.i.seen) ∧ Below w.heap.size w w' := by
  obtain ⟨q, h⟩ := h
  obtain ⟨xs, ps, hin⟩ := h.p.inb
  rw [← seen_eq hok.i]
  exact ibseen_any hin E.i.front (In.front_is hok.i) (by have := En.front_4096 hok; omega)
theorem eelimit_any {w : World} {L : Lab} {K b : Nat} {s : EeS} {E : En} (h : EE w L K b s E) (hok : E.ok) :
    Calls Tryz.prog 74 #[.pointer (some ⟨s.ib, 0, none⟩)] w fun e w' => e = .returned (.int .i64 E.i.limit) ∧ Below w.heap.size w w' := by
  obtain ⟨q, h⟩ := h
  obtain ⟨xs, ps, hin⟩ := h.p.inb
  refine (iblimit_any hin (by have := En.tk_4096 hok; show E.i.tk ≤ _; omega) 0).mono ?_
  rintro e w' ⟨rfl, k, rfl⟩
  exact ⟨rfl, below_drewN' (below_drewN' (Below.refl _ _) 0) k⟩
theorem EeAt.setLim {w : World} {L : Lab} {K b : Nat} {s : EeS} {q : EeQ} {E : En} (h : EeAt w L K b s q E) (hK : K ≠ 0) (n : Int) : EeAt (w.setCell ⟨b, 9, none⟩ (.int .i64 n)) L K b s q (E.setLim n) ∧ Tn w (w.setCell ⟨b, 9, none⟩ (.int .i64 n)) L L (Es K) := by
  obtain ⟨h1, h2⟩ := h.poke (E' := E.setLim n) hK 9 (.int .i64 n) rfl id h.to1 h.to2
  exact ⟨h1, h2.mono (fun x hx => by subst hx; exact ⟨by omega, by omega⟩)⟩
end Go.Proofs.YtpjlnpnadkbakaaGreat

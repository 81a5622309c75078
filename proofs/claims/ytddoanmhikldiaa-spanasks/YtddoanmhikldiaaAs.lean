/-
  The contracts of At, Place, Next and Within. Conditions: the numbers fit; the lists take no more bytes than there are.
-/
import Derived.Test.YtddoanmhikldiaaRc
import Derived.Test.YtddoanmhikldiaaCr
import Derived.Test.YtddoanmhikldiaaIn
namespace Go.Proofs.Ytddoanmhikldiaa
open Go.RowKit
theorem at_cons (s : Sn) (L : List Sn) (i : Int) : atL (s :: L) i = if i < szI s then s.1 + i else atL L (i - szI s) := rfl
set_option maxRecDepth 100000 in
set_option maxHeartbeats 1000000 in
theorem At_any (L : List Sn) (i : Int) (v : Value) (w : World) (hr : RdS w v L) (hf : fitS L) (hA : isB L = true) (hi : 0 ≤ i) (hi2 : i ≤ 9223372036854775807) : Calls Try.prog 23 #[v, .int .i64 i] w fun e w' => e = .returned (.int .i32 (atL L i)) ∧ Below w.heap.size w w' := by
  have HR : Hid (RdS w v L) := hr
  have HF : Hid (fitS L) := hf
  obtain ⟨la, sa⟩ := isB_iff2.1 hA
  have SA : Hid (isS 0 L = true) := sa
  obtain ⟨a, c, rfl, hlc, hc⟩ := hr
  have HC : Hid _ := hc
  have hi' : ¬ i < 0 := by omega
  clear hf sa hc
  go_enter Try.func23, Try.ntmps23
  go_wp2_with fail
  refine (is_any L _ w HR.out HF.out (by omega)).mono ?_
  rintro e w1 ⟨rfl, b1⟩
  have B1 : Hid (Below w.heap.size w w1) := b1
  clear b1
  go_wp2_with fail
  go_loopw [1, 16] (fun x y wr => ∃ (k : Nat) (i' : Int), k ≤ L.length ∧ y = .int .i64 (k : Nat) ∧ x = .int .i64 i' ∧ 0 ≤ i' ∧ i' ≤ 9223372036854775807 ∧ Hid (atL (L.drop k) i' = atL L i) ∧ Hid (Below w.heap.size w wr)) (fun _ y _ => (L.length - (intOf y).toNat : Nat))
  case atStart => exact ⟨0, i, Nat.zero_le _, rfl, rfl, hi, hi2, rfl, B1.out⟩
  case round =>
    obtain ⟨k, i', hk, rfl, rfl, hp0, hp1, hE, hB⟩ := hrel
    by_cases hkl : k < L.length
    · obtain ⟨g, off, rfl, hd⟩ := HC.out (by omega)
      obtain ⟨d1, d2⟩ := hd k hkl
      have kl : (k : Int) < (L.length : Int) := by omega
      have g1 := World.block_lt_of_cell? w _ d1
      have e1 := (hB.out.cell (p := ⟨g, off + k * 2, none⟩) (by simpa using g1)).trans d1
      have e2 := (hB.out.cell (p := ⟨g, off + k * 2 + 1, none⟩) (by simpa using g1)).trans d2
      clear d1 d2 hd g1 HC
      have hmk : Hid (mayB (L.getD k (0, 0)) = true) := (isS_mem SA.out _ (get_mem L k hkl)).1
      have hdr : Hid (L.drop k = L.getD k (0, 0) :: L.drop (k + 1)) := by
        rw [Hid, List.drop_eq_getElem_cons hkl]; simp [List.getD, List.getElem?_eq_getElem hkl]
      generalize L.getD k (0, 0) = s at *
      obtain ⟨x, y⟩ := s
      obtain ⟨m1, m2, m3⟩ := may_iff.1 hmk.out
      simp only at m1 m2 m3
      have hbsz := hB.out.size
      go_wp2_with fail
      refine (size_any x y _ hmk.out).mono ?_
      rintro e w2 ⟨rfl, b2⟩
      obtain ⟨q1, q2⟩ := box2_below b2
      have B2 : Hid (Below w.heap.size w w2) := below_box hB.out b2
      clear b2 e1 e2
      by_cases c1 : i' < y - x + 1
      · have hE2 : Hid (x + i' = atL L i) := by rw [Hid, ← hE.out, hdr.out, at_cons, if_pos (show i' < szI (x, y) from c1)]
        have hcv : IntKind.i32.wrap i' = i' := IntWalk.i32_in _ (by omega)
        clear hE hdr
        go_wp2
        go_ret
        exact ⟨by rw [← hE2.out]; rfl, B2.out⟩
      · have c1' : decide (i' < y - x + 1) = false := decide_eq_false c1
        have hE2 : Hid (atL (L.drop (k + 1)) (i' - (y - x + 1)) = atL L i) := by
          have := hE.out
          rw [hdr.out, at_cons, if_neg (show ¬ i' < szI (x, y) from c1)] at this
          exact this
        have hge : 0 ≤ i' - (y - x + 1) := by omega
        clear hE hdr c1
        go_wp2_with fail
        refine (size_any x y _ hmk.out).mono ?_
        rintro e w3 ⟨rfl, b3⟩
        have B3 : Hid (Below w.heap.size w w3) := B2.out.trans (b3.mono B2.out.size)
        clear b3 q1 q2
        go_wp2
        refine ⟨⟨k + 1, i' - (y - x + 1), by omega, by go_num, by go_num, hge, by omega, hE2.out, B3.out⟩, by simp [intOf]; omega⟩
    · have hkk : k = L.length := by omega
      subst hkk
      have hE2 : Hid (atL L i = -1) := by have := hE.out; rw [List.drop_length] at this; exact this.symm
      clear hE
      go_wp2
      go_ret
      exact ⟨by rw [hE2.out]; rfl, hB.out⟩
theorem At_no (L : List Sn) (i : Int) (v : Value) (w : World) (hr : RdS w v L) (hf : fitS L) (hl : L.length ≤ 17592186044416) (hA : isB L = false ∨ (isB L = true ∧ i < 0)) : Calls Try.prog 23 #[v, .int .i64 i] w fun e w' => e = .returned (.int .i32 (-1)) ∧ Below w.heap.size w w' := by
  have HR : Hid (RdS w v L) := hr
  have HF : Hid (fitS L) := hf
  clear hr hf
  go_enter Try.func23, Try.ntmps23
  go_wp2_with fail
  refine (is_any L v w HR.out HF.out (by omega)).mono ?_
  rintro e w1 ⟨rfl, b1⟩
  have B1 : Hid (Below w.heap.size w w1) := b1
  clear b1
  rcases hA with hA | ⟨hA, hi⟩
  · go_wp2
    go_ret
    exact ⟨rfl, B1.out⟩
  · go_wp2
    go_ret
    exact ⟨rfl, B1.out⟩
set_option maxRecDepth 100000 in
set_option maxHeartbeats 1000000 in
theorem Next_any (L : List Sn) (p : Int) (v : Value) (w : World) (hr : RdS w v L) (hf : fitS L) (hA : isB L = true) : Calls Try.prog 25 #[v, .int .i32 p] w fun e w' => e = .returned (.int .i32 (nxL L p)) ∧ Below w.heap.size w w' := by
  have HR : Hid (RdS w v L) := hr
  have HF : Hid (fitS L) := hf
  obtain ⟨la, sa⟩ := isB_iff2.1 hA
  have SA : Hid (isS 0 L = true) := sa
  obtain ⟨a, c, rfl, hlc, hc⟩ := hr
  have HC : Hid _ := hc
  have hle := rch_le L p
  have HN : Hid (nxL L p = if rch L p < L.length then max p (L.getD (rch L p) (0, 0)).1 else -1) := rfl
  clear hf sa hc
  go_enter Try.func25, Try.ntmps25
  go_wp2_with fail
  refine (is_any L _ w HR.out HF.out (by omega)).mono ?_
  rintro e w1 ⟨rfl, b1⟩
  have B1 : Hid (Below w.heap.size w w1) := b1
  clear b1
  go_wp2_with fail
  refine (reaching_any L p _ w1 (HR.out.below B1.out) SA.out (by omega)).mono ?_
  rintro e w2 ⟨rfl, b2⟩
  have B2 : Hid (Below w.heap.size w w2) := B1.out.trans (b2.mono B1.out.size)
  clear b2
  generalize rch L p = r at *
  by_cases hrl : r < L.length
  · have hrl' : ((r : Int) == (L.length : Int)) = false := by simp; omega
    have hrl2 : (r : Int) < (L.length : Int) := by omega
    obtain ⟨g, off, rfl, hd⟩ := HC.out (by omega)
    obtain ⟨d1, d2⟩ := hd r hrl
    have g1 := World.block_lt_of_cell? w _ d1
    have e1 := (B2.out.cell (p := ⟨g, off + r * 2, none⟩) (by simpa using g1)).trans d1
    have HN2 : Hid (nxL L p = max p (L.getD r (0, 0)).1) := by rw [Hid, HN.out, if_pos hrl]
    clear d1 d2 hd g1 HC HN
    generalize L.getD r (0, 0) = s at *
    obtain ⟨x, y⟩ := s
    by_cases c : p < x
    · have hmx : Hid (max p x = x) := by rw [Hid]; omega
      go_wp2
      go_ret
      exact ⟨by rw [HN2.out, hmx.out]; rfl, B2.out⟩
    · have hmx : Hid (max p x = p) := by rw [Hid]; omega
      have c' : decide (p < x) = false := decide_eq_false c
      have c2 : max p x = p := hmx.out
      go_wp2
      go_ret
      exact ⟨by rw [HN2.out, hmx.out]; rfl, B2.out⟩
  · have HN2 : Hid (nxL L p = -1) := by rw [Hid, HN.out, if_neg hrl]
    have hre : r = L.length := by omega
    subst hre
    clear hrl HC HN hle
    go_wp2
    go_ret
    exact ⟨by rw [HN2.out]; rfl, B2.out⟩
theorem Next_no (L : List Sn) (p : Int) (v : Value) (w : World) (hr : RdS w v L) (hf : fitS L) (hl : L.length ≤ 17592186044416) (hA : isB L = false) : Calls Try.prog 25 #[v, .int .i32 p] w fun e w' => e = .returned (.int .i32 (-1)) ∧ Below w.heap.size w w' := by
  have HR : Hid (RdS w v L) := hr
  have HF : Hid (fitS L) := hf
  clear hr hf
  go_enter Try.func25, Try.ntmps25
  go_wp2_with fail
  refine (is_any L v w HR.out HF.out (by omega)).mono ?_
  rintro e w1 ⟨rfl, b1⟩
  have B1 : Hid (Below w.heap.size w w1) := b1
  clear b1
  go_wp2
  go_ret
  exact ⟨rfl, B1.out⟩
theorem Place_no (L : List Sn) (p : Int) (v : Value) (w : World) (hr : RdS w v L) (hf : fitS L) (hl : L.length ≤ 17592186044416) (hA : isB L = false ∨ (isB L = true ∧ hasB L p = false)) : Calls Try.prog 24 #[v, .int .i32 p] w fun e w' => e = .returned (.int .i64 (-1)) ∧ Below w.heap.size w w' := by
  have HR : Hid (RdS w v L) := hr
  have HF : Hid (fitS L) := hf
  have K : Hid (∀ w1 : World, RdS w1 v L → Calls Try.prog 21 #[v, .int .i32 p] w1 fun e w' => e = .returned (.bool false) ∧ Below w1.heap.size w1 w') := fun w1 h => by
    rcases hA with hA | ⟨hA, hh⟩
    · exact Has_no L p v w1 h HF.out hl hA
    · have := Has_any L p v w1 h HF.out hA
      rwa [hh] at this
  clear hr hf hA
  go_enter Try.func24, Try.ntmps24
  go_wp2_with fail
  refine (K.out w HR.out).mono ?_
  rintro e w1 ⟨rfl, b1⟩
  have B1 : Hid (Below w.heap.size w w1) := b1
  clear b1
  go_wp2
  go_ret
  exact ⟨rfl, B1.out⟩
end Go.Proofs.Ytddoanmhikldiaa

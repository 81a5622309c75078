/-
  The contracts of size, count, Count, reaching, has and Has. Conditions: the lists' spans may be.
-/
import Derived.Test.YtddoanmhikldiaaPs
import Derived.Test.YtddoanmhikldiaaSo
namespace Go.Proofs.Ytddoanmhikldiaa
open Go.RowKit
theorem size_any (x y : Int) (w : World) (hm : mayB (x, y) = true) : Calls Try.prog 42 #[.agg #[.int .i32 x, .int .i32 y]] w fun e w' => e = .returned (.int .i64 (y - x + 1)) ∧ Below w.heap.size w w' := by
  obtain ⟨m1, m2, m3⟩ := may_iff.1 hm
  simp only at m1 m2 m3
  have hb : Hid (Below w.heap.size w (w.alloc (.cells #[.int .i32 x, .int .i32 y] 57))) := (Below.refl _ _).alloc (Nat.le_refl _) _
  go_enter Try.func42, Try.ntmps42
  go_wp2
  go_ret
  exact ⟨rfl, hb.out⟩
theorem cnt_take (L : List Sn) (k : Nat) (h : k < L.length) : cntL (L.take (k + 1)) = cntL (L.take k) + szI (L.getD k (0, 0)) := by
  rw [take_snoc L k h, cnt_app, cnt_cons, cnt_nil, Int.add_zero]
theorem cnt_le : ∀ (L : List Sn), (∀ s ∈ L, mayB s = true) → 0 ≤ cntL L ∧ cntL L ≤ 1114112 * L.length := by
  intro L
  induction L with
  | nil => intro _; exact ⟨by rw [cnt_nil]; exact Int.le_refl _, by rw [cnt_nil]; simp⟩
  | cons s L ih =>
    intro h
    have h1 := ih fun t ht => h t (by simp [ht])
    have h2 := may_iff.1 (h s (by simp))
    have hz : szI s = s.2 - s.1 + 1 := rfl
    rw [cnt_cons]
    simp only [List.length_cons]
    omega
set_option maxRecDepth 100000 in
set_option maxHeartbeats 1000000 in
theorem count_any (L : List Sn) (v : Value) (w : World) (hr : RdS w v L) (hm : ∀ s ∈ L, mayB s = true) (hl : L.length ≤ 1000000) : Calls Try.prog 41 #[v] w fun e w' => e = .returned (.int .i64 (cntL L)) ∧ Below w.heap.size w w' := by
  obtain ⟨a, c, rfl, hlc, hc⟩ := hr
  have HC : Hid _ := hc
  have HM : Hid (∀ s ∈ L, mayB s = true) := hm
  clear hc hm
  go_enter Try.func41, Try.ntmps41
  go_wp2_with fail
  go_loopw [3, 8] (fun x y wr => ∃ k : Nat, k ≤ L.length ∧ y = .int .i64 (k : Nat) ∧ x = .int .i64 (cntL (L.take k)) ∧ Hid (Below w.heap.size w wr)) (fun _ y _ => (L.length - (intOf y).toNat : Nat))
  case atStart => exact ⟨0, Nat.zero_le _, rfl, rfl, Below.refl _ _⟩
  case round =>
    obtain ⟨k, hk, rfl, rfl, hB⟩ := hrel
    by_cases hkl : k < L.length
    · obtain ⟨g, off, rfl, hd⟩ := HC.out (by omega)
      obtain ⟨d1, d2⟩ := hd k hkl
      have kl : (k : Int) < (L.length : Int) := by omega
      have g1 := World.block_lt_of_cell? w _ d1
      have e1 := (hB.out.cell (p := ⟨g, off + k * 2, none⟩) (by simpa using g1)).trans d1
      have e2 := (hB.out.cell (p := ⟨g, off + k * 2 + 1, none⟩) (by simpa using g1)).trans d2
      clear d1 d2 hd g1 HC
      have hct : Hid (cntL (L.take (k + 1)) = cntL (L.take k) + szI (L.getD k (0, 0))) := cnt_take L k hkl
      have hcb := cnt_le (L.take k) (fun s hs => HM.out s (List.mem_of_mem_take hs))
      have hlt : (L.take k).length = k := by rw [List.length_take]; omega
      rw [hlt] at hcb
      have hmk : Hid (mayB (L.getD k (0, 0)) = true) := HM.out _ (get_mem L k hkl)
      generalize L.getD k (0, 0) = s at *
      obtain ⟨x, y⟩ := s
      obtain ⟨m1, m2, m3⟩ := may_iff.1 hmk.out
      simp only at m1 m2 m3
      have hbsz := hB.out.size
      clear hlt
      generalize cntL (L.take k) = ck at *
      go_wp2_with fail
      refine (size_any x y _ hmk.out).mono ?_
      rintro e w1 ⟨rfl, B1⟩
      have B2 : Hid (Below w.heap.size w w1) := below_box hB.out B1
      clear B1 e1 e2
      go_wp2
      refine ⟨⟨k + 1, by omega, by go_num, by rw [hct.out]; rfl, B2.out⟩, by simp [intOf]; omega⟩
    · have hkk : k = L.length := by omega
      subst hkk
      have hT : Hid (cntL (L.take L.length) = cntL L) := by rw [Hid, List.take_length]
      generalize cntL (L.take L.length) = ck at *
      go_wp2
      go_ret
      exact ⟨by rw [← hT.out]; rfl, hB.out⟩
theorem isB_iff2 {L : List Sn} : isB L = true ↔ L.length ≤ 65536 ∧ isS 0 L = true := by simp [isB]
theorem Count_no (L : List Sn) (v : Value) (w : World) (hr : RdS w v L) (hf : fitS L) (hl : L.length ≤ 17592186044416) (hA : isB L = false) : Calls Try.prog 22 #[v] w fun e w' => e = .returned (.int .i64 0) ∧ Below w.heap.size w w' := by
  have HR : Hid (RdS w v L) := hr
  have HF : Hid (fitS L) := hf
  clear hr hf
  go_enter Try.func22, Try.ntmps22
  go_wp2_with fail
  refine (is_any L v w HR.out HF.out (by omega)).mono ?_
  rintro e w1 ⟨rfl, b1⟩
  have B1 : Hid (Below w.heap.size w w1) := b1
  clear b1
  go_wp2
  go_ret
  exact ⟨rfl, B1.out⟩
theorem Count_any (L : List Sn) (v : Value) (w : World) (hr : RdS w v L) (hf : fitS L) (hA : isB L = true) : Calls Try.prog 22 #[v] w fun e w' => e = .returned (.int .i64 (cntL L)) ∧ Below w.heap.size w w' := by
  have HR : Hid (RdS w v L) := hr
  have HF : Hid (fitS L) := hf
  obtain ⟨la, sa⟩ := isB_iff2.1 hA
  have SA : Hid (isS 0 L = true) := sa
  clear hr hf sa
  go_enter Try.func22, Try.ntmps22
  go_wp2_with fail
  refine (is_any L v w HR.out HF.out (by omega)).mono ?_
  rintro e w1 ⟨rfl, b1⟩
  have B1 : Hid (Below w.heap.size w w1) := b1
  clear b1
  go_wp2_with fail
  refine (count_any L v w1 (HR.out.below B1.out) (fun s hs => (isS_mem SA.out s hs).1) (by omega)).mono ?_
  rintro e w2 ⟨rfl, b2⟩
  have B2 : Hid (Below w.heap.size w w2) := B1.out.trans (b2.mono B1.out.size)
  clear b2
  go_wp2
  go_ret
  exact ⟨rfl, B2.out⟩
theorem rclos_any (x y p : Int) (w : World) : Calls Try.prog 52 #[.agg #[.int .i32 x, .int .i32 y], .int .i32 p] w fun e w' => e = .returned (.int .i64 (Lib.compareInt y p)) ∧ Below w.heap.size w w' := by
  have hb : Hid (Below w.heap.size w (w.alloc (.cells #[.int .i32 x, .int .i32 y] 57))) := (Below.refl _ _).alloc (Nat.le_refl _) _
  have hcon := fun W' => compare_any y p W'
  generalize Lib.compareInt y p = r at hcon ⊢
  go_enter Try.func52, Try.ntmps52
  go_wp2_with (go_at_call 47; refine (hcon _).mono ?_; rintro e w' ⟨rfl, rfl⟩)
  go_ret
  exact ⟨rfl, hb.out⟩
theorem cmp_lt (y p : Int) : Lib.compareInt y p < 0 ↔ y < p := by
  unfold Lib.compareInt
  by_cases h1 : y < p
  · simp [h1]
  · by_cases h2 : p < y <;> simp [h1, h2]
set_option maxRecDepth 100000 in
set_option maxHeartbeats 1000000 in
theorem search_any (L : List Sn) (p : Int) (v : Value) (w : World) (hr : RdS w v L) (hs : isS 0 L = true) (hl : L.length ≤ 1000000) : Calls Try.prog 51 #[v, .int .i32 p, .func (.func 52) #[] #[]] w fun e w' => ∃ b, e = .returned (.tuple #[.int .i64 (rch L p : Nat), .bool b]) ∧ Below w.heap.size w w' := by
  obtain ⟨a, c, rfl, hlc, hc⟩ := hr
  have HC : Hid _ := hc
  have HS : Hid (isS 0 L = true) := hs
  have eg : ∀ args w, (callFunc 52 args).run Try.prog w = .ok (.enter 52 args) w := enters_of Try.func52 (by kernel_rfl) rfl
  clear hc hs
  go_enter Try.func51, Try.ntmps51
  go_wp2_with fail
  go_loopw [9, 10] (fun x y wr => ∃ i j : Nat, i ≤ j ∧ j ≤ L.length ∧ x = .int .i64 (i : Nat) ∧ y = .int .i64 (j : Nat) ∧ Hid (∀ k, k < i → (L.getD k (0, 0)).2 < p) ∧ Hid (j < L.length → p ≤ (L.getD j (0, 0)).2) ∧ Hid (Below w.heap.size w wr)) (fun x y _ => (intOf y).toNat - (intOf x).toNat)
  case atStart => exact ⟨0, L.length, Nat.zero_le _, Nat.le_refl _, rfl, rfl, fun k hk => by omega, fun h => by omega, Below.refl _ _⟩
  case round =>
    obtain ⟨i, j, hij, hj, rfl, rfl, hlo, hhi, hB⟩ := hrel
    by_cases hlt : i < j
    · obtain ⟨h, hh⟩ : ∃ h, (i + j) / 2 = h := ⟨_, rfl⟩
      have hd1 : i ≤ h := by omega
      have hd2 : h < j := by omega
      have hlt' : (i : Int) < (j : Int) := by omega
      have hdv : ((i : Int) + (j : Int)) / 2 = (h : Int) := by omega
      have hhl : h < L.length := by omega
      have hhl' : (h : Int) < (L.length : Int) := by omega
      obtain ⟨g, off, rfl, hd⟩ := HC.out (by omega)
      obtain ⟨d1, d2⟩ := hd h hhl
      have g1 := World.block_lt_of_cell? w _ d1
      have e1 := (hB.out.cell (p := ⟨g, off + h * 2, none⟩) (by simpa using g1)).trans d1
      have e2 := (hB.out.cell (p := ⟨g, off + h * 2 + 1, none⟩) (by simpa using g1)).trans d2
      have hup : Hid ((L.getD h (0, 0)).2 < p → ∀ k, k < h + 1 → (L.getD k (0, 0)).2 < p) := fun hq k hk => by
        have := to_rise HS.out k h (by omega) hhl; omega
      have hdn : Hid (¬ (L.getD h (0, 0)).2 < p → (h < L.length → p ≤ (L.getD h (0, 0)).2)) := fun hq _ => by omega
      clear d1 d2 hd g1 HC hh
      generalize hgs : L.getD h (0, 0) = s at *
      have HG : Hid (L.getD h (0, 0) = s) := hgs
      clear hgs
      obtain ⟨x, y⟩ := s
      go_wp2_with fail
      refine (rclos_any x y p _).mono ?_
      rintro e w1 ⟨rfl, b1⟩
      have B1 : Hid (Below w.heap.size w w1) := hB.out.trans (b1.mono hB.out.size)
      clear b1 e1 e2
      by_cases c1 : y < p
      · have hc1 : Lib.compareInt y p < 0 := (cmp_lt y p).2 c1
        have hlo2 : Hid (∀ k, k < h + 1 → (L.getD k (0, 0)).2 < p) := hup.out c1
        generalize Lib.compareInt y p = r at *
        clear c1 hup hdn hdv
        go_wp2
        refine ⟨⟨h + 1, j, by omega, hj, by go_num, rfl, hlo2.out, hhi.out, B1.out⟩, by simp [intOf]; omega⟩
      · have hc1 : decide (Lib.compareInt y p < 0) = false := decide_eq_false (fun h => c1 ((cmp_lt y p).1 h))
        have hhi2 : Hid (h < L.length → p ≤ (L.getD h (0, 0)).2) := fun hq => by rw [HG.out]; simp only; omega
        generalize Lib.compareInt y p = r at *
        clear c1 hup hdn hdv
        go_wp2
        refine ⟨⟨i, h, hd1, by omega, rfl, rfl, hlo.out, hhi2.out, B1.out⟩, by simp [intOf]; omega⟩
    · have hji : i = j := by omega
      subst hji
      have hR : Hid (i = rch L p) := rch_uniq L p i hj hlo.out (fun h => by have := hhi.out h; omega)
      have hnl : ¬ (i : Int) < (i : Int) := by omega
      by_cases hil : i < L.length
      · have hil' : (i : Int) < (L.length : Int) := by omega
        obtain ⟨g, off, rfl, hd⟩ := HC.out (by omega)
        obtain ⟨d1, d2⟩ := hd i hil
        have g1 := World.block_lt_of_cell? w _ d1
        have e1 := (hB.out.cell (p := ⟨g, off + i * 2, none⟩) (by simpa using g1)).trans d1
        have e2 := (hB.out.cell (p := ⟨g, off + i * 2 + 1, none⟩) (by simpa using g1)).trans d2
        clear d1 d2 hd g1 HC hhi hlo
        generalize L.getD i (0, 0) = s at *
        obtain ⟨x, y⟩ := s
        go_wp2_with fail
        refine (rclos_any x y p _).mono ?_
        rintro e w1 ⟨rfl, b1⟩
        have B1 : Hid (Below w.heap.size w w1) := hB.out.trans (b1.mono hB.out.size)
        clear b1 e1 e2
        generalize Lib.compareInt y p = r at *
        go_wp2
        go_ret2
        exact ⟨_, by rw [← hR.out]; rfl, B1.out⟩
      · have hie : i = L.length := by omega
        subst hie
        clear hil HC hhi hlo
        go_wp2
        go_ret2
        refine ⟨?_, hB.out⟩
        rw [← hR.out]
        first | (left; rfl) | (right; rfl)
theorem reaching_any (L : List Sn) (p : Int) (v : Value) (w : World) (hr : RdS w v L) (hs : isS 0 L = true) (hl : L.length ≤ 1000000) : Calls Try.prog 43 #[v, .int .i32 p] w fun e w' => e = .returned (.int .i64 (rch L p : Nat)) ∧ Below w.heap.size w w' := by
  have HR : Hid (RdS w v L) := hr
  have HS : Hid (isS 0 L = true) := hs
  clear hr hs
  go_enter Try.func43, Try.ntmps43
  go_wp2_with fail
  refine (search_any L p v w HR.out HS.out hl).mono ?_
  rintro e w1 ⟨b, rfl, b1⟩
  have B1 : Hid (Below w.heap.size w w1) := b1
  clear b1
  go_wp2
  go_ret
  exact ⟨rfl, B1.out⟩
set_option maxRecDepth 100000 in
set_option maxHeartbeats 1000000 in
theorem has_any (L : List Sn) (p : Int) (v : Value) (w : World) (hr : RdS w v L) (hs : isS 0 L = true) (hl : L.length ≤ 1000000) : Calls Try.prog 40 #[v, .int .i32 p] w fun e w' => e = .returned (.bool (hasB L p)) ∧ Below w.heap.size w w' := by
  have HR : Hid (RdS w v L) := hr
  have HS : Hid (isS 0 L = true) := hs
  have HH : Hid (hasB L p = (decide (rch L p < L.length) && decide ((L.getD (rch L p) (0, 0)).1 ≤ p))) := has_rch hs p
  obtain ⟨a, c, rfl, hlc, hc⟩ := hr
  have HC : Hid _ := hc
  clear hs hc
  go_enter Try.func40, Try.ntmps40
  go_wp2_with fail
  refine (reaching_any L p _ w HR.out HS.out hl).mono ?_
  rintro e w1 ⟨rfl, b1⟩
  have B1 : Hid (Below w.heap.size w w1) := b1
  have hle := rch_le L p
  clear b1
  generalize rch L p = r at *
  by_cases hrl : r < L.length
  · have hrl' : (r : Int) < (L.length : Int) := by omega
    obtain ⟨g, off, rfl, hd⟩ := HC.out (by omega)
    obtain ⟨d1, d2⟩ := hd r hrl
    have g1 := World.block_lt_of_cell? w _ d1
    have e1 := (B1.out.cell (p := ⟨g, off + r * 2, none⟩) (by simpa using g1)).trans d1
    have HH2 : Hid (hasB L p = decide ((L.getD r (0, 0)).1 ≤ p)) := by rw [Hid, HH.out, decide_eq_true hrl, Bool.true_and]
    clear d1 d2 hd g1 HC HH
    generalize L.getD r (0, 0) = s at *
    obtain ⟨x, y⟩ := s
    go_wp2
    go_ret
    exact ⟨by rw [HH2.out]; rfl, B1.out⟩
  · have HH2 : Hid (hasB L p = false) := by rw [Hid, HH.out, decide_eq_false hrl, Bool.false_and]
    have hre : r = L.length := by omega
    subst hre
    clear hrl HC HH hle
    go_wp2
    go_ret
    exact ⟨by rw [HH2.out]; rfl, B1.out⟩
theorem Has_any (L : List Sn) (p : Int) (v : Value) (w : World) (hr : RdS w v L) (hf : fitS L) (hA : isB L = true) : Calls Try.prog 21 #[v, .int .i32 p] w fun e w' => e = .returned (.bool (hasB L p)) ∧ Below w.heap.size w w' := by
  have HR : Hid (RdS w v L) := hr
  have HF : Hid (fitS L) := hf
  obtain ⟨la, sa⟩ := isB_iff2.1 hA
  have SA : Hid (isS 0 L = true) := sa
  clear hr hf sa
  go_enter Try.func21, Try.ntmps21
  go_wp2_with fail
  refine (is_any L v w HR.out HF.out (by omega)).mono ?_
  rintro e w1 ⟨rfl, b1⟩
  have B1 : Hid (Below w.heap.size w w1) := b1
  clear b1
  go_wp2_with fail
  refine (has_any L p v w1 (HR.out.below B1.out) SA.out (by omega)).mono ?_
  rintro e w2 ⟨rfl, b2⟩
  have B2 : Hid (Below w.heap.size w w2) := B1.out.trans (b2.mono B1.out.size)
  clear b2
  go_wp2
  go_ret
  exact ⟨rfl, B2.out⟩
theorem Has_no (L : List Sn) (p : Int) (v : Value) (w : World) (hr : RdS w v L) (hf : fitS L) (hl : L.length ≤ 17592186044416) (hA : isB L = false) : Calls Try.prog 21 #[v, .int .i32 p] w fun e w' => e = .returned (.bool false) ∧ Below w.heap.size w w' := by
  have HR : Hid (RdS w v L) := hr
  have HF : Hid (fitS L) := hf
  clear hr hf
  go_enter Try.func21, Try.ntmps21
  go_wp2_with fail
  refine (is_any L v w HR.out HF.out (by omega)).mono ?_
  rintro e w1 ⟨rfl, b1⟩
  have B1 : Hid (Below w.heap.size w w1) := b1
  clear b1
  go_wp2
  go_ret
  exact ⟨rfl, B1.out⟩
end Go.Proofs.Ytddoanmhikldiaa

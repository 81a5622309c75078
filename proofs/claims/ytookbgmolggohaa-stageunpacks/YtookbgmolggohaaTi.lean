/-
  The contracts of times, Count and of the document's Count. Conditions: the table's numbers are from 0 to 65535; the rows may be.
-/
import Derived.Test.YtookbgmolggohaaSc
namespace Go.Proofs.Ytookbgmolggohaa
open Go.RowKit
theorem info3 : (Try.prog.info? 3).map (fun i => (i.zero, i.size, i.bytes)) = some (some (.int .i64 0), 1, 8) := by kernel_rfl
/-- How often each block comes among the first k. -/
noncomputable def tmRow (F : Int → Int) (u k : Nat) : List Value := (List.range u).map fun i => .int .i64 (tmN F i k : Nat)
theorem tmRow_len (F : Int → Int) (u k : Nat) : (tmRow F u k).length = u := by simp [tmRow]
theorem tmRow_get (F : Int → Int) (u k i : Nat) (h : i < u) : (tmRow F u k)[i]? = some (.int .i64 (tmN F i k : Nat)) := by simp [tmRow, h]
theorem tmRow_set (F : Int → Int) (u k : Nat) (h : plc F k < u) : (tmRow F u k).set (plc F k) (.int .i64 ((tmN F (plc F k) k : Nat) + 1 : Int)) = tmRow F u (k + 1) := by
  apply List.ext_getElem?
  intro i
  by_cases hi : i < u
  · rw [tmRow_get F u (k + 1) i hi, List.getElem?_set]
    by_cases e : plc F k = i
    · subst e
      rw [if_pos rfl, if_pos (by rw [tmRow_len]; exact h)]
      show some (Value.int .i64 ((tmN F (plc F k) k : Nat) + 1 : Int)) = some (.int .i64 ((tmN F (plc F k) k + (if plc F k = plc F k then 1 else 0) : Nat) : Int))
      rw [if_pos rfl]
      rfl
    · rw [if_neg e, tmRow_get F u k i hi]
      show some (Value.int .i64 (tmN F i k : Nat)) = some (.int .i64 ((tmN F i k + (if plc F k = i then 1 else 0) : Nat) : Int))
      rw [if_neg e]
      rfl
  · rw [List.getElem?_eq_none (by simp [tmRow_len]; omega), List.getElem?_eq_none (by simp [tmRow_len]; omega)]
theorem made_tm (F : Int → Int) (u : Nat) : (madeCells #[Value.int .i64 0] u).toList = tmRow F u 0 := by
  apply List.ext_getElem?
  intro i
  by_cases hi : i < u
  · rw [tmRow_get F u 0 i hi]
    simp [madeCells, hi, Nat.mod_one]
    rfl
  · rw [List.getElem?_eq_none (by simp [madeCells]; omega), List.getElem?_eq_none (by simp [tmRow_len]; omega)]
set_option maxRecDepth 100000 in
set_option maxHeartbeats 2000000 in
theorem times_any (T : Nat) (F : Int → Int) (w : World) (h : TabAt w T F) : Calls Try.prog 51 #[.pointer (some ⟨T, 0, none⟩)] w fun e w' => ∃ v, e = .returned v ∧ w'.ownsRow w.heap.size 3 1 v (unl F 8704).length (tmRow F (unl F 8704).length 8704) ∧ Below w.heap.size w w' := by
  obtain ⟨i0, hi, hz0, hz1, hz2⟩ := info_parts info3
  obtain ⟨pg, pc, ug, uc, c1, c2, c3, c4, c5⟩ := h
  have hul := unl_len F 8704
  have hplc : Hid (∀ k, k < 8704 → plc F k < (unl F 8704).length) := fun k hk => plc_lt F hk
  generalize hU : (unl F 8704).length = u at *
  replace hU : Hid ((unl F 8704).length = u) := hU
  obtain ⟨d1, d2⟩ := tab_cells c1
  have HP : Hid (∀ i, i < 8704 → w.cell? ⟨pg, i, none⟩ = some (.int .u16 (plc F i : Nat))) := c4
  have hTl := (Array.getElem?_eq_some_iff.1 c1).1
  clear c4 c5
  go_enter Try.func51, Try.ntmps51
  go_wp2_with (at_make; refine wpList_make_full _ rfl _ _ 54 rfl w.heap.size 3 i0 _ 1 Try.underlying54 hi hz0 hz1 .i64 .i64 _ _ u rfl rfl rfl rfl (by rw [hz2]; omega) (by unfold maxLen; omega) (Nat.le_refl _) ?_)
  intro w1 hown hgrow
  rw [made_tm F u] at hown
  have O1 : Hid (w1.ownsRow w.heap.size 3 1 (.slice (some ⟨w.heap.size, 0, none⟩) u u) u (tmRow F u 0)) := hown
  have B1 : Hid (Below w.heap.size w w1) := (Below.refl _ w).grown hgrow (Nat.le_refl _) (fun k hk => by cases hk)
  have d1' := (B1.out.cell (p := ⟨T, 0, none⟩) hTl).trans d1
  clear hown hgrow
  go_wp2_with fail
  clear d1' d1 d2
  go_loopw [17] (fun y wr => ∃ k : Nat, k ≤ 8704 ∧ y = .int .i64 (k : Nat) ∧ Hid (wr.ownsRow w.heap.size 3 1 (.slice (some ⟨w.heap.size, 0, none⟩) u u) u (tmRow F u k)) ∧ Hid (Below w.heap.size w wr)) (fun y _ => (8704 - (intOf y).toNat : Nat))
  case atStart => exact ⟨0, by omega, rfl, O1, B1⟩
  case round =>
    obtain ⟨k, hk, rfl, hO, hB⟩ := hrel
    by_cases hkl : k < 8704
    · have kl : (k : Int) < 8704 := by omega
      have d3 := HP.out k hkl
      have g1 := World.block_lt_of_cell? w _ d3
      have e3 := (hB.out.cell (p := ⟨pg, k, none⟩) (by simpa using g1)).trans d3
      have hp := hplc.out k hkl
      have hcel := owns_cell hO.out rfl (plc F k) _ (tmRow_get F u k (plc F k) hp)
      have hst := hO.out.stored (plc F k) (.int .i64 ((tmN F (plc F k) k : Nat) + 1 : Int))
      rw [tmRow_set F u k hp] at hst
      have O2 : Hid ((wr.setCell ⟨w.heap.size, plc F k, none⟩ (.int .i64 ((tmN F (plc F k) k : Nat) + 1 : Int))).ownsRow w.heap.size 3 1 (.slice (some ⟨w.heap.size, 0, none⟩) u u) u (tmRow F u (k + 1))) := hst.1
      have B2 : Hid (Below w.heap.size w (wr.setCell ⟨w.heap.size, plc F k, none⟩ (.int .i64 ((tmN F (plc F k) k : Nat) + 1 : Int)))) := hB.out.setCell (p := ⟨w.heap.size, plc F k, none⟩) (Nat.le_refl _) _
      have htl := tmN_le F (plc F k) k
      obtain ⟨q1, q2⟩ := hcel
      clear d3 g1 hst hO hB O1 B1
      generalize tmN F (plc F k) k = m at *
      generalize plc F k = j at *
      have hjl : ¬ u ≤ j := by omega
      have wm : IntKind.i64.wrap ((m : Int) + 1) = (m : Int) + 1 := IntWalk.i64_in _ (by omega)
      go_wp2
      refine ⟨⟨k + 1, by omega, by go_num, O2, B2⟩, by simp [intOf]; omega⟩
    · have hkk : k = 8704 := by omega
      subst hkk
      go_wp2
      go_ret
      exact ⟨_, rfl, hO.out, hB.out⟩
theorem sumR_take {R : List Rw} {k : Nat} (n : Int) (hk : k < R.length) : sumR n (R.take (k + 1)) = sumR n (R.take k) + (if (R.getD k (0, 0, 0)).2.2 = n then (R.getD k (0, 0, 0)).2.1 - (R.getD k (0, 0, 0)).1 + 1 else 0) := by
  rw [take_snoc3 R k hk]
  have : ∀ (X : List Rw) (r : Rw), sumR n (X ++ [r]) = sumR n X + (if r.2.2 = n then r.2.1 - r.1 + 1 else 0) := by
    intro X
    induction X with
    | nil => intro r; simp [sumR]
    | cons x X ih => intro r; show _ + sumR n (X ++ [r]) = _ + sumR n X + _; rw [ih]; omega
  exact this _ _
set_option maxRecDepth 100000 in
set_option maxHeartbeats 2000000 in
theorem rcount_any (L : List Rw) (v : Value) (n : Int) (w : World) (hr : Rd3 .i64 w v L) (hok : okF 0 L) (hl : L.length ≤ 4000000) : Calls Try.prog 30 #[v, .int .i64 n] w fun e w' => e = .returned (.int .i64 (cN (lk L) n 1114112 : Nat)) ∧ Below w.heap.size w w' := by
  have KR : Hid (Calls Try.prog 12 #[v] w fun e w' => ∃ v', e = .returned v' ∧ w'.ownsRow w.heap.size 33 3 v' (runsL L).length (cel3 .i64 (runsL L)) ∧ Below w.heap.size w w') := runs_any L v _ hr hok hl
  have hrn := runs_rn hok
  have hsum : Hid (sumR n (runsL L) = (cN (lk L) n 1114112 : Nat)) := by
    have := sumR_is (F := lk L) n (R := runsL L) (m := 0) (e := 1114112) hrn
    have h0 : cN (lk L) n 0 = 0 := rfl
    rw [Hid, this, h0]
    generalize cN (lk L) n 1114112 = c
    omega
  have hlen : ((runsL L).length : Int) ≤ 1114112 := by have := hrn.len; omega
  have HM : Hid (∀ k, k < (runsL L).length → 0 ≤ ((runsL L).getD k (0, 0, 0)).1 ∧ ((runsL L).getD k (0, 0, 0)).1 ≤ ((runsL L).getD k (0, 0, 0)).2.1 ∧ ((runsL L).getD k (0, 0, 0)).2.1 < 1114112) := fun k hk => by
    have := (Rn.mem hrn).2 ((runsL L).getD k (0, 0, 0)) (by rw [show (runsL L).getD k (0, 0, 0) = (runsL L)[k] by simp [List.getD, hk]]; exact List.getElem_mem hk)
    exact ⟨this.1, this.2.1, this.2.2.1⟩
  generalize hcn : cN (lk L) n 1114112 = C at *
  replace hcn : Hid (cN (lk L) n 1114112 = C) := hcn
  clear hr hok hrn
  go_enter Try.func30, Try.ntmps30
  go_wp2_with (go_at_call 12; refine KR.out.mono ?_)
  first | rintro e wc vs rfl oc bc | rintro e wc ⟨vs, rfl, oc, bc⟩
  have Bc : Hid (Below w.heap.size w wc) := bc
  have Rc := Rd3.of_owns oc
  clear oc bc KR
  generalize runsL L = R at *
  obtain ⟨av, cv, rfl, -, hc⟩ := Rc
  have HC : Hid _ := hc
  clear hc
  go_wp2_with fail
  go_loopw [5, 11] (fun x y wr => ∃ (k : Nat) (s : Int), k ≤ R.length ∧ y = .int .i64 (k : Nat) ∧ x = .int .i64 s ∧ Hid (s = sumR n (R.take k)) ∧ 0 ≤ s ∧ s ≤ 1114112 * k ∧ Hid (Below wc.heap.size wc wr)) (fun _ y _ => (R.length - (intOf y).toNat : Nat))
  case atStart => exact ⟨0, 0, Nat.zero_le _, rfl, rfl, rfl, by omega, by omega, Below.refl _ _⟩
  case round =>
    obtain ⟨k, s, hk, rfl, rfl, hs, s0, s1, hB⟩ := hrel
    have hbsz := hB.out.size
    by_cases hkl : k < R.length
    · obtain ⟨g, off, rfl, hd⟩ := HC.out (by omega)
      obtain ⟨d1, d2, d3⟩ := hd k hkl
      have kl : (k : Int) < (R.length : Int) := by omega
      have g1 := World.block_lt_of_cell? wc _ d1
      have e1 := (hB.out.cell (p := ⟨g, off + k * 3, none⟩) (by simpa using g1)).trans d1
      have e2 := (hB.out.cell (p := ⟨g, off + k * 3 + 1, none⟩) (by simpa using g1)).trans d2
      have e3 := (hB.out.cell (p := ⟨g, off + k * 3 + 2, none⟩) (by simpa using g1)).trans d3
      obtain ⟨f1, f2, f3⟩ := HM.out k hkl
      have hst := sumR_take (R := R) n hkl
      clear d1 d2 d3 hd g1 HC HM
      generalize R.getD k (0, 0, 0) = t at *
      obtain ⟨x, y, m⟩ := t
      simp only at e1 e2 e3 f1 f2 f3 hst
      obtain ⟨q1, q2, q3⟩ := box3 wr (.int .i64 x) (.int .i64 y) (.int .i64 m) 33
      have B1 : Hid (Below wc.heap.size wc (wr.alloc (.cells #[.int .i64 x, .int .i64 y, .int .i64 m] 33))) := hB.out.alloc hbsz _
      by_cases hm : m = n
      · have hmd : (m == n) = true := by simpa using hm
        have hs2 : Hid (s + (y - x + 1) = sumR n (R.take (k + 1))) := by rw [Hid, hst, if_pos hm, hs.out]
        have w1 : IntKind.i64.wrap (y - x) = y - x := IntWalk.i64_in _ (by omega)
        have w2 : IntKind.i64.wrap (y - x + 1) = y - x + 1 := IntWalk.i64_in _ (by omega)
        have w3 : IntKind.i64.wrap (s + (y - x + 1)) = s + (y - x + 1) := IntWalk.i64_in _ (by omega)
        clear hm hst hs
        go_wp2
        refine ⟨⟨k + 1, s + (y - x + 1), by omega, by go_num, rfl, hs2, by omega, by omega, B1⟩, by simp [intOf]; omega⟩
      · have hmd : (m == n) = false := by simpa using hm
        have hs2 : Hid (s = sumR n (R.take (k + 1))) := by rw [Hid, hst, if_neg hm, hs.out]; omega
        clear hm hst hs
        go_wp2
        refine ⟨⟨k + 1, s, by omega, by go_num, rfl, hs2, by omega, by omega, B1⟩, by simp [intOf]; omega⟩
    · have hkk : k = R.length := by omega
      subst hkk
      have hs2 : s = (C : Int) := by
        rw [hs.out, List.take_length]
        exact hsum.out
      have B2 : Hid (Below w.heap.size w wr) := Bc.out.trans (hB.out.mono Bc.out.size)
      subst hs2
      go_wp2
      go_ret
      exact ⟨rfl, B2.out⟩
end Go.Proofs.Ytookbgmolggohaa

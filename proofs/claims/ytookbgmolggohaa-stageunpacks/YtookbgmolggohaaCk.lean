/-
  The contract of the document's Check. Condition: the rows' numbers fit.
-/
import Derived.Test.YtookbgmolggohaaPl
namespace Go.Proofs.Ytookbgmolggohaa
open Go.RowKit
set_option maxRecDepth 100000 in
set_option maxHeartbeats 1000000 in
theorem check_long (L : List Rw) (v : Value) (w : World) (hr : Rd3 .i64 w v L) (hl : 65536 < L.length) : Calls Try.prog 16 #[v] w fun e w' => e = .returned (.tuple #[.int .i64 65536, .int .i64 80]) ∧ Below w.heap.size w w' := by
  obtain ⟨a, c, rfl, hlc, -⟩ := hr
  have hd : decide ((65536 : Int) < (L.length : Int)) = true := decide_eq_true (by omega)
  clear hl hlc
  go_enter Try.func16, Try.ntmps16
  go_wp2
  go_ret2
  exact ⟨rfl, Below.refl _ _⟩
set_option maxRecDepth 100000 in
set_option maxHeartbeats 4000000 in
theorem check_short (L : List Rw) (v : Value) (w : World) (hr : Rd3 .i64 w v L) (hf : fit3 L) (hl : L.length ≤ 65536) : Calls Try.prog 16 #[v] w fun e w' => e = .returned (.tuple #[.int .i64 ((chkF 0 0 L).1 : Nat), .int .i64 (chkF 0 0 L).2]) ∧ Below w.heap.size w w' := by
  obtain ⟨a, c, rfl, hlc, hc⟩ := hr
  have hd : decide ((65536 : Int) < (L.length : Int)) = false := decide_eq_false (by omega)
  have HC : Hid _ := hc
  have HF : Hid (fit3 L) := hf
  clear hc hlc hf
  go_enter Try.func16, Try.ntmps16
  go_wp2_with fail
  clear hd
  go_loopw [11] (fun y wr => ∃ (k : Nat) (l : Int), k ≤ L.length ∧ y = .int .i64 (k : Nat) ∧ (k = 0 → l = 0) ∧ (0 < k → l = (L.getD (k - 1) (0, 0, 0)).2.1 + 1) ∧ 0 ≤ l ∧ l ≤ 1114112 ∧ Hid (chkF k l (L.drop k) = chkF 0 0 L) ∧ Hid (Below w.heap.size w wr)) (fun y _ => (L.length - (intOf y).toNat : Nat))
  case atStart => exact ⟨0, 0, Nat.zero_le _, rfl, fun _ => rfl, fun h => by omega, by omega, by omega, rfl, Below.refl _ _⟩
  case round =>
    obtain ⟨k, l, hk, rfl, hl0, hl1, l0, l1, hS, hB⟩ := hrel
    by_cases hkl : k < L.length
    · obtain ⟨g, off, rfl, hd⟩ := HC.out (by omega)
      obtain ⟨d1, d2, d3⟩ := hd k hkl
      have kl : (k : Int) < (L.length : Int) := by omega
      have g1 := World.block_lt_of_cell? w _ d1
      have e1 := (hB.out.cell (p := ⟨g, off + k * 3, none⟩) (by simpa using g1)).trans d1
      have e2 := (hB.out.cell (p := ⟨g, off + k * 3 + 1, none⟩) (by simpa using g1)).trans d2
      have e3 := (hB.out.cell (p := ⟨g, off + k * 3 + 2, none⟩) (by simpa using g1)).trans d3
      obtain ⟨f1, f2, f3, f4, f5, f6⟩ := fit_get HF.out hkl
      have hst : Hid (chkF 0 0 L = if badB l (L.getD k (0, 0, 0)) = true then (k, 80) else if offB (L.getD k (0, 0, 0)).2.2 = true then (k, 81) else chkF (k + 1) ((L.getD k (0, 0, 0)).2.1 + 1) (L.drop (k + 1))) := by rw [Hid, ← hS.out]; exact chkF_step hkl l
      have hpv : 0 < k → wr.cell? ⟨g, off + (k - 1) * 3 + 1, none⟩ = some (.int .i64 (l - 1)) := fun h0 => by
        obtain ⟨-, p2, -⟩ := hd (k - 1) (by omega)
        rw [hl1 h0, show (L.getD (k - 1) (0, 0, 0)).2.1 + 1 - 1 = (L.getD (k - 1) (0, 0, 0)).2.1 by omega]
        exact (hB.out.cell (p := ⟨g, off + (k - 1) * 3 + 1, none⟩) (by simpa using g1)).trans p2
      have hnx : Hid ((L.getD k (0, 0, 0)).2.1 + 1 = (L.getD (k + 1 - 1) (0, 0, 0)).2.1 + 1) := rfl
      clear d1 d2 d3 hd g1 HC HF hS hl1
      generalize hsv : L.getD k (0, 0, 0) = s at *
      obtain ⟨x, y, n⟩ := s
      simp only at e1 e2 e3 f1 f2 f3 f4 f5 f6 hst
      have hnx : Hid (y + 1 = (L.getD (k + 1 - 1) (0, 0, 0)).2.1 + 1) := by rw [Hid, Nat.add_sub_cancel, hsv]
      clear hsv
      have hbsz := hB.out.size
      obtain ⟨q1, q2, q3⟩ := box3 wr (.int .i64 x) (.int .i64 y) (.int .i64 n) 33
      have B1 : Hid (Below w.heap.size w (wr.alloc (.cells #[.int .i64 x, .int .i64 y, .int .i64 n] 33))) := hB.out.alloc hbsz _
      have hpv' : Hid (0 < k → (wr.alloc (.cells #[.int .i64 x, .int .i64 y, .int .i64 n] 33)).cell? ⟨g, off + (k - 1) * 3 + 1, none⟩ = some (.int .i64 (l - 1))) := fun h0 => by
        have := hpv h0
        have g2 := World.block_lt_of_cell? wr _ this
        rw [World.cell?_of_block (w := wr) (Go.RowKit.Below.heap_alloc wr _ g (by simpa using g2))]
        exact this
      clear hpv
      have fin1 : ∀ W : World, Below w.heap.size w W → chkF 0 0 L = (k, 80) → (Ending.returned (.tuple #[.int .i64 (k : Nat), .int .i64 80]) = .returned (.tuple #[.int .i64 ((chkF 0 0 L).1 : Nat), .int .i64 (chkF 0 0 L).2]) ∧ Below w.heap.size w W) := fun W hb hq => ⟨by rw [hq], hb⟩
      replace fin1 : Hid _ := fin1
      by_cases c1 : x < 0
      · have hd1 : decide (x < 0) = true := decide_eq_true c1
        have hres : Hid (chkF 0 0 L = (k, 80)) := by rw [Hid, hst.out, if_pos (by unfold badB; simp only; rw [decide_eq_true (p := x < l) (by omega)]; rfl)]
        go_wp2_with fail
        go_quiet (fail)
        go_wp2
        go_ret2
        exact fin1.out _ (below_drew _ B1.out) hres.out
      · have hd1 : decide (x < 0) = false := decide_eq_false c1
        by_cases c2 : y < x
        · have hd2 : decide (y < x) = true := decide_eq_true c2
          have hres : Hid (chkF 0 0 L = (k, 80)) := by rw [Hid, hst.out, if_pos (by unfold badB; simp only; rw [hd2]; simp)]
          go_wp2_with fail
          go_quiet (fail)
          go_wp2
          go_ret2
          exact fin1.out _ (below_drew _ B1.out) hres.out
        · have hd2 : decide (y < x) = false := decide_eq_false c2
          by_cases c3 : 1114111 < y
          · have hd3 : decide (1114111 < y) = true := decide_eq_true c3
            have hres : Hid (chkF 0 0 L = (k, 80)) := by rw [Hid, hst.out, if_pos (by unfold badB; simp only; rw [hd3]; simp)]
            go_wp2_with fail
            go_quiet (fail)
            go_wp2
            go_ret2
            exact fin1.out _ (below_drew _ B1.out) hres.out
          · have hd3 : decide (1114111 < y) = false := decide_eq_false c3
            by_cases c4 : 0 < k
            · have hd4 : decide (0 < (k : Int)) = true := decide_eq_true (by omega)
              have p1 := hpv'.out c4
              have wk : IntKind.i64.wrap ((k : Int) - 1) = ((k - 1 : Nat) : Int) := by rw [IntWalk.i64_in _ (by omega)]; omega
              have hbk : ¬ L.length ≤ k - 1 := by omega
              by_cases c5 : x ≤ l - 1
              · have hd5 : decide (x ≤ l - 1) = true := decide_eq_true c5
                have hres : Hid (chkF 0 0 L = (k, 80)) := by rw [Hid, hst.out, if_pos (by unfold badB; simp only; rw [decide_eq_true (p := x < l) (by omega)]; rfl)]
                generalize k - 1 = j at *
                go_wp2_with fail
                go_quiet (fail)
                go_wp2
                go_ret2
                exact fin1.out _ (below_drew _ B1.out) hres.out
              · have hd5 : decide (x ≤ l - 1) = false := decide_eq_false c5
                have hbad : badB l (x, y, n) = false := bad_false.2 ⟨by simp only; omega, by simp only; omega, by simp only; omega⟩
                rw [hbad] at hst
                generalize k - 1 = j at *
                go_wp2_with fail
                go_quiet (fail)
                have B3 := fun m => below_drew m B1.out
                replace B3 : Hid _ := B3
                clear B1 fin1 hpv' hB
                by_cases n1 : n < 0
                · have hn1 : decide (n < 0) = true := decide_eq_true n1
                  have hres : Hid (chkF 0 0 L = (k, 81)) := by rw [Hid, hst.out]; unfold offB; rw [hn1]; rfl
                  go_wp2
                  go_ret2
                  exact ⟨by rw [hres.out]; rfl, B3.out _⟩
                · have hn1 : decide (n < 0) = false := decide_eq_false n1
                  by_cases n2 : 65535 < n
                  · have hn2 : decide (65535 < n) = true := decide_eq_true n2
                    have hres : Hid (chkF 0 0 L = (k, 81)) := by rw [Hid, hst.out]; unfold offB; rw [hn1, hn2]; rfl
                    go_wp2
                    go_ret2
                    exact ⟨by rw [hres.out]; rfl, B3.out _⟩
                  · have hn2 : decide (65535 < n) = false := decide_eq_false n2
                    have hres : Hid (chkF (k + 1) (y + 1) (L.drop (k + 1)) = chkF 0 0 L) := by rw [Hid, hst.out]; unfold offB; rw [hn1, hn2]; rfl
                    go_wp2
                    refine ⟨⟨k + 1, y + 1, by omega, by go_num, fun h => by omega, fun _ => hnx.out, by omega, by omega, hres, B3.out _⟩, by simp [intOf]; omega⟩
            · have hd4 : decide (0 < (k : Int)) = false := decide_eq_false (by omega)
              have hbad : badB l (x, y, n) = false := bad_false.2 ⟨by simp only; omega, by simp only; omega, by simp only; omega⟩
              rw [hbad] at hst
              go_wp2_with fail
              go_quiet (fail)
              have B3 := fun m => below_drew m B1.out
              replace B3 : Hid _ := B3
              clear B1 fin1 hpv' hB
              by_cases n1 : n < 0
              · have hn1 : decide (n < 0) = true := decide_eq_true n1
                have hres : Hid (chkF 0 0 L = (k, 81)) := by rw [Hid, hst.out]; unfold offB; rw [hn1]; rfl
                go_wp2
                go_ret2
                exact ⟨by rw [hres.out]; rfl, B3.out _⟩
              · have hn1 : decide (n < 0) = false := decide_eq_false n1
                by_cases n2 : 65535 < n
                · have hn2 : decide (65535 < n) = true := decide_eq_true n2
                  have hres : Hid (chkF 0 0 L = (k, 81)) := by rw [Hid, hst.out]; unfold offB; rw [hn1, hn2]; rfl
                  go_wp2
                  go_ret2
                  exact ⟨by rw [hres.out]; rfl, B3.out _⟩
                · have hn2 : decide (65535 < n) = false := decide_eq_false n2
                  have hres : Hid (chkF (k + 1) (y + 1) (L.drop (k + 1)) = chkF 0 0 L) := by rw [Hid, hst.out]; unfold offB; rw [hn1, hn2]; rfl
                  go_wp2
                  refine ⟨⟨k + 1, y + 1, by omega, by go_num, fun h => by omega, fun _ => hnx.out, by omega, by omega, hres, B3.out _⟩, by simp [intOf]; omega⟩
    · have hkk : k = L.length := by omega
      subst hkk
      have hres : Hid (chkF 0 0 L = (0, 0)) := by
        have := hS.out
        rw [List.drop_length] at this
        exact this.symm
      clear hl1
      go_wp2
      go_ret2
      exact ⟨by rw [hres.out]; rfl, hB.out⟩
theorem check_any (L : List Rw) (v : Value) (w : World) (hr : Rd3 .i64 w v L) (hf : fit3 L) : Calls Try.prog 16 #[v] w fun e w' => e = .returned (.tuple #[.int .i64 ((chk L).1 : Nat), .int .i64 (chk L).2]) ∧ Below w.heap.size w w' := by
  unfold chk
  by_cases hl : 65536 < L.length
  · rw [if_pos hl]; exact check_long L v w hr hl
  · rw [if_neg hl]; exact check_short L v w hr hf (by omega)
end Go.Proofs.Ytookbgmolggohaa

/-
  The contract of each once more: the places that it hands out lie in the text. Conditions: as before.
-/
import Derived.Test.YtabofadjnbpjkabDoorJd
namespace Go.Proofs.YtabofadjnbpjkabDoor
open Go.RowKit Go.Lib Go.Shelf
attribute [local go_sem] Oper.semAt_some
set_option maxRecDepth 100000 in
set_option maxHeartbeats 1000000 in
theorem each1_in2 (n : Nat) (l Bn n₀ B L : Nat) (s : ByteArray) (hs : s.size ≤ 140737488351232) (J Jx : List Nat → World → Prop)
    (W : World) (hJ : ∀ s W1 W2, J s W1 → W1.grownBy W2 none → J s W2)
    (hY : ∀ pre x W, J pre W → pre.length < (poss s).length → x < s.size → YieldAt Fence.wide (n - 1) Tryd.prog l #[.agg (pcs s x)] W fun e W' =>
      (e = .returned (.bool true) ∧ J (pre ++ [x]) W' ∧ KpB n₀ Bn B L W W') ∨ (e = .returned (.bool false) ∧ Jx (pre ++ [x]) W'))
    (hBn : W.heap[Bn]? = some (.cells #[.string s] 9 (0, 0))) (hn0 : 2 ≤ n₀) (hn1 : n₀ ≤ W.heap.size) (hB : B < W.heap.size) (hL : L ≤ W.heap.size) (hr0 : RowIn B W) (hT : Utf8Tabs 0 1 W) (h0 : J [] W) :
    CallsIn Fence.wide n Tryd.prog 47 #[.func (.yield l) #[] #[], .pointer (some ⟨Bn, 0, none⟩)] W fun e W' => (∃ v, e = .returned v) ∧
      ((∃ ys, ys = poss s ∧ J ys W') ∨ (∃ pre, pre <+: poss s ∧ Jx pre W')) := by
  refine callsIn_of_wp Tryd.func47 rfl trivial ?_ rfl
  simp only [Tryd.ntmps47, List.size_toArray, List.length_cons, List.length_nil, Nat.reduceAdd, Nat.reduceSub, Array.replicate_succ, Array.replicate_zero, List.push_toArray, List.append_toArray, List.nil_append, List.cons_append]
  gi_wp2
  gi_loopw [3] (fun i wr => ∃ (pre : List Nat) (k : Nat), i = .int .i64 k ∧ k ≤ s.size ∧ poss s = pre ++ posAt s k ∧ J pre wr ∧ wr.heap[Bn]? = some (.cells #[.string s] 9 (0, 0)) ∧ W.heap.size ≤ wr.heap.size ∧ RowIn B wr ∧ Utf8Tabs 0 1 wr)
    (fun i _ => s.size - (RowKit.intOf i).toNat)
  case atStart => exact ⟨[], 0, rfl, by omega, rfl, h0, hBn, Nat.le_refl _, hr0, hT⟩
  case round =>
    obtain ⟨pre, k, rfl, hk, hx, hJs, hbn, hnr, hri, hTr⟩ := hrel
    have hc : wr.cell? ⟨Bn, 0, none⟩ = some (.string s) := by simp [World.cell?, hbn]
    by_cases hlt : k < s.size
    · have hlti : (k : Int) < (s.size : Int) := by omega
      rw [posAt_cons s k hlt] at hx
      have HX : Hid (poss s = pre ++ k :: posAt s (k + pSt s k)) := hx
      clear hx
      have hp := pSt_le s k hlt
      gi_wp2_with fail
      refine ⟨trivial, fun h => (by cases h), ?_⟩
      refine (callsIn_wide.2 (pieceAt_any s k _ hs hlt hTr (by omega))).mono ?_
      rintro e w' ⟨rfl, hb⟩
      have hJ2 : J pre (w'.alloc (.cells (pcs s k) 33)) := hJ _ _ _ (hJ _ _ _ hJs (grown_of_below hb)) (World.grownBy_alloc _ _ none)
      have hb2 : Below wr.heap.size wr (w'.alloc (.cells (pcs s k) 33)) := hb.alloc hb.size _
      have hP : (w'.alloc (.cells (pcs s k) 33)).heap[w'.heap.size]? = some (.cells (pcs s k) 33 (0, 0)) := World.alloc_heap_new _ _
      have hrowE : rowAt (w'.alloc (.cells (pcs s k) 33)) B = rowAt wr B := rowAt_same (hb2.block B (by omega))
      have hri2 : RowIn B (w'.alloc (.cells (pcs s k) 33)) := fun g hg => by rw [hrowE] at hg; have := hri g hg; have := hb2.size; omega
      have hnoP : rowAt (w'.alloc (.cells (pcs s k) 33)) B ≠ some w'.heap.size := fun e => by rw [hrowE] at e; have := hri _ e; have := hb.size; omega
      have hbn2 : (w'.alloc (.cells (pcs s k) 33)).heap[Bn]? = some (.cells #[.string s] 9 (0, 0)) := (hb2.block Bn (Array.getElem?_eq_some_iff.1 hbn).1).trans hbn
      have hT2 : Utf8Tabs 0 1 (w'.alloc (.cells (pcs s k) 33)) := tabs_below hTr (by omega) hb2
      have hs2 : wr.heap.size < (w'.alloc (.cells (pcs s k) 33)).heap.size := by have := hb.size; simp; omega
      have hwL : L ≤ w'.heap.size := by have := hb.size; omega
      obtain ⟨fn, tmps, assign, body, hy, hR⟩ := hY pre k (w'.alloc (.cells (pcs s k) 33)) hJ2 (by rw [HX.out]; simp) hlt
      have HP : Hid (RowIn B (w'.alloc (.cells (pcs s k) 33)) ∧ rowAt (w'.alloc (.cells (pcs s k) 33)) B ≠ some w'.heap.size ∧ (w'.alloc (.cells (pcs s k) 33)).heap[w'.heap.size]? = some (.cells (pcs s k) 33 (0, 0)) ∧ (w'.alloc (.cells (pcs s k) 33)).heap[Bn]? = some (.cells #[.string s] 9 (0, 0)) ∧ Utf8Tabs 0 1 (w'.alloc (.cells (pcs s k) 33)) ∧ wr.heap.size < (w'.alloc (.cells (pcs s k) 33)).heap.size) := ⟨hri2, hnoP, hP, hbn2, hT2, hs2⟩
      clear hri2 hnoP hP hbn2 hT2 hs2 hrowE hb2 hJ2 hTr hT
      unfold pcs at hy ⊢
      gi_wp2
      refine ⟨fun h => (by cases h), hR.mono ?_⟩
      rintro e W3 (⟨rfl, hJ3, hk3⟩ | ⟨rfl, hJx3⟩)
      · obtain ⟨q1, q2, q3, q4, q5, q6⟩ := HP.out
        obtain ⟨z1, z2, z3, _, z5⟩ := hk3 q1
        have e3 : W3.heap[w'.heap.size]? = some (.cells (pcs s k) 33 (0, 0)) := (z5 _ _ _ _ hwL q3 q2).trans q3
        have c3 : W3.cell? ⟨w'.heap.size, 1, none⟩ = some (.int .i64 (pSt s k)) := by simp [World.cell?, e3, pcs]
        have hT3 : Utf8Tabs 0 1 W3 := ⟨fun c hc => (z1.cell (p := ⟨0, c, none⟩) (by simp; omega)).trans (q5.1 c hc), fun i hi => ⟨(z1.cell (p := ⟨1, 2 * i, none⟩) (by simp; omega)).trans (q5.2 i hi).1, (z1.cell (p := ⟨1, 2 * i + 1, none⟩) (by simp; omega)).trans (q5.2 i hi).2⟩⟩
        have hbn3 := z2.trans q4
        have hs3 : W.heap.size ≤ W3.heap.size := by have := z1.size; omega
        clear q1 q2 q3 q4 q5 q6 z1 z2 z5 e3 HP
        gi_wp2
        go_roundw
        case rel => exact ⟨pre ++ [k], k + pSt s k, by go_num, by omega, by rw [HX.out]; simp, hJ3, hbn3, hs3, z3, hT3⟩
        case measure => simp [RowKit.intOf]; omega
      · gi_wp2
        refine bodyPost_ret (results_none rfl _ _ _) rfl ?_
        exact ⟨⟨_, rfl⟩, .inr ⟨pre ++ [k], ⟨posAt s (k + pSt s k), by rw [HX.out]; simp⟩, hJx3⟩⟩
    · have hlti : ¬ (k : Int) < (s.size : Int) := by omega
      rw [posAt_nil s k hlt, List.append_nil] at hx
      have HX : Hid (poss s = pre) := hx
      clear hx
      gi_wp2
      go_end0
      exact ⟨⟨_, rfl⟩, .inl (by rw [HX.out]; exact hJs)⟩
/-- A place in a text. -/
abbrev Plc (s : ByteArray) := {k : Nat // k < s.size}
def vals {s : ByteArray} (l : List (Plc s)) : List Nat := l.map fun k => k.1
theorem vals_app {s : ByteArray} (l : List (Plc s)) (k : Plc s) : vals (l ++ [k]) = vals l ++ [k.1] := by simp [vals]
theorem vals_len {s : ByteArray} (l : List (Plc s)) : (vals l).length = l.length := by simp [vals]
theorem each_stops2 (n : Nat) (Bn n₀ B L : Nat) (s : ByteArray) (hs : s.size ≤ 140737488351232) (w : World) (hBn : w.heap[Bn]? = some (.cells #[.string s] 9 (0, 0))) (hn0 : 2 ≤ n₀) (hn1 : n₀ ≤ w.heap.size) (hB : B < w.heap.size) (hL : L ≤ w.heap.size) (hr0 : RowIn B w) (hT : Utf8Tabs 0 1 w) :
    SeqStopsK Fence.wide n Tryd.prog 47 #[.pointer (some ⟨Bn, 0, none⟩)] (fun k : Plc s => #[Value.agg (pcs s k.1)]) (KpB n₀ Bn B L) (fun ys => vals ys = poss s) (fun pre => vals pre <+: poss s) (poss s).length w := fun l J Jx W hW hJ _ hY h0 => by
  have hBnl := (Array.getElem?_eq_some_iff.1 hBn).1
  have hrow : rowAt W B = rowAt w B := rowAt_same (hW.block B hB)
  have key := each1_in2 n l Bn n₀ B L s hs (fun pre W => ∃ ls : List (Plc s), vals ls = pre ∧ J ls W) (fun pre W => ∃ ls : List (Plc s), vals ls = pre ∧ Jx ls W) W (fun x W1 W2 ⟨ls, e, h⟩ g => ⟨ls, e, hJ ls W1 W2 none h g (fun r e => by cases e)⟩)
    (fun pre x W1 ⟨ls, e, h⟩ hlen hx => by
      subst e
      obtain ⟨fn, tmps, assign, body, hy, hR⟩ := hY ls ⟨x, hx⟩ W1 h (by rw [vals_len] at hlen; exact hlen)
      refine ⟨fn, tmps, assign, body, hy, hR.mono ?_⟩
      rintro e W' (⟨q1, q2, q3⟩ | ⟨q1, q2⟩)
      · exact .inl ⟨q1, ⟨_, vals_app ls ⟨x, hx⟩, q2⟩, q3⟩
      · exact .inr ⟨q1, ⟨_, vals_app ls ⟨x, hx⟩, q2⟩⟩)
    ((hW.block Bn hBnl).trans hBn) hn0 (Nat.le_trans hn1 hW.size) (Nat.lt_of_lt_of_le hB hW.size) (Nat.le_trans hL hW.size)
    (fun g hg => by rw [hrow] at hg; exact Nat.lt_of_lt_of_le (hr0 g hg) hW.size) (tabs_below hT (by omega) hW) ⟨[], rfl, h0⟩
  refine key.mono ?_
  rintro e W' ⟨he, ⟨ys, q1, ls, q2, q3⟩ | ⟨pre, q1, ls, q2, q3⟩⟩
  · exact ⟨he, .inl ⟨ls, q2.trans q1, q3⟩⟩
  · exact ⟨he, .inr ⟨ls, (by show vals ls <+: poss s; rw [q2]; exact q1), q3⟩⟩
end Go.Proofs.YtabofadjnbpjkabDoor

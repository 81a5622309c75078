/-
  The contract of each once more, for a loop whose body writes on a builder: a round keeps the blocks of pieces. Conditions: the text takes no more bytes than one that comes in can; the library's two tables hold what their text lays.
-/
import Derived.Test.YtabofadjnbpjkacDoorDec
namespace Go.Proofs.YtabofadjnbpjkacDoor
open Go.RowKit Go.Lib Go.Shelf
attribute [local go_sem] Oper.semAt_some
/-- What a round keeps: what lay below n₀, the text's own box, and every block of a piece. -/
def Kp3 (n₀ Bn : Nat) (W W' : World) : Prop := Below n₀ W W' ∧ W'.heap[Bn]? = W.heap[Bn]? ∧ ∀ (b : Nat) cs f, W.heap[b]? = some (.cells cs 52 f) → W'.heap[b]? = W.heap[b]?
theorem Kp3.trans {n₀ Bn : Nat} {X Y Z : World} (h : Kp3 n₀ Bn X Y) (k : Kp3 n₀ Bn Y Z) : Kp3 n₀ Bn X Z :=
  ⟨h.1.trans k.1, k.2.1.trans h.2.1, fun b cs f hb => (k.2.2 b cs f ((h.2.2 b cs f hb).trans hb)).trans (h.2.2 b cs f hb)⟩
theorem Kp3.put {n₀ Bn : Nat} {w : World} (hn : n₀ ≤ w.heap.size) (h1 : Bn < w.heap.size) (W : World) (l : Nat) (o o' : Obj) (hl : w.heap.size ≤ l) (hW : W.heap[l]? = some o) (hc : o.isCells = false) : Kp3 n₀ Bn W (W.putObj l o') := by
  have other : ∀ k, k ≠ l → (W.putObj l o').heap[k]? = W.heap[k]? := fun k hk => World.putObj_heap_other hk
  have hsz : (W.putObj l o').heap.size = W.heap.size := by simp
  refine ⟨⟨rfl, rfl, rfl, by omega, fun k hk => other k (by omega)⟩, other Bn (by omega), fun b cs f hb => other b fun e => ?_⟩
  subst e
  rw [hW] at hb
  cases hb
  cases hc
theorem Kp3.below {n₀ Bn : Nat} {W W' : World} (hn : n₀ ≤ W.heap.size) (hB : Bn < W.heap.size) (h : Below W.heap.size W W') : Kp3 n₀ Bn W W' :=
  ⟨h.mono hn, h.block Bn hB, fun b _ _ hb => h.block b (Array.getElem?_eq_some_iff.1 hb).1⟩
theorem Kp3.alloc {n₀ Bn : Nat} {W : World} (hn : n₀ ≤ W.heap.size) (hB : Bn < W.heap.size) (o : Obj) : Kp3 n₀ Bn W (W.alloc o) := Kp3.below hn hB ((Below.refl _ _).alloc (Nat.le_refl _) _)
set_option maxRecDepth 100000 in
set_option maxHeartbeats 1000000 in
theorem each1_in3 (n : Nat) (l Bn n₀ : Nat) (s : ByteArray) (hs : s.size ≤ 140737488351232) (J Jx : List Nat → World → Prop)
    (W : World) (hJ : ∀ s W1 W2, J s W1 → W1.grownBy W2 none → J s W2)
    (hY : ∀ pre x W, J pre W → pre.length < (poss s).length → YieldAt Fence.wide (n - 1) Tryd.prog l #[.agg (pcs s x)] W fun e W' =>
      (e = .returned (.bool true) ∧ J (pre ++ [x]) W' ∧ Kp3 n₀ Bn W W') ∨ (e = .returned (.bool false) ∧ Jx (pre ++ [x]) W'))
    (hBn : W.heap[Bn]? = some (.cells #[.string s] 9 (0, 0))) (hn0 : 2 ≤ n₀) (hn1 : n₀ ≤ W.heap.size) (hT : Utf8Tabs 0 1 W) (h0 : J [] W) :
    CallsIn Fence.wide n Tryd.prog 36 #[.func (.yield l) #[] #[], .pointer (some ⟨Bn, 0, none⟩)] W fun e W' => (∃ v, e = .returned v) ∧
      ((∃ ys, ys = poss s ∧ J ys W') ∨ (∃ pre, pre <+: poss s ∧ Jx pre W')) := by
  refine callsIn_of_wp Tryd.func36 rfl trivial ?_ rfl
  simp only [Tryd.ntmps36, List.size_toArray, List.length_cons, List.length_nil, Nat.reduceAdd, Nat.reduceSub, Array.replicate_succ, Array.replicate_zero, List.push_toArray, List.append_toArray, List.nil_append, List.cons_append]
  gi_wp2
  gi_loopw [3] (fun i wr => ∃ (pre : List Nat) (k : Nat), i = .int .i64 k ∧ k ≤ s.size ∧ poss s = pre ++ posAt s k ∧ J pre wr ∧ wr.heap[Bn]? = some (.cells #[.string s] 9 (0, 0)) ∧ W.heap.size ≤ wr.heap.size ∧ Utf8Tabs 0 1 wr)
    (fun i _ => s.size - (RowKit.intOf i).toNat)
  case atStart => exact ⟨[], 0, rfl, by omega, rfl, h0, hBn, Nat.le_refl _, hT⟩
  case round =>
    obtain ⟨pre, k, rfl, hk, hx, hJs, hbn, hnr, hTr⟩ := hrel
    have hc : wr.cell? ⟨Bn, 0, none⟩ = some (.string s) := by simp [World.cell?, hbn]
    by_cases hlt : k < s.size
    · have hlti : (k : Int) < (s.size : Int) := by omega
      rw [posAt_cons s k hlt] at hx
      have HX : Hid (poss s = pre ++ k :: posAt s (k + pSt s k)) := hx
      clear hx
      have hp := pSt_le s k hlt
      gi_wp2_with fail
      refine ⟨trivial, fun h => (by cases h), ?_⟩
      refine (callsIn_wide.2 (pieceAt_any s k _ hs hlt hTr (by omega))).mono ?_
      rintro e w' ⟨rfl, hb⟩
      have hJ2 : J pre (w'.alloc (.cells (pcs s k) 52)) := hJ _ _ _ (hJ _ _ _ hJs (grown_of_below hb)) (World.grownBy_alloc _ _ none)
      have hb2 : Below wr.heap.size wr (w'.alloc (.cells (pcs s k) 52)) := hb.alloc hb.size _
      have hP : (w'.alloc (.cells (pcs s k) 52)).heap[w'.heap.size]? = some (.cells (pcs s k) 52 (0, 0)) := World.alloc_heap_new _ _
      have hbn2 : (w'.alloc (.cells (pcs s k) 52)).heap[Bn]? = some (.cells #[.string s] 9 (0, 0)) := (hb2.block Bn (Array.getElem?_eq_some_iff.1 hbn).1).trans hbn
      have hT2 : Utf8Tabs 0 1 (w'.alloc (.cells (pcs s k) 52)) := tabs_below hTr (by omega) hb2
      have hs2 : wr.heap.size < (w'.alloc (.cells (pcs s k) 52)).heap.size := by have := hb.size; simp; omega
      obtain ⟨fn, tmps, assign, body, hy, hR⟩ := hY pre k (w'.alloc (.cells (pcs s k) 52)) hJ2 (by rw [HX.out]; simp)
      have HP : Hid ((w'.alloc (.cells (pcs s k) 52)).heap[w'.heap.size]? = some (.cells (pcs s k) 52 (0, 0)) ∧ (w'.alloc (.cells (pcs s k) 52)).heap[Bn]? = some (.cells #[.string s] 9 (0, 0)) ∧ Utf8Tabs 0 1 (w'.alloc (.cells (pcs s k) 52)) ∧ wr.heap.size < (w'.alloc (.cells (pcs s k) 52)).heap.size) := ⟨hP, hbn2, hT2, hs2⟩
      clear hP hbn2 hT2 hs2 hb2 hJ2 hTr hT
      unfold pcs at hy ⊢
      gi_wp2
      refine ⟨fun h => (by cases h), hR.mono ?_⟩
      rintro e W3 (⟨rfl, hJ3, hk3⟩ | ⟨rfl, hJx3⟩)
      · obtain ⟨q3, q4, q5, q6⟩ := HP.out
        obtain ⟨z1, z2, z5⟩ := hk3
        have e3 : W3.heap[w'.heap.size]? = some (.cells (pcs s k) 52 (0, 0)) := (z5 _ _ _ q3).trans q3
        have c3 : W3.cell? ⟨w'.heap.size, 1, none⟩ = some (.int .i64 (pSt s k)) := by simp [World.cell?, e3, pcs]
        have hT3 : Utf8Tabs 0 1 W3 := ⟨fun c hc => (z1.cell (p := ⟨0, c, none⟩) (by simp; omega)).trans (q5.1 c hc), fun i hi => ⟨(z1.cell (p := ⟨1, 2 * i, none⟩) (by simp; omega)).trans (q5.2 i hi).1, (z1.cell (p := ⟨1, 2 * i + 1, none⟩) (by simp; omega)).trans (q5.2 i hi).2⟩⟩
        have hbn3 := z2.trans q4
        have hs3 : W.heap.size ≤ W3.heap.size := by have := z1.size; omega
        clear q3 q4 q5 q6 z1 z2 z5 e3 HP
        gi_wp2
        go_roundw
        case rel => exact ⟨pre ++ [k], k + pSt s k, by go_num, by omega, by rw [HX.out]; simp, hJ3, hbn3, hs3, hT3⟩
        case measure => simp [RowKit.intOf]; omega
      · gi_wp2
        refine bodyPost_ret (results_none rfl _ _ _) rfl ?_
        exact ⟨⟨_, rfl⟩, .inr ⟨pre ++ [k], ⟨posAt s (k + pSt s k), by rw [HX.out]; simp⟩, hJx3⟩⟩
    · have hlti : ¬ (k : Int) < (s.size : Int) := by omega
      rw [posAt_nil s k hlt, List.append_nil] at hx
      have HX : Hid (poss s = pre) := hx
      clear hx
      gi_wp2
      go_end0
      exact ⟨⟨_, rfl⟩, .inl (by rw [HX.out]; exact hJs)⟩
theorem each_stops3 (n : Nat) (Bn n₀ : Nat) (s : ByteArray) (hs : s.size ≤ 140737488351232) (w : World) (hBn : w.heap[Bn]? = some (.cells #[.string s] 9 (0, 0))) (hn0 : 2 ≤ n₀) (hn1 : n₀ ≤ w.heap.size) (hT : Utf8Tabs 0 1 w) :
    SeqStopsK Fence.wide n Tryd.prog 36 #[.pointer (some ⟨Bn, 0, none⟩)] (fun k : Nat => #[Value.agg (pcs s k)]) (Kp3 n₀ Bn) (fun ys => ys = poss s) (fun pre => pre <+: poss s) (poss s).length w := fun l J Jx W hW hJ _ hY h0 => by
  have hBnl := (Array.getElem?_eq_some_iff.1 hBn).1
  exact each1_in3 n l Bn n₀ s hs J Jx W (fun x W1 W2 h g => hJ x W1 W2 none h g (fun r e => by cases e)) hY ((hW.block Bn hBnl).trans hBn) hn0 (Nat.le_trans hn1 hW.size) (tabs_below hT (by omega) hW) h0
end Go.Proofs.YtabofadjnbpjkacDoor

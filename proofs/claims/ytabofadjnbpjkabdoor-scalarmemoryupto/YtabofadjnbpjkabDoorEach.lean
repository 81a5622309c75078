/-
  The contract of each: it hands the pieces of a text to a loop's body, one behind the other. Conditions: the text takes no more bytes than one that comes in can; the library's two tables hold what their text lays.
-/
import Derived.Test.YtabofadjnbpjkabDoorAt
import Derived.RangeFuncNested
import Derived.RangeFuncBound
import Derived.RangeFuncCalls
import Derived.RangeFuncBox
import Derived.RangeFuncLeaves
import Derived.Shelf.Abstract
import Derived.OwnWalkIn
import Derived.TacticsInMore
import Derived.LoopNIn
import Derived.LoopIn
import Derived.Maps.AppendAt
namespace Go.Proofs.YtabofadjnbpjkabDoor
open Go.RowKit Go.Lib Go.Shelf
attribute [local go_sem] Oper.semAt_some
/-- Where the pieces begin, from a byte on. -/
def posFrom (s : ByteArray) : Nat → Nat → List Nat
  | 0, _ => []
  | f + 1, k => if k < s.size then k :: posFrom s f (k + pSt s k) else []
theorem posFrom_fuel (s : ByteArray) : ∀ (f g k : Nat), s.size - k ≤ f → s.size - k ≤ g → posFrom s f k = posFrom s g k
  | 0, 0, _, _, _ => rfl
  | 0, g + 1, k, h, _ => by simp [posFrom, show ¬ k < s.size by omega]
  | f + 1, 0, k, _, h => by simp [posFrom, show ¬ k < s.size by omega]
  | f + 1, g + 1, k, h, h' => by
    unfold posFrom
    by_cases hk : k < s.size
    · have := pSt_le s k hk
      rw [if_pos hk, if_pos hk, posFrom_fuel s f g _ (by omega) (by omega)]
    · rw [if_neg hk, if_neg hk]
/-- Where the pieces begin. -/
def posAt (s : ByteArray) (k : Nat) : List Nat := posFrom s (s.size - k) k
def poss (s : ByteArray) : List Nat := posAt s 0
theorem posAt_cons (s : ByteArray) (k : Nat) (h : k < s.size) : posAt s k = k :: posAt s (k + pSt s k) := by
  have hp := pSt_le s k h
  unfold posAt
  rw [show s.size - k = (s.size - k - 1) + 1 by omega]
  show (if k < s.size then k :: posFrom s (s.size - k - 1) (k + pSt s k) else []) = _
  rw [if_pos h, posFrom_fuel s (s.size - k - 1) (s.size - (k + pSt s k)) _ (by omega) (by omega)]
theorem posAt_nil (s : ByteArray) (k : Nat) (h : ¬ k < s.size) : posAt s k = [] := by
  unfold posAt
  cases hq : s.size - k with
  | zero => rfl
  | succ m => omega
theorem posAt_len (s : ByteArray) : ∀ (m k : Nat), s.size - k ≤ m → (posAt s k).length ≤ m
  | 0, k, h => by rw [posAt_nil s k (by omega)]; simp
  | m + 1, k, h => by
    by_cases hk : k < s.size
    · have hp := pSt_le s k hk
      rw [posAt_cons s k hk]
      have := posAt_len s m (k + pSt s k) (by omega)
      simp; omega
    · rw [posAt_nil s k hk]; simp
/-- The block of the row that a variable in block B holds. -/
def rowAt (W : World) (B : Nat) : Option Nat := match W.heap[B]? with | some (.cells cs _ _) => (cs[0]?).bind (·.ownBlock) | _ => none
/-- That row lies in memory. -/
def RowIn (B : Nat) (W : World) : Prop := ∀ g, rowAt W B = some g → g < W.heap.size
/-- What a round keeps: what lay below n₀, the text's own box, and whatever else was laid since the loop began, but for the row that the variable in block B holds. -/
def KpB (n₀ Bn B L : Nat) (W W' : World) : Prop := RowIn B W → Below n₀ W W' ∧ W'.heap[Bn]? = W.heap[Bn]? ∧ RowIn B W' ∧ (rowAt W' B = rowAt W B ∨ ∃ g, rowAt W' B = some g ∧ W.heap.size ≤ g) ∧
  ∀ b cs t f, L ≤ b → W.heap[b]? = some (.cells cs t f) → rowAt W B ≠ some b → W'.heap[b]? = W.heap[b]?
theorem KpB.trans {n₀ Bn B L : Nat} {X Y Z : World} (h : KpB n₀ Bn B L X Y) (k : KpB n₀ Bn B L Y Z) : KpB n₀ Bn B L X Z := fun hr => by
  obtain ⟨h1, h2, h3, h4, h5⟩ := h hr
  obtain ⟨k1, k2, k3, k4, k5⟩ := k h3
  refine ⟨h1.trans k1, k2.trans h2, k3, ?_, fun b cs t f hb hc hn => ?_⟩
  · rcases k4 with k4 | ⟨g, kg, hg⟩
    · rw [k4]; exact h4
    · exact .inr ⟨g, kg, Nat.le_trans h1.size hg⟩
  · have e := h5 b cs t f hb hc hn
    refine (k5 b cs t f hb (e.trans hc) fun q => ?_).trans e
    rcases h4 with h4 | ⟨g, kg, hg⟩
    · rw [h4] at q; exact hn q
    · rw [kg] at q
      cases q
      have := (Array.getElem?_eq_some_iff.1 hc).1
      omega
theorem rowAt_same {W W' : World} {B : Nat} (h : W'.heap[B]? = W.heap[B]?) : rowAt W' B = rowAt W B := by unfold rowAt; rw [h]
theorem KpB.put {n₀ Bn B L : Nat} {w : World} (hn : n₀ ≤ w.heap.size) (h1 : Bn < w.heap.size) (h2 : B < w.heap.size) (W : World) (l : Nat) (o o' : Obj) (hl : w.heap.size ≤ l) (hW : W.heap[l]? = some o) (hc : o.isCells = false) : KpB n₀ Bn B L W (W.putObj l o') := fun hr => by
  have other : ∀ k, k ≠ l → (W.putObj l o').heap[k]? = W.heap[k]? := fun k hk => World.putObj_heap_other hk
  have hsz : (W.putObj l o').heap.size = W.heap.size := by simp
  have hrow : rowAt (W.putObj l o') B = rowAt W B := rowAt_same (other B (by omega))
  refine ⟨⟨rfl, rfl, rfl, by omega, fun k hk => other k (by omega)⟩, other Bn (by omega), fun g hg => by rw [hrow] at hg; rw [hsz]; exact hr g hg, .inl hrow, fun b cs t f hb hcs _ => other b fun e => ?_⟩
  subst e
  rw [hW] at hcs
  cases hcs
  cases hc
theorem grown_of_below {W W' : World} (h : Below W.heap.size W W') : W.grownBy W' none := ⟨h.os, h.tape, h.output, h.size, fun k hk _ => h.block k hk⟩
set_option maxRecDepth 100000 in
set_option maxHeartbeats 1000000 in
theorem each1_in (n : Nat) (l Bn n₀ B L : Nat) (s : ByteArray) (hs : s.size ≤ 140737488351232) (J Jx : List Nat → World → Prop)
    (W : World) (hJ : ∀ s W1 W2, J s W1 → W1.grownBy W2 none → J s W2)
    (hY : ∀ pre x W, J pre W → pre.length < (poss s).length → YieldAt Fence.wide (n - 1) Tryd.prog l #[.agg (pcs s x)] W fun e W' =>
      (e = .returned (.bool true) ∧ J (pre ++ [x]) W' ∧ KpB n₀ Bn B L W W') ∨ (e = .returned (.bool false) ∧ Jx (pre ++ [x]) W'))
    (hBn : W.heap[Bn]? = some (.cells #[.string s] 9 (0, 0))) (hn0 : 2 ≤ n₀) (hn1 : n₀ ≤ W.heap.size) (hB : B < W.heap.size) (hL : L ≤ W.heap.size) (hr0 : RowIn B W) (hT : Utf8Tabs 0 1 W) (h0 : J [] W) :
    CallsIn Fence.wide n Tryd.prog 47 #[.func (.yield l) #[] #[], .pointer (some ⟨Bn, 0, none⟩)] W fun e W' => (∃ v, e = .returned v) ∧
      ((∃ ys, ys = poss s ∧ J ys W') ∨ (∃ pre, pre <+: poss s ∧ Jx pre W')) := by
  refine callsIn_of_wp Tryd.func47 rfl trivial ?_ rfl
  simp only [Tryd.ntmps47, List.size_toArray, List.length_cons, List.length_nil, Nat.reduceAdd, Nat.reduceSub, Array.replicate_succ, Array.replicate_zero, List.push_toArray, List.append_toArray, List.nil_append, List.cons_append]
  gi_wp2
  gi_loopw [3] (fun i wr => ∃ (pre : List Nat) (k : Nat), i = .int .i64 k ∧ k ≤ s.size ∧ poss s = pre ++ posAt s k ∧ J pre wr ∧ wr.heap[Bn]? = some (.cells #[.string s] 9 (0, 0)) ∧ W.heap.size ≤ wr.heap.size ∧ RowIn B wr ∧ Utf8Tabs 0 1 wr)
    (fun i _ => s.size - (RowKit.intOf i).toNat)
  case atStart => exact ⟨[], 0, rfl, by omega, rfl, h0, hBn, Nat.le_refl _, hr0, hT⟩
  case round =>
    obtain ⟨pre, k, rfl, hk, hx, hJs, hbn, hnr, hri, hTr⟩ := hrel
    have hc : wr.cell? ⟨Bn, 0, none⟩ = some (.string s) := by simp [World.cell?, hbn]
    by_cases hlt : k < s.size
    · have hlti : (k : Int) < (s.size : Int) := by omega
      rw [posAt_cons s k hlt] at hx
      have HX : Hid (poss s = pre ++ k :: posAt s (k + pSt s k)) := hx
      clear hx
      have hp := pSt_le s k hlt
      gi_wp2_with fail
      refine ⟨trivial, fun h => (by cases h), ?_⟩
      refine (callsIn_wide.2 (pieceAt_any s k _ hs hlt hTr (by omega))).mono ?_
      rintro e w' ⟨rfl, hb⟩
      have hJ2 : J pre (w'.alloc (.cells (pcs s k) 33)) := hJ _ _ _ (hJ _ _ _ hJs (grown_of_below hb)) (World.grownBy_alloc _ _ none)
      have hb2 : Below wr.heap.size wr (w'.alloc (.cells (pcs s k) 33)) := hb.alloc hb.size _
      have hP : (w'.alloc (.cells (pcs s k) 33)).heap[w'.heap.size]? = some (.cells (pcs s k) 33 (0, 0)) := World.alloc_heap_new _ _
      have hrowE : rowAt (w'.alloc (.cells (pcs s k) 33)) B = rowAt wr B := rowAt_same (hb2.block B (by omega))
      have hri2 : RowIn B (w'.alloc (.cells (pcs s k) 33)) := fun g hg => by rw [hrowE] at hg; have := hri g hg; have := hb2.size; omega
      have hnoP : rowAt (w'.alloc (.cells (pcs s k) 33)) B ≠ some w'.heap.size := fun e => by rw [hrowE] at e; have := hri _ e; have := hb.size; omega
      have hbn2 : (w'.alloc (.cells (pcs s k) 33)).heap[Bn]? = some (.cells #[.string s] 9 (0, 0)) := (hb2.block Bn (Array.getElem?_eq_some_iff.1 hbn).1).trans hbn
      have hT2 : Utf8Tabs 0 1 (w'.alloc (.cells (pcs s k) 33)) := tabs_below hTr (by omega) hb2
      have hs2 : wr.heap.size < (w'.alloc (.cells (pcs s k) 33)).heap.size := by have := hb.size; simp; omega
      have hwL : L ≤ w'.heap.size := by have := hb.size; omega
      obtain ⟨fn, tmps, assign, body, hy, hR⟩ := hY pre k (w'.alloc (.cells (pcs s k) 33)) hJ2 (by rw [HX.out]; simp)
      have HP : Hid (RowIn B (w'.alloc (.cells (pcs s k) 33)) ∧ rowAt (w'.alloc (.cells (pcs s k) 33)) B ≠ some w'.heap.size ∧ (w'.alloc (.cells (pcs s k) 33)).heap[w'.heap.size]? = some (.cells (pcs s k) 33 (0, 0)) ∧ (w'.alloc (.cells (pcs s k) 33)).heap[Bn]? = some (.cells #[.string s] 9 (0, 0)) ∧ Utf8Tabs 0 1 (w'.alloc (.cells (pcs s k) 33)) ∧ wr.heap.size < (w'.alloc (.cells (pcs s k) 33)).heap.size) := ⟨hri2, hnoP, hP, hbn2, hT2, hs2⟩
      clear hri2 hnoP hP hbn2 hT2 hs2 hrowE hb2 hJ2 hTr hT
      unfold pcs at hy ⊢
      gi_wp2
      refine ⟨fun h => (by cases h), hR.mono ?_⟩
      rintro e W3 (⟨rfl, hJ3, hk3⟩ | ⟨rfl, hJx3⟩)
      · obtain ⟨q1, q2, q3, q4, q5, q6⟩ := HP.out
        obtain ⟨z1, z2, z3, _, z5⟩ := hk3 q1
        have e3 : W3.heap[w'.heap.size]? = some (.cells (pcs s k) 33 (0, 0)) := (z5 _ _ _ _ hwL q3 q2).trans q3
        have c3 : W3.cell? ⟨w'.heap.size, 1, none⟩ = some (.int .i64 (pSt s k)) := by simp [World.cell?, e3, pcs]
        have hT3 : Utf8Tabs 0 1 W3 := ⟨fun c hc => (z1.cell (p := ⟨0, c, none⟩) (by simp; omega)).trans (q5.1 c hc), fun i hi => ⟨(z1.cell (p := ⟨1, 2 * i, none⟩) (by simp; omega)).trans (q5.2 i hi).1, (z1.cell (p := ⟨1, 2 * i + 1, none⟩) (by simp; omega)).trans (q5.2 i hi).2⟩⟩
        have hbn3 := z2.trans q4
        have hs3 : W.heap.size ≤ W3.heap.size := by have := z1.size; omega
        clear q1 q2 q3 q4 q5 q6 z1 z2 z5 e3 HP
        gi_wp2
        go_roundw
        case rel => exact ⟨pre ++ [k], k + pSt s k, by go_num, by omega, by rw [HX.out]; simp, hJ3, hbn3, hs3, z3, hT3⟩
        case measure => simp [RowKit.intOf]; omega
      · gi_wp2
        refine bodyPost_ret (results_none rfl _ _ _) rfl ?_
        exact ⟨⟨_, rfl⟩, .inr ⟨pre ++ [k], ⟨posAt s (k + pSt s k), by rw [HX.out]; simp⟩, hJx3⟩⟩
    · have hlti : ¬ (k : Int) < (s.size : Int) := by omega
      rw [posAt_nil s k hlt, List.append_nil] at hx
      have HX : Hid (poss s = pre) := hx
      clear hx
      gi_wp2
      go_end0
      exact ⟨⟨_, rfl⟩, .inl (by rw [HX.out]; exact hJs)⟩
end Go.Proofs.YtabofadjnbpjkabDoor

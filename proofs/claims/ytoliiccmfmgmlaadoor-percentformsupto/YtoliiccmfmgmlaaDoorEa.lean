/-
  The contract of parts: it hands the parts of a text to a loop's body, one behind the other. Condition: the text is no longer than one that comes in can be.
-/
import Derived.Test.YtoliiccmfmgmlaaDoorBd
import Derived.Test.YtoliiccmfmgmlaaDoorGt
import Derived.RangeFuncNested
import Derived.RangeFuncBound
import Derived.RangeFuncCalls
import Derived.RangeFuncBox
import Derived.RangeFuncLeaves
import Derived.Shelf.Abstract
import Derived.OwnWalkIn
import Derived.TacticsInMore
import Derived.LoopNIn
import Derived.LoopIn
import Derived.Maps.AppendAt
namespace Go.Proofs.YtoliiccmfmgmlaaDoor
open Go.RowKit Go.Lib Go.Shelf
attribute [local go_sem] Oper.semAt_some
/-- What a round keeps: what lay below n₀, and the text's own box. -/
def Kp (n₀ Bn : Nat) (W W' : World) : Prop := Below n₀ W W' ∧ W'.heap[Bn]? = W.heap[Bn]?
theorem Kp.trans {n₀ Bn : Nat} {X Y Z : World} (h : Kp n₀ Bn X Y) (k : Kp n₀ Bn Y Z) : Kp n₀ Bn X Z := ⟨h.1.trans k.1, k.2.trans h.2⟩
theorem Kp.same (n₀ Bn : Nat) (W : World) : Kp n₀ Bn W W := ⟨Below.refl _ _, rfl⟩
theorem Kp.put {n₀ Bn : Nat} {w : World} (hn : n₀ ≤ w.heap.size) (h1 : Bn < w.heap.size) (W : World) (l : Nat) (o' : Obj) (hl : w.heap.size ≤ l) : Kp n₀ Bn W (W.putObj l o') := by
  have other : ∀ k, k ≠ l → (W.putObj l o').heap[k]? = W.heap[k]? := fun k hk => World.putObj_heap_other hk
  have hsz : (W.putObj l o').heap.size = W.heap.size := by simp
  exact ⟨⟨rfl, rfl, rfl, by omega, fun k hk => other k (by omega)⟩, other Bn (by omega)⟩
theorem Kp.alloc {W : World} {n₀ Bn : Nat} (hn : n₀ ≤ W.heap.size) (hBn : Bn < W.heap.size) (o : Obj) : Kp n₀ Bn W (W.alloc o) :=
  ⟨(Below.refl _ _).alloc hn _, Below.heap_alloc _ _ _ hBn⟩
theorem grown_of_below {W W' : World} (h : Below W.heap.size W W') : W.grownBy W' none := ⟨h.os, h.tape, h.output, h.size, fun k hk _ => h.block k hk⟩
set_option maxRecDepth 100000 in
set_option maxHeartbeats 1000000 in
theorem parts1_in (n : Nat) (l Bn n₀ : Nat) (s : ByteArray) (hs : s.size ≤ 140737488351232) (J Jx : List Nat → World → Prop)
    (W : World) (hJ : ∀ s W1 W2, J s W1 → W1.grownBy W2 none → J s W2)
    (hY : ∀ pre x W, J pre W → pre.length < (poss s).length → YieldAt Fence.wide (n - 1) Tryd.prog l #[.agg (pcs s x)] W fun e W' =>
      (e = .returned (.bool true) ∧ J (pre ++ [x]) W' ∧ Kp n₀ Bn W W') ∨ (e = .returned (.bool false) ∧ Jx (pre ++ [x]) W'))
    (hBn : W.heap[Bn]? = some (.cells #[.string s] 9 (0, 0))) (_ : n₀ ≤ W.heap.size) (h0 : J [] W) :
    CallsIn Fence.wide n Tryd.prog 36 #[.func (.yield l) #[] #[], .pointer (some ⟨Bn, 0, none⟩)] W fun e W' => (∃ v, e = .returned v) ∧
      ((∃ ys, ys = poss s ∧ J ys W') ∨ (∃ pre, pre <+: poss s ∧ Jx pre W')) := by
  refine callsIn_of_wp Tryd.func36 rfl trivial ?_ rfl
  simp only [Tryd.ntmps36, List.size_toArray, List.length_cons, List.length_nil, Nat.reduceAdd, Nat.reduceSub, Array.replicate_succ, Array.replicate_zero, List.push_toArray, List.append_toArray, List.nil_append, List.cons_append]
  refine wpIn_scope_round (P := Tryd.prog) 0 (fun a wr => ∃ (pre : List Nat) (k : Nat) (u4 u5 u6 u7 u8 u9 u10 u11 u12 u13 u14 u15 u16 u17 u18 : Value), a = { tmps := #[.func (.yield l) #[] #[], .pointer (some ⟨Bn, 0, none⟩), undef, .int .i64 k, u4, u5, u6, u7, u8, u9, u10, u11, u12, u13, u14, u15, u16, u17, u18], defers := [] } ∧ k ≤ s.size ∧ poss s = pre ++ posAt s k ∧ J pre wr ∧ wr.heap[Bn]? = some (.cells #[.string s] 9 (0, 0)) ∧ W.heap.size ≤ wr.heap.size)
    (fun a _ => s.size - (RowKit.intOf (a.tmps.getD 3 undef)).toNat) rfl ?start ?pass
  case start =>
    gi_wp2
    exact ⟨[], 0, _, _, _, _, _, _, _, _, _, _, _, _, _, _, _, rfl, Nat.zero_le _, rfl, h0, hBn, Nat.le_refl _⟩
  case pass =>
    rintro a wr ⟨pre, k, u4, u5, u6, u7, u8, u9, u10, u11, u12, u13, u14, u15, u16, u17, u18, rfl, hk, hx, hJs, hbn, hnr⟩
    have hc : wr.cell? ⟨Bn, 0, none⟩ = some (.string s) := by simp [World.cell?, hbn]
    by_cases hlt : k < s.size
    · have hlti : ((k : Int) == (s.size : Int)) = false := beq_false_of_ne (by omega)
      rw [posAt_cons s k hlt] at hx
      have HX : Hid (poss s = pre ++ k :: posAt s (k + pz s k)) := hx
      clear hx
      have hp := pz_le s k hlt
      gi_wp2_with fail
      refine ⟨trivial, fun h => (by cases h), ?_⟩
      refine (callsIn_wide.2 (partAt_any s k _ hs hlt)).mono ?_
      rintro e w' ⟨rfl, hb⟩
      have hJ2 : J pre (w'.alloc (.cells (pcs s k) 50)) := hJ _ _ _ (hJ _ _ _ hJs (grown_of_below hb)) (World.grownBy_alloc _ _ none)
      have hb2 : Below wr.heap.size wr (w'.alloc (.cells (pcs s k) 50)) := hb.alloc hb.size _
      have hbn2 : (w'.alloc (.cells (pcs s k) 50)).heap[Bn]? = some (.cells #[.string s] 9 (0, 0)) := (hb2.block Bn (Array.getElem?_eq_some_iff.1 hbn).1).trans hbn
      have hs2 : W.heap.size ≤ (w'.alloc (.cells (pcs s k) 50)).heap.size := by have := hb2.size; omega
      obtain ⟨fn, tmps, assign, body, hy, hR⟩ := hY pre k (w'.alloc (.cells (pcs s k) 50)) hJ2 (by rw [HX.out]; simp)
      have HP : Hid ((w'.alloc (.cells (pcs s k) 50)).heap[Bn]? = some (.cells #[.string s] 9 (0, 0)) ∧ W.heap.size ≤ (w'.alloc (.cells (pcs s k) 50)).heap.size) := ⟨hbn2, hs2⟩
      clear hbn2 hs2 hb2 hJ2
      unfold pcs at hy ⊢
      gi_wp2
      refine ⟨fun h => (by cases h), hR.mono ?_⟩
      rintro e W3 (⟨rfl, hJ3, hk3⟩ | ⟨rfl, hJx3⟩)
      · obtain ⟨q1, q2⟩ := HP.out
        have hbn3 := hk3.2.trans q1
        have hs3 : W.heap.size ≤ W3.heap.size := Nat.le_trans q2 hk3.1.size
        clear q1 q2 HP
        gi_wp2
        refine wpIn_goto ?_
        refine ⟨rfl, ⟨pre ++ [k], k + pz s k, _, _, _, _, _, _, _, _, _, _, _, _, _, _, _, by go_num, by omega, by rw [HX.out]; simp, hJ3, hbn3, hs3⟩, ?_⟩
        simp [RowKit.intOf]; omega
      · gi_wp2
        rw [jump_normal]
        go_end0
        exact ⟨⟨_, rfl⟩, .inr ⟨pre ++ [k], ⟨posAt s (k + pz s k), by rw [HX.out]; simp⟩, hJx3⟩⟩
    · have hlti : ((k : Int) == (s.size : Int)) = true := by simp; omega
      rw [posAt_nil s k hlt, List.append_nil] at hx
      have HX : Hid (poss s = pre) := hx
      clear hx
      gi_wp2
      rw [jump_ret]
      refine bodyPost_ret (results_none rfl _ _ _) rfl ?_
      exact ⟨⟨_, rfl⟩, .inl (by rw [HX.out]; exact hJs)⟩
end Go.Proofs.YtoliiccmfmgmlaaDoor

/-
  A set's iterator walked: it hands the points over in their order, to the end or till a round says no more. Condition: the rounds leave alone what is not their own.
-/
import Derived.Test.YtddoanmhikldiabRf
import Derived.RangeFuncNested
import Derived.RangeFuncBound
import Derived.RangeFuncCalls
import Derived.RangeFuncLeaves
import Derived.Shelf.Abstract
import Derived.Shelf.RegionOpen
import Derived.WalkKit
import Derived.OwnWalkIn
import Derived.TacticsInMore
import Derived.LoopNIn
import Derived.LoopIn
namespace Go.Proofs.Ytddoanmhikldiab
open Go.RowKit Go.Shelf
attribute [local go_sem] Oper.semAt_some
/-- What lies in no block of own stays as it was. -/
def KC (own : Nat → Prop) (A B : World) : Prop := A.heap.size ≤ B.heap.size ∧ ∀ p : Addr, ¬ own p.block → ∀ v, A.cell? p = some v → B.cell? p = some v
theorem KC.refl (own : Nat → Prop) (A : World) : KC own A A := ⟨Nat.le_refl _, fun _ _ _ h => h⟩
theorem KC.trans {own : Nat → Prop} {A B C : World} (h : KC own A B) (k : KC own B C) : KC own A C := ⟨Nat.le_trans h.1 k.1, fun p hp v hv => k.2 p hp v (h.2 p hp v hv)⟩
theorem KC.of_below {own : Nat → Prop} {A B : World} (h : Below A.heap.size A B) : KC own A B :=
  ⟨h.size, fun p _ v hv => by rw [h.cell (World.block_lt_of_cell? A _ hv)]; exact hv⟩
theorem KC.rd {own : Nat → Prop} {A B : World} {v : Value} {L : List Sn} (h : KC own A B) (hr : RdS A v L) (ho : ∀ k, v.ownBlock = some k → ¬ own k) : RdS B v L := by
  obtain ⟨a, c, rfl, h1, h2⟩ := hr
  refine ⟨a, c, rfl, h1, fun h3 => ?_⟩
  obtain ⟨g, off, rfl, h4⟩ := h2 h3
  exact ⟨g, off, rfl, fun j hj => ⟨h.2 _ (ho g rfl) _ (h4 j hj).1, h.2 _ (ho g rfl) _ (h4 j hj).2⟩⟩
/-- The points that have come when k rounds are over. -/
def upto (A : List Sn) (k : Nat) : List Int := (List.range k).map fun i : Nat => atL A (i : Int)
theorem upto_succ (A : List Sn) (k : Nat) : upto A (k + 1) = upto A k ++ [atL A (k : Int)] := by simp [upto, List.range_succ]
theorem upto_len (A : List Sn) (k : Nat) : (upto A k).length = k := by simp [upto]
theorem upto_pre (A : List Sn) {k n : Nat} (h : k ≤ n) : upto A k <+: upto A n := by
  obtain ⟨d, rfl⟩ := Nat.exists_eq_add_of_le h
  induction d with
  | zero => exact List.prefix_rfl
  | succ d ih => exact (ih (by omega)).trans (by rw [← Nat.add_assoc, upto_succ]; exact List.prefix_append _ _)
theorem grown_of {w w' : World} (h : Below w.heap.size w w') : w.grownBy w' none := ⟨h.os, h.tape, h.output, h.size, fun k hk _ => h.block k hk⟩
theorem at_in : ∀ (A : List Sn), (∀ s ∈ A, mayB s = true) → ∀ (i : Nat) (j : Int), i < A.length → 0 ≤ j → j < szI (A.getD i (0, 0)) → atL A (cntL (A.take i) + j) = (A.getD i (0, 0)).1 + j := by
  intro A
  induction A with
  | nil => intro _ i j hi; simp at hi
  | cons s A ih =>
    intro hm i j hi hj hs
    cases i with
    | zero => simp only [List.take_zero, cnt_nil, List.getD_cons_zero] at *; rw [at_cons, if_pos (by omega)]; simp
    | succ i =>
      simp only [List.take_succ_cons, cnt_cons, List.getD_cons_succ, List.length_cons] at *
      have h0 := (cnt_le (A.take i) (fun x hx => hm x (List.mem_cons_of_mem _ (List.mem_of_mem_take hx)))).1
      rw [at_cons, if_neg (by omega), ← ih (fun x hx => hm x (List.mem_cons_of_mem _ hx)) i j (by omega) hj hs]
      congr 1
      omega
set_option maxRecDepth 100000 in
set_option maxHeartbeats 2000000 in
theorem it_in (n : Nat) (hn : 1 ≤ n) (own : Nat → Prop) (A : List Sn) (l Bs : Nat) (b : Option Addr) (cap : Nat) (J Jx : List Int → World → Prop)
    (hY : ∀ pre x W, J pre W → pre.length < (cntL A).toNat → YieldAt Fence.wide (n - 1) Try.prog l #[.int .i32 x] W fun e W' => (e = .returned (.bool true) ∧ J (pre ++ [x]) W' ∧ KC own W W') ∨ (e = .returned (.bool false) ∧ Jx (pre ++ [x]) W'))
    (W : World) (hW : ∀ k, own k → k < W.heap.size) (hJ : AbidesFrom W.heap.size J) (hBs : W.cell? ⟨Bs, 0, none⟩ = some (.slice b A.length cap)) (hr : RdS W (.slice b A.length cap) A) (ho : ∀ k, (Value.slice b A.length cap).ownBlock = some k → ¬ own k) (sA : isS 0 A = true) (lA : A.length ≤ 65536) (h0 : J [] W) :
    CallsIn Fence.wide n Try.prog 20 #[.func (.yield l) #[] #[], .pointer (some ⟨Bs, 0, none⟩)] W fun e W' => (∃ v, e = .returned v) ∧ ((∃ ys, ys = upto A (cntL A).toNat ∧ J ys W') ∨ (∃ pre, pre <+: upto A (cntL A).toNat ∧ Jx pre W')) := by
  have HM : Hid (∀ s ∈ A, mayB s = true) := fun s hs => (isS_mem sA s hs).1
  have HY : Hid (∀ pre x W, J pre W → pre.length < (cntL A).toNat → YieldAt Fence.wide (n - 1) Try.prog l #[.int .i32 x] W fun e W' => (e = .returned (.bool true) ∧ J (pre ++ [x]) W' ∧ KC own W W') ∨ (e = .returned (.bool false) ∧ Jx (pre ++ [x]) W')) := hY
  have HR : Hid (RdS W (.slice b A.length cap) A) := hr
  have HO : Hid (∀ k, (Value.slice b A.length cap).ownBlock = some k → ¬ own k) := ho
  have HW : Hid (∀ k, own k → k < W.heap.size) := hW
  have HJ : Hid (AbidesFrom W.heap.size J) := hJ
  clear hY hr ho hW hJ sA
  refine callsIn_of_wp Try.func20 rfl trivial ?_ rfl
  simp only [Try.ntmps20, List.size_toArray, List.length_cons, List.length_nil, Nat.reduceAdd, Nat.reduceSub, Array.replicate_succ, Array.replicate_zero, List.push_toArray, List.append_toArray, List.nil_append, List.cons_append]
  gi_wp2
  gi_loopw [8] (fun i wr => ∃ k : Nat, k ≤ A.length ∧ i = .int .i64 k ∧ Hid (J (upto A (cntL (A.take k)).toNat) wr) ∧ Hid (KC own W wr))
    (fun i _ => A.length - (intOf i).toNat)
  case atStart => exact ⟨0, Nat.zero_le _, rfl, h0, KC.refl _ _⟩
  case round =>
    obtain ⟨k, hk, rfl, hJs, hKs⟩ := hrel
    by_cases hlt : k < A.length
    · have kl : (k : Int) < (A.length : Int) := by omega
      obtain ⟨a2, c2, e2, hl2, hd0⟩ := hKs.out.rd HR.out HO.out
      obtain ⟨rfl, rfl⟩ : b = a2 ∧ cap = c2 := by simpa using e2
      obtain ⟨g, off, rfl, hd⟩ := hd0 (by omega)
      clear hd0
      obtain ⟨d1, d2⟩ := hd k hlt
      have hs0 := HM.out _ (get_mem A k hlt)
      have hat := at_in A HM.out k
      have hct := cnt_take A k hlt
      have hc0 := (cnt_le (A.take k) (fun x hx => HM.out x (List.mem_of_mem_take hx))).1
      have hc1 : cntL (A.take (k + 1)) ≤ cntL A := by
        have e := cnt_app (A.take (k + 1)) (A.drop (k + 1))
        rw [List.take_append_drop] at e
        have := (cnt_le (A.drop (k + 1)) (fun x hx => HM.out x (List.mem_of_mem_drop hx))).1
        omega
      rw [hct] at hc1
      generalize hq : A.getD k (0, 0) = q at *
      obtain ⟨x, y⟩ := q
      have hxy := may_iff.1 hs0
      simp only [szI] at *
      have HC : Hid (cntL (A.take (k + 1)) = cntL (A.take k) + (y - x + 1)) := hct
      have HA : Hid (∀ j : Int, 0 ≤ j → j < y - x + 1 → atL A (cntL (A.take k) + j) = x + j) := fun j h1 h2 => hat j hlt h1 h2
      have HD : Hid (∀ j, j < A.length → wr.cell? ⟨g, off + j * 2, none⟩ = some (.int .i32 (A.getD j (0, 0)).1) ∧ wr.cell? ⟨g, off + j * 2 + 1, none⟩ = some (.int .i32 (A.getD j (0, 0)).2)) := hd
      have H1 : Hid (0 ≤ cntL (A.take k) ∧ cntL (A.take k) + (y - x + 1) ≤ cntL A) := ⟨hc0, hc1⟩
      have HS : Hid (mayB (x, y) = true) := hs0
      clear hct hat hd hs0 hc0 hc1
      obtain ⟨x0, x1, x2⟩ := hxy
      gi_wp2_with (refine ⟨trivial, ?_⟩; gi_at_call 21; refine (callsIn_wide.2 (size_any x y _ HS.out)).mono ?_; rintro e w2 ⟨rfl, b2⟩)
      have hB : Below wr.heap.size wr w2 := ((Below.refl _ wr).alloc (Nat.le_refl _) _).trans (b2.mono (by simp))
      have hx1 : w2.cell? ⟨wr.heap.size, 0, none⟩ = some (.int .i32 x) := (b2.cell (p := ⟨wr.heap.size, 0, none⟩) (by simp)).trans ((cell_of_row _ wr.heap.size 0 _ 41 (0, 0) (heap_alloc_new wr _)).trans rfl)
      have HJ2 : Hid (J (upto A (cntL (A.take k)).toNat) w2) := HJ.out _ _ _ none hJs.out (grown_of hB) (fun r h => by cases h)
      have HK2 : Hid (KC own W w2) := hKs.out.trans (KC.of_below hB)
      have HN : Hid (¬ own wr.heap.size) := fun h => by have := HW.out _ h; have := hKs.out.1; omega
      have HX1 : Hid (w2.cell? ⟨wr.heap.size, 0, none⟩ = some (.int .i32 x)) := hx1
      clear hB hx1 b2 d1 d2 HD hJs
      generalize wr.heap.size = Bx at *
      gi_loopw [14] (fun i wr2 => ∃ j : Nat, (j : Int) ≤ y - x + 1 ∧ i = .int .i64 j ∧ Hid (J (upto A ((cntL (A.take k)).toNat + j)) wr2) ∧ Hid (KC own W wr2) ∧ Hid (wr2.cell? ⟨Bx, 0, none⟩ = some (.int .i32 x)))
        (fun i _ => (y - x + 1).toNat - (intOf i).toNat)
      case atStart => exact ⟨0, by omega, rfl, HJ2, HK2, HX1⟩
      case round =>
        obtain ⟨j, hj, rfl, hJ3, hK3, hX3⟩ := hrel
        by_cases hjl : (j : Int) < y - x + 1
        · obtain ⟨h10, h11⟩ := H1.out
          obtain ⟨fn, tmps, assign, body, hy, hR⟩ := HY.out _ (x + j) wr hJ3.out (by rw [upto_len]; omega)
          have hx3 := hX3.out
          have HE : Hid (atL A (((cntL (A.take k)).toNat + j : Nat) : Int) = x + j) := by
            have := HA.out j (by omega) hjl
            rw [Hid, ← this]
            congr 1
            omega
          have hw1 : IntKind.i32.wrap (j : Int) = j := by unfold IntKind.wrap; simp [IntKind.signed, IntKind.bits]; omega
          have HH : Hid ((cntL (A.take k)).toNat + j + 1 ≤ (cntL A).toNat) := by rw [Hid]; omega
          clear H1 h10 h11
          gi_wp2
          refine hR.mono ?_
          rintro e W3 (⟨rfl, hJ4, hk4⟩ | ⟨rfl, hJx4⟩)
          · have HJ4 : Hid (J (upto A ((cntL (A.take k)).toNat + (j + 1))) W3) := by
              rw [Hid, ← Nat.add_assoc, upto_succ, HE.out]; exact hJ4
            have HK4 : Hid (KC own W W3) := hK3.out.trans hk4
            have HX4 : Hid (W3.cell? ⟨Bx, 0, none⟩ = some (.int .i32 x)) := hk4.2 _ HN.out _ hX3.out
            clear hJ4 hk4
            gi_wp2
            go_roundw
            case rel => exact ⟨j + 1, by omega, by simp, HJ4, HK4, HX4⟩
            case measure => simp [intOf]; omega
          · have HX4 : Hid (∃ pre, pre <+: upto A (cntL A).toNat ∧ Jx pre W3) := by
              refine ⟨_, ?_, hJx4⟩
              rw [← HE.out, ← upto_succ]
              exact upto_pre A (by have := HH.out; omega)
            clear hJx4
            gi_wp2
            refine bodyPost_ret (results_none rfl _ _ _) rfl ?_
            exact ⟨⟨_, rfl⟩, .inr HX4.out⟩
        · have hjj : (j : Int) = y - x + 1 := by omega
          have HJ4 : Hid (J (upto A (cntL (A.take (k + 1))).toNat) wr) := by
            have h := hJ3.out
            rw [Hid, HC.out]
            rwa [show (cntL (A.take k)).toNat + j = (cntL (A.take k) + (y - x + 1)).toNat from by have := H1.out; omega] at h
          have hjf : decide ((j : Int) < y - x + 1) = false := decide_eq_false hjl
          clear H1
          gi_wp2
          go_roundw
          case rel => exact ⟨k + 1, by omega, by simp, HJ4, hK3⟩
          case measure => simp [intOf]; omega
    · obtain rfl : k = A.length := by omega
      gi_wp2
      go_end0
      exact ⟨⟨_, rfl⟩, .inl ⟨_, by rw [List.take_length], hJs.out⟩⟩
end Go.Proofs.Ytddoanmhikldiab

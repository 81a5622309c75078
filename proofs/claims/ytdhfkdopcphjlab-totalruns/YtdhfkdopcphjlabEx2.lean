/-
  The contract of Exact: the exact sum of a list, rounded once. Conditions: the floats' bits fit; the list takes no more bytes than there are.
-/
import Derived.Test.YtdhfkdopcphjlabRx
import Derived.Laws.Cover2
namespace Go.Proofs.Ytdhfkdopcphjlab
open Go.RowKit
/-- A slice that reads as these cells. -/
def Rd (w : World) (v : Value) (cs : List Value) : Prop :=
  ∃ a c, v = .slice a cs.length c ∧ (0 < cs.length → ∃ g off, a = some ⟨g, off, none⟩ ∧ ∀ j, j < cs.length → w.cell? ⟨g, off + j, none⟩ = some (cs.getD j undef))
theorem Rd.below {w w' : World} {v : Value} {cs : List Value} (h : Rd w v cs) (hb : Below w.heap.size w w') : Rd w' v cs := by
  obtain ⟨a, c, rfl, hc⟩ := h
  refine ⟨a, c, rfl, fun hp => ?_⟩
  obtain ⟨g, off, rfl, hd⟩ := hc hp
  refine ⟨g, off, rfl, fun j hj => ?_⟩
  have := World.block_lt_of_cell? w _ (hd j hj)
  exact (hb.cell (p := ⟨g, off + j, none⟩) (by simpa using this)).trans (hd j hj)
/-- One. -/
def one64 : Pt := pt 52 11 1023 4607182418800017408
/-- What the sum of a list has met, and its whole number. -/
def exF : List Nat → Fl := fun bs => bs.foldl (fun F b => F.add (pt 52 11 1023 b) one64) ⟨false, false, false, false, false⟩
def exZ : List Nat → Int := fun bs => bs.foldl (fun Z b => Z + prod (pt 52 11 1023 b) one64) 0
theorem exF_snoc (bs : List Nat) (b : Nat) : exF (bs ++ [b]) = (exF bs).add (pt 52 11 1023 b) one64 := by unfold exF; rw [List.foldl_append]; rfl
theorem exZ_snoc (bs : List Nat) (b : Nat) : exZ (bs ++ [b]) = exZ bs + prod (pt 52 11 1023 b) one64 := by unfold exZ; rw [List.foldl_append]; rfl
theorem pow_le' (a b : Nat) (h : a ≤ b) : 2 ^ a ≤ 2 ^ b := Nat.pow_le_pow_right (by decide) h
theorem pow_lt' (a b : Nat) (h : a < b) : 2 ^ a < 2 ^ b := Nat.pow_lt_pow_right (by decide) h
theorem many_le (n k : Nat) (h : n ≤ 65536) : n * 2 ^ k ≤ 2 ^ (16 + k) := by rw [Nat.pow_add]; exact Nat.mul_le_mul_right _ h
theorem mul_pow_le {x y a b : Nat} (c : Nat) (hc : c = a + b) (h1 : x ≤ 2 ^ a) (h2 : y ≤ 2 ^ b) : x * y ≤ 2 ^ c := by subst hc; rw [Nat.pow_add]; exact Nat.mul_le_mul h1 h2
theorem prod_le (x y : Nat) : (prod (pt 52 11 1023 x) (pt 52 11 1023 y)).natAbs ≤ 2 ^ 4196 := by
  obtain ⟨pm, pe1, pe2, -⟩ := pt_rng x
  obtain ⟨qm, qe1, qe2, -⟩ := pt_rng y
  generalize pt 52 11 1023 x = p at *
  generalize pt 52 11 1023 y = q at *
  have h1 : p.mant * q.mant ≤ 2 ^ 106 := Nat.le_of_lt (Nat.lt_of_lt_of_le (Nat.mul_lt_mul'' pm qm) (by decide))
  have h2 := pow_le' (p.exp + q.exp + 2148).toNat 4090 (by omega)
  have h3 := mul_pow_le 4196 rfl h1 h2
  unfold prod
  generalize p.mant * q.mant * 2 ^ (p.exp + q.exp + 2148).toNat = D at *
  generalize (2 : Nat) ^ 4196 = T at *
  clear h1 h2
  split
  · exact Nat.zero_le _
  · split <;> omega
theorem exZ_le : ∀ bs : List Nat, (exZ bs).natAbs ≤ bs.length * 2 ^ 4196 := by
  intro bs
  have key : ∀ (bs : List Nat) (Z : Int) (k : Nat), Z.natAbs ≤ k * 2 ^ 4196 → (bs.foldl (fun Z b => Z + prod (pt 52 11 1023 b) one64) Z).natAbs ≤ (k + bs.length) * 2 ^ 4196 := by
    intro bs
    induction bs with
    | nil => intro Z k h; exact h
    | cons b bs ih =>
      intro Z k h
      have h2 : (prod (pt 52 11 1023 b) one64).natAbs ≤ 2 ^ 4196 := prod_le b 4607182418800017408
      have := ih (Z + prod (pt 52 11 1023 b) one64) (k + 1) (by
        rw [Nat.succ_mul]
        generalize (2 : Nat) ^ 4196 = T at *
        generalize k * T = kT at *
        omega)
      rw [List.length_cons, show k + (bs.length + 1) = k + 1 + bs.length by omega]
      exact this
  have := key bs 0 0 (Nat.zero_le _)
  rwa [Nat.zero_add] at this
theorem exZ_small {bs : List Nat} (h : bs.length ≤ 65536) : (exZ bs).natAbs < 2 ^ 4213 := by
  have h1 := exZ_le bs
  have h2 := many_le bs.length 4196 h
  have h3 := pow_lt' (16 + 4196) 4213 (by omega)
  exact Nat.lt_of_le_of_lt (Nat.le_trans h1 h2) h3
theorem info58 : (Try.prog.info? 69).map (fun i => (i.zero, i.size)) = some (some (.agg (mkW (Array.replicate 71 (.bool false)) fun _ => 0)), 71) := by kernel_rfl
theorem ex_new (w : World) : ExAt (w.alloc (.cells (mkW (Array.replicate 71 (.bool false)) fun _ => 0) 69)) w.heap.size 69 (fun _ => none) ⟨false, false, false, false, false⟩ 0 := by
  refine ⟨_, _, heap_alloc_last _ _, fun _ => by decide, ⟨by simp, rfl, rfl, rfl, rfl, rfl⟩, fun j hj => by simp; omega, ?_⟩
  have : val (fun _ => 0) 66 = 0 := (val_zero 66).2 fun _ _ => rfl
  rw [this]
  rfl
/-- Behind a call that changes one block that was made since. -/
theorem below_of_grown {w w1 w2 : World} {b : Nat} (h : Below w.heap.size w w1) (hb : w.heap.size ≤ b) (hg : w1.grownBy w2 (some b)) : Below w.heap.size w w2 :=
  h.grown hg h.size fun k e => by cases e; exact hb
theorem ex_long (w : World) (n : Nat) (a : Option Addr) (c : Nat) (hn : 65536 < n) (hn2 : n ≤ 140737488355328) : Calls Try.prog 14 #[.slice a n c] w fun e w' => e = .returned (.tuple #[.float .f64 0, .int .i64 50]) ∧ Below w.heap.size w w' := by
  have h1 : ((n : Nat) : Int) > 65536 := by omega
  go_enter Try.func14, Try.ntmps14
  go_wp2
  go_ret2
  exact ⟨rfl, Below.refl _ _⟩
/-- A list of floats. -/
def flt (bs : List Nat) : List Value := bs.map fun b => .float .f64 b
theorem flt_len (bs : List Nat) : (flt bs).length = bs.length := List.length_map _
theorem flt_get (bs : List Nat) (j : Nat) (h : j < bs.length) : (flt bs).getD j undef = .float .f64 (bs.getD j 0) := by simp [flt, List.getD, List.getElem?_eq_getElem h]
theorem take_snoc (bs : List Nat) (k : Nat) (h : k < bs.length) : bs.take (k + 1) = bs.take k ++ [bs.getD k 0] := by
  rw [List.take_add_one, List.getElem?_eq_getElem h]
  simp [List.getD, List.getElem?_eq_getElem h]
theorem getD_lt {bs : List Nat} (hb : ∀ b ∈ bs, b < 18446744073709551616) (k : Nat) (h : k < bs.length) : bs.getD k 0 < 18446744073709551616 := by
  have : bs.getD k 0 = bs[k] := by simp [List.getD, List.getElem?_eq_getElem h]
  rw [this]
  exact hb _ (List.getElem_mem h)
/-- The float that Exact tells. -/
def exB (bs : List Nat) : Nat := exV (exF bs) (exZ bs)
set_option maxRecDepth 100000 in
set_option maxHeartbeats 600000 in
theorem exact_any (bs : List Nat) (v : Value) (w : World) (hb : ∀ b ∈ bs, b < 18446744073709551616) (hl : bs.length ≤ 65536) (hr : Rd w v (flt bs)) : Calls Try.prog 14 #[v] w fun e w' => e = .returned (.tuple #[.float .f64 (exB bs), .int .i64 0]) ∧ Below w.heap.size w w' := by
  obtain ⟨a0, c0, rfl, h0⟩ := hr
  rw [flt_len] at h0 ⊢
  obtain ⟨hz, hi⟩ := zero_of_info info58
  clear hi
  have hl2 : (bs.length : Int) ≤ 65536 := by omega
  have HZ := exZ_small hl
  have k41 : ∀ w' , ExAt w' w.heap.size 69 (fun _ => none) (exF bs) (exZ bs) → Calls Try.prog 52 #[.pointer (some ⟨w.heap.size, 0, none⟩)] w' fun e w'' => e = .returned (.float .f64 (exB bs)) ∧ Below w'.heap.size w' w'' := fun w' h => sumR_any _ _ _ _ _ _ h HZ
  replace k41 : Hid _ := k41
  clear HZ
  replace h0 : Hid _ := h0
  replace hb : Hid _ := hb
  have E0 : Hid (ExAt (w.alloc (.cells (mkW (Array.replicate 71 (.bool false)) fun _ => 0) 69)) w.heap.size 69 (fun _ => none) ⟨false, false, false, false, false⟩ 0) := ex_new w
  have B0 : Hid (Below w.heap.size w (w.alloc (.cells (mkW (Array.replicate 71 (.bool false)) fun _ => 0) 69))) := (Below.refl _ _).alloc (Nat.le_refl _) _
  go_enter Try.func14, Try.ntmps14
  generalize exB bs = X at *
  go_wp2_with fail
  go_loopw [12] (fun x wr => ∃ k : Nat, k ≤ bs.length ∧ x = .int .i64 (k : Int) ∧ Hid (ExAt wr w.heap.size 69 (fun _ => none) (exF (bs.take k)) (exZ (bs.take k))) ∧ Hid (Below w.heap.size w wr)) (fun x _ => bs.length - (intOf x).toNat)
  case atStart => exact ⟨0, by omega, rfl, E0.out, B0.out⟩
  case round =>
    clear E0 B0 hz
    obtain ⟨k, hk, rfl, hE, hB⟩ := hrel
    by_cases ck : k < bs.length
    · have k2 : (k : Int) < (bs.length : Int) := by omega
      obtain ⟨g, off, rfl, hd⟩ := h0.out (by omega)
      have hc := hd k ck
      rw [flt_get bs k ck] at hc
      have hc2 : wr.cell? ⟨g, off + k, none⟩ = some (.float .f64 (bs.getD k 0)) := (hB.out.cell (p := ⟨g, off + k, none⟩) (by simpa using World.block_lt_of_cell? w _ hc)).trans hc
      have k40 := fun w' (h : ExAt w' w.heap.size 69 (fun _ => none) (exF (bs.take k)) (exZ (bs.take k))) => add_any (bs.getD k 0) 4607182418800017408 w.heap.size 69 _ _ _ w' (getD_lt hb.out k ck) (by decide) h
      replace k40 : Hid _ := k40
      have HT : Hid (bs.take (k + 1) = bs.take k ++ [bs.getD k 0]) := take_snoc bs k ck
      clear hc hd
      generalize bs.getD k 0 = x at *
      go_wp2_with fail
      refine Calls.mono (k40.out wr hE.out) ?_
      rintro e w1 ⟨rfl, E1, G1⟩
      have hB1 : Hid (Below w.heap.size w w1) := below_of_grown hB.out (Nat.le_refl _) G1
      replace E1 : Hid (ExAt w1 w.heap.size 69 (fun _ => none) ((exF (bs.take k)).add (pt 52 11 1023 x) one64) (exZ (bs.take k) + prod (pt 52 11 1023 x) one64)) := E1
      clear G1 k40
      go_wp2
      refine ⟨⟨k + 1, by omega, by go_num, ?_, hB1.out⟩, by simp [intOf]; omega⟩
      rw [HT.out, exF_snoc, exZ_snoc]
      exact E1.out
    · have k2 : ¬ (k : Int) < (bs.length : Int) := by omega
      have e : k = bs.length := by omega
      replace hE : Hid (ExAt wr w.heap.size 69 (fun _ => none) (exF bs) (exZ bs)) := by have := hE.out; rw [e, List.take_length] at this; exact this
      clear e
      go_wp2_with fail
      refine Calls.mono (k41.out wr hE.out) ?_
      rintro e w1 ⟨rfl, b1⟩
      have hB1 : Hid (Below w.heap.size w w1) := hB.out.trans (b1.mono hB.out.size)
      clear b1
      go_wp2
      go_ret2
      exact ⟨rfl, hB1.out⟩
theorem one_one : exB [4607182418800017408, 4607182418800017408] = 4611686018427387904 := by decide +kernel
set_option maxRecDepth 100000 in
set_option maxHeartbeats 600000 in
theorem awake_any (w : World) : Calls Try.prog 9 #[] w fun e w' => e = .returned (.bool true) ∧ Below w.heap.size w w' := by
  have hx := one_one
  have k25 : ∀ w', w'.heap[w.heap.size]? = some (.cells #[.float .f64 4607182418800017408, .float .f64 4607182418800017408] 22 (0, 0)) → Calls Try.prog 14 #[.slice (some ⟨w.heap.size, 0, none⟩) 2 2] w' fun e w'' => e = .returned (.tuple #[.float .f64 4611686018427387904, .int .i64 0]) ∧ Below w'.heap.size w' w'' := fun w' hc => by
    have := exact_any [4607182418800017408, 4607182418800017408] (.slice (some ⟨w.heap.size, 0, none⟩) 2 2) w' (by decide) (by decide) ⟨_, _, rfl, fun _ => ⟨_, _, rfl, fun j hj => ?_⟩⟩
    · rw [one_one] at this
      exact this
    · rw [cell_of_row _ _ _ _ _ _ hc]
      match j, hj with
      | 0, _ => rfl
      | 1, _ => rfl
  replace k25 : Hid _ := k25
  clear hx
  go_enter Try.func9, Try.ntmps9
  have ho : FloatKind.f64.format.order 4611686018427387904 4611686018427387904 = some .eq := by decide +kernel
  go_wp2_with fail
  refine Calls.mono (k25.out _ (heap_alloc_last _ _)) ?_
  rintro e w1 ⟨rfl, b1⟩
  have hB1 : Hid (Below w.heap.size w w1) := ((Below.refl _ _).alloc (Nat.le_refl _) _).trans (b1.mono (by simp))
  clear b1
  go_wp2
  go_ret
  exact ⟨rfl, hB1.out⟩
end Go.Proofs.Ytdhfkdopcphjlab

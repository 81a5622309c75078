/-
  The contract of the document's First: the first piece of a text that is not empty.
-/
import Derived.Test.YtabofadjnbpjkabDoorSta
namespace Go.Proofs.YtabofadjnbpjkabDoor
open Go.RowKit Go.Lib
theorem agg_eq {a b : Int} {x y z : Value} (h : a = b) : Ending.returned (.agg #[x, y, .int .i32 a, z]) = .returned (.agg #[x, y, .int .i32 b, z]) := by rw [h]
/-- The first piece, as a struct's cells. -/
def fcs (n b0 b1 b2 b3 : Nat) : Array Value := #[.int .i64 0, .int .i64 (stN n b0 b1 b2 b3), .int .i32 (ruN n b0 b1 b2 b3), .bool (wrN n b0 b1 b2 b3)]
set_option maxRecDepth 100000 in
set_option maxHeartbeats 1000000 in
theorem first_wrong (s : ByteArray) (w : World) (hs : s.size ≤ 140737488351232) (h1 : 1 ≤ s.size) (hw : wrN s.size (byt s 0) (byt s 1) (byt s 2) (byt s 3) = true) :
    Calls Tryd.prog 52 #[.string s] w fun e w' => e = .returned (.agg #[.int .i64 0, .int .i64 (stN s.size (byt s 0) (byt s 1) (byt s 2) (byt s 3)), .int .i32 65533, .bool true]) ∧ Below w.heap.size w w' := by
  have key := fun w => stands_any s w hs h1
  rw [wr_iff] at hw
  obtain ⟨st, hst0⟩ : ∃ st, stN s.size (byt s 0) (byt s 1) (byt s 2) (byt s 3) = st := ⟨_, rfl⟩
  obtain ⟨sz, hsz0⟩ : ∃ sz, szN (byt s 0) = sz := ⟨_, rfl⟩
  simp only [hst0, hsz0] at key
  rw [hst0, hsz0] at hw
  rw [hst0]
  have hne : ((st : Int) == (sz : Int)) = false := beq_false_of_ne (by omega)
  clear hst0 hsz0
  go_enter Tryd.func52, Tryd.ntmps52
  go_wp2_with (go_at_call 60; refine (key _).mono ?_; rintro e w' ⟨rfl, rfl⟩)
  exact bodyPost_ret (v := .agg #[.int .i64 0, .int .i64 st, .int .i32 65533, .bool true]) (by simp [results, Tryd.results52, go_sem]) rfl ⟨rfl, ((Below.refl _ w).alloc (Nat.le_refl _) _)⟩
set_option maxRecDepth 100000 in
set_option maxHeartbeats 2000000 in
theorem first_1 (s : ByteArray) (w : World) (b0 : Nat) (h1 : 0 < s.size) (e0 : byt s 0 = b0) (hb : b0 < 128)
    (key : ∀ w, Calls Tryd.prog 60 #[.string s] w fun e w' => e = .returned (.tuple #[.int .i64 1, .int .i64 1]) ∧ w' = w) :
    ∃ r : Int, r = (b0 : Int) ∧ Calls Tryd.prog 52 #[.string s] w fun e w' => e = .returned (.agg #[.int .i64 0, .int .i64 1, .int .i32 r, .bool false]) ∧ Below w.heap.size w w' := by
  have z0 := byt_eq s 0 h1
  rw [e0] at z0
  have i0 : (0 : Int) < (s.size : Int) := by omega
  clear e0
  refine ⟨_, rfl, ?_⟩
  go_enter Tryd.func52, Tryd.ntmps52
  go_wp2_with (go_at_call 60; refine (key _).mono ?_; rintro e w' ⟨rfl, rfl⟩)
  refine wp_loop_rounds 1 ?_
  rw [rounds_succ]
  go_wp2
  exact bodyPost_ret (v := .agg #[.int .i64 0, .int .i64 1, .int .i32 (b0 : Int), .bool false]) (by simp [results, Tryd.results52, go_sem]) rfl ⟨agg_eq (by omega), (Below.refl _ w).alloc (Nat.le_refl _) _⟩
set_option maxRecDepth 100000 in
set_option maxHeartbeats 2000000 in
theorem first_2 (s : ByteArray) (w : World) (b0 b1 : Nat) (h1 : 0 < s.size) (e0 : byt s 0 = b0) (hb : 194 ≤ b0) (hb2 : b0 ≤ 223) (hs1 : 1 < s.size) (e1 : byt s 1 = b1) (l1 : 128 ≤ b1) (u1 : b1 ≤ 191)
    (key : ∀ w, Calls Tryd.prog 60 #[.string s] w fun e w' => e = .returned (.tuple #[.int .i64 2, .int .i64 2]) ∧ w' = w) :
    ∃ r : Int, r = (64 * ((b0 : Int) - 192) + (b1 : Int) - 128) ∧ Calls Tryd.prog 52 #[.string s] w fun e w' => e = .returned (.agg #[.int .i64 0, .int .i64 2, .int .i32 r, .bool false]) ∧ Below w.heap.size w w' := by
  have z0 := byt_eq s 0 h1
  rw [e0] at z0
  have i0 : (0 : Int) < (s.size : Int) := by omega
  have z1 := byt_eq s 1 hs1
  rw [e1] at z1
  have i1 : (1 : Int) < (s.size : Int) := by omega
  clear e0 e1
  refine ⟨_, rfl, ?_⟩
  go_enter Tryd.func52, Tryd.ntmps52
  go_wp2_with (go_at_call 60; refine (key _).mono ?_; rintro e w' ⟨rfl, rfl⟩)
  refine wp_loop_rounds 3 ?_
  rw [rounds_succ]
  go_wp2
  rw [rounds_succ]
  go_wp2
  rw [rounds_succ]
  go_wp2
  refine wp_loop_rounds 2 ?_
  rw [rounds_succ]
  go_wp2
  rw [rounds_succ]
  go_wp2
  exact bodyPost_ret (v := .agg #[.int .i64 0, .int .i64 2, .int .i32 (64 * ((b0 : Int) - 128 - 64) + (b1 : Int) - 128), .bool false]) (by simp [results, Tryd.results52, go_sem]) rfl ⟨agg_eq (by omega), (Below.refl _ w).alloc (Nat.le_refl _) _⟩
set_option maxRecDepth 100000 in
set_option maxHeartbeats 2000000 in
theorem first_3 (s : ByteArray) (w : World) (b0 b1 b2 : Nat) (h1 : 0 < s.size) (e0 : byt s 0 = b0) (hb : 224 ≤ b0) (hb2 : b0 ≤ 239) (hs1 : 1 < s.size) (e1 : byt s 1 = b1) (l1 : 128 ≤ b1) (u1 : b1 ≤ 191) (hs2 : 2 < s.size) (e2 : byt s 2 = b2) (l2 : 128 ≤ b2) (u2 : b2 ≤ 191)
    (key : ∀ w, Calls Tryd.prog 60 #[.string s] w fun e w' => e = .returned (.tuple #[.int .i64 3, .int .i64 3]) ∧ w' = w) :
    ∃ r : Int, r = (64 * (64 * ((b0 : Int) - 224) + (b1 : Int) - 128) + (b2 : Int) - 128) ∧ Calls Tryd.prog 52 #[.string s] w fun e w' => e = .returned (.agg #[.int .i64 0, .int .i64 3, .int .i32 r, .bool false]) ∧ Below w.heap.size w w' := by
  have z0 := byt_eq s 0 h1
  rw [e0] at z0
  have i0 : (0 : Int) < (s.size : Int) := by omega
  have z1 := byt_eq s 1 hs1
  rw [e1] at z1
  have i1 : (1 : Int) < (s.size : Int) := by omega
  have z2 := byt_eq s 2 hs2
  rw [e2] at z2
  have i2 : (2 : Int) < (s.size : Int) := by omega
  clear e0 e1 e2
  refine ⟨_, rfl, ?_⟩
  go_enter Tryd.func52, Tryd.ntmps52
  go_wp2_with (go_at_call 60; refine (key _).mono ?_; rintro e w' ⟨rfl, rfl⟩)
  refine wp_loop_rounds 4 ?_
  rw [rounds_succ]
  go_wp2
  rw [rounds_succ]
  go_wp2
  rw [rounds_succ]
  go_wp2
  rw [rounds_succ]
  go_wp2
  refine wp_loop_rounds 3 ?_
  rw [rounds_succ]
  go_wp2
  rw [rounds_succ]
  go_wp2
  rw [rounds_succ]
  go_wp2
  exact bodyPost_ret (v := .agg #[.int .i64 0, .int .i64 3, .int .i32 (64 * (64 * ((b0 : Int) - 128 - 64 - 32) + (b1 : Int) - 128) + (b2 : Int) - 128), .bool false]) (by simp [results, Tryd.results52, go_sem]) rfl ⟨agg_eq (by omega), (Below.refl _ w).alloc (Nat.le_refl _) _⟩
set_option maxRecDepth 100000 in
set_option maxHeartbeats 2000000 in
theorem first_4 (s : ByteArray) (w : World) (b0 b1 b2 b3 : Nat) (h1 : 0 < s.size) (e0 : byt s 0 = b0) (hb : 240 ≤ b0) (hb2 : b0 ≤ 244) (hs1 : 1 < s.size) (e1 : byt s 1 = b1) (l1 : 128 ≤ b1) (u1 : b1 ≤ 191) (hs2 : 2 < s.size) (e2 : byt s 2 = b2) (l2 : 128 ≤ b2) (u2 : b2 ≤ 191) (hs3 : 3 < s.size) (e3 : byt s 3 = b3) (l3 : 128 ≤ b3) (u3 : b3 ≤ 191)
    (key : ∀ w, Calls Tryd.prog 60 #[.string s] w fun e w' => e = .returned (.tuple #[.int .i64 4, .int .i64 4]) ∧ w' = w) :
    ∃ r : Int, r = (64 * (64 * (64 * ((b0 : Int) - 240) + (b1 : Int) - 128) + (b2 : Int) - 128) + (b3 : Int) - 128) ∧ Calls Tryd.prog 52 #[.string s] w fun e w' => e = .returned (.agg #[.int .i64 0, .int .i64 4, .int .i32 r, .bool false]) ∧ Below w.heap.size w w' := by
  have z0 := byt_eq s 0 h1
  rw [e0] at z0
  have i0 : (0 : Int) < (s.size : Int) := by omega
  have z1 := byt_eq s 1 hs1
  rw [e1] at z1
  have i1 : (1 : Int) < (s.size : Int) := by omega
  have z2 := byt_eq s 2 hs2
  rw [e2] at z2
  have i2 : (2 : Int) < (s.size : Int) := by omega
  have z3 := byt_eq s 3 hs3
  rw [e3] at z3
  have i3 : (3 : Int) < (s.size : Int) := by omega
  clear e0 e1 e2 e3
  refine ⟨_, rfl, ?_⟩
  go_enter Tryd.func52, Tryd.ntmps52
  go_wp2_with (go_at_call 60; refine (key _).mono ?_; rintro e w' ⟨rfl, rfl⟩)
  refine wp_loop_rounds 5 ?_
  rw [rounds_succ]
  go_wp2
  rw [rounds_succ]
  go_wp2
  rw [rounds_succ]
  go_wp2
  rw [rounds_succ]
  go_wp2
  rw [rounds_succ]
  go_wp2
  refine wp_loop_rounds 4 ?_
  rw [rounds_succ]
  go_wp2
  rw [rounds_succ]
  go_wp2
  rw [rounds_succ]
  go_wp2
  rw [rounds_succ]
  go_wp2
  exact bodyPost_ret (v := .agg #[.int .i64 0, .int .i64 4, .int .i32 (64 * (64 * (64 * ((b0 : Int) - 128 - 64 - 32 - 16) + (b1 : Int) - 128) + (b2 : Int) - 128) + (b3 : Int) - 128), .bool false]) (by simp [results, Tryd.results52, go_sem]) rfl ⟨agg_eq (by omega), (Below.refl _ w).alloc (Nat.le_refl _) _⟩
theorem right_two (n b0 b1 b2 b3 : Nat) (hw : wrN n b0 b1 b2 b3 = false) (hz : 2 ≤ szN b0) : 2 ≤ n ∧ 128 ≤ b1 ∧ b1 ≤ 191 := by
  rw [wr_not] at hw
  have hl : 128 ≤ loN b0 := by unfold loN; repeat' split
                               all_goals omega
  have hh : hiN b0 ≤ 191 := by unfold hiN; repeat' split
                               all_goals omega
  unfold stN at hw
  repeat' split at hw
  all_goals omega
theorem right_three (n b0 b1 b2 b3 : Nat) (hw : wrN n b0 b1 b2 b3 = false) (hz : 3 ≤ szN b0) : 3 ≤ n ∧ 128 ≤ b2 ∧ b2 ≤ 191 := by
  rw [wr_not] at hw
  unfold stN at hw
  repeat' split at hw
  all_goals omega
theorem right_four (n b0 b1 b2 b3 : Nat) (hw : wrN n b0 b1 b2 b3 = false) (hz : 4 ≤ szN b0) : 4 ≤ n ∧ 128 ≤ b3 ∧ b3 ≤ 191 := by
  rw [wr_not] at hw
  unfold stN at hw
  repeat' split at hw
  all_goals omega
theorem first_any (s : ByteArray) (w : World) (hs : s.size ≤ 140737488351232) (h1 : 1 ≤ s.size) :
    Calls Tryd.prog 52 #[.string s] w fun e w' => e = .returned (.agg (fcs s.size (byt s 0) (byt s 1) (byt s 2) (byt s 3))) ∧ Below w.heap.size w w' := by
  cases hw : wrN s.size (byt s 0) (byt s 1) (byt s 2) (byt s 3)
  · have key := fun w => stands_any s w hs h1
    have hst := hw
    rw [wr_not] at hst
    have hr : ruN s.size (byt s 0) (byt s 1) (byt s 2) (byt s 3) = if szN (byt s 0) = 1 then (byt s 0) else if szN (byt s 0) = 2 then ((byt s 0) - 192) * 64 + ((byt s 1) - 128) else if szN (byt s 0) = 3 then ((byt s 0) - 224) * 4096 + ((byt s 1) - 128) * 64 + ((byt s 2) - 128) else ((byt s 0) - 240) * 262144 + ((byt s 1) - 128) * 4096 + ((byt s 2) - 128) * 64 + ((byt s 3) - 128) := by
      unfold ruN; rw [hw]; simp
    unfold fcs
    rw [hw, hr, hst]
    simp only [hst] at key
    have hle := st_le s.size (byt s 0) (byt s 1) (byt s 2) (byt s 3) h1
    rcases sz_cases (byt s 0) with ⟨hb, e⟩ | ⟨hb, hb2, e⟩ | ⟨hb, hb2, e⟩ | ⟨hb, hb2, e⟩ | ⟨_, e⟩
    · rw [e] at key ⊢
      obtain ⟨r, hr, k⟩ := first_1 s w (byt s 0) (by omega) rfl hb key
      rw [hr] at k
      exact k
    · have q1 := right_two _ _ _ _ _ hw (by omega)
      rw [e] at key ⊢
      obtain ⟨r, hr, k⟩ := first_2 s w (byt s 0) (byt s 1) (by omega) rfl hb hb2 (by omega) rfl q1.2.1 q1.2.2 key
      have : (((byt s 0 - 192) * 64 + (byt s 1 - 128) : Nat) : Int) = r := by omega
      simp only [show (2 : Nat) ≠ 1 by omega, if_false, if_true]
      rw [this]
      exact k
    · have q1 := right_two _ _ _ _ _ hw (by omega)
      have q2 := right_three _ _ _ _ _ hw (by omega)
      rw [e] at key ⊢
      obtain ⟨r, hr, k⟩ := first_3 s w (byt s 0) (byt s 1) (byt s 2) (by omega) rfl hb hb2 (by omega) rfl q1.2.1 q1.2.2 (by omega) rfl q2.2.1 q2.2.2 key
      have : (((byt s 0 - 224) * 4096 + (byt s 1 - 128) * 64 + (byt s 2 - 128) : Nat) : Int) = r := by omega
      simp only [show (3 : Nat) ≠ 1 by omega, show (3 : Nat) ≠ 2 by omega, if_false, if_true]
      rw [this]
      exact k
    · have q1 := right_two _ _ _ _ _ hw (by omega)
      have q2 := right_three _ _ _ _ _ hw (by omega)
      have q3 := right_four _ _ _ _ _ hw (by omega)
      rw [e] at key ⊢
      obtain ⟨r, hr, k⟩ := first_4 s w (byt s 0) (byt s 1) (byt s 2) (byt s 3) (by omega) rfl hb hb2 (by omega) rfl q1.2.1 q1.2.2 (by omega) rfl q2.2.1 q2.2.2 (by omega) rfl q3.2.1 q3.2.2 key
      have : (((byt s 0 - 240) * 262144 + (byt s 1 - 128) * 4096 + (byt s 2 - 128) * 64 + (byt s 3 - 128) : Nat) : Int) = r := by omega
      simp only [show (4 : Nat) ≠ 1 by omega, show (4 : Nat) ≠ 2 by omega, show (4 : Nat) ≠ 3 by omega, if_false]
      rw [this]
      exact k
    · omega
  · have e : fcs s.size (byt s 0) (byt s 1) (byt s 2) (byt s 3) = #[.int .i64 0, .int .i64 (stN s.size (byt s 0) (byt s 1) (byt s 2) (byt s 3)), .int .i32 65533, .bool true] := by
      unfold fcs; rw [hw]; unfold ruN; rw [hw]; simp
    rw [e]
    exact first_wrong s w hs h1 hw
end Go.Proofs.YtabofadjnbpjkabDoor

/-
  The tree of marks: newMarks, change, ahead, allMarks, find. Conditions: fewer than 4194303 places, counts that fit.
-/
import Derived.Test.YtahmeejcgddlhabPc
import Derived.Laws.MakeOwn
namespace Go.Proofs.Ytahmeejcgddlhab
open Go.RowKit
theorem made_at (z : Value) (h : z.cells = #[z]) (k j : Nat) (hj : j < k) : (madeCells z.cells k)[j]? = some z := by
  rw [h]
  simp [madeCells, hj, Nat.mod_one]
theorem info3 : (Try.prog.info? 3).map (fun i => (i.zero, i.size, i.bytes)) = some (some (.int .i64 0), 1, 8) := by kernel_rfl
theorem info21 : (Try.prog.info? 21).map (fun i => (i.zero, i.size, i.bytes)) = some (some (.int .i32 0), 1, 4) := by kernel_rfl
theorem info5 : (Try.prog.info? 5).map (fun i => (i.zero, i.size, i.bytes)) = some (some (.int .u8 0), 1, 1) := by kernel_rfl
theorem info77 : (Try.prog.info? 76).map (fun i => (i.zero, i.size, i.bytes)) = some (some (.agg #[.int .i32 0, .int .i64 0]), 2, 16) := by kernel_rfl
theorem run_mk66 (n : Nat) (w : World) (h : n < 4194304) : (Instr.makeSlice 64 (.int .i64 (n : Int)) (.int .i64 (n : Int))).run Try.prog w = .ok (.slice (some ⟨w.heap.size, 0, none⟩) n n) (w.alloc (.cells (madeCells (Value.int .i64 0).cells n) 3)) := by
  obtain ⟨i, h1, hq⟩ := Option.map_eq_some_iff.1 info3
  obtain ⟨h2, h3, h4⟩ : i.zero = some (.int .i64 0) ∧ i.size = 1 ∧ i.bytes = 8 := by simpa using hq
  have := run_makeSlice (P := Try.prog) w 64 3 i _ Try.underlying64 h1 h2 .i64 .i64 n n (by omega) (Int.le_refl _) (by rw [h3]; simp; omega) (by rw [h4]; omega) (by omega)
  rw [h3] at this
  simpa using this
theorem run_mk22 (n : Nat) (w : World) (h : n < 4194304) : (Instr.makeSlice 24 (.int .i64 (n : Int)) (.int .i64 (n : Int))).run Try.prog w = .ok (.slice (some ⟨w.heap.size, 0, none⟩) n n) (w.alloc (.cells (madeCells (Value.int .i32 0).cells n) 21)) := by
  obtain ⟨i, h1, hq⟩ := Option.map_eq_some_iff.1 info21
  obtain ⟨h2, h3, h4⟩ : i.zero = some (.int .i32 0) ∧ i.size = 1 ∧ i.bytes = 4 := by simpa using hq
  have := run_makeSlice (P := Try.prog) w 24 21 i _ Try.underlying24 h1 h2 .i64 .i64 n n (by omega) (Int.le_refl _) (by rw [h3]; simp; omega) (by rw [h4]; omega) (by omega)
  rw [h3] at this
  simpa using this
set_option maxRecDepth 100000 in
theorem newm_any (n : Nat) (w : World) (h : n < 4194303) : Calls Try.prog 48 #[.int .i64 (n : Int)] w fun e w' => e = .returned (.slice (some ⟨w.heap.size, 0, none⟩) (n + 1) (n + 1)) ∧ Cel .i64 w' w.heap.size (n + 1) (fun _ => 0) ∧ Below w.heap.size w w' := by
  have hm := run_mk66 (n + 1) w (by omega)
  rw [show ((n + 1 : Nat) : Int) = (n : Int) + 1 by omega] at hm
  have HC : Hid (Cel .i64 (w.alloc (.cells (madeCells (Value.int .i64 0).cells (n + 1)) 3)) w.heap.size (n + 1) (fun _ => 0)) := Cel.new w _ 3 fun j hj => made_at _ rfl _ j hj
  have HB : Hid (Below w.heap.size w (w.alloc (.cells (madeCells (Value.int .i64 0).cells (n + 1)) 3))) := (Below.refl w.heap.size w).alloc (Nat.le_refl _) _
  generalize w.alloc (.cells (madeCells (Value.int .i64 0).cells (n + 1)) 3) = W at *
  have h2 : (n : Int) < 4194303 := by omega
  go_enter Try.func48, Try.ntmps48
  go_wp2
  go_ret
  exact ⟨rfl, HC.out, HB.out⟩
/-- Only block b is written. -/
def Only (b : Nat) (w w' : World) : Prop := w.grownBy w' (some b)
theorem Only.refl (b : Nat) (w : World) : Only b w w := ⟨rfl, rfl, rfl, Nat.le_refl _, fun _ _ _ => rfl⟩
theorem Only.set {b : Nat} {w w' : World} (h : Only b w w') (k : Nat) (v : Value) : Only b w (w'.setCell ⟨b, k, none⟩ v) := by
  obtain ⟨h1, h2, h3, h4, h5⟩ := h
  refine ⟨h1, h2, h3, by simpa using h4, fun j hj hn => ?_⟩
  rw [← h5 j hj hn]
  exact Below.heap_setCell w' _ _ j (fun e => hn (by rw [e]))
theorem chF_keep (n : Nat) (by_ : Int) : ∀ (t i : Nat) (f : Nat → Int) (j : Nat), j < i → chF n by_ t i f j = f j
  | 0, _, _, _, _ => rfl
  | t + 1, i, f, j, h => by
    rw [chF]
    by_cases c : i < n
    · rw [if_pos c, chF_keep n by_ t _ _ j (by omega), if_neg (by omega)]
    · rw [if_neg c]
set_option maxRecDepth 100000 in
set_option maxHeartbeats 2000000 in
theorem change_any (b n i0 : Nat) (by_ : Int) (f0 : Nat → Int) (w : World) (hn : n < 4194304) (hi : i0 < 4194304) (hb1 : -4194304 ≤ by_) (hb2 : by_ ≤ 4194304) (hf : ∀ j, j < n → -4194304 ≤ f0 j ∧ f0 j ≤ 4194304) (hC : Cel .i64 w b n f0) : Calls Try.prog 42 #[.slice (some ⟨b, 0, none⟩) n n, .int .i64 (i0 : Int), .int .i64 by_] w fun e w' => e = .returned (.tuple #[]) ∧ Cel .i64 w' b n (chF n by_ n (i0 + 1) f0) ∧ Only b w w' := by
  have hi2 : (i0 : Int) < 4194304 := by omega
  have hn2 : (n : Int) < 4194304 := by omega
  replace hf : Hid (∀ j, j < n → -4194304 ≤ f0 j ∧ f0 j ≤ 4194304) := hf
  replace hC : Hid (Cel .i64 w b n f0) := hC
  obtain ⟨F, hF⟩ : ∃ F, Hid (chF n by_ n (i0 + 1) f0 = F) := ⟨_, rfl⟩
  rw [hF.out]
  go_enter Try.func42, Try.ntmps42
  go_wp2
  go_loopw [6] (fun x wr => ∃ i : Nat, x = .int .i64 (i : Int) ∧ Hid (∃ (t : Nat) (f : Nat → Int), 1 ≤ i ∧ i < 8388608 ∧ n ≤ t + i ∧ chF n by_ t i f = F ∧ (∀ j, i ≤ j → f j = f0 j) ∧ Cel .i64 wr b n f ∧ Only b w wr)) (fun x _ => 8388608 - (RowKit.intOf x).toNat)
  case atStart => exact ⟨i0 + 1, by simp, n, f0, by omega, by omega, by omega, hF.out, fun _ _ => rfl, hC.out, Only.refl _ _⟩
  case round =>
    clear hF hC
    obtain ⟨i, rfl, t, f, g1, g2, g3, g4, g5, g6, g7⟩ := hrel
    by_cases c : i < n
    · have c1 : (i : Int) < (n : Int) := by omega
      have c2 : decide ((i : Int) < (n : Int)) = true := decide_eq_true c1
      obtain ⟨t, rfl⟩ : ∃ t', t = t' + 1 := ⟨t - 1, by omega⟩
      obtain ⟨x1, x2⟩ := g6 i c
      have hv := hf.out i c
      rw [← g5 i (Nat.le_refl _)] at hv
      have l1 := lb_pos (i := i) (by omega) (by omega)
      have l2 := lb_le i
      have k1 := fun w => lastBit_any i w (by omega)
      rw [chF, if_pos c] at g4
      have HE : Hid (∃ (t' : Nat) (f' : Nat → Int), 1 ≤ i + lb i ∧ i + lb i < 8388608 ∧ n ≤ t' + (i + lb i) ∧ chF n by_ t' (i + lb i) f' = F ∧ (∀ j, i + lb i ≤ j → f' j = f0 j) ∧ Cel .i64 (wr.setCell ⟨b, i, none⟩ (.int .i64 (f i + by_))) b n f' ∧ Only b w (wr.setCell ⟨b, i, none⟩ (.int .i64 (f i + by_)))) :=
        ⟨t, _, by omega, by omega, by omega, g4, fun j hj => by rw [if_neg (by omega)]; exact g5 j (by omega), Cel.set g6 i _, g7.set _ _⟩
      clear g3 g4 g5 g6 g7 hf
      generalize f i = V at *
      generalize lb i = L at *
      have l3 : (L : Int) ≤ (i : Int) := by omega
      have l4 : (i : Int) < 8388608 := by omega
      obtain ⟨v1, v2⟩ := hv
      go_wp2_with (go_at_call 52; refine (k1 _).mono ?_; rintro e w' ⟨rfl, rfl⟩)
      refine ⟨⟨i + L, by simp, HE⟩, ?_⟩
      simp [RowKit.intOf]; omega
    · have c1 : ¬ (i : Int) < (n : Int) := by omega
      have c2 : decide ((i : Int) < (n : Int)) = false := decide_eq_false c1
      have g8 : Hid (Cel .i64 wr b n F) := by
        rw [Hid, ← g4]
        cases t with
        | zero => exact g6
        | succ t => rw [chF, if_neg c]; exact g6
      have g9 : Hid (Only b w wr) := g7
      clear g4 g5 g6 g7 hf
      go_wp2
      go_end0
      exact ⟨rfl, g8.out, g9.out⟩
/-- How many are ahead, as the tree has it. -/
def ahF (f : Nat → Int) : Nat → Nat → Int → Int
  | 0, _, a => a
  | t + 1, i, a => if 0 < i then ahF f t (i - lb i) (a + f i) else a
set_option maxRecDepth 100000 in
set_option maxHeartbeats 2000000 in
theorem ahead_any (b n i0 : Nat) (f : Nat → Int) (w : World) (hn : n < 4194304) (hi : i0 < n) (hf : ∀ j, j < n → -4194304 ≤ f j ∧ f j ≤ 4194304) (hC : Cel .i64 w b n f) : Calls Try.prog 39 #[.slice (some ⟨b, 0, none⟩) n n, .int .i64 (i0 : Int)] w fun e w' => e = .returned (.int .i64 (ahF f i0 i0 0)) ∧ w' = w := by
  have hi2 : (i0 : Int) < 4194304 := by omega
  have hn2 : (n : Int) < 4194304 := by omega
  replace hf : Hid (∀ j, j < n → -4194304 ≤ f j ∧ f j ≤ 4194304) := hf
  replace hC : Hid (Cel .i64 w b n f) := hC
  obtain ⟨F, hF⟩ : ∃ F, Hid (ahF f i0 i0 0 = F) := ⟨_, rfl⟩
  rw [hF.out]
  go_enter Try.func39, Try.ntmps39
  go_wp2
  go_loopw [5, 6] (fun y x wr => ∃ (i : Nat) (a : Int), x = .int .i64 (i : Int) ∧ y = .int .i64 a ∧ Hid (∃ (t : Nat), i < n ∧ i ≤ t ∧ ahF f t i a = F ∧ -17592186044416 + 4194304 * (i : Int) ≤ a ∧ a + 4194304 * (i : Int) ≤ 17592186044416) ∧ Hid (wr = w)) (fun _ x _ => (RowKit.intOf x).toNat)
  case atStart => exact ⟨i0, 0, rfl, rfl, ⟨i0, hi, Nat.le_refl _, hF.out, by omega, by omega⟩, rfl⟩
  case round =>
    clear hF
    obtain ⟨i, a, rfl, rfl, ⟨t, g1, g2, g3, g4, g5⟩, g6⟩ := hrel
    rw [Hid] at g6
    subst g6
    by_cases c : 0 < i
    · have c1 : (0 : Int) < (i : Int) := by omega
      have c2 : decide ((0 : Int) < (i : Int)) = true := decide_eq_true c1
      obtain ⟨t, rfl⟩ : ∃ t', t = t' + 1 := ⟨t - 1, by omega⟩
      obtain ⟨x1, -⟩ := hC.out i g1
      obtain ⟨v1, v2⟩ := hf.out i g1
      have l1 := lb_pos (i := i) (by omega) (by omega)
      have l2 := lb_le i
      have k1 := fun w => lastBit_any i w (by omega)
      rw [ahF, if_pos c] at g3
      have e1 : ((i - lb i : Nat) : Int) = (i : Int) - (lb i : Int) := by omega
      have HE : Hid (∃ (t : Nat), i - lb i < n ∧ i - lb i ≤ t ∧ ahF f t (i - lb i) (a + f i) = F ∧ -17592186044416 + 4194304 * ((i - lb i : Nat) : Int) ≤ a + f i ∧ a + f i + 4194304 * ((i - lb i : Nat) : Int) ≤ 17592186044416) :=
        ⟨t, by omega, by omega, g3, by omega, by omega⟩
      have a1 : -17592186044416 ≤ a := by omega
      have a2 : a ≤ 17592186044416 := by omega
      have i3 : (i : Int) < (n : Int) := by omega
      clear g3 g4 g5 hf hC
      generalize f i = V at *
      generalize hLL : lb i = L at *
      have l3 : (L : Int) ≤ (i : Int) := by omega
      go_wp2_with (go_at_call 52; refine (k1 _).mono ?_; rintro e w' ⟨rfl, rfl⟩)
      refine ⟨⟨i - L, _, by rw [e1], rfl, HE, by first | exact trivial | exact rfl⟩, ?_⟩
      simp [RowKit.intOf]; omega
    · obtain rfl : i = 0 := by omega
      have g8 : a = F := by
        rw [← g3]
        cases t with
        | zero => rfl
        | succ t => rw [ahF, if_neg c]
      subst g8
      clear g3 g4 g5 hf hC
      go_wp2
      go_ret
      exact ⟨rfl, rfl⟩
set_option maxRecDepth 100000 in
set_option maxHeartbeats 2000000 in
theorem allm_any (n : Nat) (w : World) (h : n < 4194303) : Calls Try.prog 46 #[.int .i64 (n : Int)] w fun e w' => e = .returned (.slice (some ⟨w.heap.size, 0, none⟩) (n + 1) (n + 1)) ∧ Cel .i64 w' w.heap.size (n + 1) (fun j => (lb j : Int)) ∧ Below w.heap.size w w' := by
  have h2 : (n : Int) < 4194303 := by omega
  have k0 := fun w => newm_any n w h
  go_enter Try.func46, Try.ntmps46
  go_wp2_with (go_at_call 48; refine (k0 _).mono ?_)
  first | rintro e w1 rfl c1 b1 | rintro e w1 ⟨rfl, c1, b1⟩
  replace c1 : Hid (Cel .i64 w1 w.heap.size (n + 1) (fun _ => 0)) := c1
  replace b1 : Hid (Below w.heap.size w w1) := b1
  clear k0
  go_wp2
  go_loopw [9] (fun x wr => ∃ k : Nat, x = .int .i64 (k : Int) ∧ k ≤ n + 1 ∧ Hid (∃ f : Nat → Int, (∀ j, j < k → f j = (lb j : Int)) ∧ Cel .i64 wr w.heap.size (n + 1) f) ∧ Hid (Below w.heap.size w wr)) (fun x _ => n + 1 - (RowKit.intOf x).toNat)
  case atStart => exact ⟨0, rfl, by omega, ⟨_, fun j hj => by omega, c1.out⟩, b1⟩
  case round =>
    clear c1 b1
    obtain ⟨k, rfl, hk, ⟨f, g1, g2⟩, g3⟩ := hrel
    by_cases c : k < n + 1
    · have c1 : (k : Int) < (n : Int) + 1 := by omega
      have c2 : decide ((k : Int) < (n : Int) + 1) = true := decide_eq_true c1
      obtain ⟨x1, x2⟩ := g2 k c
      have k1 := fun w => lastBit_any k w (by omega)
      have HE : Hid (∃ f : Nat → Int, (∀ j, j < k + 1 → f j = (lb j : Int)) ∧ Cel .i64 (wr.setCell ⟨w.heap.size, k, none⟩ (.int .i64 (lb k : Int))) w.heap.size (n + 1) f) :=
        ⟨_, fun j hj => by
          by_cases e : j = k
          · rw [if_pos e, e]
          · rw [if_neg e]; exact g1 j (by omega), Cel.set g2 k _⟩
      have HB : Hid (Below w.heap.size w (wr.setCell ⟨w.heap.size, k, none⟩ (.int .i64 (lb k : Int)))) := g3.out.setCell (by simp) _
      clear g1 g2 g3
      generalize (lb k : Int) = L at *
      go_wp2_with (go_at_call 52; refine (k1 _).mono ?_; rintro e w' ⟨rfl, rfl⟩)
      refine ⟨⟨k + 1, by simp, by omega, HE, HB⟩, ?_⟩
      simp [RowKit.intOf]; omega
    · obtain rfl : k = n + 1 := by omega
      have g8 : Hid (Cel .i64 wr w.heap.size (n + 1) (fun j => (lb j : Int))) := Cel.congr g2 g1
      clear g1 g2
      go_wp2
      go_ret
      exact ⟨rfl, g8.out, g3.out⟩
end Go.Proofs.Ytahmeejcgddlhab

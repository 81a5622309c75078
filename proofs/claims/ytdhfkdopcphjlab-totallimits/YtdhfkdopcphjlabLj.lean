/-
  The contracts of Prefix, Mean, Dot and ExactDot, as far as the error goes; a float made shorter. Conditions: the lists read as floats.
-/
import Derived.Test.YtdhfkdopcphjlabLi
import Derived.OwnWalk
import Derived.Maps.AppendAt
import Derived.Deep.DeepMust
namespace Go.Proofs.Ytdhfkdopcphjlab
open Go.RowKit
theorem run_store_float {P : Program} {w : World} (a : Addr) (m : Mode) (k : FloatKind) (b : Nat) : (store a (.float k b) m).run P w = stored P w a (.float k b) m := run_store P w a _ m rfl
attribute [local go_sem] run_store_float
theorem owns_cell2 {W : World} {b e size n : Nat} {v : Value} {xs : List Value} (h : W.ownsRow b e size v n xs) {g cap : Nat} (hv : v = .slice (some ⟨g, 0, none⟩) n cap) (i : Nat) (u : Value) (hi : xs[i]? = some u) : W.cell? ⟨g, i, none⟩ = some u ∧ W.frozen? ⟨g, i, none⟩ = false := by
  refine ⟨owns_cell h hv i u hi, ?_⟩
  obtain ⟨h1, ⟨h2, _⟩ | ⟨g', cap', cur, rfl, h3, h4, h5⟩⟩ := h
  · rw [h2] at hv; cases hv
  · cases hv
    simp [World.frozen?, h4]
theorem run_cv (b : Nat) (w : World) : ∃ r w', (convert 22 26 (.float .f64 b)).run Try.prog w = .ok (.float .f32 r) w' ∧ Alike w w' := by
  have key : ∃ r w', (Conv.floatToFloat .f64 b .f32).run Try.prog w = .ok (.float .f32 r) w' ∧ Alike w w' := by
    unfold Conv.floatToFloat
    rw [if_neg (by decide)]
    split
    · exact ⟨_, { w with drawn := w.drawn + 1 }, rfl, ⟨rfl, rfl, rfl, rfl⟩⟩
    · exact ⟨_, w, rfl, Alike.refl w⟩
    · simp only
      split
      · exact ⟨_, { w with drawn := w.drawn + 1 }, rfl, ⟨rfl, rfl, rfl, rfl⟩⟩
      · exact ⟨_, w, rfl, Alike.refl w⟩
  obtain ⟨r, w', h1, h2⟩ := key
  refine ⟨r, w', ?_, h2⟩
  simp only [convert, Sem.run_bind, run_underlying Try.underlying22, run_underlying Try.underlying26, Result.andThen_ok, h1]
theorem wpList_cv {ops : Array Oper} {rest : List Oper} {o : Oper} {a : Act} {w : World} {Q : Exit → Act → World → Prop} (hgd : o.guard = none) (x : Operand) (ho : o.op = .convert 22 26 x) (p : Nat) (hx : a.eval x = .float .f64 p)
    (h : ∀ r w', Hid (Alike w w') → wpList Try.prog ops Q rest (a.put o.dst (.float .f32 r)) w') : wpList Try.prog ops Q (o :: rest) a w :=
  wpList_plain hgd fun K hK => by
    obtain ⟨r, w', h1, h3⟩ := run_cv p w
    unfold Oper.wp execOp
    simp only [ho, hx, Sem.run_bind, Sem.run_pure, Result.andThen_ok, h1]
    exact hK _ _ (h r w' h3)
set_option maxRecDepth 100000 in
set_option maxHeartbeats 600000 in
theorem prefix_w (n : Nat) (v : Value) (w : World) (hn : n ≤ 65536) (hr : RdF .f64 w v n) : Calls Try.prog 18 #[v] w fun e w' => ∃ u, e = .returned (.tuple #[u, .int .i64 0]) ∧ Below w.heap.size w w' := by
  obtain ⟨i0, hi, hz0, hz1, hz2⟩ := info_parts info25
  obtain ⟨p, c, rfl, -, h0⟩ := hr
  have hl2 : (n : Int) ≤ 65536 := by omega
  replace h0 : Hid (0 < n → ∃ g off, p = some ⟨g, off, none⟩ ∧ ∀ j, j < n → ∃ b, w.cell? ⟨g, off + j, none⟩ = some (.float .f64 b)) := h0
  go_enter Try.func18, Try.ntmps18
  go_wp2_with (at_make; refine wpList_make_full _ rfl _ _ 24 rfl w.heap.size 22 i0 _ 1 Try.underlying24 hi hz0 hz1 .i64 .i64 _ _ n rfl rfl rfl rfl (by rw [hz2]; omega) (by unfold maxLen; omega) (Nat.le_refl _) ?_)
  intro w1 hown hgrow
  have B1 : Hid (Below w.heap.size w w1) := (Below.refl _ w).grown hgrow (Nat.le_refl _) (fun k hk => by cases hk)
  have O1 : Hid (∃ xs : List Value, w1.ownsRow w.heap.size 22 1 (.slice (some ⟨w.heap.size, 0, none⟩) n n) n xs) := ⟨_, hown⟩
  clear hown hgrow hn
  go_wp2_with fail
  go_loopw [5, 16] (fun u x wr => ∃ k s : Nat, k ≤ n ∧ x = .int .i64 (k : Int) ∧ u = .float .f64 s ∧ Hid (∃ xs : List Value, wr.ownsRow w.heap.size 22 1 (.slice (some ⟨w.heap.size, 0, none⟩) n n) n xs) ∧ Hid (Below w.heap.size w wr)) (fun _ x _ => n - (intOf x).toNat)
  case atStart => exact ⟨0, 0, by omega, rfl, rfl, O1, B1⟩
  case round =>
    clear O1 B1
    obtain ⟨k, s, hk, rfl, rfl, hO, hB⟩ := hrel
    by_cases ck : k < n
    · have k2 : (k : Int) < (n : Int) := by omega
      obtain ⟨g, off, rfl, hd1⟩ := h0.out (by omega)
      obtain ⟨x, hx⟩ := hd1 k ck
      have hc2 : wr.cell? ⟨g, off + k, none⟩ = some (.float .f64 x) := (hB.out.cell (p := ⟨g, off + k, none⟩) (by simpa using World.block_lt_of_cell? w _ hx)).trans hx
      clear hx hd1
      go_wp2_with (refine wpList_flt rfl .add .f64 _ _ _ _ rfl rfl _ _ rfl rfl ?_)
      intro r w2 f1 a1
      obtain ⟨xs, hO1⟩ := hO.out
      have hO2 := owns_below hO1 (a1.out.below _)
      have hB2 := hB.out.trans (a1.out.below _)
      have hlen : xs.length = n := by have := hO2.1; omega
      obtain ⟨x0, hx0⟩ : ∃ x0, xs[k]? = some x0 := ⟨_, List.getElem?_eq_getElem (by omega)⟩
      obtain ⟨q1, q2⟩ := owns_cell2 hO2 rfl k x0 hx0
      have hst := hO2.stored k (.float .f64 r)
      have O3 : Hid (∃ xs : List Value, (w2.setCell ⟨w.heap.size, k, none⟩ (.float .f64 r)).ownsRow w.heap.size 22 1 (.slice (some ⟨w.heap.size, 0, none⟩) n n) n xs) := ⟨_, hst.1⟩
      have B3 : Hid (Below w.heap.size w (w2.setCell ⟨w.heap.size, k, none⟩ (.float .f64 r))) := hB2.setCell (p := ⟨w.heap.size, k, none⟩) (Nat.le_refl _) _
      clear hst hO1 hO2 hB2 f1 a1 hO hB hlen hx0
      go_wp2
      exact ⟨⟨k + 1, r, by omega, by go_num, rfl, O3, B3⟩, by simp [intOf]; omega⟩
    · have k2 : ¬ (k : Int) < (n : Int) := by omega
      go_wp2
      go_ret2
      first | exact ⟨_, rfl, hB.out⟩ | exact ⟨⟨_, rfl⟩, hB.out⟩
set_option maxRecDepth 100000 in
set_option maxHeartbeats 1000000 in
theorem mean_w (bs : List Nat) (v : Value) (w : World) (hb : ∀ b ∈ bs, b < 18446744073709551616) (hl : bs.length ≤ 65536) (h0 : 0 < bs.length) (hr : Rd w v (flt bs)) : Calls Try.prog 16 #[v] w fun e w' => ∃ r, e = .returned (.tuple #[.float .f64 r, .int .i64 0]) ∧ Below w.heap.size w w' := by
  have k25 := exact_any bs v w hb hl hr
  obtain ⟨a0, c0, rfl, -⟩ := hr
  rw [flt_len] at k25 ⊢
  have hl2 : (bs.length : Int) ≤ 65536 := by omega
  have hl3 : ((bs.length : Int) == 0) = false := beq_eq_false_iff_ne.2 (by omega)
  replace k25 : Hid _ := k25
  go_enter Try.func16, Try.ntmps16
  go_wp2_with fail
  refine Calls.mono k25.out ?_
  rintro e w1 ⟨rfl, b1⟩
  have B1 : Hid (Below w.heap.size w w1) := b1
  clear b1 k25
  go_wp2_with (refine wpList_flt rfl .quo .f64 _ _ _ _ rfl rfl _ _ rfl rfl ?_)
  intro r w2 f1 a1
  go_wp2
  go_ret2
  first | exact ⟨r, rfl, B1.out.trans (a1.out.below _)⟩ | exact ⟨⟨r, rfl⟩, B1.out.trans (a1.out.below _)⟩
set_option maxRecDepth 100000 in
theorem long_16 (n c : Nat) (p : Option Addr) (w : World) (hn : 65536 < n) (hn2 : n ≤ 140737488355328) : Calls Try.prog 16 #[.slice p n c] w fun e w' => e = .returned (.tuple #[.float .f64 0, .int .i64 50]) ∧ Below w.heap.size w w' := by
  have k : Hid (Calls Try.prog 14 #[.slice p n c] w fun e w' => e = .returned (.tuple #[.float .f64 0, .int .i64 50]) ∧ Below w.heap.size w w') := ex_long w n p c hn hn2
  have hl3 : ((n : Int) == 0) = false := beq_eq_false_iff_ne.2 (by omega)
  clear hn hn2
  go_enter Try.func16, Try.ntmps16
  go_wp2_with (go_at_call 14; refine k.out.mono ?_)
  first | rintro e w1 rfl b1 | rintro e w1 ⟨rfl, b1⟩
  replace b1 : Hid (Below w.heap.size w w1) := b1
  go_wp2
  go_ret2
  exact ⟨rfl, b1.out⟩
set_option maxRecDepth 100000 in
theorem paired_long (n m c d : Nat) (p q : Option Addr) (w : World) (hn : 65536 < n) (hm : m ≤ n) (hn2 : n ≤ 140737488355328) : Calls Try.prog 53 #[.slice p n c, .slice q m d] w fun e w' => e = .returned (.int .i64 50) ∧ w' = w := by
  have h1 : max (n : Int) (m : Int) = (n : Int) := by omega
  have h2 : decide ((65536 : Int) < (n : Int)) = true := decide_eq_true (by omega)
  have h3 : (65536 : Int) < (n : Int) := by omega
  clear hn hm
  go_enter Try.func53, Try.ntmps53
  go_wp2
  go_ret
  exact ⟨rfl, rfl⟩
theorem long_15 (n m c d : Nat) (p q : Option Addr) (w : World) (hn : 65536 < n) (hm : m ≤ n) (hn2 : n ≤ 140737488355328) : Calls Try.prog 15 #[.slice p n c, .slice q m d] w fun e w' => e = .returned (.tuple #[.float .f64 0, .int .i64 50]) ∧ Below w.heap.size w w' := by
  have k : Hid (Calls Try.prog 53 #[.slice p n c, .slice q m d] w fun e w' => e = .returned (.int .i64 50) ∧ w' = w) := paired_long n m c d p q w hn hm hn2
  clear hn hm hn2
  go_enter Try.func15, Try.ntmps15
  go_wp2_with (go_at_call 53; refine k.out.mono ?_)
  first | rintro e w1 rfl hw | rintro e w1 ⟨rfl, hw⟩
  rw [hw]
  go_wp2
  go_ret2
  exact ⟨rfl, Below.refl _ _⟩
theorem long_19 (n m c d : Nat) (p q : Option Addr) (w : World) (hn : 65536 < n) (hm : m ≤ n) (hn2 : n ≤ 140737488355328) : Calls Try.prog 19 #[.slice p n c, .slice q m d] w fun e w' => e = .returned (.tuple #[.float .f64 0, .int .i64 50]) ∧ Below w.heap.size w w' := by
  have k : Hid (Calls Try.prog 53 #[.slice p n c, .slice q m d] w fun e w' => e = .returned (.int .i64 50) ∧ w' = w) := paired_long n m c d p q w hn hm hn2
  clear hn hm hn2
  go_enter Try.func19, Try.ntmps19
  go_wp2_with (go_at_call 53; refine k.out.mono ?_)
  first | rintro e w1 rfl hw | rintro e w1 ⟨rfl, hw⟩
  rw [hw]
  go_wp2
  go_ret2
  exact ⟨rfl, Below.refl _ _⟩
end Go.Proofs.Ytdhfkdopcphjlab

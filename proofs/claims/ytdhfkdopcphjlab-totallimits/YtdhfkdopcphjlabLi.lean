/-
  The contracts of Sum, Sum32, Halves, Prefix and Mean, as far as the error goes, and of all of them where a list is too long. Conditions: the lists read as floats.
-/
import Derived.Test.YtdhfkdopcphjlabDa
import Derived.Test.YtdhfkdopcphjlabOr1
namespace Go.Proofs.Ytdhfkdopcphjlab
open Go.RowKit
/-- A slice of so many floats. -/
def RdF (k : FloatKind) (w : World) (v : Value) (n : Nat) : Prop := ∃ p c, v = .slice p n c ∧ n ≤ c ∧ (0 < n → ∃ g off, p = some ⟨g, off, none⟩ ∧ ∀ j, j < n → ∃ b, w.cell? ⟨g, off + j, none⟩ = some (.float k b))
theorem RdF.below {k : FloatKind} {w w' : World} {v : Value} {n : Nat} (h : RdF k w v n) (hb : Below w.heap.size w w') : RdF k w' v n := by
  obtain ⟨p, c, rfl, hc, hd0⟩ := h
  refine ⟨p, c, rfl, hc, fun hp => ?_⟩
  obtain ⟨g, off, rfl, hd1⟩ := hd0 hp
  refine ⟨g, off, rfl, fun j hj => ?_⟩
  obtain ⟨b, hb2⟩ := hd1 j hj
  exact ⟨b, (hb.cell (p := ⟨g, off + j, none⟩) (by simpa using World.block_lt_of_cell? w _ hb2)).trans hb2⟩
set_option maxRecDepth 100000 in
set_option maxHeartbeats 600000 in
theorem sum_f64_w (n : Nat) (v : Value) (w : World) (hn : n ≤ 65536) (hr : RdF .f64 w v n) : Calls Try.prog 10 #[v] w fun e w' => ∃ r, e = .returned (.tuple #[.float .f64 r, .int .i64 0]) ∧ Below w.heap.size w w' := by
  obtain ⟨p, c, rfl, -, h0⟩ := hr
  have hl2 : (n : Int) ≤ 65536 := by omega
  replace h0 : Hid (0 < n → ∃ g off, p = some ⟨g, off, none⟩ ∧ ∀ j, j < n → ∃ b, w.cell? ⟨g, off + j, none⟩ = some (.float .f64 b)) := h0
  clear hn
  go_enter Try.func10, Try.ntmps10
  go_wp2_with fail
  go_loopw [4, 12] (fun u x wr => ∃ k s : Nat, k ≤ n ∧ x = .int .i64 (k : Int) ∧ u = .float .f64 s ∧ Hid (Alike w wr)) (fun _ x _ => n - (intOf x).toNat)
  case atStart => exact ⟨0, 0, by omega, rfl, rfl, Alike.refl _⟩
  case round =>
    obtain ⟨k, s, hk, rfl, rfl, hA⟩ := hrel
    by_cases ck : k < n
    · have k2 : (k : Int) < (n : Int) := by omega
      obtain ⟨g, off, rfl, hd1⟩ := h0.out (by omega)
      obtain ⟨x, hx⟩ := hd1 k ck
      have hc2 : wr.cell? ⟨g, off + k, none⟩ = some (.float .f64 x) := (hA.out.cell _).trans hx
      clear hx hd1
      go_wp2_with (refine wpList_flt rfl .add .f64 _ _ _ _ rfl rfl _ _ rfl rfl ?_)
      intro r w2 f1 a1
      have A2 : Hid (Alike w w2) := hA.out.trans a1.out
      clear f1 a1
      go_wp2
      exact ⟨⟨k + 1, r, by omega, by go_num, rfl, A2⟩, by simp [intOf]; omega⟩
    · have k2 : ¬ (k : Int) < (n : Int) := by omega
      go_wp2
      go_ret2
      first | exact ⟨s, rfl, hA.out.below _⟩ | exact ⟨⟨s, rfl⟩, hA.out.below _⟩
set_option maxRecDepth 100000 in
set_option maxHeartbeats 600000 in
theorem sum_f32_w (n : Nat) (v : Value) (w : World) (hn : n ≤ 65536) (hr : RdF .f32 w v n) : Calls Try.prog 11 #[v] w fun e w' => ∃ r, e = .returned (.tuple #[.float .f32 r, .int .i64 0]) ∧ Below w.heap.size w w' := by
  obtain ⟨p, c, rfl, -, h0⟩ := hr
  have hl2 : (n : Int) ≤ 65536 := by omega
  replace h0 : Hid (0 < n → ∃ g off, p = some ⟨g, off, none⟩ ∧ ∀ j, j < n → ∃ b, w.cell? ⟨g, off + j, none⟩ = some (.float .f32 b)) := h0
  clear hn
  go_enter Try.func11, Try.ntmps11
  go_wp2_with fail
  go_loopw [4, 12] (fun u x wr => ∃ k s : Nat, k ≤ n ∧ x = .int .i64 (k : Int) ∧ u = .float .f32 s ∧ Hid (Alike w wr)) (fun _ x _ => n - (intOf x).toNat)
  case atStart => exact ⟨0, 0, by omega, rfl, rfl, Alike.refl _⟩
  case round =>
    obtain ⟨k, s, hk, rfl, rfl, hA⟩ := hrel
    by_cases ck : k < n
    · have k2 : (k : Int) < (n : Int) := by omega
      obtain ⟨g, off, rfl, hd1⟩ := h0.out (by omega)
      obtain ⟨x, hx⟩ := hd1 k ck
      have hc2 : wr.cell? ⟨g, off + k, none⟩ = some (.float .f32 x) := (hA.out.cell _).trans hx
      clear hx hd1
      go_wp2_with (refine wpList_flt rfl .add .f32 _ _ _ _ rfl rfl _ _ rfl rfl ?_)
      intro r w2 f1 a1
      have A2 : Hid (Alike w w2) := hA.out.trans a1.out
      clear f1 a1
      go_wp2
      exact ⟨⟨k + 1, r, by omega, by go_num, rfl, A2⟩, by simp [intOf]; omega⟩
    · have k2 : ¬ (k : Int) < (n : Int) := by omega
      go_wp2
      go_ret2
      first | exact ⟨s, rfl, hA.out.below _⟩ | exact ⟨⟨s, rfl⟩, hA.out.below _⟩
theorem run_slc {w : World} {l : List (Nat × Value)} {o : Oper} {x : Operand} {lo hi mx : Option Operand} {t : TypeId} (ho : o.op = .slice t x lo hi mx) {v : Value} (hr : (Instr.sliceAt t (rho l x) (lo.map (rho l)) (hi.map (rho l)) (mx.map (rho l))).run Try.prog w = .ok v w) : (execOp (rho l) o).run Try.prog w = .ok (.value v) w := by
  unfold execOp
  simp only [ho, Sem.run_bind, Sem.run_pure, Result.andThen_ok, hr]
theorem run_upto (w : World) (g off n c at0 : Nat) (h : at0 ≤ n) (hc : n ≤ c) : (Instr.sliceAt 24 (.slice (some ⟨g, off, none⟩) n c) none (some (.int .i64 (at0 : Int))) none).run Try.prog w = .ok (.slice (some ⟨g, off, none⟩) at0 c) w := by
  have h1 : (at0 : Int) ≤ (c : Int) := by omega
  simp [Instr.sliceAt, Instr.slice, go_sem, run_underlying Try.underlying24, h1]
theorem run_from (w : World) (g off n c at0 : Nat) (h : at0 < n) (hc : n ≤ c) : (Instr.sliceAt 24 (.slice (some ⟨g, off, none⟩) n c) (some (.int .i64 (at0 : Int))) none none).run Try.prog w = .ok (.slice (some ⟨g, off + at0, none⟩) (n - at0) (c - at0)) w := by
  have h1 : (at0 : Int) ≤ (n : Int) := by omega
  have h2 : ¬ c = at0 := by omega
  simp [Instr.sliceAt, Instr.slice, go_sem, run_underlying Try.underlying24, Try.sizeOf22, h1, h2]
theorem run_fl {w : World} {l : List (Nat × Value)} {o : Oper} {op : BinOp} {t t' : TypeId} {a b : Operand} (ho : o.op = .binOp op t a b t') (hop : isAr op = true) {k : FloatKind} {p q : Nat} (ha : rho l a = .float k p) (hb : rho l b = .float k q) : ∃ r w', (execOp (rho l) o).run Try.prog w = .ok (.value (.float k r)) w' ∧ Fr k r (floatBits op k p q) ∧ Alike w w' := by
  obtain ⟨r, w', h1, h2, h3⟩ := run_flt (P := Try.prog) op t k p q w hop
  have he : (eqGuard op t a b (.float k p) (.float k q)).run Try.prog w = .ok () w := by cases op <;> first | rfl | (exact absurd hop (by decide))
  refine ⟨r, w', ?_, h2, h3⟩
  unfold execOp
  simp only [ho, ha, hb, Sem.run_bind, Sem.run_pure, Result.andThen_ok, he, h1]
theorem wp_fl {Q : Exit → Act → World → Prop} {o : Oper} {a : Act} {w : World} {K : Act → World → Prop} {op : BinOp} {t t' : TypeId} {x y : Operand} {k : FloatKind} {p q : Nat} (l : List (Nat × Value)) (hl : AllIn a l) (hc : covers o l = true) (ho : o.op = .binOp op t x y t') (hop : isAr op = true) (hx : rho l x = .float k p) (hy : rho l y = .float k q)
    (h : ∀ r w', Fr k r (floatBits op k p q) → Alike w w' → K (a.put o.dst (.float k r)) w') : o.wp Try.prog a w K Q := by
  obtain ⟨r, w', h1, h2, h3⟩ := run_fl (w := w) ho hop hx hy
  exact wp_gen l hl hc h1 (h r w' h2 h3)
/-- What the region's operations give. -/
def V7 (g off n c h : Nat) : (Nat → Bool) → Nat → Value → World → Prop := fun _ j v _ => match j with
  | 0 => v = .slice (some ⟨g, off, none⟩) n c
  | 1 => v = .int .i64 (h : Int)
  | 2 => v = .slice (some ⟨g, off, none⟩) h c
  | 3 => ∃ r, v = .float .f64 r
  | 4 => v = .slice (some ⟨g, off, none⟩) n c
  | 5 => v = .int .i64 (h : Int)
  | 6 => v = .slice (some ⟨g, off + h, none⟩) (n - h) (c - h)
  | 7 => ∃ r, v = .float .f64 r
  | 8 => ∃ r, v = .float .f64 r
  | 9 => ∃ r, v = .float .f64 r
  | _ => True
theorem v7_calm (g off n c h : Nat) (w0 : World) (i : Nat) : Calm (grown w0) (V7 g off n c h) i :=
  ⟨fun s w w' hs h hb => grown_steady w0 i s w w' hs h hb, fun _ _ _ _ _ _ _ h _ => h⟩
set_option maxRecDepth 100000 in
set_option maxHeartbeats 1000000 in
theorem byhalves_w : ∀ (n : Nat) (v : Value) (w : World), n ≤ 65536 → RdF .f64 w v n → Calls Try.prog 49 #[v] w fun e w' => ∃ r, e = .returned (.float .f64 r) ∧ Below w.heap.size w w' := by
  intro n
  induction n using Nat.strongRecOn with
  | ind n ih =>
    intro v w hn hr
    by_cases c0 : n = 0
    · subst c0
      obtain ⟨p, c, rfl, -, -⟩ := hr
      clear ih
      go_enter Try.func49, Try.ntmps49
      go_wp2
      go_ret
      exact ⟨0, rfl, Below.refl _ _⟩
    by_cases c1 : n = 1
    · subst c1
      obtain ⟨p, c, rfl, -, hd0⟩ := hr
      obtain ⟨g, off, rfl, hd1⟩ := hd0 (by decide)
      obtain ⟨b, hb⟩ := hd1 0 (by decide)
      rw [Nat.add_zero] at hb
      clear ih hd0 hd1
      go_enter Try.func49, Try.ntmps49
      go_wp2
      go_ret
      exact ⟨b, rfl, Below.refl _ _⟩
    · obtain ⟨p, c, rfl, hnc, hd0⟩ := hr
      obtain ⟨g, off, rfl, hd1⟩ := hd0 (by omega)
      have K1 : Hid (∀ W, Below w.heap.size w W → Calls Try.prog 49 #[.slice (some ⟨g, off, none⟩) (n / 2) c] W fun e w' => ∃ r, e = .returned (.float .f64 r) ∧ Below W.heap.size W w') := fun W hW => ih (n / 2) (by omega) _ W (by omega) ⟨_, _, rfl, by omega, fun _ => ⟨g, off, rfl, fun j hj => by
        obtain ⟨b, hb⟩ := hd1 j (by omega)
        exact ⟨b, (hW.cell (p := ⟨g, off + j, none⟩) (by simpa using World.block_lt_of_cell? w _ hb)).trans hb⟩⟩⟩
      have K2 : Hid (∀ W, Below w.heap.size w W → Calls Try.prog 49 #[.slice (some ⟨g, off + n / 2, none⟩) (n - n / 2) (c - n / 2)] W fun e w' => ∃ r, e = .returned (.float .f64 r) ∧ Below W.heap.size W w') := fun W hW => ih (n - n / 2) (by omega) _ W (by omega) ⟨_, _, rfl, by omega, fun _ => ⟨g, off + n / 2, rfl, fun j hj => by
        obtain ⟨b, hb⟩ := hd1 (n / 2 + j) (by omega)
        rw [← Nat.add_assoc] at hb
        exact ⟨b, (hW.cell (p := ⟨g, off + n / 2 + j, none⟩) (by simpa using World.block_lt_of_cell? w _ hb)).trans hb⟩⟩⟩
      have e0 : ((n : Int) == 0) = false := beq_eq_false_iff_ne.2 (by omega)
      have e1 : ((n : Int) == 1) = false := beq_eq_false_iff_ne.2 (by omega)
      have ht : Int.tdiv (n : Int) 2 = ((n / 2 : Nat) : Int) := by rw [Int.tdiv_eq_ediv_of_nonneg (by omega)]; omega
      have hlt : Hid (n / 2 < n ∧ n ≤ c) := by rw [Hid]; omega
      have hn2 : (n : Int) ≤ 65536 := by omega
      have hle : ((n / 2 : Nat) : Int) ≤ 65536 := by omega
      clear ih hd0 hd1 c0 c1 hnc hn
      go_enter Try.func49, Try.ntmps49
      generalize hh : n / 2 = h at *
      clear hh
      go_wp2_with fail
      refine wp_region_turn (grown w) (V7 g off n c h) 25 rfl (by kernel_rfl) (by kernel_rfl) (grown_start w) ⟨?o0, ?o1, ?o2, ?o3, ?o4, ?o5, ?o6, ?o7, ?o8, ?o9, trivial⟩ ?hdone
      case o0 => exact FlowOp4.plain (v7_calm _ _ _ _ _ _ 0) fun a4 w4 s4 cx => ⟨wanted_none rfl, fun K hK => wp_gen [(0, (.slice (some ⟨g, off, none⟩) n c))] ⟨cx.keep 0 _ (by kernel_rfl) rfl, trivial⟩ (by kernel_rfl) (by kernel_rfl) (hK.out _ w4 (show V7 _ _ _ _ _ _ 0 _ _ from rfl) (Below.refl _ _))⟩
      case o1 => exact FlowOp4.plain (v7_calm _ _ _ _ _ _ 1) fun a4 w4 s4 cx => ⟨wanted_none rfl, fun K hK => wp_gen [(3, (.int .i64 (h : Int)))] ⟨cx.keep 3 _ (by kernel_rfl) rfl, trivial⟩ (by kernel_rfl) (by kernel_rfl) (hK.out _ w4 (show V7 _ _ _ _ _ _ 1 _ _ from rfl) (Below.refl _ _))⟩
      case o4 => exact FlowOp4.plain (v7_calm _ _ _ _ _ _ 4) fun a4 w4 s4 cx => ⟨wanted_none rfl, fun K hK => wp_gen [(0, (.slice (some ⟨g, off, none⟩) n c))] ⟨cx.keep 0 _ (by kernel_rfl) rfl, trivial⟩ (by kernel_rfl) (by kernel_rfl) (hK.out _ w4 (show V7 _ _ _ _ _ _ 4 _ _ from rfl) (Below.refl _ _))⟩
      case o5 => exact FlowOp4.plain (v7_calm _ _ _ _ _ _ 5) fun a4 w4 s4 cx => ⟨wanted_none rfl, fun K hK => wp_gen [(3, (.int .i64 (h : Int)))] ⟨cx.keep 3 _ (by kernel_rfl) rfl, trivial⟩ (by kernel_rfl) (by kernel_rfl) (hK.out _ w4 (show V7 _ _ _ _ _ _ 5 _ _ from rfl) (Below.refl _ _))⟩
      case o2 =>
        exact FlowOp4.plain (v7_calm _ _ _ _ _ _ 2) fun a4 w4 s4 cx => ⟨wanted_none rfl, fun K hK => by
          obtain ⟨v1, e1, r1⟩ := cx.slot 0 16 (by kernel_rfl)
          obtain ⟨v2, e2, r2⟩ := cx.slot 1 17 (by kernel_rfl)
          obtain rfl : v1 = _ := r1
          obtain rfl : v2 = _ := r2
          exact wp_gen [(16, (.slice (some ⟨g, off, none⟩) n c)), (17, (.int .i64 (h : Int)))] ⟨e1, e2, trivial⟩ (by kernel_rfl) (run_slc rfl (run_upto _ _ _ _ _ _ (by have := hlt.out; omega) hlt.out.2)) (hK.out _ w4 (show V7 _ _ _ _ _ _ 2 _ _ from rfl) (Below.refl _ _))⟩
      case o6 =>
        exact FlowOp4.plain (v7_calm _ _ _ _ _ _ 6) fun a4 w4 s4 cx => ⟨wanted_none rfl, fun K hK => by
          obtain ⟨v1, e1, r1⟩ := cx.slot 4 20 (by kernel_rfl)
          obtain ⟨v2, e2, r2⟩ := cx.slot 5 21 (by kernel_rfl)
          obtain rfl : v1 = _ := r1
          obtain rfl : v2 = _ := r2
          exact wp_gen [(20, (.slice (some ⟨g, off, none⟩) n c)), (21, (.int .i64 (h : Int)))] ⟨e1, e2, trivial⟩ (by kernel_rfl) (run_slc rfl (run_from _ _ _ _ _ _ hlt.out.1 hlt.out.2)) (hK.out _ w4 (show V7 _ _ _ _ _ _ 6 _ _ from rfl) (Below.refl _ _))⟩
      case o3 =>
        exact FlowOp4.plain (v7_calm _ _ _ _ _ _ 3) fun a4 w4 s4 cx => ⟨wanted_none rfl, fun K hK => by
          obtain ⟨v1, e1, r1⟩ := cx.slot 2 18 (by kernel_rfl)
          obtain rfl : v1 = _ := r1
          refine wp_gen_call [(18, (.slice (some ⟨g, off, none⟩) h c))] ⟨e1, trivial⟩ (by kernel_rfl) (show ∀ W, (execOp (rho [(18, (.slice (some ⟨g, off, none⟩) h c))]) _).run Try.prog W = .ok (.enter 49 #[.slice (some ⟨g, off, none⟩) h c]) W from fun _ => by kernel_rfl) ?_
          refine (K1.out w4 cx.ground).mono ?_
          rintro e w' ⟨r, rfl, hb⟩
          exact ⟨_, rfl, hK.out _ w' ⟨r, rfl⟩ hb⟩⟩
      case o7 =>
        exact FlowOp4.plain (v7_calm _ _ _ _ _ _ 7) fun a4 w4 s4 cx => ⟨wanted_none rfl, fun K hK => by
          obtain ⟨v1, e1, r1⟩ := cx.slot 6 22 (by kernel_rfl)
          obtain rfl : v1 = _ := r1
          refine wp_gen_call [(22, (.slice (some ⟨g, off + h, none⟩) (n - h) (c - h)))] ⟨e1, trivial⟩ (by kernel_rfl) (show ∀ W, (execOp (rho [(22, (.slice (some ⟨g, off + h, none⟩) (n - h) (c - h)))]) _).run Try.prog W = .ok (.enter 49 #[.slice (some ⟨g, off + h, none⟩) (n - h) (c - h)]) W from fun _ => by kernel_rfl) ?_
          refine (K2.out w4 cx.ground).mono ?_
          rintro e w' ⟨r, rfl, hb⟩
          exact ⟨_, rfl, hK.out _ w' ⟨r, rfl⟩ hb⟩⟩
      case o8 =>
        exact FlowOp4.plain (v7_calm _ _ _ _ _ _ 8) fun a4 w4 s4 cx => ⟨wanted_none rfl, fun K hK => by
          obtain ⟨v1, e1, ⟨x, rfl⟩⟩ := cx.slot 3 19 (by kernel_rfl)
          obtain ⟨v2, e2, ⟨y, rfl⟩⟩ := cx.slot 7 23 (by kernel_rfl)
          exact wp_fl [(19, .float .f64 x), (23, .float .f64 y)] ⟨e1, e2, trivial⟩ (by kernel_rfl) rfl rfl rfl rfl fun r w' hf hal => hK.out _ w' ⟨r, rfl⟩ (hal.below _)⟩
      case o9 =>
        exact FlowOp4.plain (v7_calm _ _ _ _ _ _ 9) fun a4 w4 s4 cx => ⟨wanted_none rfl, fun K hK => by
          obtain ⟨v1, e1, r1⟩ := cx.slot 8 24 (by kernel_rfl)
          exact wp_gen [(24, v1)] ⟨e1, trivial⟩ (by kernel_rfl) (by kernel_rfl) (hK.out _ w4 r1 (Below.refl _ _))⟩
      case hdone =>
        intro a w2 s2 hs2 hg hz2 hdf hk2 hgot
        obtain ⟨vt, et, ⟨r, rfl⟩⟩ := got_slot4 hgot 9 2 (by kernel_rfl)
        have ha : At 25 [(2, .float .f64 r)] a := ⟨hz2, hdf, et, trivial⟩
        have hg2 : Hid (Below w.heap.size w w2) := hg
        clear hgot hk2 hs2 hg et
        obtain ⟨f, rfl, h2, -⟩ := ha.lit
        change Exit.then _ _ _ ⟨#[f 0, f 1, f 2, f 3, f 4, f 5, f 6, f 7, f 8, f 9, f 10, f 11, f 12, f 13, f 14, f 15, f 16, f 17, f 18, f 19, f 20, f 21, f 22, f 23, f 24], []⟩ _
        simp only at h2
        simp only [h2]
        clear h2
        simp only [Exit.then]
        go_wp2
        go_ret
        first | exact ⟨r, rfl, hg2.out⟩ | exact ⟨⟨r, rfl⟩, hg2.out⟩
set_option maxRecDepth 100000 in
theorem long_10 (n c : Nat) (p : Option Addr) (w : World) (hn : 65536 < n) (hn2 : n ≤ 140737488355328) : Calls Try.prog 10 #[.slice p n c] w fun e w' => e = .returned (.tuple #[.float .f64 0, .int .i64 50]) ∧ Below w.heap.size w w' := by
  have h1 : decide ((65536 : Int) < (n : Int)) = true := decide_eq_true (by omega)
  have h2 : (65536 : Int) < (n : Int) := by omega
  go_enter Try.func10, Try.ntmps10
  go_wp2
  go_ret2
  exact ⟨rfl, Below.refl _ _⟩
set_option maxRecDepth 100000 in
theorem long_11 (n c : Nat) (p : Option Addr) (w : World) (hn : 65536 < n) (hn2 : n ≤ 140737488355328) : Calls Try.prog 11 #[.slice p n c] w fun e w' => e = .returned (.tuple #[.float .f32 0, .int .i64 50]) ∧ Below w.heap.size w w' := by
  have h1 : decide ((65536 : Int) < (n : Int)) = true := decide_eq_true (by omega)
  have h2 : (65536 : Int) < (n : Int) := by omega
  go_enter Try.func11, Try.ntmps11
  go_wp2
  go_ret2
  exact ⟨rfl, Below.refl _ _⟩
set_option maxRecDepth 100000 in
theorem long_12 (n c : Nat) (p : Option Addr) (w : World) (hn : 65536 < n) (hn2 : n ≤ 140737488355328) : Calls Try.prog 12 #[.slice p n c] w fun e w' => e = .returned (.tuple #[.float .f64 0, .int .i64 50]) ∧ Below w.heap.size w w' := by
  have h1 : decide ((65536 : Int) < (n : Int)) = true := decide_eq_true (by omega)
  have h2 : (65536 : Int) < (n : Int) := by omega
  go_enter Try.func12, Try.ntmps12
  go_wp2
  go_ret2
  exact ⟨rfl, Below.refl _ _⟩
set_option maxRecDepth 100000 in
theorem long_13 (n c : Nat) (p : Option Addr) (w : World) (hn : 65536 < n) (hn2 : n ≤ 140737488355328) : Calls Try.prog 13 #[.slice p n c] w fun e w' => e = .returned (.tuple #[.float .f64 0, .float .f64 0, .int .i64 50]) ∧ Below w.heap.size w w' := by
  have h1 : decide ((65536 : Int) < (n : Int)) = true := decide_eq_true (by omega)
  have h2 : (65536 : Int) < (n : Int) := by omega
  go_enter Try.func13, Try.ntmps13
  go_wp2
  go_ret3
  exact ⟨rfl, Below.refl _ _⟩
set_option maxRecDepth 100000 in
theorem long_17 (n c x : Nat) (p : Option Addr) (w : World) (hn : 65536 < n) (hn2 : n ≤ 140737488355328) : Calls Try.prog 17 #[.slice p n c, .float .f64 x] w fun e w' => e = .returned (.tuple #[.float .f64 0, .int .i64 50]) ∧ Below w.heap.size w w' := by
  have h1 : decide ((65536 : Int) < (n : Int)) = true := decide_eq_true (by omega)
  have h2 : (65536 : Int) < (n : Int) := by omega
  go_enter Try.func17, Try.ntmps17
  go_wp2
  go_ret2
  exact ⟨rfl, Below.refl _ _⟩
set_option maxRecDepth 100000 in
theorem long_18 (n c : Nat) (p : Option Addr) (w : World) (hn : 65536 < n) (hn2 : n ≤ 140737488355328) : Calls Try.prog 18 #[.slice p n c] w fun e w' => e = .returned (.tuple #[.slice none 0 0, .int .i64 50]) ∧ Below w.heap.size w w' := by
  have h1 : decide ((65536 : Int) < (n : Int)) = true := decide_eq_true (by omega)
  have h2 : (65536 : Int) < (n : Int) := by omega
  go_enter Try.func18, Try.ntmps18
  go_wp2
  go_ret2
  exact ⟨rfl, Below.refl _ _⟩
set_option maxRecDepth 100000 in
theorem halves_w (n : Nat) (v : Value) (w : World) (hn : n ≤ 65536) (hr : RdF .f64 w v n) : Calls Try.prog 12 #[v] w fun e w' => ∃ r, e = .returned (.tuple #[.float .f64 r, .int .i64 0]) ∧ Below w.heap.size w w' := by
  have k : Hid (Calls Try.prog 49 #[v] w fun e w' => ∃ r, e = .returned (.float .f64 r) ∧ Below w.heap.size w w') := byhalves_w n v w hn hr
  obtain ⟨p, c, rfl, -, -⟩ := hr
  have hl2 : (n : Int) ≤ 65536 := by omega
  clear hn
  go_enter Try.func12, Try.ntmps12
  go_wp2_with (go_at_call 49; refine k.out.mono ?_)
  first | rintro e w1 r rfl b1 | rintro e w1 ⟨r, rfl, b1⟩
  replace b1 : Hid (Below w.heap.size w w1) := b1
  go_wp2
  go_ret2
  first | exact ⟨r, rfl, b1.out⟩ | exact ⟨⟨r, rfl⟩, b1.out⟩
end Go.Proofs.Ytdhfkdopcphjlab

/-
  The contract of Scale: the number with another exponent, rounded. Condition: the float's bits fit.
-/
import Derived.Test.YtjcjecbffnadaabNw
namespace Go.Proofs.Ytjcjecbffnadaab
open Go.RowKit
theorem ValOp.storeN {P : Program} {ops : Array Oper} {Q : Exit → Act → World → Prop} {G : (Nat → Bool) → World → Prop} {vs : List Value} {a0 : Act} {i : Nat} {o : Oper} (l : List (Nat × Value)) (hw : wantsV ops vs o true) (hd : o.dst = none)
    (hl : ∀ a : Act, (∀ j t, asks4 ops o j t = true → a.tmps[t]? = some (vs.getD j undef)) → (∀ t, keptAt ops i t = true → a.tmps[t]? = a0.tmps[t]?) → AllIn a l) (hc : covers o l = true) {ty : TypeId} {x y : Operand} (ho : o.op = .store ty x y) {g off : Nat} {v : Value}
    (hx : rho l x = .pointer (some ⟨g, off, none⟩)) (hy : rho l y = v) (hv : vs.getD i undef = undef)
    (hr : ∀ s w, s i = false → G s w → (∀ j, (needs o).contains j = true → s j = true) → (storeVar ty ⟨g, off, none⟩ v).run P w = .ok () (w.setCell ⟨g, off, none⟩ v))
    (hG : ∀ s w, s i = false → G s w → (∀ j, (needs o).contains j = true → s j = true) → G (mark s i) (w.setCell ⟨g, off, none⟩ v)) : ValOp P ops Q G vs a0 i o :=
  ⟨true, hw, fun h => (by cases h), fun _ a w s hs hg hn h1 h2 K hK => by
    have hk := hK.out _ (hG s w hs hg hn)
    rw [hv] at hk
    unfold Oper.wp
    rw [exec_rho l (hl a h1 h2) hc]
    unfold execOp
    simp only [ho, hx, hy, Instr.storeAt, Instr.sureAddr, Sem.run_bind, Sem.run_pure, Result.andThen_ok, hr s w hs hg hn, Oper.upon]
    rw [hd] at hk ⊢
    exact hk⟩
/-- One block is written by one operation, behind a read of it. -/
def WroteB (g : Nat) (tt : TypeId) (w0 : World) (cs : (Nat → Bool) → Array Value) (st ld : Nat) (s : Nat → Bool) (w : World) : Prop := Wrote g tt w0 cs s w ∧ (s st = true → s ld = true)
theorem WroteB.steady {g : Nat} {tt : TypeId} {w0 : World} {cs : (Nat → Bool) → Array Value} {st ld : Nat} (i : Nat) (hi : (st == i) = false) (h : ∀ s, cs (mark s i) = cs s) : Steady (WroteB g tt w0 cs st ld) i := fun s w w' hs hw hb => by
  refine ⟨Wrote.steady i h s w w' hs hw.1 hb, fun h1 => ?_⟩
  have hne : ¬ st = i := by simpa using hi
  have h2 : s st = true := by simpa [mark, hne] using h1
  have h3 := hw.2 h2
  by_cases c : ld = i <;> simp [mark, c, h3]
set_option maxRecDepth 100000 in
set_option maxHeartbeats 2000000 in
theorem scale_by (b : Nat) (n X cl Y kd : Int) (ng qu : Bool) (M LD V : Nat) (w : World) (hY : IntKind.i64.wrap (X + cl) = Y)
    (k46 : ∀ w, Calls Try.prog 46 #[.float .f64 b] w fun e w' => e = .returned (.agg #[.int .i64 kd, .bool ng, .int .u64 (M : Int), .int .i64 X, .bool qu, .int .u64 (LD : Int)]) ∧ Below w.heap.size w w')
    (k49 : ∀ w, Calls Try.prog 49 #[.int .i64 n] w fun e w' => e = .returned (.int .i64 cl) ∧ Below w.heap.size w w')
    (k50 : ∀ w, Calls Try.prog 50 #[.agg #[.int .i64 kd, .bool ng, .int .u64 (M : Int), .int .i64 Y, .bool qu, .int .u64 (LD : Int)]] w fun e w' => e = .returned (.float .f64 V) ∧ Below w.heap.size w w') :
    Calls Try.prog 13 #[.float .f64 b, .int .i64 n] w fun e w' => e = .returned (.float .f64 V) ∧ Below w.heap.size w w' := by
  go_enter Try.func13, Try.ntmps13
  go_wp2_with (go_at_call 46; refine (k46 _).mono ?_)
  intro e1 w1 hq
  first | (obtain ⟨rfl, b1⟩ : _ ∧ _ := hq) | (subst hq; intro b1)
  have B1 : Hid (Below w.heap.size w (w1.alloc (.cells #[.int .i64 kd, .bool ng, .int .u64 (M : Int), .int .i64 X, .bool qu, .int .u64 (LD : Int)] 66))) := b1.alloc b1.size _
  have r1 : (w1.alloc (.cells #[.int .i64 kd, .bool ng, .int .u64 (M : Int), .int .i64 X, .bool qu, .int .u64 (LD : Int)] 66)).heap[w1.heap.size]? = some (.cells #[.int .i64 kd, .bool ng, .int .u64 (M : Int), .int .i64 X, .bool qu, .int .u64 (LD : Int)] 66 (0, 0)) := heap_alloc_last _ _
  have z1 := b1.size
  go_wp2
  generalize hw2 : w1.alloc (.cells #[.int .i64 kd, .bool ng, .int .u64 (M : Int), .int .i64 X, .bool qu, .int .u64 (LD : Int)] 66) = w2 at *
  generalize hg1 : w1.heap.size = g at *
  have hst : ∀ w3, Below w2.heap.size w2 w3 → w3.heap.size = w2.heap.size → ∀ s : Nat → Bool, (∀ j, s j = false) → WroteB g 66 w2 (fun s => #[.int .i64 kd, .bool ng, .int .u64 (M : Int), .int .i64 (if s 6 = true then Y else X), .bool qu, .int .u64 (LD : Int)]) 6 1 s w3 := fun w3 hb hz s hs => ⟨Wrote.start (fun s hs => by rw [hs 6]; exact r1) w3 hb hz s hs, fun h => absurd h (by rw [hs 6]; decide)⟩
  refine wp_region_vals (a1 := ?a1r2n1) (WroteB g 66 w2 (fun s => #[.int .i64 kd, .bool ng, .int .u64 (M : Int), .int .i64 (if s 6 = true then Y else X), .bool qu, .int .u64 (LD : Int)]) 6 1) [.pointer (some ⟨g, 3, none⟩), .int .i64 X, .int .i64 n, .int .i64 cl, .int .i64 Y, .pointer (some ⟨g, 3, none⟩), undef] 16 rfl (by kernel_rfl) (by kernel_rfl) hst ⟨?o0r2n1, ?o1r2n1, ?o2r2n1, ?o3r2n1, ?o4r2n1, ?o5r2n1, ?o6r2n1, trivial⟩ ?har2n1 ?hdoner2n1
  case har2n1 => simp [putAll, Act.put]; exact rfl
  case o0r2n1 => exact ValOp.pure (WroteB.steady 0 (by decide) (fun _ => rfl)) [(5, .pointer (some ⟨g, 0, none⟩))] rfl (fun _ _ h2 => ⟨(h2 5 (by kernel_rfl)).trans rfl, trivial⟩) (by kernel_rfl) (fun _ _ _ _ _ => by kernel_rfl)
  case o1r2n1 => exact ValOp.pure (WroteB.steady 1 (by decide) (fun _ => rfl)) [(8, .pointer (some ⟨g, 3, none⟩))] rfl (fun _ h1 _ => ⟨h1 0 8 (by kernel_rfl), trivial⟩) (by kernel_rfl) (fun s1 w1 h1 hg _ => run_read rfl rfl (run_cell hg.1.at_ (by have h6 : s1 6 = false := (by cases h : s1 6 with | false => rfl | true => exact absurd (hg.2 h) (by rw [h1]; decide)); rw [h6]; rfl) (Try.isAgg3 _)))
  case o2r2n1 => exact ValOp.pure (WroteB.steady 2 (by decide) (fun _ => rfl)) [(1, .int .i64 n)] rfl (fun _ _ h2 => ⟨(h2 1 (by kernel_rfl)).trans rfl, trivial⟩) (by kernel_rfl) (fun _ _ _ _ _ => by kernel_rfl)
  case o3r2n1 => exact ValOp.call (WroteB.steady 3 (by decide) (fun _ => rfl)) [(10, .int .i64 n)] rfl (fun _ h1 _ => ⟨h1 2 10 (by kernel_rfl), trivial⟩) (by kernel_rfl) 49 #[.int .i64 n] (fun _ => by kernel_rfl) (fun _ w _ => k49 w)
  case o4r2n1 => exact ValOp.pure (WroteB.steady 4 (by decide) (fun _ => rfl)) [(9, .int .i64 X), (11, .int .i64 cl)] rfl (fun _ h1 _ => ⟨h1 1 9 (by kernel_rfl), h1 3 11 (by kernel_rfl), trivial⟩) (by kernel_rfl) (fun _ _ _ _ _ => run_bin (a := .int .i64 X) (b := .int .i64 cl) rfl rfl rfl (by kernel_rfl) (by simp [go_sem, hY]))
  case o5r2n1 => exact ValOp.pure (WroteB.steady 5 (by decide) (fun _ => rfl)) [(5, .pointer (some ⟨g, 0, none⟩))] rfl (fun _ _ h2 => ⟨(h2 5 (by kernel_rfl)).trans rfl, trivial⟩) (by kernel_rfl) (fun _ _ _ _ _ => by kernel_rfl)
  case o6r2n1 => exact ValOp.storeN [(13, .pointer (some ⟨g, 3, none⟩)), (12, .int .i64 Y)] rfl rfl (fun _ h1 _ => ⟨h1 5 13 (by kernel_rfl), h1 4 12 (by kernel_rfl), trivial⟩) (by kernel_rfl) (v := .int .i64 Y) rfl rfl rfl rfl (fun s1 w1 _ hg _ => run_store_int hg.1.at_ (by simp) (Try.sizeOf3 _)) (fun s1 w1 _ hg hn => ⟨hg.1.set (v := .int .i64 Y) rfl, fun _ => by have := hn 1 (by kernel_rfl); simp [mark, this]⟩)
  intro w3 s3 hs3 hg3
  have h6 : s3 6 = true := hs3 6 (by decide)
  have r3 := hg3.1.at_
  have B3 : Hid (Below w.heap.size w w3) := B1.out.trans (hg3.1.below.mono (by omega))
  simp only [h6, if_true] at r3
  have x6 := (cells6 r3)
  obtain ⟨m0, m1, m2, m3, m4, m5⟩ := x6
  clear hg3 hst hs3 r1 B1 h6 hw2
  go_wp2_with (go_at_call 50; refine (k50 _).mono ?_)
  intro e4 w4 hq
  first | (obtain ⟨rfl, b4⟩ : _ ∧ _ := hq) | (subst hq; intro b4)
  have B4 : Hid (Below w.heap.size w w4) := B3.out.trans (b4.mono B3.out.size)
  clear b4
  go_wp2
  go_ret
  exact ⟨rfl, B4.out⟩
theorem scale_any (b : Nat) (n : Int) (w : World) (hb : b < 18446744073709551616) : Calls Try.prog 13 #[.float .f64 b, .int .i64 n] w fun e w' => e = .returned (.float .f64 (rndB 52 11 1023 { pt 52 11 1023 b with exp := (pt 52 11 1023 b).exp + min (max n (-4096)) 4096 })) ∧ Below w.heap.size w w' := by
  have pe := pt_exp lay64 b
  have pe2 : -1100 ≤ (pt 52 11 1023 b).exp ∧ (pt 52 11 1023 b).exp ≤ 1000 := by
    have hE : b / 2 ^ 52 % 2 ^ 11 < 2 ^ 11 := Nat.mod_lt _ (by decide)
    unfold pt
    repeat' split
    all_goals (dsimp only; constructor <;> omega)
  have k50 := fun w => number_any { pt 52 11 1023 b with exp := (pt 52 11 1023 b).exp + min (max n (-4096)) 4096 } w (pt_small lay64 b).1 (by show -10000 ≤ (pt 52 11 1023 b).exp + min (max n (-4096)) 4096; omega) (by show (pt 52 11 1023 b).exp + min (max n (-4096)) 4096 ≤ 10000; omega)
  have k46 := fun w => Parts_any b w hb
  have k49 := fun w => (reach_any n w).mono fun e w' h => (show e = _ ∧ Below w.heap.size w w' from ⟨h.1, by rw [h.2]; exact Below.refl _ _⟩)
  generalize rndB 52 11 1023 _ = V at *
  generalize pt 52 11 1023 b = x at *
  obtain ⟨kd, ng, M, X, qu, LD⟩ := x
  unfold Pt.val at k46 k50
  dsimp only at *
  exact scale_by b n X _ _ kd ng qu M LD V w (i64_in _ (by omega) (by omega)) k46 k49 k50
end Go.Proofs.Ytjcjecbffnadaab

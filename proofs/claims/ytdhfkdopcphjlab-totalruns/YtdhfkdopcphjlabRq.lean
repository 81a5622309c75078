/-
  The contracts of rounded and number: the bits of a layout's float that is nearest to what the parts say. Conditions: the layout is one that is reckoned with; the exponent is not too great.
-/
import Derived.Test.YtdhfkdopcphjlabNb
namespace Go.Proofs.Ytdhfkdopcphjlab
open Go.RowKit
set_option maxHeartbeats 2000000 in
theorem rd_none {p : Nat} {bi : Int} (w : World) (K M LD V : Nat) (X : Int) (ng qu : Bool) (INF Q : Nat) (hV : bits .or .u64 INF Q = V) (k59 : ∀ w, Calls Try.prog 128 #[.agg #[.int .i64 p, .int .u64 K, .int .i64 bi]] w fun e w' => e = .returned (.int .u64 (INF : Int)) ∧ Below w.heap.size w w') (k57 : ∀ w, Calls Try.prog 125 #[.agg #[.int .i64 p, .int .u64 K, .int .i64 bi]] w fun e w' => e = .returned (.int .u64 (Q : Int)) ∧ Below w.heap.size w w') :
    Calls Try.prog 119 #[.agg #[.int .i64 p, .int .u64 K, .int .i64 bi], .agg #[.int .i64 4, .bool ng, .int .u64 M, .int .i64 X, .bool qu, .int .u64 LD]] w fun e w' => e = .returned (.int .u64 (V : Int)) ∧ Below w.heap.size w w' := by
  go_enter Try.func119, Try.ntmps119
  go_wp2_with fail
  refine wp_region_vals (a1 := ?a1r3n1) (grown _) [.agg #[.int .i64 p, .int .u64 K, .int .i64 bi], .int .u64 INF, .agg #[.int .i64 p, .int .u64 K, .int .i64 bi], .int .u64 Q, .int .u64 V, .int .u64 V] 32 rfl (by kernel_rfl) (by kernel_rfl) (grown_start _) ⟨?o0r3n1, ?o1r3n1, ?o2r3n1, ?o3r3n1, ?o4r3n1, ?o5r3n1, trivial⟩ ?har3n1 ?hdoner3n1
  case har3n1 => simp [putAll, Act.put]; exact rfl
  case o0r3n1 => exact ValOp.pure (grown_steady _ 0) [(2, .pointer (some ⟨w.heap.size, 0, none⟩))] rfl (fun _ _ h2 => ⟨(h2 2 (by kernel_rfl)).trans rfl, trivial⟩) (by kernel_rfl) (fun _ _ _ hg _ => run_read rfl rfl (run_loadVar_row _ _ _ _ _ _ _ (below_at ((Below.heap_alloc _ _ _ (by simp)).trans (heap_alloc_last _ _)) hg) Try.underlying121 rfl (by kernel_rfl)))
  case o1r3n1 => exact ValOp.call (grown_steady _ 1) [(9, .agg #[.int .i64 p, .int .u64 K, .int .i64 bi])] rfl (fun _ h1 _ => ⟨h1 0 9 (by kernel_rfl), trivial⟩) (by kernel_rfl) 128 #[.agg #[.int .i64 p, .int .u64 K, .int .i64 bi]] (fun _ => by kernel_rfl) (fun _ w _ => k59 w)
  case o2r3n1 => exact ValOp.pure (grown_steady _ 2) [(2, .pointer (some ⟨w.heap.size, 0, none⟩))] rfl (fun _ _ h2 => ⟨(h2 2 (by kernel_rfl)).trans rfl, trivial⟩) (by kernel_rfl) (fun _ _ _ hg _ => run_read rfl rfl (run_loadVar_row _ _ _ _ _ _ _ (below_at ((Below.heap_alloc _ _ _ (by simp)).trans (heap_alloc_last _ _)) hg) Try.underlying121 rfl (by kernel_rfl)))
  case o3r3n1 => exact ValOp.call (grown_steady _ 3) [(11, .agg #[.int .i64 p, .int .u64 K, .int .i64 bi])] rfl (fun _ h1 _ => ⟨h1 2 11 (by kernel_rfl), trivial⟩) (by kernel_rfl) 125 #[.agg #[.int .i64 p, .int .u64 K, .int .i64 bi]] (fun _ => by kernel_rfl) (fun _ w _ => k57 w)
  case o4r3n1 => exact ValOp.pure (grown_steady _ 4) [(10, .int .u64 INF), (12, .int .u64 Q)] rfl (fun _ h1 _ => ⟨h1 1 10 (by kernel_rfl), h1 3 12 (by kernel_rfl), trivial⟩) (by kernel_rfl) (fun _ _ _ _ _ => run_bin (a := .int .u64 INF) (b := .int .u64 Q) rfl rfl rfl (by kernel_rfl) (by simp [go_sem, hV]))
  case o5r3n1 => exact ValOp.pure (grown_steady _ 5) [(13, .int .u64 V)] rfl (fun _ h1 _ => ⟨h1 4 13 (by kernel_rfl), trivial⟩) (by kernel_rfl) (fun _ _ _ _ _ => by kernel_rfl)
  intro w1 s1 _ bb
  replace bb : Below _ _ w1 := bb
  have B1 : Hid (Below w.heap.size w w1) := by
    have h : Below w.heap.size _ w1 := bb.mono (by simp <;> omega)
    exact (((Below.refl _ _).alloc (Nat.le_refl _) _).alloc (by simp) _).trans h
  clear bb
  first
  | (refine (by assumption : ∀ (a : Act) (w : World), Code.wp Try.prog Code.ret _ a w → _) _ _ ?_
     go_wp2
     go_ret
     exact ⟨rfl, B1.out⟩)
  | (refine (by assumption : ∀ (a : Act) (w : World), Code.wp Try.prog _ _ a w → _) _ _ ?_
     go_wp2
     go_ret
     exact ⟨rfl, B1.out⟩)
set_option maxHeartbeats 2000000 in
theorem rd_inf {p : Nat} {bi : Int} (w : World) (K M LD V : Nat) (X : Int) (ng qu : Bool) (INF : Nat) (k59 : ∀ w, Calls Try.prog 128 #[.agg #[.int .i64 p, .int .u64 K, .int .i64 bi]] w fun e w' => e = .returned (.int .u64 (INF : Int)) ∧ Below w.heap.size w w') (k60 : ∀ w, Calls Try.prog 129 #[.agg #[.int .i64 p, .int .u64 K, .int .i64 bi], .int .u64 (INF : Int), .bool ng] w fun e w' => e = .returned (.int .u64 (V : Int)) ∧ Below w.heap.size w w') :
    Calls Try.prog 119 #[.agg #[.int .i64 p, .int .u64 K, .int .i64 bi], .agg #[.int .i64 3, .bool ng, .int .u64 M, .int .i64 X, .bool qu, .int .u64 LD]] w fun e w' => e = .returned (.int .u64 (V : Int)) ∧ Below w.heap.size w w' := by
  go_enter Try.func119, Try.ntmps119
  go_wp2_with fail
  refine wp_region_vals (a1 := ?a1r5n2) (grown _) [.agg #[.int .i64 p, .int .u64 K, .int .i64 bi], .agg #[.int .i64 p, .int .u64 K, .int .i64 bi], .int .u64 INF, .pointer (some ⟨(w.heap.size + 1), 1, none⟩), .bool ng, .int .u64 V, .int .u64 V] 32 rfl (by kernel_rfl) (by kernel_rfl) (grown_start _) ⟨?o0r5n2, ?o1r5n2, ?o2r5n2, ?o3r5n2, ?o4r5n2, ?o5r5n2, ?o6r5n2, trivial⟩ ?har5n2 ?hdoner5n2
  case har5n2 => simp [putAll, Act.put]; exact rfl
  case o0r5n2 => exact ValOp.pure (grown_steady _ 0) [(2, .pointer (some ⟨w.heap.size, 0, none⟩))] rfl (fun _ _ h2 => ⟨(h2 2 (by kernel_rfl)).trans rfl, trivial⟩) (by kernel_rfl) (fun _ _ _ hg _ => run_read rfl rfl (run_loadVar_row _ _ _ _ _ _ _ (below_at ((Below.heap_alloc _ _ _ (by simp)).trans (heap_alloc_last _ _)) hg) Try.underlying121 rfl (by kernel_rfl)))
  case o1r5n2 => exact ValOp.pure (grown_steady _ 1) [(2, .pointer (some ⟨w.heap.size, 0, none⟩))] rfl (fun _ _ h2 => ⟨(h2 2 (by kernel_rfl)).trans rfl, trivial⟩) (by kernel_rfl) (fun _ _ _ hg _ => run_read rfl rfl (run_loadVar_row _ _ _ _ _ _ _ (below_at ((Below.heap_alloc _ _ _ (by simp)).trans (heap_alloc_last _ _)) hg) Try.underlying121 rfl (by kernel_rfl)))
  case o2r5n2 => exact ValOp.call (grown_steady _ 2) [(17, .agg #[.int .i64 p, .int .u64 K, .int .i64 bi])] rfl (fun _ h1 _ => ⟨h1 1 17 (by kernel_rfl), trivial⟩) (by kernel_rfl) 128 #[.agg #[.int .i64 p, .int .u64 K, .int .i64 bi]] (fun _ => by kernel_rfl) (fun _ w _ => k59 w)
  case o3r5n2 => exact ValOp.pure (grown_steady _ 3) [(3, .pointer (some ⟨(w.heap.size + 1), 0, none⟩))] rfl (fun _ _ h2 => ⟨(h2 3 (by kernel_rfl)).trans rfl, trivial⟩) (by kernel_rfl) (fun _ _ _ _ _ => by kernel_rfl)
  case o4r5n2 => exact ValOp.pure (grown_steady _ 4) [(19, .pointer (some ⟨(w.heap.size + 1), 1, none⟩))] rfl (fun _ h1 _ => ⟨h1 3 19 (by kernel_rfl), trivial⟩) (by kernel_rfl) (fun _ _ _ hg _ => run_read rfl rfl (run_cell (below_at (last_at _ _ (by simp)) hg) rfl (Try.isAgg4 _)))
  case o5r5n2 => exact ValOp.call (grown_steady _ 5) [(16, .agg #[.int .i64 p, .int .u64 K, .int .i64 bi]), (18, .int .u64 INF), (20, .bool ng)] rfl (fun _ h1 _ => ⟨h1 0 16 (by kernel_rfl), h1 2 18 (by kernel_rfl), h1 4 20 (by kernel_rfl), trivial⟩) (by kernel_rfl) 129 #[.agg #[.int .i64 p, .int .u64 K, .int .i64 bi], .int .u64 INF, .bool ng] (fun _ => by kernel_rfl) (fun _ w _ => k60 w)
  case o6r5n2 => exact ValOp.pure (grown_steady _ 6) [(21, .int .u64 V)] rfl (fun _ h1 _ => ⟨h1 5 21 (by kernel_rfl), trivial⟩) (by kernel_rfl) (fun _ _ _ _ _ => by kernel_rfl)
  intro w1 s1 _ bb
  replace bb : Below _ _ w1 := bb
  have B1 : Hid (Below w.heap.size w w1) := by
    have h : Below w.heap.size _ w1 := bb.mono (by simp <;> omega)
    exact (((Below.refl _ _).alloc (Nat.le_refl _) _).alloc (by simp) _).trans h
  clear bb
  first
  | (refine (by assumption : ∀ (a : Act) (w : World), Code.wp Try.prog Code.ret _ a w → _) _ _ ?_
     go_wp2
     go_ret
     exact ⟨rfl, B1.out⟩)
  | (refine (by assumption : ∀ (a : Act) (w : World), Code.wp Try.prog _ _ a w → _) _ _ ?_
     go_wp2
     go_ret
     exact ⟨rfl, B1.out⟩)
set_option maxHeartbeats 2000000 in
theorem rd_num {p : Nat} {bi : Int} (w : World) (K M LD V : Nat) (X : Int) (ng qu : Bool) (kd : Int) (n3 : ¬ kd = 3) (n4 : ¬ kd = 4) (NB : Nat) (k62 : ∀ w, Calls Try.prog 130 #[.agg #[.int .i64 p, .int .u64 K, .int .i64 bi], .int .u64 (M : Int), .int .i64 X] w fun e w' => e = .returned (.int .u64 (NB : Int)) ∧ Below w.heap.size w w') (k60 : ∀ w, Calls Try.prog 129 #[.agg #[.int .i64 p, .int .u64 K, .int .i64 bi], .int .u64 (NB : Int), .bool ng] w fun e w' => e = .returned (.int .u64 (V : Int)) ∧ Below w.heap.size w w') :
    Calls Try.prog 119 #[.agg #[.int .i64 p, .int .u64 K, .int .i64 bi], .agg #[.int .i64 kd, .bool ng, .int .u64 M, .int .i64 X, .bool qu, .int .u64 LD]] w fun e w' => e = .returned (.int .u64 (V : Int)) ∧ Below w.heap.size w w' := by
  go_enter Try.func119, Try.ntmps119
  go_wp2_with fail
  refine wp_region_vals (a1 := ?a1r6n3) (grown _) [.agg #[.int .i64 p, .int .u64 K, .int .i64 bi], .agg #[.int .i64 p, .int .u64 K, .int .i64 bi], .pointer (some ⟨(w.heap.size + 1), 2, none⟩), .int .u64 M, .pointer (some ⟨(w.heap.size + 1), 3, none⟩), .int .i64 X, .int .u64 NB, .pointer (some ⟨(w.heap.size + 1), 1, none⟩), .bool ng, .int .u64 V, .int .u64 V] 32 rfl (by kernel_rfl) (by kernel_rfl) (grown_start _) ⟨?o0r6n3, ?o1r6n3, ?o2r6n3, ?o3r6n3, ?o4r6n3, ?o5r6n3, ?o6r6n3, ?o7r6n3, ?o8r6n3, ?o9r6n3, ?o10r6n3, trivial⟩ ?har6n3 ?hdoner6n3
  case har6n3 => simp [putAll, Act.put]; exact rfl
  case o0r6n3 => exact ValOp.pure (grown_steady _ 0) [(2, .pointer (some ⟨w.heap.size, 0, none⟩))] rfl (fun _ _ h2 => ⟨(h2 2 (by kernel_rfl)).trans rfl, trivial⟩) (by kernel_rfl) (fun _ _ _ hg _ => run_read rfl rfl (run_loadVar_row _ _ _ _ _ _ _ (below_at ((Below.heap_alloc _ _ _ (by simp)).trans (heap_alloc_last _ _)) hg) Try.underlying121 rfl (by kernel_rfl)))
  case o1r6n3 => exact ValOp.pure (grown_steady _ 1) [(2, .pointer (some ⟨w.heap.size, 0, none⟩))] rfl (fun _ _ h2 => ⟨(h2 2 (by kernel_rfl)).trans rfl, trivial⟩) (by kernel_rfl) (fun _ _ _ hg _ => run_read rfl rfl (run_loadVar_row _ _ _ _ _ _ _ (below_at ((Below.heap_alloc _ _ _ (by simp)).trans (heap_alloc_last _ _)) hg) Try.underlying121 rfl (by kernel_rfl)))
  case o2r6n3 => exact ValOp.pure (grown_steady _ 2) [(3, .pointer (some ⟨(w.heap.size + 1), 0, none⟩))] rfl (fun _ _ h2 => ⟨(h2 3 (by kernel_rfl)).trans rfl, trivial⟩) (by kernel_rfl) (fun _ _ _ _ _ => by kernel_rfl)
  case o3r6n3 => exact ValOp.pure (grown_steady _ 3) [(24, .pointer (some ⟨(w.heap.size + 1), 2, none⟩))] rfl (fun _ h1 _ => ⟨h1 2 24 (by kernel_rfl), trivial⟩) (by kernel_rfl) (fun _ _ _ hg _ => run_read rfl rfl (run_cell (below_at (last_at _ _ (by simp)) hg) rfl (Try.isAgg66 _)))
  case o4r6n3 => exact ValOp.pure (grown_steady _ 4) [(3, .pointer (some ⟨(w.heap.size + 1), 0, none⟩))] rfl (fun _ _ h2 => ⟨(h2 3 (by kernel_rfl)).trans rfl, trivial⟩) (by kernel_rfl) (fun _ _ _ _ _ => by kernel_rfl)
  case o5r6n3 => exact ValOp.pure (grown_steady _ 5) [(26, .pointer (some ⟨(w.heap.size + 1), 3, none⟩))] rfl (fun _ h1 _ => ⟨h1 4 26 (by kernel_rfl), trivial⟩) (by kernel_rfl) (fun _ _ _ hg _ => run_read rfl rfl (run_cell (below_at (last_at _ _ (by simp)) hg) rfl (Try.isAgg3 _)))
  case o6r6n3 => exact ValOp.call (grown_steady _ 6) [(23, .agg #[.int .i64 p, .int .u64 K, .int .i64 bi]), (25, .int .u64 M), (27, .int .i64 X)] rfl (fun _ h1 _ => ⟨h1 1 23 (by kernel_rfl), h1 3 25 (by kernel_rfl), h1 5 27 (by kernel_rfl), trivial⟩) (by kernel_rfl) 130 #[.agg #[.int .i64 p, .int .u64 K, .int .i64 bi], .int .u64 M, .int .i64 X] (fun _ => by kernel_rfl) (fun _ w _ => k62 w)
  case o7r6n3 => exact ValOp.pure (grown_steady _ 7) [(3, .pointer (some ⟨(w.heap.size + 1), 0, none⟩))] rfl (fun _ _ h2 => ⟨(h2 3 (by kernel_rfl)).trans rfl, trivial⟩) (by kernel_rfl) (fun _ _ _ _ _ => by kernel_rfl)
  case o8r6n3 => exact ValOp.pure (grown_steady _ 8) [(29, .pointer (some ⟨(w.heap.size + 1), 1, none⟩))] rfl (fun _ h1 _ => ⟨h1 7 29 (by kernel_rfl), trivial⟩) (by kernel_rfl) (fun _ _ _ hg _ => run_read rfl rfl (run_cell (below_at (last_at _ _ (by simp)) hg) rfl (Try.isAgg4 _)))
  case o9r6n3 => exact ValOp.call (grown_steady _ 9) [(22, .agg #[.int .i64 p, .int .u64 K, .int .i64 bi]), (28, .int .u64 NB), (30, .bool ng)] rfl (fun _ h1 _ => ⟨h1 0 22 (by kernel_rfl), h1 6 28 (by kernel_rfl), h1 8 30 (by kernel_rfl), trivial⟩) (by kernel_rfl) 129 #[.agg #[.int .i64 p, .int .u64 K, .int .i64 bi], .int .u64 NB, .bool ng] (fun _ => by kernel_rfl) (fun _ w _ => k60 w)
  case o10r6n3 => exact ValOp.pure (grown_steady _ 10) [(31, .int .u64 V)] rfl (fun _ h1 _ => ⟨h1 9 31 (by kernel_rfl), trivial⟩) (by kernel_rfl) (fun _ _ _ _ _ => by kernel_rfl)
  intro w1 s1 _ bb
  replace bb : Below _ _ w1 := bb
  have B1 : Hid (Below w.heap.size w w1) := by
    have h : Below w.heap.size _ w1 := bb.mono (by simp <;> omega)
    exact (((Below.refl _ _).alloc (Nat.le_refl _) _).alloc (by simp) _).trans h
  clear bb
  first
  | (refine (by assumption : ∀ (a : Act) (w : World), Code.wp Try.prog Code.ret _ a w → _) _ _ ?_
     go_wp2
     go_ret
     exact ⟨rfl, B1.out⟩)
  | (refine (by assumption : ∀ (a : Act) (w : World), Code.wp Try.prog _ _ a w → _) _ _ ?_
     go_wp2
     go_ret
     exact ⟨rfl, B1.out⟩)
/-- The bits of the nearest float. -/
def rndB (p k : Nat) (bi : Int) (x : Pt) : Nat :=
  if x.kind = 4 then (2 ^ k - 1) * 2 ^ p + 2 ^ (p - 1)
  else (if x.neg then 2 ^ (p + k) else 0) + (if x.kind = 3 then (2 ^ k - 1) * 2 ^ p else nearB p k bi x.mant x.exp)
theorem rndB_lt {p k : Nat} {bi : Int} (L : Lay p k bi) (x : Pt) (hm : x.mant < 18446744073709551616) : rndB p k bi x < 2 ^ (p + k + 1) := by
  have hinf := L.inf
  have hh := pow_half L.p1
  have hq := Nat.two_pow_pos (p - 1)
  have hn := nearB_le L x.exp hm
  unfold rndB
  rw [Nat.pow_succ]
  generalize (2 ^ k - 1) * 2 ^ p = I at *
  generalize nearB p k bi x.mant x.exp = J at *
  split
  · omega
  · split <;> split <;> omega
theorem rounded_any {p k : Nat} {bi : Int} (L : Lay p k bi) (x : Pt) (w : World) (hm : x.mant < 18446744073709551616) (he1 : -10000 ≤ x.exp) (he2 : x.exp ≤ 10000) : Calls Try.prog 119 #[lay p k bi, x.val] w fun e w' => e = .returned (.int .u64 (rndB p k bi x : Nat)) ∧ Below w.heap.size w w' := by
  have hinf := L.inf
  have ht := L.top
  have hp := L.pp
  have hh := pow_half L.p1
  have hq := Nat.two_pow_pos (p - 1)
  have hi1 : (2 ^ k - 1) * 2 ^ p < 2 ^ (p + k) := by
    rw [← hinf]; exact Nat.lt_add_of_pos_right (by omega)
  obtain ⟨kd, ng, M, X, qu, LD⟩ := x
  dsimp only at hm he1 he2
  unfold rndB
  dsimp only
  by_cases k4 : kd = 4
  · subst k4
    rw [if_pos rfl]
    refine rd_none w _ M LD _ X ng qu _ _ ?_ (fun w => infinite_any L w) fun w => quiet_any L w
    rw [u64_or_nat _ _ (by omega) (by omega), nat_join p _ _ (Nat.mul_mod_left _ _) (by omega)]
  · rw [if_neg k4]
    by_cases k3 : kd = 3
    · subst k3
      rw [if_pos rfl]
      exact rd_inf w _ M LD _ X ng qu _ (fun w => infinite_any L w) fun w => signed_any L _ ng w hi1
    · rw [if_neg k3]
      have hn := nearB_le L X hm
      exact rd_num w _ M LD _ X ng qu kd k3 k4 _ (fun w => nearest_any L M X w hm he1 he2) fun w => signed_any L _ ng w (by omega)
set_option maxHeartbeats 2000000 in
theorem number_by (kd X : Int) (ng qu : Bool) (M LD V : Nat) (w : World) (k52 : ∀ w, Calls Try.prog 119 #[.agg #[.int .i64 52, .int .u64 2047, .int .i64 1023], .agg #[.int .i64 kd, .bool ng, .int .u64 M, .int .i64 X, .bool qu, .int .u64 LD]] w fun e w' => e = .returned (.int .u64 (V : Int)) ∧ Below w.heap.size w w') :
    Calls Try.prog 101 #[.agg #[.int .i64 kd, .bool ng, .int .u64 M, .int .i64 X, .bool qu, .int .u64 LD]] w fun e w' => e = .returned (.float .f64 V) ∧ Below w.heap.size w w' := by
  have k41 : ∀ w, Calls Try.prog 110 #[] w fun e w' => e = .returned (.agg #[.int .i64 52, .int .u64 2047, .int .i64 1023]) ∧ Below w.heap.size w w' := double_any
  go_enter Try.func101, Try.ntmps101
  go_wp2_with fail
  refine wp_region_vals (a1 := ?a1r1n4) (grown _) [.agg #[.int .i64 52, .int .u64 2047, .int .i64 1023], .agg #[.int .i64 kd, .bool ng, .int .u64 M, .int .i64 X, .bool qu, .int .u64 LD], .int .u64 V, .float .f64 V, .float .f64 V] 7 rfl (by kernel_rfl) (by kernel_rfl) (grown_start _) ⟨?o0r1n4, ?o1r1n4, ?o2r1n4, ?o3r1n4, ?o4r1n4, trivial⟩ ?har1n4 ?hdoner1n4
  case har1n4 => simp [putAll, Act.put]; exact rfl
  case o0r1n4 => exact ValOp.call (grown_steady _ 0) [] rfl (fun _ _ _ => trivial) (by kernel_rfl) 110 #[] (fun _ => by kernel_rfl) (fun _ w _ => k41 w)
  case o1r1n4 => exact ValOp.pure (grown_steady _ 1) [(1, .pointer (some ⟨w.heap.size, 0, none⟩))] rfl (fun _ _ h2 => ⟨(h2 1 (by kernel_rfl)).trans rfl, trivial⟩) (by kernel_rfl) (fun _ _ _ hg _ => run_read rfl rfl (run_loadVar_row _ _ _ _ _ _ _ (below_at (heap_alloc_last _ _) hg) Try.underlying100 rfl (by kernel_rfl)))
  case o2r1n4 => exact ValOp.call (grown_steady _ 2) [(3, .agg #[.int .i64 52, .int .u64 2047, .int .i64 1023]), (4, .agg #[.int .i64 kd, .bool ng, .int .u64 M, .int .i64 X, .bool qu, .int .u64 LD])] rfl (fun _ h1 _ => ⟨h1 0 3 (by kernel_rfl), h1 1 4 (by kernel_rfl), trivial⟩) (by kernel_rfl) 119 #[.agg #[.int .i64 52, .int .u64 2047, .int .i64 1023], .agg #[.int .i64 kd, .bool ng, .int .u64 M, .int .i64 X, .bool qu, .int .u64 LD]] (fun _ => by kernel_rfl) (fun _ w _ => k52 w)
  case o3r1n4 => exact ValOp.pure (grown_steady _ 3) [(5, .int .u64 V)] rfl (fun _ h1 _ => ⟨h1 2 5 (by kernel_rfl), trivial⟩) (by kernel_rfl) (fun _ _ _ _ _ => by kernel_rfl)
  case o4r1n4 => exact ValOp.pure (grown_steady _ 4) [(6, .float .f64 V)] rfl (fun _ h1 _ => ⟨h1 3 6 (by kernel_rfl), trivial⟩) (by kernel_rfl) (fun _ _ _ _ _ => by kernel_rfl)
  intro w1 s1 _ bb
  replace bb : Below _ _ w1 := bb
  have B1 : Hid (Below w.heap.size w w1) := ((Below.refl _ _).alloc (Nat.le_refl _) _).trans (bb.mono (by simp))
  clear bb
  refine (by assumption : ∀ (a : Act) (w : World), Code.wp Try.prog Code.ret _ a w → _) _ _ ?_
  go_wp2
  go_ret
  exact ⟨rfl, B1.out⟩
theorem number_any (x : Pt) (w : World) (hm : x.mant < 18446744073709551616) (he1 : -10000 ≤ x.exp) (he2 : x.exp ≤ 10000) : Calls Try.prog 101 #[x.val] w fun e w' => e = .returned (.float .f64 (rndB 52 11 1023 x)) ∧ Below w.heap.size w w' :=
  number_by x.kind x.exp x.neg x.quiet x.mant x.load _ w fun w => rounded_any lay64 x w hm he1 he2
end Go.Proofs.Ytdhfkdopcphjlab

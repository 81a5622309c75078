/-
  The contract of a layout's parts, by the numbers that stand in it. Condition: the layout is one that is reckoned with.
-/
import Derived.Test.YtdhfkdopcphjlabSg
import Derived.BigRegion
namespace Go.Proofs.Ytdhfkdopcphjlab
open Go.RowKit
theorem drew_heap (w : World) : w.drew.heap = w.heap := rfl
theorem last_at (w : World) (o : Obj) {g : Nat} (h : w.heap.size = g) : (w.alloc o).heap[g]? = some o := by subst h; exact heap_alloc_last _ _
theorem cells3 {w : World} {g : Nat} {a b c : Value} {tt : TypeId} (h : w.heap[g]? = some (.cells #[a, b, c] tt (0, 0))) : w.cell? ⟨g, 0, none⟩ = some a ∧ w.cell? ⟨g, 1, none⟩ = some b ∧ w.cell? ⟨g, 2, none⟩ = some c :=
  ⟨cell_of_row w g 0 _ tt _ h, cell_of_row w g 1 _ tt _ h, cell_of_row w g 2 _ tt _ h⟩
theorem cells6 {w : World} {g : Nat} {a b c d e f : Value} {tt : TypeId} (h : w.heap[g]? = some (.cells #[a, b, c, d, e, f] tt (0, 0))) : w.cell? ⟨g, 0, none⟩ = some a ∧ w.cell? ⟨g, 1, none⟩ = some b ∧ w.cell? ⟨g, 2, none⟩ = some c ∧ w.cell? ⟨g, 3, none⟩ = some d ∧ w.cell? ⟨g, 4, none⟩ = some e ∧ w.cell? ⟨g, 5, none⟩ = some f :=
  ⟨cell_of_row w g 0 _ tt _ h, cell_of_row w g 1 _ tt _ h, cell_of_row w g 2 _ tt _ h, cell_of_row w g 3 _ tt _ h, cell_of_row w g 4 _ tt _ h, cell_of_row w g 5 _ tt _ h⟩
theorem below_set {B m : Nat} {w V : World} {c : Array Value} (h : Below B w V) (hm : B ≤ m) : Below B w (V.setRow m c) :=
  h.trans ⟨rfl, rfl, rfl, by simp, fun k hk => setRow_other V m k c (by omega)⟩
/-- The last: a row is loaded, stored as the answer, and handed back. -/
theorem ret_row {P : Program} {f : Func} {post : Ending → World → Prop} {id : Nat} {o1 o2 : Oper} {a : Act} {w : World} {gp gr : Nat} (ty : TypeId) (tp td tr : Tmp) {cs cs0 : Array Value} {tt tt' : TypeId} {d : TypeDesc} (h1 : o1.op = .load ty (.tmp tp)) (h2 : o1.dst = some td) (h3 : o2.op = .store ty (.tmp tr) (.tmp td)) (h4 : o2.dst = none) (hgd : o1.guard = none ∧ o2.guard = none) (hne : td < a.tmps.size ∧ td ≠ tr)
    (hp : a.tmps[tp]? = some (.pointer (some ⟨gp, 0, none⟩))) (hr : a.tmps[tr]? = some (.pointer (some ⟨gr, 0, none⟩))) (hgp : w.heap[gp]? = some (.cells cs tt (0, 0))) (hgr : w.heap[gr]? = some (.cells cs0 tt' (0, 0))) (hsz : cs0.size = cs.size)
    (hu : P.underlying ty = some d) (hd : (match d with | .struct _ | .array _ _ => true | _ => false) = true) (hi : (P.info? ty).map (·.size) = some cs.size) (hone : cs.all (·.oneCell') = true) (hres : f.results = #[.cell tr ty]) (hdf : a.defers = [])
    (h : post (.returned (.agg cs)) (w.setRow gr cs)) : Code.wp P ((Code.region id #[o1, o2] false).seq Code.ret) (bodyPost P f post) a w := by
  refine wp_seq (wp_region_list ?_)
  show wpList P _ _ [o1, o2] a w
  refine wpList_load_row hgd.1 ty _ h1 gp (ev_tmp hp) tt cs (0, 0) d hgp hu hd hi ?_
  rw [h2]
  have e1 : (a.put (some td) (.agg cs)).tmps[tr]? = some (.pointer (some ⟨gr, 0, none⟩)) := (put_other hne.2).trans hr
  have e2 : (a.put (some td) (.agg cs)).tmps[td]? = some (.agg cs) := by simp [Act.put, hne.1]
  refine wpList_store_row hgd.2 ty _ _ h3 gr cs (ev_tmp e1) (ev_tmp e2) tt' cs0 hgr hi hsz hone ?_
  rw [h4]
  refine wp_ret (bodyPost_ret (results_cell_row hres _ _ gr tt' cs (0, 0) d ?_ (setRow_heap _ _ _ _ _ _ hgr) hu hd hi) ?_ h)
  · show ((a.put (some td) (.agg cs)).tmps).getD tr undef = _
    simp [e1]
  · exact hdf
def cs5 (ng qu : Bool) (LD : Nat) (s : Nat → Bool) : Array Value := #[.int .i64 (if s 10 then 4 else 0), .bool ng, .int .u64 0, .int .i64 0, .bool (if s 12 then qu else false), .int .u64 (if s 14 then LD else 0)]
set_option maxHeartbeats 2000000 in
theorem parts_none {p : Nat} {bi : Int} (b : Nat) (w : World) (_hb : b < 18446744073709551616) (h1 : 1 ≤ p) (h2 : p ≤ 52) (_hb0 : 0 ≤ bi) (_hb1 : bi ≤ 1023) (K E F NS P S : Nat) (ng : Bool)
    (_hK0 : 3 ≤ K) (_hK1 : K ≤ 2047) (hP0 : 2 ≤ P) (hP1 : P ≤ 4503599627370496) (hE : bits .and .u64 ((b : Int) / 2 ^ p) K = E) (hF : bits .and .u64 b ((P : Int) - 1) = F) (hN : bits .and .u64 b S = NS) (hng : ((NS : Int) != 0) = ng)
    (k55 : ∀ w, Calls Try.prog 124 #[.agg #[.int .i64 p, .int .u64 K, .int .i64 bi]] w fun e w' => e = .returned (.int .u64 P) ∧ Below w.heap.size w w')
    (k56 : ∀ w, Calls Try.prog 120 #[.agg #[.int .i64 p, .int .u64 K, .int .i64 bi]] w fun e w' => e = .returned (.int .u64 S) ∧ Below w.heap.size w w')
    (Q FQ LD : Nat) (qu : Bool) (hFQ : bits .and .u64 F Q = FQ) (hqu : ((FQ : Int) != 0) = qu) (hLD : bits .andNot .u64 F Q = LD)
    (k57 : ∀ w, Calls Try.prog 125 #[.agg #[.int .i64 p, .int .u64 K, .int .i64 bi]] w fun e w' => e = .returned (.int .u64 Q) ∧ Below w.heap.size w w')
    (hEK : E = K) (hF0 : ¬ F = 0) :
    Calls Try.prog 111 #[.agg #[.int .i64 p, .int .u64 K, .int .i64 bi], .int .u64 b] w fun e w' => e = .returned (.agg #[.int .i64 4, .bool ng, .int .u64 0, .int .i64 0, .bool qu, .int .u64 LD]) ∧ Below w.heap.size w w' := by
  go_enter Try.func111, Try.ntmps111
  go_wp2_with fail
  go_region
  go_wp2_with (go_at_call 124; refine (k55 _).mono ?_)
  rintro e w1 ⟨rfl, b1⟩
  have r1 : Hid (w1.heap[w.heap.size]? = some (.cells #[.int .i64 p, .int .u64 K, .int .i64 bi] 121 (0, 0))) := (b1.block _ (by simp [drew_heap] <;> omega)).trans ((Below.heap_alloc _ _ _ (by simp)).trans (heap_alloc_last _ _))
  have B1 : Hid (Below w.heap.size w w1) := by
    have h : Below w.heap.size _ w1 := b1.mono (by simp [drew_heap] <;> omega)
    exact (((Below.refl _ _).alloc (Nat.le_refl _) _).alloc (by simp) _).drew.trans h
  have z1 : w.heap.size + 2 ≤ w1.heap.size := by have := b1.size; simpa [drew_heap] using this
  have q1 : Hid (w1.heap[w.heap.size + 1]? = some (.cells #[.int .i64 0, .bool false, .int .u64 0, .int .i64 0, .bool false, .int .u64 0] 100 (0, 0))) := (b1.block _ (by simp [drew_heap] <;> omega)).trans (last_at _ _ (by simp))
  obtain ⟨c10, c11, c12⟩ := cells3 r1.out
  clear b1
  go_wp2_with (go_at_call 120; refine (k56 _).mono ?_)
  rintro e w2 ⟨rfl, b2⟩
  have r2 : Hid (w2.heap[w.heap.size]? = some (.cells #[.int .i64 p, .int .u64 K, .int .i64 bi] 121 (0, 0))) := (b2.block _ (by omega)).trans r1.out
  have B2 : Hid (Below w.heap.size w w2) := B1.out.trans (b2.mono (by omega))
  have q2 : Hid (w2.heap[w.heap.size + 1]? = some (.cells #[.int .i64 0, .bool false, .int .u64 0, .int .i64 0, .bool false, .int .u64 0] 100 (0, 0))) := (b2.block _ (by omega)).trans q1.out
  have z2 : w.heap.size + 2 ≤ w2.heap.size := Nat.le_trans z1 b2.size
  obtain ⟨c20, c21, c22⟩ := cells3 r2.out
  clear b2 r1 B1 c10 c11 c12 z1 q1
  have c31 : (w2.alloc (.cells #[.int .i64 0, .bool ng, .int .u64 0, .int .i64 0, .bool false, .int .u64 0] 100)).cell? ⟨w.heap.size, 1, none⟩ = some (.int .u64 K) := cell_of_row _ _ 1 _ _ _ ((Below.heap_alloc _ _ _ (by omega)).trans r2.out)
  go_wp2_with fail
  rename_i hcont hx
  refine wp_region_vals (a1 := ?a1) (Wrote w2.heap.size 100 _ (cs5 ng qu LD)) [.int .u64 F, .agg #[.int .i64 p, .int .u64 K, .int .i64 bi], .int .u64 Q, .int .u64 FQ, .bool qu, .int .u64 F, .agg #[.int .i64 p, .int .u64 K, .int .i64 bi], .int .u64 Q, .int .u64 LD, .pointer (some ⟨w2.heap.size, 0, none⟩), undef, .pointer (some ⟨w2.heap.size, 4, none⟩), undef, .pointer (some ⟨w2.heap.size, 5, none⟩), undef] 79 rfl (by kernel_rfl) (by kernel_rfl) (Wrote.start fun s hs => by rw [heap_alloc_last]; simp [cs5, hs]) ⟨?o0, ?o1, ?o2, ?o3, ?o4, ?o5, ?o6, ?o7, ?o8, ?o9, ?o10, ?o11, ?o12, ?o13, ?o14, trivial⟩ ?ha ?hdone
  case ha => simp [putAll, Act.put]; exact rfl
  case o0 => exact ValOp.pure (Wrote.steady 0 (fun _ => rfl)) [(6, .int .u64 F)] rfl (fun _ _ h2 => ⟨(h2 6 (by kernel_rfl)).trans rfl, trivial⟩) (by kernel_rfl) (fun _ _ _ _ _ => by kernel_rfl)
  case o1 => exact ValOp.pure (Wrote.steady 1 (fun _ => rfl)) [(2, .pointer (some ⟨w.heap.size, 0, none⟩))] rfl (fun _ _ h2 => ⟨(h2 2 (by kernel_rfl)).trans rfl, trivial⟩) (by kernel_rfl) (fun _ _ _ hg _ => run_read rfl rfl (run_loadVar_row _ _ _ _ _ _ _ (hg.low ((Below.heap_alloc _ _ _ (by omega)).trans r2.out) (by omega)) Try.underlying121 rfl (by kernel_rfl)))
  case o2 => exact ValOp.call (Wrote.steady 2 (fun _ => rfl)) [(36, .agg #[.int .i64 p, .int .u64 K, .int .i64 bi])] rfl (fun _ h1 _ => ⟨h1 1 36 (by kernel_rfl), trivial⟩) (by kernel_rfl) 125 #[.agg #[.int .i64 p, .int .u64 K, .int .i64 bi]] (fun _ => by kernel_rfl) (fun _ w _ => k57 w)
  case o3 => exact ValOp.pure (Wrote.steady 3 (fun _ => rfl)) [(35, .int .u64 F), (37, .int .u64 Q)] rfl (fun _ h1 _ => ⟨h1 0 35 (by kernel_rfl), h1 2 37 (by kernel_rfl), trivial⟩) (by kernel_rfl) (fun _ _ _ _ _ => run_bin (a := .int .u64 F) (b := .int .u64 Q) rfl rfl rfl (by kernel_rfl) (by simp [go_sem, hFQ]))
  case o4 => exact ValOp.pure (Wrote.steady 4 (fun _ => rfl)) [(38, .int .u64 FQ)] rfl (fun _ h1 _ => ⟨h1 3 38 (by kernel_rfl), trivial⟩) (by kernel_rfl) (fun _ _ _ _ _ => run_bin (a := .int .u64 FQ) (b := .int .u64 0) rfl rfl rfl (by kernel_rfl) (by simp [go_sem, hqu]))
  case o5 => exact ValOp.pure (Wrote.steady 5 (fun _ => rfl)) [(6, .int .u64 F)] rfl (fun _ _ h2 => ⟨(h2 6 (by kernel_rfl)).trans rfl, trivial⟩) (by kernel_rfl) (fun _ _ _ _ _ => by kernel_rfl)
  case o6 => exact ValOp.pure (Wrote.steady 6 (fun _ => rfl)) [(2, .pointer (some ⟨w.heap.size, 0, none⟩))] rfl (fun _ _ h2 => ⟨(h2 2 (by kernel_rfl)).trans rfl, trivial⟩) (by kernel_rfl) (fun _ _ _ hg _ => run_read rfl rfl (run_loadVar_row _ _ _ _ _ _ _ (hg.low ((Below.heap_alloc _ _ _ (by omega)).trans r2.out) (by omega)) Try.underlying121 rfl (by kernel_rfl)))
  case o7 => exact ValOp.call (Wrote.steady 7 (fun _ => rfl)) [(41, .agg #[.int .i64 p, .int .u64 K, .int .i64 bi])] rfl (fun _ h1 _ => ⟨h1 6 41 (by kernel_rfl), trivial⟩) (by kernel_rfl) 125 #[.agg #[.int .i64 p, .int .u64 K, .int .i64 bi]] (fun _ => by kernel_rfl) (fun _ w _ => k57 w)
  case o8 => exact ValOp.pure (Wrote.steady 8 (fun _ => rfl)) [(40, .int .u64 F), (42, .int .u64 Q)] rfl (fun _ h1 _ => ⟨h1 5 40 (by kernel_rfl), h1 7 42 (by kernel_rfl), trivial⟩) (by kernel_rfl) (fun _ _ _ _ _ => run_bin (a := .int .u64 F) (b := .int .u64 Q) rfl rfl rfl (by kernel_rfl) (by simp [go_sem, hLD]))
  case o9 => exact ValOp.pure (Wrote.steady 9 (fun _ => rfl)) [(7, .pointer (some ⟨w2.heap.size, 0, none⟩))] rfl (fun _ _ h2 => ⟨(h2 7 (by kernel_rfl)).trans rfl, trivial⟩) (by kernel_rfl) (fun _ _ _ _ _ => by kernel_rfl)
  case o10 => exact ValOp.store (v := .int .i64 4) [(44, .pointer (some ⟨w2.heap.size, 0, none⟩))] rfl rfl (fun _ h1 _ => ⟨h1 9 44 (by kernel_rfl), trivial⟩) (by kernel_rfl) rfl rfl rfl rfl (fun _ _ _ hg => run_store_int hg.at_ (by simp [cs5]) (Try.sizeOf3 _)) (fun s _ _ hg => hg.set (by simp [cs5, mark]))
  case o11 => exact ValOp.pure (Wrote.steady 11 (fun _ => rfl)) [(7, .pointer (some ⟨w2.heap.size, 0, none⟩))] rfl (fun _ _ h2 => ⟨(h2 7 (by kernel_rfl)).trans rfl, trivial⟩) (by kernel_rfl) (fun _ _ _ _ _ => by kernel_rfl)
  case o12 => exact ValOp.store (v := .bool qu) [(45, .pointer (some ⟨w2.heap.size, 4, none⟩)), (39, .bool qu)] rfl rfl (fun _ h1 _ => ⟨h1 11 45 (by kernel_rfl), h1 4 39 (by kernel_rfl), trivial⟩) (by kernel_rfl) rfl rfl rfl rfl (fun _ _ _ hg => run_store_bool hg.at_ (by simp [cs5]) (Try.sizeOf4 _)) (fun s _ _ hg => hg.set (by simp [cs5, mark]))
  case o13 => exact ValOp.pure (Wrote.steady 13 (fun _ => rfl)) [(7, .pointer (some ⟨w2.heap.size, 0, none⟩))] rfl (fun _ _ h2 => ⟨(h2 7 (by kernel_rfl)).trans rfl, trivial⟩) (by kernel_rfl) (fun _ _ _ _ _ => by kernel_rfl)
  case o14 => exact ValOp.store (v := .int .u64 LD) [(46, .pointer (some ⟨w2.heap.size, 5, none⟩)), (43, .int .u64 LD)] rfl rfl (fun _ h1 _ => ⟨h1 13 46 (by kernel_rfl), h1 8 43 (by kernel_rfl), trivial⟩) (by kernel_rfl) rfl rfl rfl rfl (fun _ _ _ hg => run_store_int hg.at_ (by simp [cs5]) (Try.sizeOf66 _)) (fun s _ _ hg => hg.set (by simp [cs5, mark]))
  intro w3 s3 hs3 hg3
  have hr3 : w3.heap[w2.heap.size]? = some (.cells #[.int .i64 4, .bool ng, .int .u64 0, .int .i64 0, .bool qu, .int .u64 LD] 100 (0, 0)) := by
    have := hg3.at_
    simpa only [cs5, hs3 10 (by decide), hs3 12 (by decide), hs3 14 (by decide), if_true] using this
  have hB3 : Hid (Below w.heap.size w w3) := (B2.out.alloc (by omega) _).trans (hg3.below.mono (by omega))
  refine hcont _ _ ?_
  clear hcont
  have hq3 : w3.heap[w.heap.size + 1]? = some (.cells #[.int .i64 0, .bool false, .int .u64 0, .int .i64 0, .bool false, .int .u64 0] 100 (0, 0)) := hg3.low ((Below.heap_alloc _ _ _ (by omega)).trans q2.out) (by omega)
  clear hg3 hs3 r2 B2 q2 c20 c21 c22 c31 hx
  refine ret_row (gp := w2.heap.size) (gr := w.heap.size + 1) 100 7 78 4 rfl rfl rfl rfl ⟨rfl, rfl⟩ ⟨by simp, by decide⟩ rfl rfl hr3 hq3 rfl Try.underlying100 rfl (by kernel_rfl) (by simp [Value.oneCell']) Try.results111 rfl ?_
  exact ⟨rfl, below_set hB3.out (by omega)⟩
theorem froz {w : World} {g i : Nat} {cs : Array Value} {tt : TypeId} (h : w.heap[g]? = some (.cells cs tt (0, 0))) : w.frozen? ⟨g, i, none⟩ = false := by simp [World.frozen?, h]
theorem set_other {w : World} {g g' i : Nat} (v : Value) {o : Obj} (hne : g ≠ g') (h : w.heap[g']? = some o) : (w.setCell ⟨g, i, none⟩ v).heap[g']? = some o := by
  simp [World.setCell, Array.getElem?_modify, hne, h]
theorem six {w : World} {g : Nat} {a b c d e f a' b' c' d' e' f' : Value} {tt : TypeId} (h : w.heap[g]? = some (.cells #[a, b, c, d, e, f] tt (0, 0))) : ((((((w.setCell ⟨g, 0, none⟩ a').setCell ⟨g, 1, none⟩ b').setCell ⟨g, 2, none⟩ c').setCell ⟨g, 3, none⟩ d').setCell ⟨g, 4, none⟩ e').setCell ⟨g, 5, none⟩ f').heap[g]? = some (.cells #[a', b', c', d', e', f'] tt (0, 0)) := by
  have h0 := set_at (i := 5) f' (set_at (i := 4) e' (set_at (i := 3) d' (set_at (i := 2) c' (set_at (i := 1) b' (set_at (i := 0) a' h)))))
  simpa using h0
theorem below6 {B g : Nat} {w V : World} {a b c d e f : Value} (h : Below B w V) (hg : B ≤ g) : Below B w ((((((V.setCell ⟨g, 0, none⟩ a).setCell ⟨g, 1, none⟩ b).setCell ⟨g, 2, none⟩ c).setCell ⟨g, 3, none⟩ d).setCell ⟨g, 4, none⟩ e).setCell ⟨g, 5, none⟩ f) :=
  (((((h.setCell (p := ⟨g, 0, none⟩) hg _).setCell (p := ⟨g, 1, none⟩) hg _).setCell (p := ⟨g, 2, none⟩) hg _).setCell (p := ⟨g, 3, none⟩) hg _).setCell (p := ⟨g, 4, none⟩) hg _).setCell (p := ⟨g, 5, none⟩) hg _
theorem Hid.mk {p : Prop} (h : p) : Hid p := h
end Go.Proofs.Ytdhfkdopcphjlab

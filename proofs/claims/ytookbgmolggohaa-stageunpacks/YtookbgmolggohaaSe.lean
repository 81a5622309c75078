/-
  The contracts of pointsOf and Set: the code points of which a table says a number. Condition: the table's numbers are from 0 to 65535.
-/
import Derived.Test.YtookbgmolggohaaRw
namespace Go.Proofs.Ytookbgmolggohaa
open Go.RowKit Go.Shelf
attribute [local go_sem] Oper.semAt_some
theorem isAgg3 (w : World) : (isAgg 3).run Try.prog w = .ok false w := by kernel_rfl
/-- 1 where F says n, 0 elsewhere. -/
def sayN (F : Int → Int) (n : Int) : Int → Int := fun p => if F p = n then 1 else 0
def eb1 (x : Int) : Bool := x == 1
theorem eb_say (F : Int → Int) (n p : Int) : eb1 (sayN F n p) = (F p == n) := by
  unfold eb1 sayN
  by_cases h : F p = n
  · rw [if_pos h]; simp [h]
  · rw [if_neg h]; simp [h]
theorem eb_ne (F : Int → Int) (n : Int) : ∀ q q' : Int, sayN F n q ≠ sayN F n q' → (eb1 (sayN F n q) == eb1 (sayN F n q')) = false := fun q q' h => by
  unfold eb1 sayN at *
  by_cases h1 : F q = n <;> by_cases h2 : F q' = n <;> simp [h1, h2] at h ⊢
set_option maxRecDepth 100000 in
theorem set1_any (Bt Bq : Nat) (vt : Value) (F : Int → Int) (n p : Int) (w : World) (hBt : w.heap[Bt]? = some (.cells #[vt] 24 (0, 0))) (hBq : w.heap[Bq]? = some (.cells #[.int .i64 n] 3 (0, 0)))
    (hS : ∀ w1 : World, Below w.heap.size w w1 → Calls Try.prog 13 #[vt, .int .i32 p] w1 fun e w' => e = .returned (.int .i64 (F p)) ∧ Below w1.heap.size w1 w') :
    Calls Try.prog 53 #[.int .i32 p, .pointer (some ⟨Bt, 0, none⟩), .pointer (some ⟨Bq, 0, none⟩)] w fun e w' => e = .returned (.bool (F p == n)) ∧ Below w.heap.size w w' := by
  go_enter Try.func53, Try.ntmps53
  go_wp2_with fail
  refine wp_region_vals (a1 := ?a1rs) (grown w) [vt, .int .i32 p, .int .i64 (F p), .int .i64 n, .bool (F p == n), .bool (F p == n)] 10 rfl (by kernel_rfl) (by kernel_rfl) (grown_start _) ⟨?o0rs, ?o1rs, ?o2rs, ?o3rs, ?o4rs, ?o5rs, trivial⟩ ?hars ?hdoners
  case hars => simp [putAll, Act.put]; exact rfl
  case o0rs => exact ValOp.pure (grown_steady _ 0) [(1, .pointer (some ⟨Bt, 0, none⟩))] rfl (fun _ _ h2 => ⟨(h2 1 (by kernel_rfl)).trans rfl, trivial⟩) (by kernel_rfl) (fun _ _ _ hg _ => run_read rfl rfl (run_cell ((hg.block Bt (Array.getElem?_eq_some_iff.1 hBt).1).trans hBt) rfl (isAgg24 _)))
  case o1rs => exact ValOp.pure (grown_steady _ 1) [(0, .int .i32 p)] rfl (fun _ _ h2 => ⟨(h2 0 (by kernel_rfl)).trans rfl, trivial⟩) (by kernel_rfl) (fun _ _ _ _ _ => by kernel_rfl)
  case o2rs => exact ValOp.call (grown_steady _ 2) [(5, vt), (6, .int .i32 p)] rfl (fun _ h1 _ => ⟨h1 0 5 (by kernel_rfl), h1 1 6 (by kernel_rfl), trivial⟩) (by kernel_rfl) 13 #[vt, .int .i32 p] (fun _ => by kernel_rfl) (fun _ w1 hg => hS w1 hg)
  case o3rs => exact ValOp.pure (grown_steady _ 3) [(2, .pointer (some ⟨Bq, 0, none⟩))] rfl (fun _ _ h2 => ⟨(h2 2 (by kernel_rfl)).trans rfl, trivial⟩) (by kernel_rfl) (fun _ _ _ hg _ => run_read rfl rfl (run_cell ((hg.block Bq (Array.getElem?_eq_some_iff.1 hBq).1).trans hBq) rfl (isAgg3 _)))
  case o4rs => exact ValOp.pure (grown_steady _ 4) [(7, .int .i64 (F p)), (8, .int .i64 n)] rfl (fun _ h1 _ => ⟨h1 2 7 (by kernel_rfl), h1 3 8 (by kernel_rfl), trivial⟩) (by kernel_rfl) (fun _ _ _ _ _ => run_bin (a := .int .i64 (F p)) (b := .int .i64 n) rfl rfl rfl (by kernel_rfl) (by simp [go_sem]))
  case o5rs => exact ValOp.pure (grown_steady _ 5) [(9, .bool (F p == n))] rfl (fun _ h1 _ => ⟨h1 4 9 (by kernel_rfl), trivial⟩) (by kernel_rfl) (fun _ _ _ _ _ => by kernel_rfl)
  case hdoners =>
    intro w1 s1 _ hg1
    go_wp2
    go_ret
    exact ⟨rfl, hg1⟩
theorem sb_stops (n Bw Bs n₀ B L Bt Bq : Nat) (A E : Int) (F : Int → Int) (eb : Int → Bool) (w : World) (hA0 : 0 ≤ A) (hAE : A ≤ E) (hE : E ≤ 1114111) (heb : ∀ q q' : Int, F q ≠ F q' → (eb (F q) == eb (F q')) = false)
    (hS : ∀ (W1 : World) (p : Int), Below n₀ w W1 → A ≤ p → p ≤ E → Calls Try.prog 53 #[.int .i32 p, .pointer (some ⟨Bt, 0, none⟩), .pointer (some ⟨Bq, 0, none⟩)] W1 fun e w' => e = .returned (.bool (eb (F p))) ∧ Below W1.heap.size W1 w')
    (hBw : w.heap[Bw]? = some (.cells #[.int .i32 A, .int .i32 E] 88 (0, 0))) (hBs : w.heap[Bs]? = some (.cells #[.func (.func 53) #[] #[.pointer (some ⟨Bt, 0, none⟩), .pointer (some ⟨Bq, 0, none⟩)]] 69 (0, 0))) (hLw : L ≤ Bw) (hLs : L ≤ Bs) (hn1 : n₀ ≤ w.heap.size) (hB : B < w.heap.size) (hr0 : rowAt w B = none) :
    SeqStopsK Fence.wide n Try.prog 58 #[.pointer (some ⟨Bw, 0, none⟩), .pointer (some ⟨Bs, 0, none⟩)] (fun r : Rw => #[Value.agg #[.int .i32 r.1, .int .i32 r.2.1], .bool (eb r.2.2)]) (KpR n₀ B L) (fun ys => Rn F A ys (E + 1)) (fun pre => pre.length ≤ (E + 1 - A).toNat) (E + 1 - A).toNat w := fun l J Jx W hW hJ _ hY h0 =>
  sb_in n l Bw Bs n₀ B L A E F Bt Bq eb J Jx hA0 hAE hE heb W (fun x W1 W2 h g => hJ x W1 W2 none h g (fun r e => by cases e)) hY (fun W1 p hb h1 h2 => hS W1 p ((hW.mono hn1).trans hb) h1 h2) (below_at hBw hW) (below_at hBs hW) hLw hLs (Nat.le_trans hn1 hW.size) (Nat.lt_of_lt_of_le hB hW.size) ((rowAt_same (hW.block B hB)).trans hr0) h0
theorem info88 : (Try.prog.info? 88).map (fun i => (i.zero, i.size, i.bytes)) = some (some (.agg #[.int .i32 0, .int .i32 0]), 2, 8) := by kernel_rfl
/-- Spans, as cells. -/
def celS (L : List Rw) : List Value := L.flatMap fun s => [.int .i32 s.1, .int .i32 s.2.1]
theorem celS_snoc (L : List Rw) (s : Rw) : celS (L ++ [s]) = celS L ++ [.int .i32 s.1, .int .i32 s.2.1] := by simp [celS]
/-- The stretches of which yes is said. -/
def yes (eb : Int → Bool) (X : List Rw) : List Rw := X.filter fun r => eb r.2.2
theorem yes_snoc (eb : Int → Bool) (X : List Rw) (r : Rw) : yes eb (X ++ [r]) = yes eb X ++ (if eb r.2.2 then [r] else []) := by
  simp [yes, List.filter_append, List.filter_cons]
theorem yes_len (eb : Int → Bool) (X : List Rw) : (yes eb X).length ≤ X.length := List.length_filter_le _ _
set_option maxRecDepth 100000 in
set_option maxHeartbeats 2000000 in
theorem points_any (Bt Bq : Nat) (F : Int → Int) (eb : Int → Bool) (w : World) (heb : ∀ q q' : Int, F q ≠ F q' → (eb (F q) == eb (F q')) = false)
    (HS0 : ∀ (W1 : World) (p : Int), Below w.heap.size w W1 → 0 ≤ p → p ≤ 1114111 → Calls Try.prog 53 #[.int .i32 p, .pointer (some ⟨Bt, 0, none⟩), .pointer (some ⟨Bq, 0, none⟩)] W1 fun e w' => e = .returned (.bool (eb (F p))) ∧ Below W1.heap.size W1 w') :
    Calls Try.prog 52 #[.func (.func 53) #[] #[.pointer (some ⟨Bt, 0, none⟩), .pointer (some ⟨Bq, 0, none⟩)]] w fun e W' => ∃ v ys, e = .returned v ∧ Rn F 0 ys 1114112 ∧ W'.ownsRow w.heap.size 88 2 v (yes eb ys).length (celS (yes eb ys)) ∧ Below w.heap.size w W' := by
  refine (callsIn_wide (n := 9)).1 ?_
  obtain ⟨i0, hi, hz0, hz1, hz2⟩ := info_parts info88
  replace HS0 : Hid (∀ (W1 : World) (p : Int), Below w.heap.size w W1 → 0 ≤ p → p ≤ 1114111 → Calls Try.prog 53 #[.int .i32 p, .pointer (some ⟨Bt, 0, none⟩), .pointer (some ⟨Bq, 0, none⟩)] W1 fun e w' => e = .returned (.bool (eb (F p))) ∧ Below W1.heap.size W1 w') := HS0
  refine callsIn_of_wp_marks Try.func52 rfl trivial ?_ rfl
  simp only [Try.ntmps52, List.size_toArray, List.length_cons, List.length_nil, Nat.reduceAdd, Nat.reduceSub, Array.replicate_succ, Array.replicate_zero, List.push_toArray, List.append_toArray, List.nil_append, List.cons_append]
  gi_wp2_with fail
  refine ⟨trivial, ?_⟩
  refine (every_in _ _).mono ?_
  rintro e w' ⟨rfl, rfl⟩
  gi_wp2_with fail
  refine ⟨trivial, ?_⟩
  refine (sb57_in _ 0 1114111 _ _ ⟨_, _, _, rfl⟩).mono ?_
  rintro e w' ⟨rfl, rfl⟩
  gi_wp2_with fail
  have hB0 : Below w.heap.size w ((((w.alloc (.cells #[.slice none 0 0] 66)).alloc (.cells #[.int .i32 0, .int .i32 1114111] 88)).alloc (.cells #[.int .i32 0, .int .i32 1114111] 88)).alloc (.cells #[.func (.func 53) #[] #[.pointer (some ⟨Bt, 0, none⟩), .pointer (some ⟨Bq, 0, none⟩)]] 69)) := ((((Below.refl _ w).alloc (Nat.le_refl _) _).alloc (by simp) _).alloc (by simp; omega) _).alloc (by simp; omega) _
  have bO : Boxed ((((w.alloc (.cells #[.slice none 0 0] 66)).alloc (.cells #[.int .i32 0, .int .i32 1114111] 88)).alloc (.cells #[.int .i32 0, .int .i32 1114111] 88)).alloc (.cells #[.func (.func 53) #[] #[.pointer (some ⟨Bt, 0, none⟩), .pointer (some ⟨Bq, 0, none⟩)]] 69)) w.heap.size 66 (.slice none 0 0) := (((Boxed.new w 66 (.slice none 0 0)).alloc _).alloc _).alloc _
  have hw2 : ((((w.alloc (.cells #[.slice none 0 0] 66)).alloc (.cells #[.int .i32 0, .int .i32 1114111] 88)).alloc (.cells #[.int .i32 0, .int .i32 1114111] 88)).alloc (.cells #[.func (.func 53) #[] #[.pointer (some ⟨Bt, 0, none⟩), .pointer (some ⟨Bq, 0, none⟩)]] 69)).heap[w.heap.size + 2]? = some (.cells #[.int .i32 0, .int .i32 1114111] 88 (0, 0)) := by
    have h1 := heap_alloc_last ((w.alloc (.cells #[.slice none 0 0] 66)).alloc (.cells #[.int .i32 0, .int .i32 1114111] 88)) (.cells #[.int .i32 0, .int .i32 1114111] 88)
    rw [Go.RowKit.Below.heap_alloc _ _ _ (by simp)]
    simpa using h1
  have hw3 : ((((w.alloc (.cells #[.slice none 0 0] 66)).alloc (.cells #[.int .i32 0, .int .i32 1114111] 88)).alloc (.cells #[.int .i32 0, .int .i32 1114111] 88)).alloc (.cells #[.func (.func 53) #[] #[.pointer (some ⟨Bt, 0, none⟩), .pointer (some ⟨Bq, 0, none⟩)]] 69)).heap[w.heap.size + 3]? = some (.cells #[.func (.func 53) #[] #[.pointer (some ⟨Bt, 0, none⟩), .pointer (some ⟨Bq, 0, none⟩)]] 69 (0, 0)) := by
    have h1 := heap_alloc_last (((w.alloc (.cells #[.slice none 0 0] 66)).alloc (.cells #[.int .i32 0, .int .i32 1114111] 88)).alloc (.cells #[.int .i32 0, .int .i32 1114111] 88)) (.cells #[.func (.func 53) #[] #[.pointer (some ⟨Bt, 0, none⟩), .pointer (some ⟨Bq, 0, none⟩)]] 69)
    simpa using h1
  have hsz : ((((w.alloc (.cells #[.slice none 0 0] 66)).alloc (.cells #[.int .i32 0, .int .i32 1114111] 88)).alloc (.cells #[.int .i32 0, .int .i32 1114111] 88)).alloc (.cells #[.func (.func 53) #[] #[.pointer (some ⟨Bt, 0, none⟩), .pointer (some ⟨Bq, 0, none⟩)]] 69)).heap.size = w.heap.size + 4 := by simp
  rw [show w.heap.size + 1 + 1 = w.heap.size + 2 by omega, show w.heap.size + 2 + 1 = w.heap.size + 3 by omega]
  generalize ((((w.alloc (.cells #[.slice none 0 0] 66)).alloc (.cells #[.int .i32 0, .int .i32 1114111] 88)).alloc (.cells #[.int .i32 0, .int .i32 1114111] 88)).alloc (.cells #[.func (.func 53) #[] #[.pointer (some ⟨Bt, 0, none⟩), .pointer (some ⟨Bq, 0, none⟩)]] 69)) = W0 at *
  have hro : rowAt W0 w.heap.size = none := by rw [rowAt_boxed bO]; rfl
  refine wpIn_rangeFunc_ownH rfl (by omega) (gf := 58) (lb := #[.pointer (some ⟨w.heap.size + 2, 0, none⟩), .pointer (some ⟨w.heap.size + 3, 0, none⟩)]) rfl trivial (enters_of Try.func58 (by kernel_rfl) rfl)
    (sb_stops _ (w.heap.size + 2) (w.heap.size + 3) w.heap.size w.heap.size (w.heap.size + 1) Bt Bq 0 1114111 F eb W0 (by decide) (by decide) (by decide) heb (fun W1 p hb h1 h2 => HS0.out W1 p (hB0.trans hb) h1 h2) hw2 hw3 (by omega) (by omega) (by omega) (by omega) hro) (fun h k => h.trans k) (fun W l o o' hl hW hc _ => KpR.put (by omega) (by omega) W l o o' hl hW hc) (Below.refl _ _) (fun _ => rfl)
    (fun pre W => (∃ v, Boxed W w.heap.size 66 v ∧ W.ownsRow w.heap.size 88 2 v (yes eb pre).length (celS (yes eb pre)) ∧ True) ∧ Below w.heap.size w W ∧ W0.heap.size ≤ W.heap.size)
    (fun _ _ _ => False)
    (OwnFrom.and (Own.from (holdsRow_own w.heap.size w.heap.size 66 88 2 (fun pre => (yes eb pre).length) (fun pre => celS (yes eb pre)) (fun _ _ => True)) _) (OwnFrom.and (ownFrom_below (Nat.le_refl _) (by omega)) ?og))
    (fun _ _ _ _ _ hs _ _ => hs)
    ⟨⟨_, bO, World.ownsRow_nil _ _ _ _, trivial⟩, hB0, Nat.le_refl _⟩
    (fun r a' W => ∃ Bx, W0.heap.size ≤ Bx ∧ W.heap[Bx]? = some (.cells #[.int .i32 r.1, .int .i32 r.2.1] 88 (0, 0)) ∧ a' = { tmps := #[.func (.func 53) #[] #[.pointer (some ⟨Bt, 0, none⟩), .pointer (some ⟨Bq, 0, none⟩)], undef, .slice none 0 0, .pointer (some ⟨w.heap.size, 0, none⟩), .pointer (some ⟨Bx, 0, none⟩), .bool (eb r.2.2), .agg #[.int .i32 0, .int .i32 1114111], .func (.func 53) #[] #[.pointer (some ⟨Bt, 0, none⟩), .pointer (some ⟨Bq, 0, none⟩)], .func (.func 58) #[] #[.pointer (some ⟨w.heap.size + 2, 0, none⟩), .pointer (some ⟨w.heap.size + 3, 0, none⟩)], .agg #[.int .i32 r.1, .int .i32 r.2.1], .bool (eb r.2.2), undef, undef, undef, undef, undef, undef], defers := [] })
    (fun r a' => ?ax) ?assign ?body ?done ?stop
  case og =>
    intro s A B' row hs hg' _
    exact Nat.le_trans hs hg'.size
  case ax =>
    rintro u X Y row ⟨Bx, h1, h2, h3⟩ hg' hr
    exact ⟨Bx, h1, boxC_own (β := Unit) Bx #[.int .i32 r.1, .int .i32 r.2.1] 88 () X Y row h2 hg' (fun r e => (hr r e).2), h3⟩
  case assign =>
    rintro l pre r W K ⟨⟨v, hv, hrow, _⟩, hB, hW0⟩ hK
    have HK : Hid _ := hK _ _ ((KeepsOthers.alloc W (.cells #[.int .i32 r.1, .int .i32 r.2.1] 88)).from _) (kr_alloc (by omega) (by omega) _) ⟨⟨v, hv.alloc _, hrow.alloc _, trivial⟩, hB.alloc hB.size _, by simp; omega⟩ ⟨W.heap.size, hW0, World.alloc_heap_new _ _, rfl⟩
    clear hK
    gi_wp2
    exact HK
  case body =>
    rintro l pre r a' W hl ⟨rr, hrr⟩ ⟨⟨v, hv, hrow, _⟩, hB, hW0⟩ ⟨Bx, hBx, bX, rfl⟩ hlt
    obtain ⟨x, y, n⟩ := r
    simp only at bX
    have hc := hv.cell
    have cx : W.cell? ⟨Bx, 0, none⟩ = some (.int .i32 x) := by simp [World.cell?, bX]
    have cy : W.cell? ⟨Bx, 1, none⟩ = some (.int .i32 y) := by simp [World.cell?, bX]
    have hln := yes_len eb pre
    have hlt' : pre.length < 1114112 := hlt
    have hsn := yes_snoc eb pre (x, y, n)
    simp only at hsn
    cases hn : eb n
    · have hsn2 : Hid (yes eb (pre ++ [(x, y, n)]) = yes eb pre) := by rw [Hid, hsn, hn]; simp
      clear hsn
      simp only
      gi_wp2
      exact ⟨(KeepsOthers.of_grownBy (grown_of (Below.refl _ W)) (fun _ _ e => by cases e)).from _, KpR.refl _ _ _ _, ⟨⟨v, hv, by rw [hsn2.out]; exact hrow, trivial⟩, hB, hW0⟩⟩
    · have hsn2 : Hid (yes eb (pre ++ [(x, y, n)]) = yes eb pre ++ [(x, y, n)]) := by rw [Hid, hsn, hn]; simp
      clear hsn
      simp only
      gi_wp2_with (gi_at_builtin; go_must (refine wpListIn_append_own_at _ rfl _ _ 66 rfl w.heap.size 88 i0 _ 2 8 Try.underlying66 hi hz0 hz1 hz2 rfl (by decide) _ _ _ rfl (hrow.alloc _) ⟨W.heap.size, 0, none⟩ 1 1 [.int .i32 x, .int .i32 y] rfl rfl (cells_new W #[.int .i32 x, .int .i32 y] 88) (by simp [Value.oneCell']) (by unfold maxLen; omega) (by omega) (by have := hB.size; simp; omega) ?_))
      intro v' w1 hown' hgrow _ hat
      obtain ⟨g', cap', rfl⟩ := ownsRow_succ hown'
      have hkp := kr_append (L := w.heap.size + 1) hv (by decide) (by omega) hrow hB.size (Nat.le_refl _) hown' hgrow hat
      obtain ⟨hv1, hv2, hr2, hk2, hb2⟩ := hv.appended (by decide) hrow hB.size (Nat.le_refl _) hown' hgrow
      have hc1 := hv1.cell
      have hf1 := hv1.frozen
      clear hat
      gi_wp2
      exact ⟨hk2.from _, hkp, ⟨⟨_, hv2, by rw [hsn2.out, celS_snoc, List.length_append]; exact hr2, trivial⟩, hB.trans hb2, by have := hb2.size; omega⟩⟩
  case done =>
    rintro D ys W hD hRn ⟨⟨v, hv, hrow, _⟩, hB, hW0⟩ hK
    have hc := hv.cell
    gi_wp2
    refine ⟨by simp, .inl ⟨_, _, rfl, run_takeDeferred hK, ?_⟩⟩
    exact ⟨_, results_tmp rfl _ _ _, v, ys, rfl, hRn, ownsRow_putObj hrow _ hK rfl, hB.trans (belowK_b (w := w) (Nat.le_refl _) W D _ _ (by omega) hK rfl rfl)⟩
  case stop =>
    rintro D c pre W _ _ h _
    exact h.elim
theorem set_any (vt : Value) (F : Int → Int) (n : Int) (w : World) (hT : Tab w vt F) (hF : ∀ p, 0 ≤ F p ∧ F p ≤ 65535) (hv : ∃ p, vt = .pointer p) :
    Calls Try.prog 32 #[vt, .int .i64 n] w fun e W' => ∃ v ys, e = .returned v ∧ Rn (sayN F n) 0 ys 1114112 ∧ W'.ownsRow (w.heap.size + 2) 88 2 v (yes eb1 ys).length (celS (yes eb1 ys)) ∧ Below w.heap.size w W' := by
  have b0 : Below w.heap.size w ((w.alloc (.cells #[vt] 24)).alloc (.cells #[.int .i64 n] 3)) := ((Below.refl _ _).alloc (Nat.le_refl _) _).alloc (by simp) _
  have h1 : ((w.alloc (.cells #[vt] 24)).alloc (.cells #[.int .i64 n] 3)).heap[w.heap.size]? = some (.cells #[vt] 24 (0, 0)) := by
    rw [Go.RowKit.Below.heap_alloc _ _ _ (by simp)]; exact heap_alloc_last w _
  have h2 : ((w.alloc (.cells #[vt] 24)).alloc (.cells #[.int .i64 n] 3)).heap[w.heap.size + 1]? = some (.cells #[.int .i64 n] 3 (0, 0)) := by
    have := heap_alloc_last (w.alloc (.cells #[vt] 24)) (.cells #[.int .i64 n] 3)
    simpa using this
  have hsz : ((w.alloc (.cells #[vt] 24)).alloc (.cells #[.int .i64 n] 3)).heap.size = w.heap.size + 2 := by simp
  have K : Hid (Calls Try.prog 52 #[.func (.func 53) #[] #[.pointer (some ⟨w.heap.size, 0, none⟩), .pointer (some ⟨w.heap.size + 1, 0, none⟩)]] ((w.alloc (.cells #[vt] 24)).alloc (.cells #[.int .i64 n] 3)) fun e W' => ∃ v ys, e = .returned v ∧ Rn (sayN F n) 0 ys 1114112 ∧ W'.ownsRow ((w.alloc (.cells #[vt] 24)).alloc (.cells #[.int .i64 n] 3)).heap.size 88 2 v (yes eb1 ys).length (celS (yes eb1 ys)) ∧ Below ((w.alloc (.cells #[vt] 24)).alloc (.cells #[.int .i64 n] 3)).heap.size ((w.alloc (.cells #[vt] 24)).alloc (.cells #[.int .i64 n] 3)) W') :=
    points_any w.heap.size (w.heap.size + 1) (sayN F n) eb1 _ (eb_ne F n) (fun W1 p hb p1 p2 => by
      rw [eb_say]
      refine set1_any _ _ vt F n p W1 (below_at h1 hb) (below_at h2 hb) (fun w1 b1 => ?_)
      have := look_any p w1 vt F (hT.below ((b0.trans (hb.mono b0.size)).trans (b1.mono (by have := hb.size; have := b0.size; omega)))) hF
      rwa [if_pos ⟨p1, p2⟩] at this)
  obtain ⟨pp, rfl⟩ := hv
  replace b0 : Hid (Below w.heap.size w ((w.alloc (.cells #[.pointer pp] 24)).alloc (.cells #[.int .i64 n] 3))) := b0
  replace hsz : Hid (((w.alloc (.cells #[.pointer pp] 24)).alloc (.cells #[.int .i64 n] 3)).heap.size = w.heap.size + 2) := hsz
  clear h1 h2 hT
  go_enter Try.func32, Try.ntmps32
  go_wp2_with (go_at_call 52; refine K.out.mono ?_)
  first | rintro e w1 v ys rfl r1 o1 b1 | rintro e w1 ⟨v, ys, rfl, r1, o1, b1⟩
  go_wp2
  go_ret
  exact ⟨_, ys, rfl, r1, by first | (rw [← hsz.out]; exact o1) | exact o1, b0.out.trans (b1.mono b0.out.size)⟩
end Go.Proofs.Ytookbgmolggohaa

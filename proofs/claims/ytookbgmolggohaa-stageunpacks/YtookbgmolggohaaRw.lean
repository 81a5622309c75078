/-
  The contract of Rows: the fewest rows that say what a table does. Condition: the table's numbers are from 0 to 65535.
-/
import Derived.Test.YtookbgmolggohaaSb
import Derived.Test.YtookbgmolggohaaBu
namespace Go.Proofs.Ytookbgmolggohaa
open Go.RowKit Go.Shelf
attribute [local go_sem] Oper.semAt_some
theorem every_in (n : Nat) (w : World) : CallsIn Fence.wide n Try.prog 43 #[] w fun e w' => e = .returned (.agg #[.int .i32 0, .int .i32 1114111]) ∧ w' = w.alloc (.cells #[.int .i32 0, .int .i32 1114111] 88) := by
  refine callsIn_of_wp Try.func43 rfl trivial ?_ rfl
  simp only [Try.ntmps43, List.size_toArray, List.length_nil, Nat.reduceSub, Array.replicate_succ, Array.replicate_zero, List.push_toArray, List.append_toArray, List.nil_append, List.cons_append]
  gi_wp2
  refine bodyPost_ret (v := .agg #[.int .i32 0, .int .i32 1114111]) (by simp [results, Try.results43, go_sem]) rfl ⟨rfl, rfl⟩
theorem si42_in (n : Nat) (A E : Int) (fv : Value) (w : World) (hf : ∃ f x y, fv = .func f x y) : CallsIn Fence.wide n Try.prog 42 #[.agg #[.int .i32 A, .int .i32 E], fv] w fun e w' => e = .returned (.func (.func 56) #[] #[.pointer (some ⟨w.heap.size, 0, none⟩), .pointer (some ⟨w.heap.size + 1, 0, none⟩)]) ∧ w' = (w.alloc (.cells #[.int .i32 A, .int .i32 E] 88)).alloc (.cells #[fv] 34) := by
  obtain ⟨f, x, y, rfl⟩ := hf
  refine callsIn_of_wp Try.func42 rfl trivial ?_ rfl
  simp only [Try.ntmps42, List.size_toArray, List.length_cons, List.length_nil, Nat.reduceAdd, Nat.reduceSub, Array.replicate_succ, Array.replicate_zero, List.push_toArray, List.append_toArray, List.nil_append, List.cons_append]
  gi_wp2
  go_ret
  exact ⟨rfl, rfl⟩
theorem sb57_in (n : Nat) (A E : Int) (fv : Value) (w : World) (hf : ∃ f x y, fv = .func f x y) : CallsIn Fence.wide n Try.prog 57 #[.agg #[.int .i32 A, .int .i32 E], fv] w fun e w' => e = .returned (.func (.func 58) #[] #[.pointer (some ⟨w.heap.size, 0, none⟩), .pointer (some ⟨w.heap.size + 1, 0, none⟩)]) ∧ w' = (w.alloc (.cells #[.int .i32 A, .int .i32 E] 88)).alloc (.cells #[fv] 69) := by
  obtain ⟨f, x, y, rfl⟩ := hf
  refine callsIn_of_wp Try.func57 rfl trivial ?_ rfl
  simp only [Try.ntmps57, List.size_toArray, List.length_cons, List.length_nil, Nat.reduceAdd, Nat.reduceSub, Array.replicate_succ, Array.replicate_zero, List.push_toArray, List.append_toArray, List.nil_append, List.cons_append]
  gi_wp2
  go_ret
  exact ⟨rfl, rfl⟩
theorem si_stops (n Bw Bs n₀ B L : Nat) (A E : Int) (F : Int → Int) (vt : Value) (w : World) (hA0 : 0 ≤ A) (hAE : A ≤ E) (hE : E ≤ 1114111)
    (hS : ∀ (W1 : World) (p : Int), Below n₀ w W1 → A ≤ p → p ≤ E → Calls Try.prog 13 #[vt, .int .i32 p] W1 fun e w' => e = .returned (.int .i64 (F p)) ∧ Below W1.heap.size W1 w')
    (hBw : w.heap[Bw]? = some (.cells #[.int .i32 A, .int .i32 E] 88 (0, 0))) (hBs : w.heap[Bs]? = some (.cells #[.func (.func 13) #[vt] #[]] 34 (0, 0))) (hLw : L ≤ Bw) (hLs : L ≤ Bs) (hn1 : n₀ ≤ w.heap.size) (hB : B < w.heap.size) (hr0 : rowAt w B = none) :
    SeqStopsK Fence.wide n Try.prog 56 #[.pointer (some ⟨Bw, 0, none⟩), .pointer (some ⟨Bs, 0, none⟩)] (fun r : Rw => #[Value.agg #[.int .i32 r.1, .int .i32 r.2.1], .int .i64 r.2.2]) (KpR n₀ B L) (fun ys => Rn F A ys (E + 1)) (fun pre => pre.length ≤ (E + 1 - A).toNat) (E + 1 - A).toNat w := fun l J Jx W hW hJ _ hY h0 =>
  si_in n l Bw Bs n₀ B L A E F vt J Jx hA0 hAE hE W (fun x W1 W2 h g => hJ x W1 W2 none h g (fun r e => by cases e)) hY (fun W1 p hb h1 h2 => hS W1 p ((hW.mono hn1).trans hb) h1 h2) (below_at hBw hW) (below_at hBs hW) hLw hLs (Nat.le_trans hn1 hW.size) (Nat.lt_of_lt_of_le hB hW.size) ((rowAt_same (hW.block B hB)).trans hr0) h0
theorem KpR.refl (n₀ B L : Nat) (W : World) : KpR n₀ B L W W := fun hr => ⟨Below.refl _ _, hr, .inl rfl, fun _ _ _ _ _ _ _ => rfl⟩
/-- The rows that say something. -/
def lst (X : List Rw) : List Rw := X.filter fun r => r.2.2 != 0
theorem lst_snoc (X : List Rw) (r : Rw) : lst (X ++ [r]) = lst X ++ (if r.2.2 != 0 then [r] else []) := by
  simp [lst, List.filter_append, List.filter_cons]
theorem lst_len (X : List Rw) : (lst X).length ≤ X.length := List.length_filter_le _ _
set_option maxRecDepth 100000 in
set_option maxHeartbeats 2000000 in
theorem rows_any (vt : Value) (F : Int → Int) (w : World) (hT : Tab w vt F) (hF : ∀ p, 0 ≤ F p ∧ F p ≤ 65535) :
    Calls Try.prog 20 #[vt] w fun e W' => ∃ v ys, e = .returned v ∧ Rn F 0 ys 1114112 ∧ W'.ownsRow w.heap.size 62 3 v (lst ys).length (cel3 .i32 (lst ys)) ∧ Below w.heap.size w W' := by
  refine (callsIn_wide (n := 9)).1 ?_
  obtain ⟨i0, hi, hz0, hz1, hz2⟩ := info_parts info62
  have HS0 : Hid (∀ (W1 : World) (p : Int), Below w.heap.size w W1 → 0 ≤ p → p ≤ 1114111 → Calls Try.prog 13 #[vt, .int .i32 p] W1 fun e w' => e = .returned (.int .i64 (F p)) ∧ Below W1.heap.size W1 w') := fun W1 p hb h1 h2 => by
    have := look_any p W1 vt F (hT.below hb) hF
    rwa [if_pos ⟨h1, h2⟩] at this
  clear hT hF
  refine callsIn_of_wp_marks Try.func20 rfl trivial ?_ rfl
  simp only [Try.ntmps20, List.size_toArray, List.length_cons, List.length_nil, Nat.reduceAdd, Nat.reduceSub, Array.replicate_succ, Array.replicate_zero, List.push_toArray, List.append_toArray, List.nil_append, List.cons_append]
  gi_wp2_with fail
  refine ⟨trivial, ?_⟩
  refine (every_in _ _).mono ?_
  rintro e w' ⟨rfl, rfl⟩
  gi_wp2_with fail
  refine ⟨trivial, ?_⟩
  refine (si42_in _ 0 1114111 _ _ ⟨_, _, _, rfl⟩).mono ?_
  rintro e w' ⟨rfl, rfl⟩
  gi_wp2_with fail
  have hB0 : Below w.heap.size w ((((w.alloc (.cells #[.slice none 0 0] 22)).alloc (.cells #[.int .i32 0, .int .i32 1114111] 88)).alloc (.cells #[.int .i32 0, .int .i32 1114111] 88)).alloc (.cells #[.func (.func 13) #[vt] #[]] 34)) := ((((Below.refl _ w).alloc (Nat.le_refl _) _).alloc (by simp) _).alloc (by simp; omega) _).alloc (by simp; omega) _
  have bO : Boxed ((((w.alloc (.cells #[.slice none 0 0] 22)).alloc (.cells #[.int .i32 0, .int .i32 1114111] 88)).alloc (.cells #[.int .i32 0, .int .i32 1114111] 88)).alloc (.cells #[.func (.func 13) #[vt] #[]] 34)) w.heap.size 22 (.slice none 0 0) := (((Boxed.new w 22 (.slice none 0 0)).alloc _).alloc _).alloc _
  have hw2 : ((((w.alloc (.cells #[.slice none 0 0] 22)).alloc (.cells #[.int .i32 0, .int .i32 1114111] 88)).alloc (.cells #[.int .i32 0, .int .i32 1114111] 88)).alloc (.cells #[.func (.func 13) #[vt] #[]] 34)).heap[w.heap.size + 2]? = some (.cells #[.int .i32 0, .int .i32 1114111] 88 (0, 0)) := by
    have h1 := heap_alloc_last ((w.alloc (.cells #[.slice none 0 0] 22)).alloc (.cells #[.int .i32 0, .int .i32 1114111] 88)) (.cells #[.int .i32 0, .int .i32 1114111] 88)
    rw [Go.RowKit.Below.heap_alloc _ _ _ (by simp)]
    simpa using h1
  have hw3 : ((((w.alloc (.cells #[.slice none 0 0] 22)).alloc (.cells #[.int .i32 0, .int .i32 1114111] 88)).alloc (.cells #[.int .i32 0, .int .i32 1114111] 88)).alloc (.cells #[.func (.func 13) #[vt] #[]] 34)).heap[w.heap.size + 3]? = some (.cells #[.func (.func 13) #[vt] #[]] 34 (0, 0)) := by
    have h1 := heap_alloc_last (((w.alloc (.cells #[.slice none 0 0] 22)).alloc (.cells #[.int .i32 0, .int .i32 1114111] 88)).alloc (.cells #[.int .i32 0, .int .i32 1114111] 88)) (.cells #[.func (.func 13) #[vt] #[]] 34)
    simpa using h1
  have hsz : ((((w.alloc (.cells #[.slice none 0 0] 22)).alloc (.cells #[.int .i32 0, .int .i32 1114111] 88)).alloc (.cells #[.int .i32 0, .int .i32 1114111] 88)).alloc (.cells #[.func (.func 13) #[vt] #[]] 34)).heap.size = w.heap.size + 4 := by simp
  rw [show w.heap.size + 1 + 1 = w.heap.size + 2 by omega, show w.heap.size + 2 + 1 = w.heap.size + 3 by omega]
  generalize ((((w.alloc (.cells #[.slice none 0 0] 22)).alloc (.cells #[.int .i32 0, .int .i32 1114111] 88)).alloc (.cells #[.int .i32 0, .int .i32 1114111] 88)).alloc (.cells #[.func (.func 13) #[vt] #[]] 34)) = W0 at *
  have hro : rowAt W0 w.heap.size = none := by rw [rowAt_boxed bO]; rfl
  refine wpIn_rangeFunc_ownH rfl (by omega) (gf := 56) (lb := #[.pointer (some ⟨w.heap.size + 2, 0, none⟩), .pointer (some ⟨w.heap.size + 3, 0, none⟩)]) rfl trivial (enters_of Try.func56 (by kernel_rfl) rfl)
    (si_stops _ (w.heap.size + 2) (w.heap.size + 3) w.heap.size w.heap.size (w.heap.size + 1) 0 1114111 F vt W0 (by decide) (by decide) (by decide) (fun W1 p hb h1 h2 => HS0.out W1 p (hB0.trans hb) h1 h2) hw2 hw3 (by omega) (by omega) (by omega) (by omega) hro) (fun h k => h.trans k) (fun W l o o' hl hW hc _ => KpR.put (by omega) (by omega) W l o o' hl hW hc) (Below.refl _ _) (fun _ => rfl)
    (fun pre W => (∃ v, Boxed W w.heap.size 22 v ∧ W.ownsRow w.heap.size 62 3 v (lst pre).length (cel3 .i32 (lst pre)) ∧ True) ∧ Below w.heap.size w W ∧ W0.heap.size ≤ W.heap.size)
    (fun _ _ _ => False)
    (OwnFrom.and (Own.from (holdsRow_own w.heap.size w.heap.size 22 62 3 (fun pre => (lst pre).length) (fun pre => cel3 .i32 (lst pre)) (fun _ _ => True)) _) (OwnFrom.and (ownFrom_below (Nat.le_refl _) (by omega)) ?og))
    (fun _ _ _ _ _ hs _ _ => hs)
    ⟨⟨_, bO, World.ownsRow_nil _ _ _ _, trivial⟩, hB0, Nat.le_refl _⟩
    (fun r a' W => ∃ Bx, W0.heap.size ≤ Bx ∧ W.heap[Bx]? = some (.cells #[.int .i32 r.1, .int .i32 r.2.1] 88 (0, 0)) ∧ a' = { tmps := #[vt, undef, .slice none 0 0, .pointer (some ⟨w.heap.size, 0, none⟩), .pointer (some ⟨Bx, 0, none⟩), .int .i64 r.2.2, .agg #[.int .i32 0, .int .i32 1114111], vt, .func (.func 13) #[vt] #[], .func (.func 56) #[] #[.pointer (some ⟨w.heap.size + 2, 0, none⟩), .pointer (some ⟨w.heap.size + 3, 0, none⟩)], .agg #[.int .i32 r.1, .int .i32 r.2.1], .int .i64 r.2.2, undef, undef, undef, undef, undef, undef, undef, undef, undef, undef, undef, undef], defers := [] })
    (fun r a' => ?ax) ?assign ?body ?done ?stop
  case og =>
    intro s A B' row hs hg' _
    exact Nat.le_trans hs hg'.size
  case ax =>
    rintro u X Y row ⟨Bx, h1, h2, h3⟩ hg' hr
    exact ⟨Bx, h1, boxC_own (β := Unit) Bx #[.int .i32 r.1, .int .i32 r.2.1] 88 () X Y row h2 hg' (fun r e => (hr r e).2), h3⟩
  case assign =>
    rintro l pre r W K ⟨⟨v, hv, hrow, _⟩, hB, hW0⟩ hK
    have HK : Hid _ := hK _ _ ((KeepsOthers.alloc W (.cells #[.int .i32 r.1, .int .i32 r.2.1] 88)).from _) (kr_alloc (by omega) (by omega) _) ⟨⟨v, hv.alloc _, hrow.alloc _, trivial⟩, hB.alloc hB.size _, by simp; omega⟩ ⟨W.heap.size, hW0, World.alloc_heap_new _ _, rfl⟩
    clear hK
    gi_wp2
    exact HK
  case body =>
    rintro l pre r a' W hl ⟨rr, hrr⟩ ⟨⟨v, hv, hrow, _⟩, hB, hW0⟩ ⟨Bx, hBx, bX, rfl⟩ hlt
    obtain ⟨x, y, n⟩ := r
    simp only at bX
    have hc := hv.cell
    have cx : W.cell? ⟨Bx, 0, none⟩ = some (.int .i32 x) := by simp [World.cell?, bX]
    have cy : W.cell? ⟨Bx, 1, none⟩ = some (.int .i32 y) := by simp [World.cell?, bX]
    have hln := lst_len pre
    have hlt' : pre.length < 1114112 := hlt
    have hsn := lst_snoc pre (x, y, n)
    by_cases hn : n = 0
    · have hnd : (n == 0) = true := by simpa using hn
      have hsn2 : Hid (lst (pre ++ [(x, y, n)]) = lst pre) := by rw [Hid, hsn, hn]; simp
      clear hsn
      gi_wp2
      exact ⟨(KeepsOthers.of_grownBy (grown_of (Below.refl _ W)) (fun _ _ e => by cases e)).from _, KpR.refl _ _ _ _, ⟨⟨v, hv, by rw [hsn2.out]; exact hrow, trivial⟩, hB, hW0⟩⟩
    · have hnd : (n == 0) = false := by simpa using hn
      have hsn2 : Hid (lst (pre ++ [(x, y, n)]) = lst pre ++ [(x, y, n)]) := by rw [Hid, hsn]; simp [hn]
      clear hsn
      gi_wp2_with (gi_at_builtin; go_must (refine wpListIn_append_own_at _ rfl _ _ 22 rfl w.heap.size 62 i0 _ 3 16 Try.underlying22 hi hz0 hz1 hz2 rfl (by decide) _ _ _ rfl (hrow.alloc _) ⟨W.heap.size, 0, none⟩ 1 1 [.int .i32 x, .int .i32 y, .int .i64 n] rfl rfl (cells_new W #[.int .i32 x, .int .i32 y, .int .i64 n] 62) (by simp [Value.oneCell']) (by unfold maxLen; omega) (by omega) (by have := hB.size; simp; omega) ?_))
      intro v' w1 hown' hgrow _ hat
      obtain ⟨g', cap', rfl⟩ := ownsRow_succ hown'
      have hkp := kr_append (L := w.heap.size + 1) hv (by decide) (by omega) hrow hB.size (Nat.le_refl _) hown' hgrow hat
      obtain ⟨hv1, hv2, hr2, hk2, hb2⟩ := hv.appended (by decide) hrow hB.size (Nat.le_refl _) hown' hgrow
      have hc1 := hv1.cell
      have hf1 := hv1.frozen
      clear hat
      gi_wp2
      exact ⟨hk2.from _, hkp, ⟨⟨_, hv2, by rw [hsn2.out, cel3_snoc, List.length_append]; exact hr2, trivial⟩, hB.trans hb2, by have := hb2.size; omega⟩⟩
  case done =>
    rintro D ys W hD hRn ⟨⟨v, hv, hrow, _⟩, hB, hW0⟩ hK
    have hc := hv.cell
    gi_wp2
    refine ⟨by simp, .inl ⟨_, _, rfl, run_takeDeferred hK, ?_⟩⟩
    exact ⟨_, results_tmp rfl _ _ _, v, ys, rfl, hRn, ownsRow_putObj hrow _ hK rfl, hB.trans (belowK_b (w := w) (Nat.le_refl _) W D _ _ (by omega) hK rfl rfl)⟩
  case stop =>
    rintro D c pre W _ _ h _
    exact h.elim
end Go.Proofs.Ytookbgmolggohaa

/-
  The contracts of Coded, Strays and Strict: how many coded bytes a text has, where the stray signs stand, and the first of them or what is decoded. Condition: the list of places takes no more bytes than one can.
-/
import Derived.Test.YtoliiccmfmgmlaaDc
import Derived.Test.YtoliiccmfmgmlaaRdd
namespace Go.Proofs.Ytoliiccmfmgmlaa
open Go.RowKit Go.Lib Go.Shelf
attribute [local go_sem] Oper.semAt_some
set_option maxRecDepth 100000 in
set_option maxHeartbeats 2000000 in
theorem codedN_any (s : ByteArray) (w : World) (hs : s.size ≤ 140737488351232) :
    Calls Try.prog 11 #[.string s] w fun e W' => e = .returned (.int .i64 (cnt s (poss s))) ∧ Below w.heap.size w W' := by
  refine (callsIn_wide (n := 9)).1 ?_
  have hlen : (poss s).length ≤ s.size := poss_len s
  refine callsIn_of_wp_marks Try.func11 rfl trivial ?_ rfl
  simp only [Try.ntmps11, List.size_toArray, List.length_cons, List.length_nil, Nat.reduceAdd, Nat.reduceSub, Array.replicate_succ, Array.replicate_zero, List.push_toArray, List.append_toArray, List.nil_append, List.cons_append]
  gi_wp2_with fail
  refine ⟨trivial, ?_⟩
  refine (parts_in _ s _).mono ?_
  rintro e w' ⟨rfl, rfl⟩
  gi_wp2_with fail
  have bO := Boxed.new w 3 (.int .i64 0)
  have bN := Boxed.new (w.alloc (.cells #[.int .i64 0] 3)) 9 (.string s)
  rw [World.size_alloc] at bN
  have hB0 : Below w.heap.size w ((w.alloc (.cells #[.int .i64 0] 3)).alloc (.cells #[.string s] 9)) := ((Below.refl _ w).alloc (Nat.le_refl _) _).alloc (by simp) _
  have bO2 := bO.alloc (.cells #[.string s] 9)
  obtain ⟨W0, hW0⟩ : ∃ W0, (w.alloc (.cells #[.int .i64 0] 3)).alloc (.cells #[.string s] 9) = W0 := ⟨_, rfl⟩
  have hsz : W0.heap.size = w.heap.size + 2 := by rw [← hW0]; simp
  rw [hW0] at bN hB0 bO2 ⊢
  clear hW0 bO
  refine wpIn_rangeFunc_ownH rfl (by omega) (gf := 38) (lb := #[.pointer (some ⟨w.heap.size + 1, 0, none⟩)]) rfl trivial (enters_of Try.func38 (by kernel_rfl) rfl)
    (parts_stops _ (w.heap.size + 1) w.heap.size s hs W0 bN (by omega)) (fun h k => h.trans k) (fun W l o o' hl hW hc _ => Kp.put (w := W0) (by omega) (by omega) W l o' hl) (Below.refl _ _) (fun _ => rfl)
    (fun pre W => Boxed W w.heap.size 3 (.int .i64 (cnt s pre)) ∧ Boxed W (w.heap.size + 1) 9 (.string s) ∧ Below w.heap.size w W)
    (fun _ _ _ => False)
    (OwnFrom.and (Own.from (boxed_own w.heap.size 3 (fun pre => .int .i64 (cnt s pre))) _) (OwnFrom.and (Own.from (boxed_own _ _ _) _) (ownFrom_below (Nat.le_refl _) (by omega))))
    (fun _ _ _ _ _ hs _ _ => hs)
    ⟨bO2, bN, hB0⟩
    (fun k a' W => ∃ Bx, w.heap.size + 2 ≤ Bx ∧ W.heap[Bx]? = some (.cells (pcs s k) 56 (0, 0)) ∧ a' = { tmps := #[.string s, undef, .int .i64 0, .pointer (some ⟨w.heap.size, 0, none⟩), .pointer (some ⟨Bx, 0, none⟩), .string s, .func (.func 38) #[] #[.pointer (some ⟨w.heap.size + 1, 0, none⟩)], .agg (pcs s k), undef, undef, undef, undef, undef], defers := [] })
    (fun k a' => ?ax) ?assign ?body ?done ?stop
  case ax =>
    rintro u X Y row ⟨Bx, h1, h2, h3⟩ hg' hr
    exact ⟨Bx, h1, boxC_own (β := Unit) Bx (pcs s k) 56 () X Y row h2 hg' (fun r e => (hr r e).2), h3⟩
  case assign =>
    rintro l pre k W K ⟨hv, hbn, hB⟩ hK
    have hsW : w.heap.size + 2 ≤ W.heap.size := hbn.lt
    have HK : Hid _ := hK _ _ ((KeepsOthers.alloc W (.cells (pcs s k) 56)).from _) (Kp.alloc (by omega) (by omega) _) ⟨hv.alloc _, hbn.alloc _, hB.alloc hB.size _⟩ ⟨W.heap.size, hsW, World.alloc_heap_new _ _, rfl⟩
    clear hK
    unfold pcs at HK ⊢
    gi_wp2
    exact HK
  case body =>
    rintro l pre k a' W hl ⟨r, hr⟩ ⟨hv, hbn, hB⟩ ⟨Bx, hBx, bX, rfl⟩ hlt
    have hc := hv.cell
    have hf := hv.frozen
    have cx3 : W.cell? ⟨Bx, 3, none⟩ = some (.bool (cd s k)) := by simp [World.cell?, bX, pcs]
    have hcl : cnt s pre ≤ pre.length := List.length_filter_le _ _
    cases hq : cd s k
    · rw [hq] at cx3
      have e3 : cnt s (pre ++ [k]) = cnt s pre := by simp [cnt, hq]
      have HF : Hid (KeepsFrom W0.heap.size W W ∧ Kp w.heap.size (w.heap.size + 1) W W ∧ Boxed W w.heap.size 3 (.int .i64 (cnt s (pre ++ [k]))) ∧ Boxed W (w.heap.size + 1) 9 (.string s) ∧ Below w.heap.size w W) := ⟨KeepsFrom.refl _ _, Kp.same _ _ _, by rw [e3]; exact hv, hbn, hB⟩
      clear hv hbn hB e3
      gi_wp2
      exact HF.out
    · rw [hq] at cx3
      have e3 : cnt s (pre ++ [k]) = cnt s pre + 1 := by simp [cnt, hq]
      have HF : Hid (KeepsFrom W0.heap.size W (W.setCell ⟨w.heap.size, 0, none⟩ (.int .i64 ((cnt s pre : Int) + 1))) ∧ Kp w.heap.size (w.heap.size + 1) W (W.setCell ⟨w.heap.size, 0, none⟩ (.int .i64 ((cnt s pre : Int) + 1))) ∧ Boxed (W.setCell ⟨w.heap.size, 0, none⟩ (.int .i64 ((cnt s pre : Int) + 1))) w.heap.size 3 (.int .i64 (cnt s (pre ++ [k]))) ∧ Boxed (W.setCell ⟨w.heap.size, 0, none⟩ (.int .i64 ((cnt s pre : Int) + 1))) (w.heap.size + 1) 9 (.string s) ∧ Below w.heap.size w (W.setCell ⟨w.heap.size, 0, none⟩ (.int .i64 ((cnt s pre : Int) + 1)))) := by
        refine ⟨(KeepsOthers.setCell W _ _).from _, ⟨(Below.refl _ W).setCell (by simp) _, Below.heap_setCell _ _ _ _ (by simp)⟩, ?_, hbn.other (by omega) _, hB.setCell (by simp) _⟩
        rw [e3]
        exact hv.set _
      clear hv hbn hB e3
      gi_wp2
      exact HF.out
  case done =>
    rintro D ys W hD rfl ⟨hv, hbn, hB⟩ hK
    have hc := hv.cell
    gi_wp2
    refine ⟨by simp, .inl ⟨_, _, rfl, run_takeDeferred hK, ?_⟩⟩
    exact ⟨_, results_tmp rfl _ _ _, rfl, hB.trans (belowK_b (w := w) (Nat.le_refl _) W D _ _ (by omega) hK rfl rfl)⟩
  case stop =>
    rintro D c pre W _ _ h _
    exact h.elim
/-- A round that appends to the row of its own variable keeps its word. -/
theorem kp_append {W w1 : World} {n₀ B Bn : Nat} {t e tn : TypeId} {size k m : Nat} {v v' sv : Value} {xs ys : List Value} {tmp : Obj}
    (hv : Boxed W B t v) (hte : t ≠ e) (hbn : Boxed W Bn tn sv) (hne : tn ≠ e) (hBBn : B ≠ Bn) (hrow : W.ownsRow n₀ e size v k xs) (hn₀ : n₀ ≤ W.heap.size) (hB : n₀ ≤ B)
    (hown' : w1.ownsRow n₀ e size v' m ys) (hgrow : (W.alloc tmp).grownBy w1 v.ownBlock) : Kp n₀ Bn W (w1.setCell ⟨B, 0, none⟩ v') := by
  obtain ⟨hv1, hv2, hr2, _, hb2⟩ := hv.appended hte hrow hn₀ hB hown' hgrow
  refine ⟨hb2, ?_⟩
  rw [Below.heap_setCell w1 ⟨B, 0, none⟩ v' Bn (Ne.symm hBBn), hgrow.block Bn (by simp; have := hbn.lt; omega) (hbn.not_row hne hrow), Below.heap_alloc _ _ _ hbn.lt]
theorem strs_snoc (s : ByteArray) (pre : List Nat) (k : Nat) (h : sr s k = true) : strs s (pre ++ [k]) = strs s pre ++ [(k : Int)] := by simp [strs, h]
theorem strs_same (s : ByteArray) (pre : List Nat) (k : Nat) (h : sr s k = false) : strs s (pre ++ [k]) = strs s pre := by simp [strs, h]
set_option maxRecDepth 100000 in
set_option maxHeartbeats 2000000 in
theorem strays_any (s : ByteArray) (w : World) (hs : s.size ≤ 17592186044416) :
    Calls Try.prog 13 #[.string s] w fun e W' => ∃ v, e = .returned v ∧ W'.ownsRow w.heap.size 3 1 v (strs s (poss s)).length ((strs s (poss s)).map fun z => Value.int .i64 z) ∧ Below w.heap.size w W' := by
  refine (callsIn_wide (n := 9)).1 ?_
  have hlen : (poss s).length ≤ s.size := poss_len s
  obtain ⟨i0, hi, hz0, hz1, hz2⟩ := info_parts info3
  refine callsIn_of_wp_marks Try.func13 rfl trivial ?_ rfl
  simp only [Try.ntmps13, List.size_toArray, List.length_cons, List.length_nil, Nat.reduceAdd, Nat.reduceSub, Array.replicate_succ, Array.replicate_zero, List.push_toArray, List.append_toArray, List.nil_append, List.cons_append]
  gi_wp2_with fail
  refine ⟨trivial, ?_⟩
  refine (parts_in _ s _).mono ?_
  rintro e w' ⟨rfl, rfl⟩
  gi_wp2_with fail
  have bO := Boxed.new w 22 (.slice none 0 0)
  have bN := Boxed.new (w.alloc (.cells #[.slice none 0 0] 22)) 9 (.string s)
  rw [World.size_alloc] at bN
  have hB0 : Below w.heap.size w ((w.alloc (.cells #[.slice none 0 0] 22)).alloc (.cells #[.string s] 9)) := ((Below.refl _ w).alloc (Nat.le_refl _) _).alloc (by simp) _
  have bO2 := bO.alloc (.cells #[.string s] 9)
  obtain ⟨W0, hW0⟩ : ∃ W0, (w.alloc (.cells #[.slice none 0 0] 22)).alloc (.cells #[.string s] 9) = W0 := ⟨_, rfl⟩
  have hsz : W0.heap.size = w.heap.size + 2 := by rw [← hW0]; simp
  rw [hW0] at bN hB0 bO2 ⊢
  clear hW0 bO
  refine wpIn_rangeFunc_ownH rfl (by omega) (gf := 38) (lb := #[.pointer (some ⟨w.heap.size + 1, 0, none⟩)]) rfl trivial (enters_of Try.func38 (by kernel_rfl) rfl)
    (parts_stops _ (w.heap.size + 1) w.heap.size s (by omega) W0 bN (by omega)) (fun h k => h.trans k) (fun W l o o' hl hW hc _ => Kp.put (w := W0) (by omega) (by omega) W l o' hl) (Below.refl _ _) (fun _ => rfl)
    (fun pre W => (∃ v, Boxed W w.heap.size 22 v ∧ W.ownsRow w.heap.size 3 1 v (strs s pre).length ((strs s pre).map fun z => Value.int .i64 z) ∧ True) ∧ Boxed W (w.heap.size + 1) 9 (.string s) ∧ Below w.heap.size w W)
    (fun _ _ _ => False)
    (OwnFrom.and (Own.from (holdsRow_own w.heap.size w.heap.size 22 3 1 (fun pre => (strs s pre).length) (fun pre => (strs s pre).map fun z => Value.int .i64 z) (fun _ _ => True)) _) (OwnFrom.and (Own.from (boxed_own _ _ _) _) (ownFrom_below (Nat.le_refl _) (by omega))))
    (fun _ _ _ _ _ hs _ _ => hs)
    ⟨⟨_, bO2, World.ownsRow_nil _ _ _ _, trivial⟩, bN, hB0⟩
    (fun k a' W => ∃ Bx, w.heap.size + 2 ≤ Bx ∧ W.heap[Bx]? = some (.cells (pcs s k) 56 (0, 0)) ∧ a' = { tmps := #[.string s, undef, .slice none 0 0, .pointer (some ⟨w.heap.size, 0, none⟩), .pointer (some ⟨Bx, 0, none⟩), .string s, .func (.func 38) #[] #[.pointer (some ⟨w.heap.size + 1, 0, none⟩)], .agg (pcs s k), undef, undef, undef, undef, undef, undef, undef, undef], defers := [] })
    (fun k a' => ?ax) ?assign ?body ?done ?stop
  case ax =>
    rintro u X Y row ⟨Bx, h1, h2, h3⟩ hg' hr
    exact ⟨Bx, h1, boxC_own (β := Unit) Bx (pcs s k) 56 () X Y row h2 hg' (fun r e => (hr r e).2), h3⟩
  case assign =>
    rintro l pre k W K ⟨⟨v, hv, hrow, _⟩, hbn, hB⟩ hK
    have hsW : w.heap.size + 2 ≤ W.heap.size := hbn.lt
    have HK : Hid _ := hK _ _ ((KeepsOthers.alloc W (.cells (pcs s k) 56)).from _) (Kp.alloc (by omega) (by omega) _) ⟨⟨v, hv.alloc _, hrow.alloc _, trivial⟩, hbn.alloc _, hB.alloc hB.size _⟩ ⟨W.heap.size, hsW, World.alloc_heap_new _ _, rfl⟩
    clear hK
    unfold pcs at HK ⊢
    gi_wp2
    exact HK
  case body =>
    rintro l pre k a' W hl ⟨r, hr⟩ ⟨⟨v, hv, hrow, _⟩, hbn, hB⟩ ⟨Bx, hBx, bX, rfl⟩ hlt
    have hc := hv.cell
    have cx0 : W.cell? ⟨Bx, 0, none⟩ = some (.int .i64 k) := by simp [World.cell?, bX, pcs]
    have cx4 : W.cell? ⟨Bx, 4, none⟩ = some (.bool (sr s k)) := by simp [World.cell?, bX, pcs]
    have hsl := strs_len s pre
    cases hq : sr s k
    · rw [hq] at cx4
      have HF : Hid (KeepsFrom W0.heap.size W W ∧ Kp w.heap.size (w.heap.size + 1) W W ∧ (∃ v, Boxed W w.heap.size 22 v ∧ W.ownsRow w.heap.size 3 1 v (strs s (pre ++ [k])).length ((strs s (pre ++ [k])).map fun z => Value.int .i64 z) ∧ True) ∧ Boxed W (w.heap.size + 1) 9 (.string s) ∧ Below w.heap.size w W) := ⟨KeepsFrom.refl _ _, Kp.same _ _ _, ⟨v, hv, by rw [strs_same s pre k hq]; exact hrow, trivial⟩, hbn, hB⟩
      clear hv hbn hB hrow
      gi_wp2
      exact HF.out
    · rw [hq] at cx4
      have hBz := hB.size
      gi_wp2_with (gi_at_builtin; go_must (refine wpListIn_append_own_at _ rfl _ _ 22 rfl w.heap.size 3 i0 (.int .i64 0) 1 8 Try.underlying22 hi hz0 hz1 hz2 rfl (by decide) _ _ _ rfl (hrow.alloc _) ⟨W.heap.size, 0, none⟩ 1 1 [.int .i64 k] rfl rfl (cell_one_new _ _ _) (by simp [Value.oneCell']) (by unfold maxLen; omega) (by omega) (by simp; omega) ?_))
      intro v' w1 hown' hgrow _ hat
      obtain ⟨g', cap', rfl⟩ := ownsRow_succ hown'
      have hkp := kp_append hv (by decide) hbn (by decide) (by omega) hrow hB.size (Nat.le_refl _) hown' hgrow
      obtain ⟨hv1, hv2, hr2, hk2, hb2⟩ := hv.appended (by decide) hrow hB.size (Nat.le_refl _) hown' hgrow
      have hbn2 := (hbn.alloc _).kept hgrow (hbn.not_row (by decide) hrow)
      have hc1 := hv1.cell
      have hf1 := hv1.frozen
      have E := strs_snoc s pre k hq
      clear hat
      gi_wp2
      refine ⟨hk2.from _, hkp, ⟨⟨_, hv2, ?_, trivial⟩, hbn2.other (by omega) _, hB.trans hb2⟩⟩
      rw [E]
      simpa using hr2
  case done =>
    rintro D ys W hD rfl ⟨⟨v, hv, hrow, _⟩, hbn, hB⟩ hK
    have hc := hv.cell
    gi_wp2
    refine ⟨by simp, .inl ⟨_, _, rfl, run_takeDeferred hK, ?_⟩⟩
    exact ⟨_, results_tmp rfl _ _ _, v, rfl, ownsRow_putObj hrow _ hK rfl, hB.trans (belowK_b (w := w) (Nat.le_refl _) W D _ _ (by omega) hK rfl rfl)⟩
  case stop =>
    rintro D c pre W _ _ h _
    exact h.elim
end Go.Proofs.Ytoliiccmfmgmlaa

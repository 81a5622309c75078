/-
  The contract of Sequence: the code points that a text's words say, or which word is the first that says none. Conditions: the text has fewer than 4294967281 bytes; the library's two tables hold what their text lays.
-/
import Derived.Test.YtcjlplaepnpopaaDoorFs
import Derived.Maps.OwnIn
import Derived.WalkSpells
import Derived.KernelRfl
import Derived.RegionIn
import Derived.BigRegionIn
namespace Go.Proofs.YtcjlplaepnpopaaDoor
open Go.RowKit
open Go.Lib Go.Shelf
attribute [local go_sem] Oper.semAt_some
set_option maxRecDepth 100000 in
set_option maxHeartbeats 2000000 in
theorem sequence_any (s : ByteArray) (w : World) (hs : s.size < 4294967281) (hT : Utf8Tabs 1 2 w) (hg : 3 ≤ w.heap.size) : Calls Tryd.prog 9 #[.string s] w fun e w' => SqIs (sq s) e w' ∧ Below w.heap.size w w' := by
  refine (callsIn_wide (n := 9)).1 ?_
  obtain ⟨i0, hi, hz0, hz1, hz2⟩ := info_parts info21r
  refine callsIn_of_wp_marks Tryd.func9 rfl trivial ?_ rfl
  simp only [Tryd.ntmps9, List.size_toArray, List.length_cons, List.length_nil, Nat.reduceAdd, Nat.reduceSub, Array.replicate_succ, Array.replicate_zero, List.push_toArray, List.append_toArray, List.nil_append, List.cons_append]
  gi_wp2_with fail
  refine ⟨trivial, ?_⟩
  refine (fields_in _ s _).mono ?_
  rintro e w' ⟨rfl, rfl⟩
  gi_wp2_with fail
  obtain ⟨W0, hW0, h6, bL, hB0, hsz⟩ := six_new w s
  rw [hW0]
  have hT0 : Utf8Tabs 1 2 W0 := tabs_below2 hT hg hB0
  clear hW0
  rw [show w.heap.size + 1 + 1 + 1 + 1 + 1 = w.heap.size + 5 from rfl, show w.heap.size + 1 + 1 + 1 + 1 = w.heap.size + 4 from rfl, show w.heap.size + 1 + 1 + 1 = w.heap.size + 3 from rfl, show w.heap.size + 1 + 1 = w.heap.size + 2 from rfl]
  refine wpIn_rangeFunc_ownH rfl (by omega) (gf := 39) (lb := #[.pointer (some ⟨w.heap.size + 4, 0, none⟩), .pointer (some ⟨w.heap.size + 5, 0, none⟩)]) rfl trivial (enters_of Tryd.func39 (by kernel_rfl) rfl)
    (fields_stops _ (w.heap.size + 4) (w.heap.size + 5) w.heap.size s hs W0 h6.2.2.2.1 h6.2.2.2.2 hg (by omega) hT0) (fun h k => h.trans k) (fun W l o o' hl hW hc _ => Kq.put (w := W0) (by omega) (by omega) (by omega) W l o o' hl hW) (Below.refl _ _) (fun _ => rfl)
    (fun pre W => (∃ v, Boxed W (w.heap.size + 3) 33 v ∧ W.ownsRow w.heap.size 21 1 v (outL pre).length ((outL pre).map fun z => Value.int .i32 z) ∧ sqF (pre.map (·.1)) [] = .inl (outL pre)) ∧ Bx6 w.heap.size s W ∧ Below w.heap.size w W)
    (fun c pre W => c = .ret ∧ (∃ k : Nat, sqF (pre.map (·.1)) [] = .inr k ∧ Boxed W w.heap.size 33 (.slice none 0 0) ∧ Boxed W (w.heap.size + 1) 3 (.int .i64 (k : Int)) ∧ Boxed W (w.heap.size + 2) 22 (.int .i64 90)) ∧ Below w.heap.size w W)
    (OwnFrom.and (Own.from (holdsRow_own w.heap.size (w.heap.size + 3) 33 21 1 (fun pre : List (Wd s) => (outL pre).length) (fun pre => (outL pre).map fun z => Value.int .i32 z) (fun pre _ => sqF (pre.map (·.1)) [] = .inl (outL pre))) _) (OwnFrom.and (Own.from (bx6_own _ _) _) (ownFrom_below (Nat.le_refl _) (by omega))))
    (fun c pre X Y row hs hg hr => ⟨hs.1, by
      obtain ⟨k, hk, b1, b2, b3⟩ := hs.2.1
      have hr' : ∀ r, row = some r → ∃ o : Obj, X.heap[r]? = some o ∧ o.isCells = false := fun r e => (hr r e).2
      exact ⟨k, hk, boxed_own (β := Unit) _ _ (fun _ => _) () X Y row b1 hg hr', boxed_own (β := Unit) _ _ (fun _ => _) () X Y row b2 hg hr', boxed_own (β := Unit) _ _ (fun _ => _) () X Y row b3 hg hr'⟩, ownFrom_below (β := Unit) (Nat.le_refl _) (by omega) () X Y row hs.2.2 hg hr⟩)
    ⟨⟨_, bL, World.ownsRow_nil _ _ _ _, rfl⟩, h6, hB0⟩
    (fun x a' _ => a' = { tmps := #[.string s, undef, .pointer (some ⟨w.heap.size, 0, none⟩), .pointer (some ⟨w.heap.size + 1, 0, none⟩), .pointer (some ⟨w.heap.size + 2, 0, none⟩), .pointer (some ⟨w.heap.size + 3, 0, none⟩), .string x.1, undef, undef, .string s, .func (.func 39) #[] #[.pointer (some ⟨w.heap.size + 4, 0, none⟩), .pointer (some ⟨w.heap.size + 5, 0, none⟩)], .string x.1, undef, undef, undef, undef, undef, undef, undef, undef, undef, undef, undef, undef, undef, undef, undef], defers := [] })
    (fun x a' => fun _ _ _ _ h _ _ => h) ?assign ?body ?done ?stop
  case assign =>
    rintro l pre x W K hI hK
    have HK : Hid _ := hK _ W (KeepsFrom.refl _ _) ⟨Below.refl _ _, rfl, rfl⟩ hI rfl
    clear hK
    gi_wp2
    exact HK
  case body =>
    rintro l pre x a' W hl ⟨r, hr⟩ ⟨⟨v, hv, hrow, ho⟩, h6', hB⟩ rfl hlt
    have hol : (outL pre).length ≤ s.size := by
      have h1 := sq_len _ _ _ ho
      have h2 := cutL_len s 32
      have h3 : (wrdL s).length ≤ (cutL s 32).length := List.length_filter_le _ _
      simp only [List.length_map, List.length_nil] at h1
      omega
    have hsn := sq_snoc (pre.map (·.1)) x.1 [] (outL pre) ho
    have hx0 : ¬ x.1.size = 0 := by have := x.2.1; omega
    rw [sqF, if_neg hx0] at hsn
    have hsz2 := x.2.2
    gi_wp2_with fail
    refine ⟨trivial, ?_⟩
    have k5 : CallsIn (Fence.wide.inRound l) 6 Tryd.prog 5 #[.string x.1] W fun e w' => e = ptA (ptN x.1) ∧ w' = W := callsIn_wide.2 (point_any x.1 W (by omega))
    refine CallsIn.mono k5 ?_
    rintro e w1 ⟨rfl, hw⟩
    rw [hw]
    clear hw w1
    have hc := hv.cell
    have hf := hv.frozen
    have hB2 := hB.size
    cases hp : ptN x.1 with
    | none =>
      rw [hp] at hsn
      have hsn2 : Hid (sqF (List.map (fun x => x.val) (pre ++ [x])) [] = .inr (outL pre).length) := by unfold Hid; rw [List.map_append]; exact hsn
      obtain ⟨q, hq⟩ := owns_slice hrow
      obtain ⟨c, rfl, -⟩ := hq
      have c0 := h6'.1.cell
      have f0 := h6'.1.frozen
      have c1 := h6'.2.1.cell
      have f1 := h6'.2.1.frozen
      have c2 := h6'.2.2.1.cell
      have f2 := h6'.2.2.1.frozen
      clear hsn ho hrow
      unfold ptA
      gi_wp2
      have hend := fun B => bad_end (B := B) (k := (outL pre).length) h6' hB
      have HE : Hid (∀ B, _) := hend
      clear hend h6' hB h6 hB0 hT0 k5
      gi_region
      all_goals gi_wp2
      all_goals exact ⟨(HE.out _).1, rfl, ⟨_, hsn2.out, (HE.out 0).2.1, (HE.out 0).2.2.1, (HE.out 0).2.2.2.1⟩, (HE.out 0).2.2.2.2⟩
    | some p =>
      rw [hp] at hsn
      have hsn2 : Hid (sqF (List.map (fun x => x.val) (pre ++ [x])) [] = .inl (outL pre ++ [(p : Int)])) := by unfold Hid; rw [List.map_append]; exact hsn
      clear hsn ho k5
      unfold ptA
      gi_wp2_with (gi_at_builtin; go_must (refine wpListIn_append_own_at _ rfl _ _ 33 rfl w.heap.size 21 i0 (.int .i32 0) 1 4 Tryd.underlying33 hi hz0 hz1 hz2 rfl (by decide) _ _ _ rfl (hrow.alloc _) ⟨W.heap.size, 0, none⟩ 1 1 [.int .i32 (p : Int)] rfl rfl (cell_one_new _ _ _) (by simp [Value.oneCell']) (by unfold maxLen; omega) (by omega) (by have := hB.size; simp; omega) ?_))
      intro v' w1 hown' hgrow _ _
      obtain ⟨g', cap', rfl⟩ := ownsRow_succ hown'
      obtain ⟨hv1, hv2, hr2, hk2, hb2⟩ := hv.appended (by decide) hrow hB.size (by omega) hown' hgrow
      have h62 := h6'.grew (v' := .slice (some ⟨g', 0, none⟩) ((outL pre).length + 1) cap') hrow hgrow
      have hc1 := hv1.cell
      have hf1 := hv1.frozen
      have HX : Hid (outL (pre ++ [x]) = outL pre ++ [(p : Int)]) := out_is hsn2.out
      gi_wp2
      exact ⟨hk2.from _, ⟨hb2, h62.2.2.2.1.trans h6'.2.2.2.1.symm, h62.2.2.2.2.trans h6'.2.2.2.2.symm⟩, ⟨⟨_, hv2, by rw [HX.out, List.map_append, List.length_append]; exact hr2, by rw [HX.out]; exact hsn2.out⟩, h62, hB.trans hb2⟩⟩
  case done =>
    rintro D ys W hD hS ⟨⟨v, hv, hrow, ho⟩, h6', hB⟩ hK
    have hsq : sq s = .inl (outL ys) := by rw [← sq_words, ← hS]; exact ho
    have hc := hv.cell
    have c0 := h6'.1.cell
    have f0 := h6'.1.frozen
    have c1 := h6'.2.1.cell
    have f1 := h6'.2.1.frozen
    have c2 := h6'.2.2.1.cell
    have f2 := h6'.2.2.1.frozen
    obtain ⟨q, c, rfl, -⟩ := owns_slice hrow
    have hend := good_end h6' hrow hB (by omega) hK
    have HE : Hid _ := hend
    clear hend h6' hv hrow ho hB h6 bL hB0 hT0
    gi_wp2
    refine ⟨by simp, .inl ⟨_, _, rfl, run_takeDeferred HE.out.1, ?_⟩⟩
    obtain ⟨-, e0, e1, e2, er, eb⟩ := HE.out
    refine ⟨.tuple #[.slice q (outL ys).length c, .int .i64 0, .int .i64 0], by simp [results, Tryd.results9, go_sem, e0, e1, e2], ⟨.slice q (outL ys).length c, by rw [hsq]; exact ⟨rfl, Rw.rds (kd := .i32) (b := w.heap.size) (e := 21) er⟩⟩, eb⟩
  case stop =>
    rintro D c pre W hD hS ⟨rfl, ⟨k, hk, b1, b2, b3⟩, hB⟩ hK
    have hsq : sq s = .inr k := by
      obtain ⟨B, hB⟩ := hS
      rw [← sq_words, ← hB]
      exact sq_pre _ _ _ _ hk
    have hK2 : ∀ j, j < w.heap.size + 6 → (W.putObj D (.deferred none)).heap[j]? = W.heap[j]? := fun j hj => World.putObj_heap_other (by omega)
    have c1 : (W.putObj D (.deferred none)).cell? ⟨w.heap.size, 0, none⟩ = some (.slice none 0 0) := Boxed.cell (t := 33) ((hK2 _ (by omega)).trans b1)
    have c2 : (W.putObj D (.deferred none)).cell? ⟨w.heap.size + 1, 0, none⟩ = some (.int .i64 (k : Int)) := Boxed.cell (t := 3) ((hK2 _ (by omega)).trans b2)
    have c3 : (W.putObj D (.deferred none)).cell? ⟨w.heap.size + 2, 0, none⟩ = some (.int .i64 90) := Boxed.cell (t := 22) ((hK2 _ (by omega)).trans b3)
    have hbel := belowK_b (w := w) (Nat.le_refl _) W D _ (.deferred none) (by omega) hK rfl rfl
    gi_wp2
    refine ⟨by simp, .inl ⟨_, _, rfl, run_takeDeferred hK, ?_⟩⟩
    refine ⟨.tuple #[.slice none 0 0, .int .i64 (k : Int), .int .i64 90], by simp [results, Tryd.results9, go_sem, c1, c2, c3], ⟨.slice none 0 0, by rw [hsq]; exact ⟨rfl, (Rw.nil .i32 21 0 _).rds⟩⟩, hB.trans hbel⟩
end Go.Proofs.YtcjlplaepnpopaaDoor

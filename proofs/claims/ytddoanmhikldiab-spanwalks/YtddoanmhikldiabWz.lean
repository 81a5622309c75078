/-
  The statement of walks, whole: for every list of spans and every number its law returns true. Conditions: the numbers fit; the list takes no more bytes than there are.
-/
import Derived.Test.YtddoanmhikldiabWr
namespace Go.Proofs.Ytddoanmhikldiab
open Go.RowKit Go.Shelf
attribute [local go_sem] Oper.semAt_some
set_option maxRecDepth 100000 in
set_option maxHeartbeats 2000000 in
theorem walks_8 (B9 B5 B6 : Nat) (ds : List Nat) (a : Act) (w W : World) (h4 : Boxed W (w.heap.size + 1) 4 (.bool false)) (hb : Below w.heap.size w W) (hd : DsOk w ds W) (ha : AtD 88 (ds.map dm) [(3, .pointer (some ⟨w.heap.size, 0, none⟩)), (4, .pointer (some ⟨w.heap.size + 1, 0, none⟩)), (5, .pointer (some ⟨B5, 0, none⟩)), (6, .pointer (some ⟨B6, 0, none⟩)), (9, .pointer (some ⟨B9, 0, none⟩))] a) : Code.wpIn Fence.wide 10 Try.prog (sq 8 body3) (bodyPostM Fence.wide 10 Try.prog Try.f3 fun e w' => e = .returned (.bool true) ∧ Below w.heap.size w w') a W := by
  have c4 := h4.cell
  have f4 := h4.frozen
  obtain ⟨f, rfl, h3, h4, h5, h6, h9, -⟩ := ha.lit
  change Code.wpIn _ _ _ _ _ ⟨#[f 0, f 1, f 2, f 3, f 4, f 5, f 6, f 7, f 8, f 9, f 10, f 11, f 12, f 13, f 14, f 15, f 16, f 17, f 18, f 19, f 20, f 21, f 22, f 23, f 24, f 25, f 26, f 27, f 28, f 29, f 30, f 31, f 32, f 33, f 34, f 35, f 36, f 37, f 38, f 39, f 40, f 41, f 42, f 43, f 44, f 45, f 46, f 47, f 48, f 49, f 50, f 51, f 52, f 53, f 54, f 55, f 56, f 57, f 58, f 59, f 60, f 61, f 62, f 63, f 64, f 65, f 66, f 67, f 68, f 69, f 70, f 71, f 72, f 73, f 74, f 75, f 76, f 77, f 78, f 79, f 80, f 81, f 82, f 83, f 84, f 85, f 86, f 87], List.map dm ds⟩ _
  simp only at h3 h4 h5 h6 h9
  simp only [h3, h4, h5, h6, h9]
  clear h3 h4 h5 h6 h9
  conv => arg 4; whnf
  gi_wp2
  exact leaves_all rfl ds _ (hd.keeps (KeepsOthers.setCell _ _ _)) (Boxed.set _ h4) (hb.setCell (p := ⟨w.heap.size + 1, 0, none⟩) (by show w.heap.size ≤ w.heap.size + 1; omega) _)
set_option maxRecDepth 100000 in
set_option maxHeartbeats 2000000 in
theorem walk_end {Q : Exit → Act → World → Prop} (S : List Sn) (vN vA : Value) (B5 B6 g N B9 : Nat) (ds : List Nat) (left : Int) (a : Act) (w W : World) (hi : Inv w S left vN vA B5 B6 g N 2 B9 ds W) (hQ : ∀ a, AtD 88 (ds.map dm) [(3, .pointer (some ⟨w.heap.size, 0, none⟩)), (4, .pointer (some ⟨w.heap.size + 1, 0, none⟩)), (5, .pointer (some ⟨B5, 0, none⟩)), (6, .pointer (some ⟨B6, 0, none⟩)), (9, .pointer (some ⟨B9, 0, none⟩))] a → Q (.exit 2) a W) (ha : AtD 88 (ds.map dm) [(3, .pointer (some ⟨w.heap.size, 0, none⟩)), (4, .pointer (some ⟨w.heap.size + 1, 0, none⟩)), (5, .pointer (some ⟨B5, 0, none⟩)), (6, .pointer (some ⟨B6, 0, none⟩)), (9, .pointer (some ⟨B9, 0, none⟩))] a) : Code.wpIn Fence.wide 10 Try.prog LB Q a W := by
  have c9 := hi.b9.cell
  obtain ⟨f, rfl, h3, h4, h5, h6, h9, -⟩ := ha.lit
  change Code.wpIn _ _ _ _ _ ⟨#[f 0, f 1, f 2, f 3, f 4, f 5, f 6, f 7, f 8, f 9, f 10, f 11, f 12, f 13, f 14, f 15, f 16, f 17, f 18, f 19, f 20, f 21, f 22, f 23, f 24, f 25, f 26, f 27, f 28, f 29, f 30, f 31, f 32, f 33, f 34, f 35, f 36, f 37, f 38, f 39, f 40, f 41, f 42, f 43, f 44, f 45, f 46, f 47, f 48, f 49, f 50, f 51, f 52, f 53, f 54, f 55, f 56, f 57, f 58, f 59, f 60, f 61, f 62, f 63, f 64, f 65, f 66, f 67, f 68, f 69, f 70, f 71, f 72, f 73, f 74, f 75, f 76, f 77, f 78, f 79, f 80, f 81, f 82, f 83, f 84, f 85, f 86, f 87], List.map dm ds⟩ _
  simp only at h3 h4 h5 h6 h9
  simp only [h3, h4, h5, h6, h9]
  clear h3 h4 h5 h6 h9
  conv => arg 4; whnf
  have hQ' : Hid _ := hQ
  clear hQ
  gi_wp2
  exact hQ'.out _ ⟨rfl, rfl, rfl, rfl, rfl, rfl, rfl, trivial⟩
set_option maxRecDepth 100000 in
set_option maxHeartbeats 2000000 in
theorem walks_7 (S : List Sn) (vN vA : Value) (B5 B6 g : Nat) (left : Int) (a : Act) (w W : World) (sS : isS 0 S = true) (lS : S.length ≤ 65536) (hb : Below w.heap.size w W) (hs : St W.heap.size S left vN vA w.heap.size (w.heap.size + 1) B5 B6 g W) (h4 : Boxed W (w.heap.size + 1) 4 (.bool false)) (ha : At 88 [(3, .pointer (some ⟨w.heap.size, 0, none⟩)), (4, .pointer (some ⟨w.heap.size + 1, 0, none⟩)), (5, .pointer (some ⟨B5, 0, none⟩)), (6, .pointer (some ⟨B6, 0, none⟩))] a) : Code.wpIn Fence.wide 10 Try.prog (sq 7 body3) (bodyPostM Fence.wide 10 Try.prog Try.f3 fun e w' => e = .returned (.bool true) ∧ Below w.heap.size w w') a W := by
  have HS : Hid (St W.heap.size S left vN vA w.heap.size (w.heap.size + 1) B5 B6 g W) := hs
  have H4 : Hid (Boxed W (w.heap.size + 1) 4 (.bool false)) := h4
  have HB : Hid (Below w.heap.size w W) := hb
  have HSS : Hid (isS 0 S = true) := sS
  have HLS : Hid (S.length ≤ 65536) := lS
  clear hs h4 hb sS lS
  obtain ⟨f, rfl, h3, h4, h5, h6, -⟩ := ha.lit
  change Code.wpIn _ _ _ _ _ ⟨#[f 0, f 1, f 2, f 3, f 4, f 5, f 6, f 7, f 8, f 9, f 10, f 11, f 12, f 13, f 14, f 15, f 16, f 17, f 18, f 19, f 20, f 21, f 22, f 23, f 24, f 25, f 26, f 27, f 28, f 29, f 30, f 31, f 32, f 33, f 34, f 35, f 36, f 37, f 38, f 39, f 40, f 41, f 42, f 43, f 44, f 45, f 46, f 47, f 48, f 49, f 50, f 51, f 52, f 53, f 54, f 55, f 56, f 57, f 58, f 59, f 60, f 61, f 62, f 63, f 64, f 65, f 66, f 67, f 68, f 69, f 70, f 71, f 72, f 73, f 74, f 75, f 76, f 77, f 78, f 79, f 80, f 81, f 82, f 83, f 84, f 85, f 86, f 87], []⟩ _
  simp only at h3 h4 h5 h6
  simp only [h3, h4, h5, h6]
  clear h3 h4 h5 h6
  change Code.wpIn _ _ _ (Code.seq (hd (sq 7 body3)) (sq 8 body3)) _ _ _
  have H8 : Hid (∀ (B9 : Nat) (ds : List Nat) (a : Act) (W : World), Boxed W (w.heap.size + 1) 4 (.bool false) → Below w.heap.size w W → DsOk w ds W → AtD 88 (ds.map dm) [(3, .pointer (some ⟨w.heap.size, 0, none⟩)), (4, .pointer (some ⟨w.heap.size + 1, 0, none⟩)), (5, .pointer (some ⟨B5, 0, none⟩)), (6, .pointer (some ⟨B6, 0, none⟩)), (9, .pointer (some ⟨B9, 0, none⟩))] a → Code.wpIn Fence.wide 10 Try.prog (sq 8 body3) (bodyPostM Fence.wide 10 Try.prog Try.f3 fun e w' => e = .returned (.bool true) ∧ Below w.heap.size w w') a W) := fun B9 ds a W h1 h2 h3 h => walks_8 B9 B5 B6 ds a w W h1 h2 h3 h
  generalize sq 8 body3 = REST at H8 ⊢
  refine wpIn_seq ?_
  change Code.wpIn _ _ _ (Code.seq (hd (hd (sq 7 body3))) (Code.block 2 (Code.loop LB))) _ _ _
  have HLB : Hid (∀ (QQ : Exit → Act → World → Prop) (N B9 r : Nat) (ds : List Nat) (a : Act) (W1 : World), (r = 0 ∨ r = 1) → Inv w S left vN vA B5 B6 g N r B9 ds W1 → (∀ (a : Act) (W' : World) (B9 D : Nat), Inv w S left vN vA B5 B6 g N (r + 1) B9 (D :: ds) W' → AtD 88 ((D :: ds).map dm) [(3, .pointer (some ⟨w.heap.size, 0, none⟩)), (4, .pointer (some ⟨w.heap.size + 1, 0, none⟩)), (5, .pointer (some ⟨B5, 0, none⟩)), (6, .pointer (some ⟨B6, 0, none⟩)), (9, .pointer (some ⟨B9, 0, none⟩))] a → QQ .normal a W') → AtD 88 (ds.map dm) [(3, .pointer (some ⟨w.heap.size, 0, none⟩)), (4, .pointer (some ⟨w.heap.size + 1, 0, none⟩)), (5, .pointer (some ⟨B5, 0, none⟩)), (6, .pointer (some ⟨B6, 0, none⟩)), (9, .pointer (some ⟨B9, 0, none⟩))] a → Code.wpIn Fence.wide 10 Try.prog LB QQ a W1) := fun QQ N B9 r ds a W1 h1 h2 h3 h4 => walk_lb S vN vA B5 B6 g N r B9 ds left a w W1 HSS.out HLS.out h1 h2 h3 h4
  have HLE : Hid (∀ (QQ : Exit → Act → World → Prop) (N B9 : Nat) (ds : List Nat) (a : Act) (W1 : World), Inv w S left vN vA B5 B6 g N 2 B9 ds W1 → (∀ a, AtD 88 (ds.map dm) [(3, .pointer (some ⟨w.heap.size, 0, none⟩)), (4, .pointer (some ⟨w.heap.size + 1, 0, none⟩)), (5, .pointer (some ⟨B5, 0, none⟩)), (6, .pointer (some ⟨B6, 0, none⟩)), (9, .pointer (some ⟨B9, 0, none⟩))] a → QQ (.exit 2) a W1) → AtD 88 (ds.map dm) [(3, .pointer (some ⟨w.heap.size, 0, none⟩)), (4, .pointer (some ⟨w.heap.size + 1, 0, none⟩)), (5, .pointer (some ⟨B5, 0, none⟩)), (6, .pointer (some ⟨B6, 0, none⟩)), (9, .pointer (some ⟨B9, 0, none⟩))] a → Code.wpIn Fence.wide 10 Try.prog LB QQ a W1) := fun QQ N B9 ds a W1 h1 h2 h3 => walk_end S vN vA B5 B6 g N B9 ds left a w W1 h1 h2 h3
  generalize LB = LOOP at HLB HLE ⊢
  conv => arg 4; arg 1; whnf
  have hba := alloc_below W (.cells #[.int .i64 0] 3)
  have HI0 : Hid (Inv w S left vN vA B5 B6 g W.heap.size 0 W.heap.size [] (W.alloc (.cells #[.int .i64 0] 3))) := ⟨HS.out.keep (KeepN.of_below hba), Boxed.new _ _ _, Nat.le_refl _, box_later H4.out hba, HB.out.trans (hba.mono HB.out.size), List.nodup_nil, fun D hD => by cases hD⟩
  clear hba
  gi_wp2
  refine wpIn_loop (fun a W1 => ∃ (r B9 : Nat) (ds : List Nat), r ≤ 2 ∧ ds.length = r ∧ Inv w S left vN vA B5 B6 g W.heap.size r B9 ds W1 ∧ AtD 88 (ds.map dm) [(3, .pointer (some ⟨w.heap.size, 0, none⟩)), (4, .pointer (some ⟨w.heap.size + 1, 0, none⟩)), (5, .pointer (some ⟨B5, 0, none⟩)), (6, .pointer (some ⟨B6, 0, none⟩)), (9, .pointer (some ⟨B9, 0, none⟩))] a) (fun a _ => 2 - a.defers.length) ⟨0, W.heap.size, [], by omega, rfl, HI0.out, ⟨rfl, rfl, rfl, rfl, rfl, rfl, rfl, trivial⟩⟩ ?_
  rintro a W1 ⟨r, B9, ds, hr, hl, hi, ha⟩
  by_cases h2 : r = 2
  · subst h2
    exact HLE.out _ _ B9 ds a W1 hi (fun a h => H8.out B9 ds a W1 hi.b4 hi.bel hi.ok h) ha
  · refine HLB.out _ _ B9 r ds a W1 (by omega) hi (fun a' W' B9' D hi' ha' => ⟨⟨r + 1, B9', D :: ds, by omega, by simp [hl], hi', ha'⟩, ?_⟩) ha
    rw [ha'.defers, ha.defers]
    simp [hl]
    omega
theorem law_walks (A : List Sn) (va : Value) (left : Int) (w : World) (ra : RdS w va A) (fa : fitS A) (la : A.length ≤ 17592186044416) : Calls Try.prog 3 #[va, .int .i64 left] w fun e w' => e = .returned (.bool true) ∧ Below w.heap.size w w' :=
  walks_main A va left w ra fa la (fun vN B5 a W hp h4 => walks_4 A va vN B5 left a w W ra fa la hp (fun vA B6 g a W' hb hs h4 h6 => walks_6 (setOf A) vN vA B5 B6 g left a w W' (setOf_set A).1 (setOf_set A).2 hb hs h4 (fun a W2 _ hb2 hs2 h42 h62 => walks_7 (setOf A) vN vA B5 B6 g left a w W2 (setOf_set A).1 (setOf_set A).2 hb2 hs2 h42 h62) h6) h4)
end Go.Proofs.Ytddoanmhikldiab

/-
  The first of the walks: of a great set the first fifty points come as they should.
-/
import Derived.Test.YtddoanmhikldiabWk
namespace Go.Proofs.Ytddoanmhikldiab
open Go.RowKit Go.Shelf
attribute [local go_sem] Oper.semAt_some
theorem no_prefix {S : List Sn} {pre : List Int} {x : Int} {n : Nat} (_hp : pre = upto S pre.length) (hx : ¬ x = atL S (pre.length : Nat)) : ¬ (pre ++ [x]) <+: upto S n := by
  intro h
  have hl := h.length_le
  rw [upto_len, List.length_append, List.length_singleton] at hl
  have h2 := h.getElem (i := pre.length) (by simp)
  simp [upto] at h2
  exact hx h2
set_option maxRecDepth 100000 in
set_option maxHeartbeats 2000000 in
theorem walks_6 (S : List Sn) (vN vA : Value) (B5 B6 g : Nat) (left : Int) (a : Act) (w W : World) (sS : isS 0 S = true) (lS : S.length ≤ 65536) (hb : Below w.heap.size w W) (hs : St W.heap.size S left vN vA w.heap.size (w.heap.size + 1) B5 B6 g W) (h4 : Boxed W (w.heap.size + 1) 4 (.bool false))
    (hK : Hid (∀ (a : Act) (W' : World), cntL S ≤ 3000 → Below w.heap.size w W' → St W'.heap.size S left vN vA w.heap.size (w.heap.size + 1) B5 B6 g W' → Boxed W' (w.heap.size + 1) 4 (.bool false) → At 88 [(3, .pointer (some ⟨w.heap.size, 0, none⟩)), (4, .pointer (some ⟨w.heap.size + 1, 0, none⟩)), (5, .pointer (some ⟨B5, 0, none⟩)), (6, .pointer (some ⟨B6, 0, none⟩))] a → Code.wpIn Fence.wide 10 Try.prog (sq 7 body3) (bodyPostM Fence.wide 10 Try.prog Try.f3 fun e w' => e = .returned (.bool true) ∧ Below w.heap.size w w') a W')) (ha : At 88 [(3, .pointer (some ⟨w.heap.size, 0, none⟩)), (4, .pointer (some ⟨w.heap.size + 1, 0, none⟩)), (5, .pointer (some ⟨B5, 0, none⟩)), (6, .pointer (some ⟨B6, 0, none⟩))] a) : Code.wpIn Fence.wide 10 Try.prog (sq 6 body3) (bodyPostM Fence.wide 10 Try.prog Try.f3 fun e w' => e = .returned (.bool true) ∧ Below w.heap.size w w') a W := by
  have HS : Hid (St W.heap.size S left vN vA w.heap.size (w.heap.size + 1) B5 B6 g W) := hs
  have HB : Hid (Below w.heap.size w W) := hb
  have H4 : Hid (Boxed W (w.heap.size + 1) 4 (.bool false)) := h4
  have HI : Hid (isS 0 S = true) := sS
  have hcb := cnt_bound sS
  have c5 := hs.b5.cell
  clear hs hb h4 sS
  obtain ⟨f, rfl, h3, h4, h5, h6, -⟩ := ha.lit
  change Code.wpIn _ _ _ _ _ ⟨#[f 0, f 1, f 2, f 3, f 4, f 5, f 6, f 7, f 8, f 9, f 10, f 11, f 12, f 13, f 14, f 15, f 16, f 17, f 18, f 19, f 20, f 21, f 22, f 23, f 24, f 25, f 26, f 27, f 28, f 29, f 30, f 31, f 32, f 33, f 34, f 35, f 36, f 37, f 38, f 39, f 40, f 41, f 42, f 43, f 44, f 45, f 46, f 47, f 48, f 49, f 50, f 51, f 52, f 53, f 54, f 55, f 56, f 57, f 58, f 59, f 60, f 61, f 62, f 63, f 64, f 65, f 66, f 67, f 68, f 69, f 70, f 71, f 72, f 73, f 74, f 75, f 76, f 77, f 78, f 79, f 80, f 81, f 82, f 83, f 84, f 85, f 86, f 87], []⟩ _
  simp only at h3 h4 h5 h6
  simp only [h3, h4, h5, h6]
  clear h3 h4 h5 h6
  change Code.wpIn _ _ _ (Code.seq (hd (sq 6 body3)) (sq 7 body3)) _ _ _
  generalize sq 7 body3 = REST at hK ⊢
  conv => arg 4; arg 1; whnf
  obtain ⟨pN, cN, hvN, _, _⟩ := HS.out.rM
  have HRM : Hid (RdS W vN S) := HS.out.rM
  subst hvN
  gi_wp2_with fail
  refine ⟨trivial, (callsIn_wide.2 (rcount_any S _ W HRM.out HI.out (by omega))).mono ?_⟩
  rintro e W2 ⟨rfl, b2⟩
  have H42 : Hid (Boxed W2 (w.heap.size + 1) 4 (.bool false)) := box_later H4.out b2
  have HB2 : Hid (Below w.heap.size w W2) := HB.out.trans (b2.mono HB.out.size)
  have HS2 : Hid (St W2.heap.size S left (.slice pN S.length cN) vA w.heap.size (w.heap.size + 1) B5 B6 g W2) := by
    have h := HS.out.keep (KeepN.of_below b2)
    have := b2.size
    exact ⟨by have := h.l3; omega, by have := h.l4; omega, by have := h.l5; omega, by have := h.l6; omega, by have := h.lg; omega, fun k hk => by have := h.lM k hk; omega, fun k hk => by have := h.lA k hk; omega, h.b3, h.b4, h.b5, h.b6, h.rM, h.cg, h.rA⟩
  clear b2 HS HB H4 HRM c5
  by_cases cb : 3000 < cntL S
  · have c6 := (HS2.out.keep (KeepN.of_below (alloc_below W2 (.cells #[.int .i64 0] 3)))).b6.cell
    gi_wp2_with fail
    have hb1 := alloc_below W2 (.cells #[.int .i64 0] 3)
    have SW : Hid (St W2.heap.size S left (.slice pN S.length cN) vA w.heap.size (w.heap.size + 1) B5 B6 g (W2.alloc (.cells #[.int .i64 0] 3))) := HS2.out.keep (KeepN.of_below hb1)
    have X7 : Boxed (W2.alloc (.cells #[.int .i64 0] 3)) W2.heap.size 3 (.int .i64 0) := Boxed.new _ _ _
    have X4 : Boxed (W2.alloc (.cells #[.int .i64 0] 3)) (w.heap.size + 1) 4 (.bool false) := box_later H42.out hb1
    have BW : Below w.heap.size w (W2.alloc (.cells #[.int .i64 0] 3)) := HB2.out.trans (hb1.mono HB2.out.size)
    have hl4 := HS2.out.l4
    have hsz : (W2.alloc (.cells #[.int .i64 0] 3)).heap.size = W2.heap.size + 1 := by simp
    generalize W2.alloc (.cells #[.int .i64 0] 3) = W1 at *
    clear hb1 c6
    refine wpIn_rangeFunc_ownF rfl (by omega) (gf := 20) (lb := #[.pointer (some ⟨g, 0, none⟩)]) rfl trivial (enters_of Try.func20 (by kernel_rfl) rfl)
      (it_stops 9 (by omega) (fun k => k = W2.heap.size) S g vA W1 (fun k hk => by subst hk; omega) SW.out.cg SW.out.rA (fun k hk e => by have := SW.out.lA k hk; omega) HI.out lS)
      (fun h k => KC.trans h k) (fun W l o o' _ h1 h2 _ => kc_put W l o o' h1 h2) (Below.refl _ _) (fun _ => rfl)
      (fun pre W => (((pre = upto S pre.length ∧ pre.length < 50) ∧ Boxed W W2.heap.size 3 (.int .i64 (pre.length : Nat))) ∧ (Boxed W (w.heap.size + 1) 4 (.bool false) ∧ St W2.heap.size S left (.slice pN S.length cN) vA w.heap.size (w.heap.size + 1) B5 B6 g W)) ∧ Below w.heap.size w W)
      (fun c pre W => ((c = .ret ∧ (¬ pre <+: upto S (cntL S).toNat)) ∨ (c = .ret ∧ Boxed W (w.heap.size + 1) 4 (.bool true))) ∧ Below w.heap.size w W)
      ?hI ?hIx ?h0 (fun x => { tmps := #[f 0, f 1, f 2, .pointer (some ⟨w.heap.size, 0, none⟩), .pointer (some ⟨w.heap.size + 1, 0, none⟩), .pointer (some ⟨B5, 0, none⟩), .pointer (some ⟨B6, 0, none⟩), .pointer (some ⟨W2.heap.size, 0, none⟩), .int .i32 x, f 9, f 10, f 11, f 12, f 13, f 14, f 15, f 16, f 17, f 18, f 19, f 20, f 21, f 22, f 23, f 24, f 25, (.slice pN S.length cN), .int .i64 (cntL S), .bool true, .func (.func 20) #[] #[.pointer (some ⟨g, 0, none⟩)], .int .i32 x, f 31, f 32, f 33, f 34, f 35, f 36, f 37, f 38, f 39, f 40, f 41, f 42, f 43, f 44, f 45, f 46, f 47, f 48, f 49, f 50, f 51, f 52, f 53, f 54, f 55, f 56, f 57, f 58, f 59, f 60, f 61, f 62, f 63, f 64, f 65, f 66, f 67, f 68, f 69, f 70, f 71, f 72, f 73, f 74, f 75, f 76, f 77, f 78, f 79, f 80, f 81, f 82, f 83, f 84, f 85, f 86, f 87], defers := [] }) ?assign ?body ?done ?stop
    case hI => exact OwnFrom.and (OwnFrom.and (OwnFrom.and (ownFrom_pure _ _) (Own.from (boxed_own _ _ _) _)) (OwnFrom.and (Own.from (boxed_own _ _ _) _) (Own.from (st_own _ _ _ _ _ _ _ _ _ _) _))) (ownFrom_below (Nat.le_refl _) BW.size)
    case hIx => exact fun c => OwnFrom.and (fun s X Y row hs hg hr => hs.imp id (fun h => ⟨h.1, (Own.from (boxed_own (β := List Int) (w.heap.size + 1) 4 (fun _ => .bool true)) _) s X Y row h.2 hg hr⟩)) (ownFrom_below (Nat.le_refl _) BW.size)
    case h0 => exact ⟨⟨⟨⟨rfl, by simp⟩, X7⟩, X4, SW.out⟩, BW⟩
    case assign =>
      intro l x W K hK
      gi_wp2
      exact hK
    case body =>
      rintro l pre x W3 ⟨⟨⟨⟨hp, hn⟩, Y7⟩, Y4, YS⟩, YB⟩ hlt
      have c5 := YS.b5.cell
      have c7 := Y7.cell
      have HY : Hid _ := YS
      have HYB : Hid (Below w.heap.size w W3) := YB
      have HY7 : Hid (Boxed W3 W2.heap.size 3 (.int .i64 (pre.length : Nat))) := Y7
      have HY4 : Hid (Boxed W3 (w.heap.size + 1) 4 (.bool false)) := Y4
      have HN : Hid (pre.length < 50) := hn
      have HL : Hid (S.length ≤ 65536) := lS
      have HPP : Hid (pre = upto S pre.length) := hp
      clear YS YB Y7 Y4 hn hlt lS hcb hp cb
      gi_wp2_with fail
      refine ⟨trivial, (CallsIn.inRound l (callsIn_wide.2 (rat_any S (pre.length : Nat) _ W3 HY.out.rM HI.out (by have := HL.out; omega) (by omega) (by have := HN.out; omega)))).mono ?_⟩
      rintro e W4 ⟨rfl, b4⟩
      have Z7 : Boxed W4 W2.heap.size 3 (.int .i64 (pre.length : Nat)) := box_later HY7.out b4
      have Z4 : Boxed W4 (w.heap.size + 1) 4 (.bool false) := box_later HY4.out b4
      have HZS : Hid (St W2.heap.size S left (.slice pN S.length cN) vA w.heap.size (w.heap.size + 1) B5 B6 g W4) := HY.out.keep (KeepN.of_below b4)
      have HZB : Hid (Below w.heap.size w W4) := HYB.out.trans (b4.mono HYB.out.size)
      have HKO : Hid (KeepsOthers W3 W4) := keeps_below b4
      have HKC : Hid (KC (fun k => k = W2.heap.size) W3 W4) := KC.of_below b4
      have z4 := Z4.cell
      have z4f := Z4.frozen
      have z7 := Z7.cell
      have z7f := Z7.frozen
      clear b4 HY HYB HY7 HY4 c5 c7
      by_cases hx : x = atL S (pre.length : Nat)
      · have hx2 : (x != atL S (pre.length : Nat)) = false := by simp [hx]
        have y4 := (Boxed.other Z4 (show w.heap.size + 1 ≠ W2.heap.size by omega) (.int .i64 ((pre.length : Int) + 1)))
        have y4c := y4.cell
        have y4f := y4.frozen
        have y7 := (Boxed.set (.int .i64 ((pre.length : Int) + 1)) Z7)
        have y7c := y7.cell
        have hw : IntKind.i64.wrap ((pre.length : Int) + 1) = (pre.length : Int) + 1 := by have := HN.out; unfold IntKind.wrap; simp [IntKind.signed, IntKind.bits]; omega
        by_cases h50 : pre.length + 1 = 50
        · have h51 : ((pre.length : Int) + 1 == 50) = true := by simp; omega
          clear h50
          gi_wp2
          exact ⟨HKO.out.trans ((KeepsOthers.setCell _ _ _).trans (KeepsOthers.setCell _ _ _)), .inr ⟨rfl, Boxed.set _ y4⟩, (HZB.out.setCell (p := ⟨W2.heap.size, 0, none⟩) (by show w.heap.size ≤ W2.heap.size; omega) _).setCell (p := ⟨w.heap.size + 1, 0, none⟩) (by show w.heap.size ≤ w.heap.size + 1; omega) _⟩
        · have h51 : ((pre.length : Int) + 1 == 50) = false := by simp; omega
          have HL2 : Hid (pre.length + 1 < 50) := by rw [Hid]; have := HN.out; omega
          clear h50
          gi_wp2
          have hll : (pre ++ [x]).length = pre.length + 1 := by simp
          refine ⟨HKO.out.trans (KeepsOthers.setCell _ _ _), HKC.out.trans (KC.set _ _ _ rfl), ⟨⟨⟨⟨?_, ?_⟩, ?_⟩, y4, HZS.out.keep (KeepN.of_set (Nat.le_refl _) _)⟩, HZB.out.setCell (p := ⟨W2.heap.size, 0, none⟩) (by show w.heap.size ≤ W2.heap.size; omega) _⟩⟩
          · rw [hll, upto_succ, ← HPP.out, hx]
          · rw [hll]; exact HL2.out
          · rw [hll]; exact y7
      · have hx2 : (x != atL S (pre.length : Nat)) = true := by simp [hx]
        gi_wp2
        refine ⟨HKO.out.trans (KeepsOthers.setCell _ _ _), .inl ⟨rfl, ?_⟩, HZB.out.setCell (p := ⟨w.heap.size + 1, 0, none⟩) (by show w.heap.size ≤ w.heap.size + 1; omega) _⟩
        exact no_prefix HPP.out hx
    case done =>
      rintro D xs W3 hD rfl ⟨⟨⟨⟨hp, hn⟩, _⟩, _⟩, _⟩ _
      rw [upto_len] at hn
      omega
    case stop =>
      rintro D c pre W3 hD hpre ⟨h, YB⟩ hK
      rcases h with ⟨_, h⟩ | ⟨rfl, Y4⟩
      · exact absurd hpre h
      · gi_wp2
        refine ⟨by simp, .inl ⟨_, _, rfl, run_takeDeferred hK, ?_⟩⟩
        have hc5 := cell_kept Y4.cell (grownBy_putObj' _ D (.deferred none)) (fun r e => by cases e; exact ⟨_, hK, rfl⟩)
        refine ⟨.bool true, ?_, rfl, YB.trans (belowK_b (w := w) (Nat.le_refl _) W3 D _ _ (by have := BW.size; omega) hK rfl rfl)⟩
        simp [results, Try.f3, go_sem, hc5]
  · have cb' : decide (3000 < cntL S) = false := decide_eq_false cb
    gi_wp2_with fail
    exact hK.out _ W2 (by omega) HB2.out HS2.out H42.out ⟨rfl, rfl, rfl, rfl, rfl, rfl, trivial⟩
end Go.Proofs.Ytddoanmhikldiab

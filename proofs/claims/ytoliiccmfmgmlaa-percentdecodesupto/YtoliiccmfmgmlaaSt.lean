/-
  The contract of Strict: the place of the first stray sign, or what is decoded. Condition: the text is no longer than one that comes in can be.
-/
import Derived.Test.YtoliiccmfmgmlaaCs
import Derived.BigRegionIn
namespace Go.Proofs.Ytoliiccmfmgmlaa
open Go.RowKit Go.Lib Go.Shelf
attribute [local go_sem] Oper.semAt_some
/-- What Strict answers of a row of parts. -/
def strictA (s : ByteArray) : List Nat → Value
  | [] => .tuple #[.string (decB s), .int .i64 0, .int .i64 0]
  | k :: l => if sr s k = true then .tuple #[.string ⟨#[]⟩, .int .i64 k, .int .i64 30] else strictA s l
theorem strictA_none (s : ByteArray) : ∀ l : List Nat, (∀ k ∈ l, sr s k = false) → strictA s l = .tuple #[.string (decB s), .int .i64 0, .int .i64 0]
  | [], _ => rfl
  | k :: l, h => by
    have h1 := h k (by simp)
    rw [strictA, if_neg (by rw [h1]; decide)]
    exact strictA_none s l fun j hj => h j (by simp [hj])
theorem strictA_some (s : ByteArray) (q : List Nat) (k : Nat) (hk : sr s k = true) : ∀ l : List Nat, (∀ j ∈ l, sr s j = false) → strictA s (l ++ k :: q) = .tuple #[.string ⟨#[]⟩, .int .i64 k, .int .i64 30]
  | [], _ => by rw [List.nil_append, strictA, if_pos hk]
  | j :: l, h => by
    have h1 := h j (by simp)
    rw [List.cons_append, strictA, if_neg (by rw [h1]; decide)]
    exact strictA_some s q k hk l fun i hi => h i (by simp [hi])
set_option maxRecDepth 100000 in
set_option maxHeartbeats 2000000 in
theorem strict_any (s : ByteArray) (w : World) (hs : s.size ≤ 140737488351232) :
    Calls Try.prog 8 #[.string s] w fun e W' => e = .returned (strictA s (poss s)) ∧ Below w.heap.size w W' := by
  refine (callsIn_wide (n := 9)).1 ?_
  have hlen : (poss s).length ≤ s.size := poss_len s
  refine callsIn_of_wp_marks Try.func8 rfl trivial ?_ rfl
  simp only [Try.ntmps8, List.size_toArray, List.length_cons, List.length_nil, Nat.reduceAdd, Nat.reduceSub, Array.replicate_succ, Array.replicate_zero, List.push_toArray, List.append_toArray, List.nil_append, List.cons_append]
  gi_wp2_with fail
  refine ⟨trivial, ?_⟩
  refine (parts_in _ s _).mono ?_
  rintro e w' ⟨rfl, rfl⟩
  gi_wp2_with fail
  have b0 := ((Boxed.new w 9 (.string ⟨#[]⟩)).alloc (.cells #[.int .i64 0] 3)).alloc (.cells #[.int .i64 0] 25)
  have b1 := (Boxed.new (w.alloc (.cells #[.string ⟨#[]⟩] 9)) 3 (.int .i64 0)).alloc (.cells #[.int .i64 0] 25)
  have b2 := Boxed.new ((w.alloc (.cells #[.string ⟨#[]⟩] 9)).alloc (.cells #[.int .i64 0] 3)) 25 (.int .i64 0)
  have b3 := Boxed.new (((w.alloc (.cells #[.string ⟨#[]⟩] 9)).alloc (.cells #[.int .i64 0] 3)).alloc (.cells #[.int .i64 0] 25)) 9 (.string s)
  have b0' := b0.alloc (.cells #[.string s] 9)
  have b1' := b1.alloc (.cells #[.string s] 9)
  have b2' := b2.alloc (.cells #[.string s] 9)
  simp only [World.size_alloc, Nat.add_assoc, Nat.reduceAdd] at b0' b1' b2' b3
  have hB0 : Below w.heap.size w ((((w.alloc (.cells #[.string ⟨#[]⟩] 9)).alloc (.cells #[.int .i64 0] 3)).alloc (.cells #[.int .i64 0] 25)).alloc (.cells #[.string s] 9)) := ((((Below.refl _ w).alloc (Nat.le_refl _) _).alloc (by simp) _).alloc (by simp; omega) _).alloc (by simp; omega) _
  obtain ⟨W0, hW0⟩ : ∃ W0, (((w.alloc (.cells #[.string ⟨#[]⟩] 9)).alloc (.cells #[.int .i64 0] 3)).alloc (.cells #[.int .i64 0] 25)).alloc (.cells #[.string s] 9) = W0 := ⟨_, rfl⟩
  have hsz : W0.heap.size = w.heap.size + 4 := by rw [← hW0]; simp
  rw [hW0] at b0' b1' b2' b3 hB0 ⊢
  clear hW0 b0 b1 b2
  refine wpIn_rangeFunc_ownH rfl (by omega) (gf := 38) (lb := #[.pointer (some ⟨w.heap.size + 3, 0, none⟩)]) rfl trivial (enters_of Try.func38 (by kernel_rfl) rfl)
    (parts_stops _ (w.heap.size + 3) w.heap.size s (by omega) W0 b3 (by omega)) (fun h k => h.trans k) (fun W l o o' hl hW hc _ => Kp.put (w := W0) (by omega) (by omega) W l o' hl) (Below.refl _ _) (fun _ => rfl)
    (fun pre W => (∀ k ∈ pre, sr s k = false) ∧ Boxed W w.heap.size 9 (.string ⟨#[]⟩) ∧ Boxed W (w.heap.size + 1) 3 (.int .i64 0) ∧ Boxed W (w.heap.size + 2) 25 (.int .i64 0) ∧ Boxed W (w.heap.size + 3) 9 (.string s) ∧ Below w.heap.size w W)
    (fun c pre W => (c = .ret ∧ ∃ p k, pre = p ++ [k] ∧ (∀ j ∈ p, sr s j = false) ∧ sr s k = true) ∧ Boxed W w.heap.size 9 (.string ⟨#[]⟩) ∧ Boxed W (w.heap.size + 1) 3 (.int .i64 ((pre.getLast?.getD 0 : Nat) : Int)) ∧ Boxed W (w.heap.size + 2) 25 (.int .i64 30) ∧ Below w.heap.size w W)
    (OwnFrom.and (ownFrom_pure _ _) (OwnFrom.and (Own.from (boxed_own _ _ _) _) (OwnFrom.and (Own.from (boxed_own _ _ _) _) (OwnFrom.and (Own.from (boxed_own _ _ _) _) (OwnFrom.and (Own.from (boxed_own _ _ _) _) (ownFrom_below (Nat.le_refl _) (by omega)))))))
    (fun _ => OwnFrom.and (ownFrom_pure _ _) (OwnFrom.and (Own.from (boxed_own _ _ _) _) (OwnFrom.and (Own.from (boxed_own _ _ _) _) (OwnFrom.and (Own.from (boxed_own _ _ _) _) (ownFrom_below (Nat.le_refl _) (by omega))))))
    ⟨fun k hk => by simp at hk, b0', b1', b2', b3, hB0⟩
    (fun k a' W => ∃ Bx, w.heap.size + 4 ≤ Bx ∧ W.heap[Bx]? = some (.cells (pcs s k) 56 (0, 0)) ∧ a' = { tmps := #[.string s, undef, .pointer (some ⟨w.heap.size, 0, none⟩), .pointer (some ⟨w.heap.size + 1, 0, none⟩), .pointer (some ⟨w.heap.size + 2, 0, none⟩), .pointer (some ⟨Bx, 0, none⟩), .string s, .func (.func 38) #[] #[.pointer (some ⟨w.heap.size + 3, 0, none⟩)], .agg (pcs s k), undef, undef, undef, undef, undef, undef], defers := [] })
    (fun k a' => ?ax) ?assign ?body ?done ?stop
  case ax =>
    rintro u X Y row ⟨Bx, h1, h2, h3⟩ hg' hr
    exact ⟨Bx, h1, boxC_own (β := Unit) Bx (pcs s k) 56 () X Y row h2 hg' (fun r e => (hr r e).2), h3⟩
  case assign =>
    rintro l pre k W K ⟨hp, c0, c1, c2, hbn, hB⟩ hK
    have hsW : w.heap.size + 4 ≤ W.heap.size := hbn.lt
    have HK : Hid _ := hK _ _ ((KeepsOthers.alloc W (.cells (pcs s k) 56)).from _) (Kp.alloc (by omega) (by omega) _) ⟨hp, c0.alloc _, c1.alloc _, c2.alloc _, hbn.alloc _, hB.alloc hB.size _⟩ ⟨W.heap.size, hsW, World.alloc_heap_new _ _, rfl⟩
    clear hK
    unfold pcs at HK ⊢
    gi_wp2
    exact HK
  case body =>
    rintro l pre k a' W hl ⟨r, hr⟩ ⟨hp, c0, c1, c2, hbn, hB⟩ ⟨Bx, hBx, bX, rfl⟩ hlt
    have cx0 : W.cell? ⟨Bx, 0, none⟩ = some (.int .i64 k) := by simp [World.cell?, bX, pcs]
    have cx4 : W.cell? ⟨Bx, 4, none⟩ = some (.bool (sr s k)) := by simp [World.cell?, bX, pcs]
    cases hq : sr s k
    · rw [hq] at cx4
      gi_wp2
      exact ⟨KeepsFrom.refl _ _, Kp.same _ _ _, fun j hj => by rcases List.mem_append.1 hj with h | h; exact hp j h; rw [List.mem_singleton.1 h]; exact hq, c0, c1, c2, hbn, hB⟩
    · rw [hq] at cx4
      have z0 := c0.cell; have z1 := c1.cell; have z2 := c2.cell
      have f0 := c0.frozen; have f1 := c1.frozen; have f2 := c2.frozen
      have HF : Hid (KeepsFrom W0.heap.size W (((W.setCell ⟨w.heap.size, 0, none⟩ (.string ⟨#[]⟩)).setCell ⟨w.heap.size + 1, 0, none⟩ (.int .i64 k)).setCell ⟨w.heap.size + 2, 0, none⟩ (.int .i64 30)).drew ∧ Boxed (((W.setCell ⟨w.heap.size, 0, none⟩ (.string ⟨#[]⟩)).setCell ⟨w.heap.size + 1, 0, none⟩ (.int .i64 k)).setCell ⟨w.heap.size + 2, 0, none⟩ (.int .i64 30)).drew w.heap.size 9 (.string ⟨#[]⟩) ∧ Boxed (((W.setCell ⟨w.heap.size, 0, none⟩ (.string ⟨#[]⟩)).setCell ⟨w.heap.size + 1, 0, none⟩ (.int .i64 k)).setCell ⟨w.heap.size + 2, 0, none⟩ (.int .i64 30)).drew (w.heap.size + 1) 3 (.int .i64 (((pre ++ [k]).getLast?.getD 0 : Nat) : Int)) ∧ Boxed (((W.setCell ⟨w.heap.size, 0, none⟩ (.string ⟨#[]⟩)).setCell ⟨w.heap.size + 1, 0, none⟩ (.int .i64 k)).setCell ⟨w.heap.size + 2, 0, none⟩ (.int .i64 30)).drew (w.heap.size + 2) 25 (.int .i64 30) ∧ Below w.heap.size w (((W.setCell ⟨w.heap.size, 0, none⟩ (.string ⟨#[]⟩)).setCell ⟨w.heap.size + 1, 0, none⟩ (.int .i64 k)).setCell ⟨w.heap.size + 2, 0, none⟩ (.int .i64 30)).drew) := by
        refine ⟨?_, ((c0.set _).other (by omega) _).other (by omega) _, ?_, ((c2.other (by omega) _).other (by omega) _).set _, (((hB.setCell (by simp) _).setCell (by simp) _).setCell (by simp) _).drew⟩
        · exact KeepsFrom.trans ((((KeepsOthers.setCell W _ _).trans (KeepsOthers.setCell _ _ _)).trans (KeepsOthers.setCell _ _ _)).from _) ⟨Nat.le_refl _, fun _ _ _ h _ => h⟩
        · have e : ((pre ++ [k]).getLast?.getD 0 : Nat) = k := by simp
          rw [e]
          exact ((c1.other (by omega) _).set _).other (by omega) _
      clear c0 c1 c2 hbn hB
      gi_wp2_with fail
      gi_region
      all_goals
        gi_wp2
        exact ⟨HF.out.1, ⟨rfl, pre, k, rfl, hp, hq⟩, HF.out.2⟩
  case done =>
    rintro D ys W hD rfl ⟨hp, c0, c1, c2, hbn, hB⟩ hK
    gi_wp2_with fail
    refine ⟨trivial, ?_⟩
    refine (callsIn_wide.2 (decode_any s W hs)).mono ?_
    rintro e W2 ⟨rfl, hb2⟩
    have d0 : Boxed W2 w.heap.size 9 (.string ⟨#[]⟩) := (hb2.block _ c0.lt).trans c0
    have d1 : Boxed W2 (w.heap.size + 1) 3 (.int .i64 0) := (hb2.block _ c1.lt).trans c1
    have d2 : Boxed W2 (w.heap.size + 2) 25 (.int .i64 0) := (hb2.block _ c2.lt).trans c2
    have hK2 : W2.heap[D]? = some (.deferred (some [])) := (hb2.block _ (Array.getElem?_eq_some_iff.1 hK).1).trans hK
    have hB2 := hB.trans (hb2.mono hB.size)
    have z0 := d0.cell; have z1 := d1.cell; have z2 := d2.cell
    have f0 := d0.frozen; have f1 := d1.frozen; have f2 := d2.frozen
    clear c0 c1 c2 hbn hB hK hb2
    have e0 := (((d0.set (.string (decB s))).other (B' := w.heap.size + 1) (by omega) (.int .i64 0)).other (B' := w.heap.size + 2) (by omega) (.int .i64 0)).kept (grownBy_putObj' _ D (.deferred none)) (by simp; omega)
    have e1 := (((d1.other (B' := w.heap.size) (by omega) (.string (decB s))).set (.int .i64 0)).other (B' := w.heap.size + 2) (by omega) (.int .i64 0)).kept (grownBy_putObj' _ D (.deferred none)) (by simp; omega)
    have e2 := (((d2.other (B' := w.heap.size) (by omega) (.string (decB s))).other (B' := w.heap.size + 1) (by omega) (.int .i64 0)).set (.int .i64 0)).kept (grownBy_putObj' _ D (.deferred none)) (by simp; omega)
    have hK3 : (((W2.setCell ⟨w.heap.size, 0, none⟩ (.string (decB s))).setCell ⟨w.heap.size + 1, 0, none⟩ (.int .i64 0)).setCell ⟨w.heap.size + 2, 0, none⟩ (.int .i64 0)).heap[D]? = some (.deferred (some [])) := by
      rw [Below.heap_setCell _ _ _ D (by simp; omega), Below.heap_setCell _ _ _ D (by simp; omega), Below.heap_setCell _ _ _ D (by simp; omega)]; exact hK2
    have hB3 : Below w.heap.size w (((W2.setCell ⟨w.heap.size, 0, none⟩ (.string (decB s))).setCell ⟨w.heap.size + 1, 0, none⟩ (.int .i64 0)).setCell ⟨w.heap.size + 2, 0, none⟩ (.int .i64 0)) := ((hB2.setCell (by simp) _).setCell (by simp) _).setCell (by simp) _
    have FIN : Hid _ := And.intro e0.cell (And.intro e1.cell (And.intro e2.cell (And.intro hK3 hB3)))
    clear d0 d1 d2 hB2 e0 e1 e2 hK3 hB3
    gi_wp2
    obtain ⟨y0, y1, y2, y3, y4⟩ := FIN.out
    refine ⟨by simp, .inl ⟨_, _, rfl, run_takeDeferred y3, ?_⟩⟩
    refine ⟨.tuple #[.string (decB s), .int .i64 0, .int .i64 0], by simp [results, Try.results8, go_sem, y0, y1, y2], by rw [strictA_none s _ hp], y4.trans (belowK_b (w := w) (Nat.le_refl _) _ D _ _ (by omega) y3 rfl rfl)⟩
  case stop =>
    rintro D c pre W hD ⟨q, hq⟩ ⟨⟨rfl, p, k, rfl, hp, hk⟩, c0, c1, c2, hB⟩ hK
    gi_wp2
    refine ⟨by simp, .inl ⟨_, _, rfl, run_takeDeferred hK, ?_⟩⟩
    have c1' : Boxed W (w.heap.size + 1) 3 (.int .i64 k) := by simpa using c1
    have e0 := c0.kept (grownBy_putObj' _ D (.deferred none)) (by simp; omega)
    have e1 := c1'.kept (grownBy_putObj' _ D (.deferred none)) (by simp; omega)
    have e2 := c2.kept (grownBy_putObj' _ D (.deferred none)) (by simp; omega)
    refine ⟨.tuple #[.string ⟨#[]⟩, .int .i64 k, .int .i64 30], by simp [results, Try.results8, go_sem, e0.cell, e1.cell, e2.cell], ?_, hB.trans (belowK_b (w := w) (Nat.le_refl _) W D _ _ (by omega) hK rfl rfl)⟩
    rw [← hq, List.append_assoc, List.singleton_append, strictA_some s q k hk p hp]
end Go.Proofs.Ytoliiccmfmgmlaa

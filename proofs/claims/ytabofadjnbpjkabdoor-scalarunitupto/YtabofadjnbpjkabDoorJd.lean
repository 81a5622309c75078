/-
  The contract of Unit: the piece that has a unit. Conditions: the text has at most 2^35 bytes; the library's two tables hold what their text lays.
-/
import Derived.Test.YtabofadjnbpjkabDoorJc
namespace Go.Proofs.YtabofadjnbpjkabDoor
open Go.RowKit Go.Lib Go.Shelf
attribute [local go_sem] Oper.semAt_some
/-- What Unit answers: a place, and the error's number. -/
def unA (s : ByteArray) (u : Int) : Int × Int := if u < 0 then (0, 21) else match fuU s (poss s) u with | some k => ((k : Nat), 0) | none => (0, 21)
theorem fu_step (s : ByteArray) (u : Int) (pre : List Nat) (k : Nat) (h : ∀ rest, fuU s (pre ++ rest) u = fuU s rest (u - unS s pre)) (hk : (unR (pRu s k) : Int) ≤ u - unS s pre) : ∀ rest, fuU s (pre ++ [k] ++ rest) u = fuU s rest (u - unS s (pre ++ [k])) := fun rest => by
  rw [List.append_assoc, h, List.singleton_append, fuU, if_neg (by omega), unS_app]
  congr 1
  omega
theorem fu_stop (s : ByteArray) (u : Int) (pre : List Nat) (k : Nat) (h : ∀ rest, fuU s (pre ++ rest) u = fuU s rest (u - unS s pre)) (hk : u - unS s pre < (unR (pRu s k) : Int)) : ∀ rest, fuU s (pre ++ [k] ++ rest) u = some k := fun rest => by
  rw [List.append_assoc, h, List.singleton_append, fuU, if_pos hk]
set_option maxRecDepth 100000 in
set_option maxHeartbeats 2000000 in
theorem unit_good (s : ByteArray) (u : Int) (w : World) (hs : s.size ≤ 35184372088000) (hu0 : 0 ≤ u) (hu1 : u ≤ 9223372036854775807) (hT : Utf8Tabs 0 1 w) (hg : 2 ≤ w.heap.size) :
    Calls Tryd.prog 26 #[.string s, .int .i64 u] w fun e W' => (∃ k e', e = .returned (.tuple #[.int .i64 k, .int .i64 e']) ∧ ((∃ n : Nat, fuU s (poss s) u = some n ∧ k = n ∧ e' = 0) ∨ (fuU s (poss s) u = none ∧ k = 0 ∧ e' = 21))) ∧ Below w.heap.size w W' := by
  refine (callsIn_wide (n := 9)).1 ?_
  have hlen : (poss s).length ≤ s.size := posAt_len s s.size 0 (by omega)
  have hneg : ¬ u < 0 := by omega
  refine callsIn_of_wp_marks Tryd.func26 rfl trivial ?_ rfl
  simp only [Tryd.ntmps26, List.size_toArray, List.length_cons, List.length_nil, Nat.reduceAdd, Nat.reduceSub, Array.replicate_succ, Array.replicate_zero, List.push_toArray, List.append_toArray, List.nil_append, List.cons_append]
  gi_wp2_with fail
  refine ⟨trivial, ?_⟩
  refine (each_in _ s _).mono ?_
  rintro e w' ⟨rfl, rfl⟩
  gi_wp2_with fail
  have b1 := Boxed.new w 3 (.int .i64 0)
  have b2 := Boxed.new (w.alloc (.cells #[.int .i64 0] 3)) 26 (.int .i64 0)
  have b3 := Boxed.new ((w.alloc (.cells #[.int .i64 0] 3)).alloc (.cells #[.int .i64 0] 26)) 3 (.int .i64 u)
  have bN := Boxed.new (((w.alloc (.cells #[.int .i64 0] 3)).alloc (.cells #[.int .i64 0] 26)).alloc (.cells #[.int .i64 u] 3)) 9 (.string s)
  have e1 : (w.alloc (.cells #[.int .i64 0] 3)).heap.size = w.heap.size + 1 := by simp
  have e2 : ((w.alloc (.cells #[.int .i64 0] 3)).alloc (.cells #[.int .i64 0] 26)).heap.size = w.heap.size + 2 := by simp
  have e3 : (((w.alloc (.cells #[.int .i64 0] 3)).alloc (.cells #[.int .i64 0] 26)).alloc (.cells #[.int .i64 u] 3)).heap.size = w.heap.size + 3 := by simp
  rw [e1] at b2
  rw [e2] at b3
  rw [e3] at bN
  have hB0 : Below w.heap.size w ((((w.alloc (.cells #[.int .i64 0] 3)).alloc (.cells #[.int .i64 0] 26)).alloc (.cells #[.int .i64 u] 3)).alloc (.cells #[.string s] 9)) := ((((Below.refl _ w).alloc (Nat.le_refl _) _).alloc (by rw [e1]; omega) _).alloc (by rw [e2]; omega) _).alloc (by rw [e3]; omega) _
  have hT0 := tabs_below hT (by omega) hB0
  replace b1 := ((b1.alloc (.cells #[.int .i64 0] 26)).alloc (.cells #[.int .i64 u] 3)).alloc (.cells #[.string s] 9)
  replace b2 := (b2.alloc (.cells #[.int .i64 u] 3)).alloc (.cells #[.string s] 9)
  replace b3 := b3.alloc (.cells #[.string s] 9)
  obtain ⟨W0, hW0⟩ : ∃ W0, (((w.alloc (.cells #[.int .i64 0] 3)).alloc (.cells #[.int .i64 0] 26)).alloc (.cells #[.int .i64 u] 3)).alloc (.cells #[.string s] 9) = W0 := ⟨_, rfl⟩
  have hsz : W0.heap.size = w.heap.size + 4 := by rw [← hW0]; simp
  rw [hW0] at b1 b2 b3 bN hB0 hT0 ⊢
  clear hW0 e1 e2 e3
  refine wpIn_rangeFunc_ownH rfl (by omega) (gf := 47) (lb := #[.pointer (some ⟨w.heap.size + 3, 0, none⟩)]) rfl trivial (enters_of Tryd.func47 (by kernel_rfl) rfl)
    (each_stops _ (w.heap.size + 3) w.heap.size (w.heap.size + 3) (w.heap.size + 4) s (by omega) W0 bN hg (by omega) (by omega) (by omega) (fun g h => by rw [rowAt_string bN] at h; cases h) hT0) (fun h k => h.trans k) (fun W l o o' hl hW hc _ => KpB.put (by omega) (by omega) (by omega) W l o o' hl hW hc) (Below.refl _ _) (fun _ => rfl)
    (fun pre W => (((unS s pre : Nat) : Int) ≤ u ∧ ∀ rest, fuU s (pre ++ rest) u = fuU s rest (u - unS s pre)) ∧ Boxed W w.heap.size 3 (.int .i64 0) ∧ Boxed W (w.heap.size + 1) 26 (.int .i64 0) ∧ Boxed W (w.heap.size + 2) 3 (.int .i64 (u - (unS s pre : Nat))) ∧ Boxed W (w.heap.size + 3) 9 (.string s) ∧ Below w.heap.size w W)
    (fun c pre W => (c = .ret ∧ ∃ k, pre.getLast? = some k ∧ ∀ rest, fuU s (pre ++ rest) u = some k) ∧ Boxed W w.heap.size 3 (.int .i64 ((pre.getLast?.getD 0 : Nat) : Int)) ∧ Boxed W (w.heap.size + 1) 26 (.int .i64 0) ∧ Below w.heap.size w W)
    (OwnFrom.and (ownFrom_pure _ _) (OwnFrom.and (Own.from (boxed_own _ _ _) _) (OwnFrom.and (Own.from (boxed_own _ _ _) _) (OwnFrom.and (Own.from (boxed_own _ _ _) _) (OwnFrom.and (Own.from (boxed_own _ _ _) _) (ownFrom_below (Nat.le_refl _) (by omega)))))))
    (fun _ => OwnFrom.and (ownFrom_pure _ _) (OwnFrom.and (Own.from (boxed_own _ _ _) _) (OwnFrom.and (Own.from (boxed_own _ _ _) _) (ownFrom_below (Nat.le_refl _) (by omega)))))
    ⟨⟨by simpa [unS] using hu0, fun rest => by simp [unS]⟩, b1, b2, by simpa [unS] using b3, bN, hB0⟩
    (fun k a' W => ∃ Bx, w.heap.size + 4 ≤ Bx ∧ W.heap[Bx]? = some (.cells (pcs s k) 33 (0, 0)) ∧ a' = { tmps := #[.string s, .int .i64 u, undef, undef, .pointer (some ⟨w.heap.size, 0, none⟩), .pointer (some ⟨w.heap.size + 1, 0, none⟩), .pointer (some ⟨w.heap.size + 2, 0, none⟩), .pointer (some ⟨Bx, 0, none⟩), undef, .int .i64 u, .bool false, .int .i64 u, .string s, .func (.func 47) #[] #[.pointer (some ⟨w.heap.size + 3, 0, none⟩)], .agg (pcs s k), undef, undef, undef, undef, undef, undef, undef, undef, undef, undef, undef, undef, undef, undef, undef], defers := [] })
    (fun k a' => ?ax) ?assign ?body ?done ?stop
  case ax =>
    rintro u X Y row ⟨Bx, h1, h2, h3⟩ hg' hr
    exact ⟨Bx, h1, boxC_own (β := Unit) Bx (pcs s k) 33 () X Y row h2 hg' (fun r e => (hr r e).2), h3⟩
  case assign =>
    rintro l pre k W K ⟨hp, h1, h2, h3, hbn, hB⟩ hK
    have hsW : w.heap.size + 4 ≤ W.heap.size := hbn.lt
    have HK : Hid _ := hK _ _ ((KeepsOthers.alloc W (.cells (pcs s k) 33)).from _) (kp_alloc (by omega) (by omega) (by omega) _) ⟨hp, h1.alloc _, h2.alloc _, h3.alloc _, hbn.alloc _, hB.alloc hB.size _⟩ ⟨W.heap.size, hsW, World.alloc_heap_new _ _, rfl⟩
    clear hK hp
    unfold pcs at HK ⊢
    gi_wp2
    exact HK
  case body =>
    rintro l pre k a' W hl ⟨r, hr⟩ ⟨⟨hp0, hp⟩, h1, h2, h3, hbn, hB⟩ ⟨Bx, hBx, bX, rfl⟩ hlt
    have hsW : w.heap.size + 4 ≤ W.heap.size := hbn.lt
    have hul := unS_le s pre
    have hu1' := unR_le (pRu s k)
    have cx : W.cell? ⟨Bx, 2, none⟩ = some (.int .i32 (pRu s k)) := by simp [World.cell?, bX, pcs]
    have cx0 : W.cell? ⟨Bx, 0, none⟩ = some (.int .i64 k) := by simp [World.cell?, bX, pcs]
    have KU : Hid (∀ W, Calls Tryd.prog 42 #[.int .i32 (pRu s k : Nat)] W fun e w' => e = .returned (.int .i64 (unR (pRu s k) : Nat)) ∧ w' = W) := fun W => unitCount_any _ W
    have HP : Hid (∀ rest, fuU s (pre ++ rest) u = fuU s rest (u - unS s pre)) := hp
    have HN : Hid (((unS s (pre ++ [k]) : Nat) : Int) = ((unS s pre : Nat) : Int) + ((unR (pRu s k) : Nat) : Int)) := by unfold Hid; rw [unS_app]; omega
    have HS : Hid (((unR (pRu s k) : Nat) : Int) ≤ u - unS s pre → ∀ rest, fuU s (pre ++ [k] ++ rest) u = fuU s rest (u - unS s (pre ++ [k]))) := fu_step s u pre k hp
    have HX : Hid (u - unS s pre < ((unR (pRu s k) : Nat) : Int) → ∀ rest, fuU s (pre ++ [k] ++ rest) u = some k) := fu_stop s u pre k hp
    have c3 := h3.cell
    have f3 := h3.frozen
    have f1 := h1.frozen
    have f2 := h2.frozen
    have c1 := h1.cell
    have c2 := h2.cell
    clear hp
    unfold pcs
    obtain ⟨N, hN⟩ : ∃ N, unR (pRu s k) = N := ⟨_, rfl⟩
    rw [hN] at HN HS HX hu1' KU
    obtain ⟨U, hU⟩ : ∃ U : Int, ((unS s pre : Nat) : Int) = U := ⟨_, rfl⟩
    rw [hU] at HN HS HX hp0 h3 c3
    have hU0 : 0 ≤ U := by omega
    have wz : IntKind.i64.wrap (u - U - (N : Int)) = u - U - (N : Int) := IntWalk.i64_in _ (by omega)
    clear HP
    by_cases hq : u - U < (N : Int)
    · have d : decide (u - U < (N : Int)) = true := decide_eq_true hq
      have FIN : Hid (KeepsFrom W0.heap.size W ((W.setCell ⟨w.heap.size, 0, none⟩ (.int .i64 k)).setCell ⟨w.heap.size + 1, 0, none⟩ (.int .i64 0)) ∧ (Code.ret = Code.ret ∧ ∃ k', (pre ++ [k]).getLast? = some k' ∧ ∀ rest, fuU s (pre ++ [k] ++ rest) u = some k') ∧ Boxed ((W.setCell ⟨w.heap.size, 0, none⟩ (.int .i64 k)).setCell ⟨w.heap.size + 1, 0, none⟩ (.int .i64 0)) w.heap.size 3 (.int .i64 (((pre ++ [k]).getLast?.getD 0 : Nat) : Int)) ∧ Boxed ((W.setCell ⟨w.heap.size, 0, none⟩ (.int .i64 k)).setCell ⟨w.heap.size + 1, 0, none⟩ (.int .i64 0)) (w.heap.size + 1) 26 (.int .i64 0) ∧ Below w.heap.size w ((W.setCell ⟨w.heap.size, 0, none⟩ (.int .i64 k)).setCell ⟨w.heap.size + 1, 0, none⟩ (.int .i64 0))) :=
        ⟨((KeepsOthers.setCell W _ _).trans (KeepsOthers.setCell _ _ _)).from _, ⟨rfl, k, by simp, HX.out hq⟩, by simpa using (h1.set (.int .i64 k)).other (B' := w.heap.size + 1) (by omega) (.int .i64 0), (h2.other (B' := w.heap.size) (by omega) (.int .i64 k)).set (.int .i64 0), (hB.setCell (by simp) _).setCell (by simp) _⟩
      clear hq HS HX HN
      gi_wp2_with fail
      refine ⟨trivial, ?_⟩
      refine (CallsIn.inRound l (callsIn_wide.2 (KU.out _))).mono ?_
      rintro e W7 ⟨rfl, rfl⟩
      gi_wp2
      exact ⟨FIN.out.1, ⟨rfl, FIN.out.2.1.2⟩, FIN.out.2.2⟩
    · have d : decide (u - U < (N : Int)) = false := decide_eq_false hq
      have FIN : Hid (KeepsFrom W0.heap.size W (W.setCell ⟨w.heap.size + 2, 0, none⟩ (.int .i64 (u - U - N))) ∧ KpB w.heap.size (w.heap.size + 3) (w.heap.size + 3) (w.heap.size + 4) W (W.setCell ⟨w.heap.size + 2, 0, none⟩ (.int .i64 (u - U - N))) ∧ (((unS s (pre ++ [k]) : Nat) : Int) ≤ u ∧ ∀ rest, fuU s (pre ++ [k] ++ rest) u = fuU s rest (u - unS s (pre ++ [k]))) ∧ Boxed (W.setCell ⟨w.heap.size + 2, 0, none⟩ (.int .i64 (u - U - N))) w.heap.size 3 (.int .i64 0) ∧ Boxed (W.setCell ⟨w.heap.size + 2, 0, none⟩ (.int .i64 (u - U - N))) (w.heap.size + 1) 26 (.int .i64 0) ∧ Boxed (W.setCell ⟨w.heap.size + 2, 0, none⟩ (.int .i64 (u - U - N))) (w.heap.size + 2) 3 (.int .i64 (u - (unS s (pre ++ [k]) : Nat))) ∧ Boxed (W.setCell ⟨w.heap.size + 2, 0, none⟩ (.int .i64 (u - U - N))) (w.heap.size + 3) 9 (.string s) ∧ Below w.heap.size w (W.setCell ⟨w.heap.size + 2, 0, none⟩ (.int .i64 (u - U - N)))) := by
        refine ⟨(KeepsOthers.setCell W _ _).from _, kp_set _ (by omega) (by omega) (by omega), ⟨by rw [HN.out]; omega, HS.out (by omega)⟩, h1.other (by omega) _, h2.other (by omega) _, ?_, hbn.other (by omega) _, hB.setCell (by simp) _⟩
        have := h3.set (.int .i64 (u - U - N))
        rw [HN.out, show u - (U + (N : Int)) = u - U - N by omega]
        exact this
      clear hq HS HX HN
      gi_wp2_with fail
      refine ⟨trivial, ?_⟩
      refine (CallsIn.inRound l (callsIn_wide.2 (KU.out _))).mono ?_
      rintro e W7 ⟨rfl, rfl⟩
      gi_wp2
      exact FIN.out
  case done =>
    rintro D ys W hD rfl ⟨⟨hp0, hp⟩, h1, h2, h3, hbn, hB⟩ hK
    have hpn := hp []
    rw [List.append_nil, fuU] at hpn
    have c3 := h3.cell
    have c1 := h1.cell
    have f1 := h1.frozen
    have c2 := h2.cell
    have f2 := h2.frozen
    obtain ⟨V, hV⟩ : ∃ V : Int, u - ((unS s (poss s) : Nat) : Int) = V := ⟨_, rfl⟩
    rw [hV] at hpn c3
    have HPN : Hid (fuU s (poss s) u = if 0 < V then none else some s.size) := hpn
    have hsi : (s.size : Int) ≤ 35184372088000 := by omega
    clear hp hp0 hpn
    by_cases hq : 0 < V
    · have d : decide (0 < V) = true := decide_eq_true hq
      gi_wp2
      have hK2 : ((W.setCell ⟨w.heap.size, 0, none⟩ (.int .i64 0)).setCell ⟨w.heap.size + 1, 0, none⟩ (.int .i64 21)).heap[D]? = some (.deferred (some [])) := (Below.heap_setCell _ _ _ D (by simp; omega)).trans ((Below.heap_setCell _ _ _ D (by simp; omega)).trans hK)
      refine ⟨by simp, .inl ⟨_, _, rfl, run_takeDeferred hK2, ?_⟩⟩
      have r1 := ((h1.set (.int .i64 0)).other (B' := w.heap.size + 1) (by omega) (.int .i64 21)).kept (grownBy_putObj' _ D (.deferred none)) (by simp; omega)
      have r2 := ((h2.other (B' := w.heap.size) (by omega) (.int .i64 0)).set (.int .i64 21)).kept (grownBy_putObj' _ D (.deferred none)) (by simp; omega)
      refine ⟨.tuple #[.int .i64 0, .int .i64 21], by simp [results, Tryd.results26, go_sem, r1.cell, r2.cell], ⟨0, 21, rfl, .inr ⟨by rw [HPN.out, if_pos (by omega)], rfl, rfl⟩⟩, ?_⟩
      exact ((hB.setCell (by simp) _).setCell (by simp) _).trans (belowK_b (w := w) (Nat.le_refl _) _ D _ _ (by omega) hK2 rfl rfl)
    · have d : decide (0 < V) = false := decide_eq_false hq
      gi_wp2
      have hK2 : ((W.setCell ⟨w.heap.size, 0, none⟩ (.int .i64 s.size)).setCell ⟨w.heap.size + 1, 0, none⟩ (.int .i64 0)).heap[D]? = some (.deferred (some [])) := (Below.heap_setCell _ _ _ D (by simp; omega)).trans ((Below.heap_setCell _ _ _ D (by simp; omega)).trans hK)
      refine ⟨by simp, .inl ⟨_, _, rfl, run_takeDeferred hK2, ?_⟩⟩
      have r1 := ((h1.set (.int .i64 s.size)).other (B' := w.heap.size + 1) (by omega) (.int .i64 0)).kept (grownBy_putObj' _ D (.deferred none)) (by simp; omega)
      have r2 := ((h2.other (B' := w.heap.size) (by omega) (.int .i64 s.size)).set (.int .i64 0)).kept (grownBy_putObj' _ D (.deferred none)) (by simp; omega)
      refine ⟨.tuple #[.int .i64 s.size, .int .i64 0], by simp [results, Tryd.results26, go_sem, r1.cell, r2.cell], ⟨s.size, 0, rfl, .inl ⟨s.size, by rw [HPN.out, if_neg (by omega)], rfl, rfl⟩⟩, ?_⟩
      exact ((hB.setCell (by simp) _).setCell (by simp) _).trans (belowK_b (w := w) (Nat.le_refl _) _ D _ _ (by omega) hK2 rfl rfl)
  case stop =>
    rintro D c pre W hD ⟨q, hq⟩ ⟨⟨rfl, k, hk, hf⟩, h1, h2, hB⟩ hK
    rw [hk] at h1
    gi_wp2
    refine ⟨by simp, .inl ⟨_, _, rfl, run_takeDeferred hK, ?_⟩⟩
    have r1 : Boxed _ w.heap.size 3 (.int .i64 (k : Nat)) := h1.kept (grownBy_putObj' _ D (.deferred none)) (by simp; omega)
    have r2 := h2.kept (grownBy_putObj' _ D (.deferred none)) (by simp; omega)
    refine ⟨.tuple #[.int .i64 (k : Nat), .int .i64 0], by simp [results, Tryd.results26, go_sem, r1.cell, r2.cell], ⟨k, 0, rfl, .inl ⟨k, by rw [← hq]; exact hf q, rfl, rfl⟩⟩, hB.trans (belowK_b (w := w) (Nat.le_refl _) W D _ _ (by omega) hK rfl rfl)⟩
theorem unit_any (s : ByteArray) (u : Int) (w : World) (hs : s.size ≤ 35184372088000) (hu1 : u ≤ 9223372036854775807) (hT : Utf8Tabs 0 1 w) (hg : 2 ≤ w.heap.size) :
    Calls Tryd.prog 26 #[.string s, .int .i64 u] w fun e W' => e = .returned (.tuple #[.int .i64 (unA s u).1, .int .i64 (unA s u).2]) ∧ Below w.heap.size w W' := by
  by_cases hu : u < 0
  · have e : unA s u = (0, 21) := by unfold unA; rw [if_pos hu]
    rw [e]
    have d : decide (u < 0) = true := decide_eq_true hu
    have hb : Below w.heap.size w ((w.alloc (.cells #[.int .i64 0] 3)).alloc (.cells #[.int .i64 21] 26)) := ((Below.refl _ w).alloc (Nat.le_refl _) _).alloc (by simp) _
    clear hu e
    go_enter Tryd.func26, Tryd.ntmps26
    go_wp2
    refine bodyPost_ret (v := .tuple #[.int .i64 0, .int .i64 21]) ?_ rfl ⟨rfl, ?_⟩
    · simp [results, Tryd.results26, go_sem]
    · exact (((((Below.refl _ w).alloc (Nat.le_refl _) _).alloc (by simp) _)))
  · refine (unit_good s u w hs (by omega) hu1 hT hg).mono fun e W' ⟨⟨k, e', h1, h2⟩, hb⟩ => ⟨?_, hb⟩
    rw [h1]
    have : unA s u = (k, e') := by
      unfold unA
      rw [if_neg hu]
      rcases h2 with ⟨n, q1, q2, q3⟩ | ⟨q1, q2, q3⟩
      · rw [q1, q2, q3]
      · rw [q1, q2, q3]
    rw [this]
end Go.Proofs.YtabofadjnbpjkabDoor

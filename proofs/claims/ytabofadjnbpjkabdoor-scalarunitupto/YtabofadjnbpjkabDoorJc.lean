/-
  The contracts of Count, Unit and Position: loops over the pieces of a text. Conditions: the text has at most 2^35 bytes; the library's two tables hold what their text lays.
-/
import Derived.Test.YtabofadjnbpjkabDoorJb
import Derived.Shelf.RegionOpen
namespace Go.Proofs.YtabofadjnbpjkabDoor
open Go.RowKit Go.Lib Go.Shelf
attribute [local go_sem] Oper.semAt_some
theorem rowAt_string {W : World} {B : Nat} {s : ByteArray} (h : Boxed W B 9 (.string s)) : rowAt W B = none := rowAt_boxed h
/-- A variable of the caller's is written: the round keeps its word. -/
theorem kp_set {W : World} {n₀ Bn L b o : Nat} (v : Value) (hb : n₀ ≤ b) (hbL : b < L) (hne : b ≠ Bn) : KpB n₀ Bn Bn L W (W.setCell ⟨b, o, none⟩ v) := fun hr => by
  have hset : ∀ b', b' ≠ b → (W.setCell ⟨b, o, none⟩ v).heap[b']? = W.heap[b']? := fun b' h => Below.heap_setCell W ⟨b, o, none⟩ v b' h
  have hrow : rowAt (W.setCell ⟨b, o, none⟩ v) Bn = rowAt W Bn := rowAt_same (hset Bn (Ne.symm hne))
  have hsz : (W.setCell ⟨b, o, none⟩ v).heap.size = W.heap.size := by simp
  exact ⟨(Below.refl _ _).setCell (by simpa using hb) _, hset Bn (Ne.symm hne), fun g hg => by rw [hrow] at hg; rw [hsz]; exact hr g hg, .inl hrow, fun b' cs t f hb' _ _ => hset b' (by omega)⟩
theorem kp_below {W W' : World} {n₀ Bn L : Nat} (hn : n₀ ≤ W.heap.size) (hB : Bn < W.heap.size) (h : Below W.heap.size W W') : KpB n₀ Bn Bn L W W' := fun hr => by
  have hrow : rowAt W' Bn = rowAt W Bn := rowAt_same (h.block Bn hB)
  exact ⟨h.mono hn, h.block Bn hB, fun g hg => by rw [hrow] at hg; exact Nat.lt_of_lt_of_le (hr g hg) h.size, .inl hrow, fun b cs t f _ hc _ => h.block b (Array.getElem?_eq_some_iff.1 hc).1⟩
theorem box_later {W W' : World} {b : Nat} {t : TypeId} {v : Value} (h : Boxed W b t v) (hb : Below W.heap.size W W') : Boxed W' b t v := (hb.block b h.lt).trans h
theorem keeps_below {W W' : World} (h : Below W.heap.size W W') : KeepsOthers W W' := KeepsOthers.of_grownBy (grown_of_below h) (fun _ _ e => by cases e)
set_option maxRecDepth 100000 in
set_option maxHeartbeats 2000000 in
theorem count_any (s : ByteArray) (w : World) (hs : s.size ≤ 35184372088000) (hT : Utf8Tabs 0 1 w) (hg : 2 ≤ w.heap.size) :
    Calls Tryd.prog 28 #[.string s] w fun e W' => e = .returned (.tuple #[.int .i64 ((poss s).length : Nat), .int .i64 (unS s (poss s) : Nat)]) ∧ Below w.heap.size w W' := by
  refine (callsIn_wide (n := 9)).1 ?_
  have hlen : (poss s).length ≤ s.size := posAt_len s s.size 0 (by omega)
  refine callsIn_of_wp_marks Tryd.func28 rfl trivial ?_ rfl
  simp only [Tryd.ntmps28, List.size_toArray, List.length_cons, List.length_nil, Nat.reduceAdd, Nat.reduceSub, Array.replicate_succ, Array.replicate_zero, List.push_toArray, List.append_toArray, List.nil_append, List.cons_append]
  gi_wp2_with fail
  refine ⟨trivial, ?_⟩
  refine (each_in _ s _).mono ?_
  rintro e w' ⟨rfl, rfl⟩
  gi_wp2_with fail
  have b1 := Boxed.new w 3 (.int .i64 0)
  have b2 := Boxed.new (w.alloc (.cells #[.int .i64 0] 3)) 3 (.int .i64 0)
  have bN := Boxed.new ((w.alloc (.cells #[.int .i64 0] 3)).alloc (.cells #[.int .i64 0] 3)) 9 (.string s)
  have e1 : (w.alloc (.cells #[.int .i64 0] 3)).heap.size = w.heap.size + 1 := by simp
  have e2 : ((w.alloc (.cells #[.int .i64 0] 3)).alloc (.cells #[.int .i64 0] 3)).heap.size = w.heap.size + 2 := by simp
  rw [e1] at b2
  rw [e2] at bN
  have hB0 : Below w.heap.size w (((w.alloc (.cells #[.int .i64 0] 3)).alloc (.cells #[.int .i64 0] 3)).alloc (.cells #[.string s] 9)) := (((Below.refl _ w).alloc (Nat.le_refl _) _).alloc (by simp) _).alloc (by simp; omega) _
  have hT0 := tabs_below hT (by omega) hB0
  replace b1 := (b1.alloc (.cells #[.int .i64 0] 3)).alloc (.cells #[.string s] 9)
  replace b2 := b2.alloc (.cells #[.string s] 9)
  obtain ⟨W0, hW0⟩ : ∃ W0, ((w.alloc (.cells #[.int .i64 0] 3)).alloc (.cells #[.int .i64 0] 3)).alloc (.cells #[.string s] 9) = W0 := ⟨_, rfl⟩
  have hsz : W0.heap.size = w.heap.size + 3 := by rw [← hW0]; simp
  rw [hW0] at b1 b2 bN hB0 hT0 ⊢
  clear hW0 e1 e2
  refine wpIn_rangeFunc_ownH rfl (by omega) (gf := 47) (lb := #[.pointer (some ⟨w.heap.size + 2, 0, none⟩)]) rfl trivial (enters_of Tryd.func47 (by kernel_rfl) rfl)
    (each_stops _ (w.heap.size + 2) w.heap.size (w.heap.size + 2) (w.heap.size + 3) s (by omega) W0 bN hg (by omega) (by omega) (by omega) (fun g h => by rw [rowAt_string bN] at h; cases h) hT0) (fun h k => h.trans k) (fun W l o o' hl hW hc _ => KpB.put (by omega) (by omega) (by omega) W l o o' hl hW hc) (Below.refl _ _) (fun _ => rfl)
    (fun pre W => Boxed W w.heap.size 3 (.int .i64 (pre.length : Nat)) ∧ Boxed W (w.heap.size + 1) 3 (.int .i64 (unS s pre : Nat)) ∧ Boxed W (w.heap.size + 2) 9 (.string s) ∧ Below w.heap.size w W)
    (fun _ _ _ => False)
    (OwnFrom.and (Own.from (boxed_own _ _ _) _) (OwnFrom.and (Own.from (boxed_own _ _ _) _) (OwnFrom.and (Own.from (boxed_own _ _ _) _) (ownFrom_below (Nat.le_refl _) (by omega)))))
    (fun _ _ _ _ _ hs _ _ => hs)
    ⟨b1, b2, bN, hB0⟩
    (fun k a' W => ∃ Bx, w.heap.size + 3 ≤ Bx ∧ W.heap[Bx]? = some (.cells (pcs s k) 33 (0, 0)) ∧ a' = { tmps := #[.string s, undef, .int .i64 0, .int .i64 0, .pointer (some ⟨w.heap.size, 0, none⟩), .pointer (some ⟨w.heap.size + 1, 0, none⟩), .pointer (some ⟨Bx, 0, none⟩), .string s, .func (.func 47) #[] #[.pointer (some ⟨w.heap.size + 2, 0, none⟩)], .agg (pcs s k), undef, undef, undef, undef, undef, undef, undef, undef, undef], defers := [] })
    (fun k a' => ?ax) ?assign ?body ?done ?stop
  case ax =>
    rintro u X Y row ⟨Bx, h1, h2, h3⟩ hg' hr
    exact ⟨Bx, h1, boxC_own (β := Unit) Bx (pcs s k) 33 () X Y row h2 hg' (fun r e => (hr r e).2), h3⟩
  case assign =>
    rintro l pre k W K ⟨h1, h2, hbn, hB⟩ hK
    have hsW : w.heap.size + 3 ≤ W.heap.size := hbn.lt
    have HK : Hid _ := hK _ _ ((KeepsOthers.alloc W (.cells (pcs s k) 33)).from _) (kp_alloc (by omega) (by omega) (by omega) _) ⟨h1.alloc _, h2.alloc _, hbn.alloc _, hB.alloc hB.size _⟩ ⟨W.heap.size, hsW, World.alloc_heap_new _ _, rfl⟩
    clear hK
    unfold pcs at HK ⊢
    gi_wp2
    exact HK
  case body =>
    rintro l pre k a' W hl ⟨r, hr⟩ ⟨h1, h2, hbn, hB⟩ ⟨Bx, hBx, bX, rfl⟩ hlt
    have hsW : w.heap.size + 3 ≤ W.heap.size := hbn.lt
    have hul := unS_le s pre
    have c1 := h1.cell
    have f1 := h1.frozen
    have p1 : ((pre.length : Nat) : Int) < 35184372088000 := by omega
    unfold pcs
    gi_wp2_with fail
    have q1 : Boxed (W.setCell ⟨w.heap.size, 0, none⟩ (.int .i64 (((pre.length : Nat) : Int) + 1))) w.heap.size 3 (.int .i64 ((pre ++ [k]).length : Nat)) := by
      have := h1.set (.int .i64 (((pre.length : Nat) : Int) + 1))
      simpa using this
    have q2 := h2.other (B' := w.heap.size) (by omega) (.int .i64 (((pre.length : Nat) : Int) + 1))
    have q3 := hbn.other (B' := w.heap.size) (by omega) (.int .i64 (((pre.length : Nat) : Int) + 1))
    have q4 : (W.setCell ⟨w.heap.size, 0, none⟩ (.int .i64 (((pre.length : Nat) : Int) + 1))).heap[Bx]? = some (.cells (pcs s k) 33 (0, 0)) := (Below.heap_setCell _ _ _ Bx (by simp; omega)).trans bX
    have K1 : Hid (KpB w.heap.size (w.heap.size + 2) (w.heap.size + 2) (w.heap.size + 3) W (W.setCell ⟨w.heap.size, 0, none⟩ (.int .i64 (((pre.length : Nat) : Int) + 1)))) := kp_set _ (Nat.le_refl _) (by omega) (by omega)
    have K2 : Hid (KeepsOthers W (W.setCell ⟨w.heap.size, 0, none⟩ (.int .i64 (((pre.length : Nat) : Int) + 1)))) := KeepsOthers.setCell W _ _
    have B1 : Hid (Below w.heap.size w (W.setCell ⟨w.heap.size, 0, none⟩ (.int .i64 (((pre.length : Nat) : Int) + 1)))) := hB.setCell (by simp) _
    have hmx : Tryd.prog.follows .mixedOrders = true := by kernel_rfl
    generalize W.setCell ⟨w.heap.size, 0, none⟩ (.int .i64 (((pre.length : Nat) : Int) + 1)) = W1 at *
    have c2 := q2.cell
    have f2 := q2.frozen
    have cx : W1.cell? ⟨Bx, 2, none⟩ = some (.int .i32 (pRu s k)) := by simp [World.cell?, q4, pcs]
    have p2 : ((unS s pre : Nat) : Int) < 70368744176000 := by omega
    have hu1 := unR_le (pRu s k)
    have wz : IntKind.i64.wrap (((unS s pre : Nat) : Int) + ((unR (pRu s k) : Nat) : Int)) = ((unS s pre : Nat) : Int) + ((unR (pRu s k) : Nat) : Int) := IntWalk.i64_in _ (by omega)
    have p3 : ((unR (pRu s k) : Nat) : Int) ≤ 2 := by omega
    have KU : Hid (∀ W, Calls Tryd.prog 42 #[.int .i32 (pRu s k : Nat)] W fun e w' => e = .returned (.int .i64 (unR (pRu s k) : Nat)) ∧ w' = W) := fun W => unitCount_any _ W
    have FIN : Hid (∀ W', Below (W1.setCell ⟨w.heap.size + 1, 0, none⟩ (.int .i64 (((unS s pre : Nat) : Int) + ((unR (pRu s k) : Nat) : Int)))).heap.size (W1.setCell ⟨w.heap.size + 1, 0, none⟩ (.int .i64 (((unS s pre : Nat) : Int) + ((unR (pRu s k) : Nat) : Int)))) W' → KeepsFrom W0.heap.size W W' ∧ KpB w.heap.size (w.heap.size + 2) (w.heap.size + 2) (w.heap.size + 3) W W' ∧ Boxed W' w.heap.size 3 (.int .i64 ((pre ++ [k]).length : Nat)) ∧ Boxed W' (w.heap.size + 1) 3 (.int .i64 (unS s (pre ++ [k]) : Nat)) ∧ Boxed W' (w.heap.size + 2) 9 (.string s) ∧ Below w.heap.size w W') := fun W' hb => by
      have r1 := q1.other (B' := w.heap.size + 1) (by omega) (.int .i64 (((unS s pre : Nat) : Int) + ((unR (pRu s k) : Nat) : Int)))
      have r2 := q2.set (.int .i64 (((unS s pre : Nat) : Int) + ((unR (pRu s k) : Nat) : Int)))
      have r3 := q3.other (B' := w.heap.size + 1) (by omega) (.int .i64 (((unS s pre : Nat) : Int) + ((unR (pRu s k) : Nat) : Int)))
      have e : (((unS s pre : Nat) : Int) + ((unR (pRu s k) : Nat) : Int)) = ((unS s (pre ++ [k]) : Nat) : Int) := by rw [unS_app]; omega
      rw [e] at r1 r2 r3 hb
      have z1 := r3.lt
      have b2 : Below w.heap.size w (W1.setCell ⟨w.heap.size + 1, 0, none⟩ (.int .i64 ((unS s (pre ++ [k]) : Nat) : Int))) := B1.out.setCell (by simp) _
      exact ⟨(K2.out.trans ((KeepsOthers.setCell W1 _ _).trans (keeps_below hb))).from _, K1.out.trans ((kp_set _ (by omega) (by omega) (by omega)).trans (kp_below (by omega) (by omega) hb)), box_later r1 hb, box_later r2 hb, box_later r3 hb, b2.trans (hb.mono b2.size)⟩
    clear h1 h2 hbn hB bX c1 f1 q1 K1 K2 B1
    gi_region_with_o ((try refine ⟨trivial, ?_⟩); gi_at_call 42; refine (CallsIn.inRound l (callsIn_wide.2 (KU.out _))).mono ?_; rintro e W7 ⟨rfl, rfl⟩)
    all_goals gi_wp2
    all_goals exact FIN.out _ ⟨rfl, rfl, rfl, Nat.le_refl _, fun _ _ => rfl⟩
  case done =>
    rintro D ys W hD rfl ⟨h1, h2, hbn, hB⟩ hK
    have c1 := h1.cell
    have c2 := h2.cell
    have hmx : Tryd.prog.follows .mixedOrders = true := by kernel_rfl
    gi_wp2_with fail
    gi_region
    gi_wp2
    have hK2 : W.drew.heap[D]? = some (.deferred (some [])) := hK
    refine ⟨by simp, .inl ⟨_, _, rfl, run_takeDeferred hK2, ?_⟩⟩
    refine ⟨.tuple #[.int .i64 ((poss s).length : Nat), .int .i64 (unS s (poss s) : Nat)], by simp [results, Tryd.results28, go_sem], rfl, ?_⟩
    exact hB.drew.trans (belowK_b (w := w) (Nat.le_refl _) W.drew D _ _ (by omega) hK2 rfl rfl)
  case stop =>
    rintro D c pre W _ _ h _
    exact h.elim
end Go.Proofs.YtabofadjnbpjkabDoor

/-
  The contract of Wrong: where the first wrong piece of a text begins. Conditions: the text takes no more bytes than one that comes in can; the library's two tables hold what their text lays.
-/
import Derived.Test.YtabofadjnbpjkaaDoorPcs
namespace Go.Proofs.YtabofadjnbpjkaaDoor
open Go.RowKit Go.Lib Go.Shelf
attribute [local go_sem] Oper.semAt_some
/-- Where the first wrong piece of a row begins. -/
def wrongOf (s : ByteArray) : List Nat → Int
  | [] => -1
  | k :: l => if pWr s k then k else wrongOf s l
theorem wrongOf_none (s : ByteArray) : ∀ (l : List Nat), (∀ k ∈ l, pWr s k = false) → wrongOf s l = -1
  | [], _ => rfl
  | k :: l, h => by
    have h1 := h k (by simp)
    simp only [wrongOf, h1]
    exact wrongOf_none s l fun j hj => h j (by simp [hj])
theorem wrongOf_some (s : ByteArray) (q : List Nat) (k : Nat) (hk : pWr s k = true) : ∀ (l : List Nat), (∀ j ∈ l, pWr s j = false) → wrongOf s (l ++ k :: q) = k
  | [], _ => by simp [wrongOf, hk]
  | j :: l, h => by
    have h1 := h j (by simp)
    simp only [List.cons_append, wrongOf, h1]
    exact wrongOf_some s q k hk l fun i hi => h i (by simp [hi])
theorem KpB.same (n₀ Bn B L : Nat) (W : World) : KpB n₀ Bn B L W W := fun hr => ⟨Below.refl _ _, rfl, hr, .inl rfl, fun _ _ _ _ _ _ _ => rfl⟩
set_option maxRecDepth 100000 in
set_option maxHeartbeats 2000000 in
theorem wrong_any (s : ByteArray) (w : World) (hs : s.size ≤ 140737488351232) (hT : Utf8Tabs 0 1 w) (hg : 2 ≤ w.heap.size) :
    Calls Tryd.prog 20 #[.string s] w fun e W' => e = .returned (.int .i64 (wrongOf s (poss s))) ∧ Below w.heap.size w W' := by
  refine (callsIn_wide (n := 9)).1 ?_
  refine callsIn_of_wp_marks Tryd.func20 rfl trivial ?_ rfl
  simp only [Tryd.ntmps20, List.size_toArray, List.length_cons, List.length_nil, Nat.reduceAdd, Nat.reduceSub, Array.replicate_succ, Array.replicate_zero, List.push_toArray, List.append_toArray, List.nil_append, List.cons_append]
  gi_wp2_with fail
  refine ⟨trivial, ?_⟩
  refine (each_in _ s _).mono ?_
  rintro e w' ⟨rfl, rfl⟩
  gi_wp2_with fail
  have bO := Boxed.new w 3 (.int .i64 0)
  have bN := Boxed.new (w.alloc (.cells #[.int .i64 0] 3)) 9 (.string s)
  rw [World.size_alloc] at bN
  have hB0 : Below w.heap.size w ((w.alloc (.cells #[.int .i64 0] 3)).alloc (.cells #[.string s] 9)) := ((Below.refl _ w).alloc (Nat.le_refl _) _).alloc (by simp) _
  have hT0 := tabs_below hT (by omega) hB0
  have bO2 := bO.alloc (.cells #[.string s] 9)
  obtain ⟨W0, hW0⟩ : ∃ W0, (w.alloc (.cells #[.int .i64 0] 3)).alloc (.cells #[.string s] 9) = W0 := ⟨_, rfl⟩
  have hsz : W0.heap.size = w.heap.size + 2 := by rw [← hW0]; simp
  rw [hW0] at bN hB0 hT0 bO2 ⊢
  clear hW0 bO
  refine wpIn_rangeFunc_ownH rfl (by omega) (gf := 43) (lb := #[.pointer (some ⟨w.heap.size + 1, 0, none⟩)]) rfl trivial (enters_of Tryd.func43 (by kernel_rfl) rfl)
    (each_stops _ (w.heap.size + 1) w.heap.size w.heap.size (w.heap.size + 2) s (by omega) W0 bN hg (by omega) (by omega) (by omega) (fun g h => by rw [rowAt_boxed bO2] at h; cases h) hT0) (fun h k => h.trans k) (fun W l o o' hl hW hc _ => KpB.put (by omega) (by omega) (by omega) W l o o' hl hW hc) (Below.refl _ _) (fun _ => rfl)
    (fun pre W => (∀ k ∈ pre, pWr s k = false) ∧ Boxed W w.heap.size 3 (.int .i64 0) ∧ Boxed W (w.heap.size + 1) 9 (.string s) ∧ Below w.heap.size w W)
    (fun c pre W => (c = .ret ∧ ∃ p k, pre = p ++ [k] ∧ (∀ j ∈ p, pWr s j = false) ∧ pWr s k = true) ∧ Boxed W w.heap.size 3 (.int .i64 ((pre.getLast?.getD 0 : Nat) : Int)) ∧ Below w.heap.size w W)
    (OwnFrom.and (ownFrom_pure _ _) (OwnFrom.and (Own.from (boxed_own _ _ _) _) (OwnFrom.and (Own.from (boxed_own _ _ _) _) (ownFrom_below (Nat.le_refl _) (by omega)))))
    (fun _ => OwnFrom.and (ownFrom_pure _ _) (OwnFrom.and (Own.from (boxed_own _ _ _) _) (ownFrom_below (Nat.le_refl _) (by omega))))
    ⟨fun k hk => by simp at hk, bO2, bN, hB0⟩
    (fun k a' W => ∃ Bx, w.heap.size + 2 ≤ Bx ∧ W.heap[Bx]? = some (.cells (pcs s k) 34 (0, 0)) ∧ a' = { tmps := #[.string s, undef, .pointer (some ⟨w.heap.size, 0, none⟩), .pointer (some ⟨Bx, 0, none⟩), .string s, .func (.func 43) #[] #[.pointer (some ⟨w.heap.size + 1, 0, none⟩)], .agg (pcs s k), undef, undef, undef, undef], defers := [] })
    (fun k a' => ?ax) ?assign ?body ?done ?stop
  case ax =>
    rintro u X Y row ⟨Bx, h1, h2, h3⟩ hg' hr
    exact ⟨Bx, h1, boxC_own (β := Unit) Bx (pcs s k) 34 () X Y row h2 hg' (fun r e => (hr r e).2), h3⟩
  case assign =>
    rintro l pre k W K ⟨hp, hv, hbn, hB⟩ hK
    have hsW : w.heap.size + 2 ≤ W.heap.size := hbn.lt
    have HK : Hid _ := hK _ _ ((KeepsOthers.alloc W (.cells (pcs s k) 34)).from _) (kp_alloc (by omega) (by omega) (by omega) _) ⟨hp, hv.alloc _, hbn.alloc _, hB.alloc hB.size _⟩ ⟨W.heap.size, hsW, World.alloc_heap_new _ _, rfl⟩
    clear hK
    unfold pcs at HK ⊢
    gi_wp2
    exact HK
  case body =>
    rintro l pre k a' W hl ⟨r, hr⟩ ⟨hp, hv, hbn, hB⟩ ⟨Bx, hBx, bX, rfl⟩ hlt
    have hc := hv.cell
    have hf := hv.frozen
    have cx0 : W.cell? ⟨Bx, 0, none⟩ = some (.int .i64 k) := by simp [World.cell?, bX, pcs]
    have cx3 : W.cell? ⟨Bx, 3, none⟩ = some (.bool (pWr s k)) := by simp [World.cell?, bX, pcs]
    cases hq : pWr s k
    · rw [hq] at cx3
      gi_wp2
      exact ⟨KeepsFrom.refl _ _, KpB.same _ _ _ _ _, fun j hj => by rcases List.mem_append.1 hj with h | h; exact hp j h; rw [List.mem_singleton.1 h]; exact hq, hv, hbn, hB⟩
    · rw [hq] at cx3
      gi_wp2
      refine ⟨?_, ⟨rfl, pre, k, rfl, hp, hq⟩, ?_, hB.setCell (by simp) _⟩
      · exact (KeepsOthers.setCell W _ _).from _
      · simpa using hv.set (.int .i64 k)
  case done =>
    rintro D ys W hD rfl ⟨hp, hv, hbn, hB⟩ hK
    have hc := hv.cell
    have hf := hv.frozen
    gi_wp2
    have hK2 : (W.setCell ⟨w.heap.size, 0, none⟩ (.int .i64 (-1))).heap[D]? = some (.deferred (some [])) := (Below.heap_setCell _ _ _ D (by simp; omega)).trans hK
    refine ⟨by simp, .inl ⟨_, _, rfl, run_takeDeferred hK2, ?_⟩⟩
    have hv3 := (hv.set (.int .i64 (-1))).kept (grownBy_putObj' _ D (.deferred none)) (by simp; omega)
    refine ⟨.int .i64 (-1), by simp [results, Tryd.results20, go_sem, hv3.cell], by rw [wrongOf_none s _ hp], ?_⟩
    exact (hB.setCell (by simp) _).trans (belowK_b (w := w) (Nat.le_refl _) _ D _ _ (by omega) hK2 rfl rfl)
  case stop =>
    rintro D c pre W hD ⟨q, hq⟩ ⟨⟨rfl, p, k, rfl, hp, hk⟩, hv, hB⟩ hK
    gi_wp2
    refine ⟨by simp, .inl ⟨_, _, rfl, run_takeDeferred hK, ?_⟩⟩
    have hv2 : Boxed W w.heap.size 3 (.int .i64 k) := by simpa using hv
    have hv3 := hv2.kept (grownBy_putObj' _ D (.deferred none)) (by simp; omega)
    refine ⟨.int .i64 k, by simp [results, Tryd.results20, go_sem, hv3.cell], ?_, hB.trans (belowK_b (w := w) (Nat.le_refl _) W D _ _ (by omega) hK rfl rfl)⟩
    rw [← hq, List.append_assoc, List.singleton_append, wrongOf_some s q k hk p hp]
end Go.Proofs.YtabofadjnbpjkaaDoor

/-
  The contract of Pieces: the pieces of a text, in a list of the call's own. Conditions: the text's pieces take no more bytes than a list can; the library's two tables hold what their text lays.
-/
import Derived.Test.YtabofadjnbpjkabDoorDec
namespace Go.Proofs.YtabofadjnbpjkabDoor
open Go.RowKit Go.Lib Go.Shelf
attribute [local go_sem] Oper.semAt_some
theorem info34 : (Tryd.prog.info? 33).map (fun i => (i.zero, i.size, i.bytes)) = some (some (.agg #[.int .i64 0, .int .i64 0, .int .i32 0, .bool false]), 4, 24) := by kernel_rfl
/-- The pieces, as cells. -/
def pcsC (s : ByteArray) (l : List Nat) : List Value := l.flatMap fun k => (pcs s k).toList
theorem pcsC_snoc (s : ByteArray) (l : List Nat) (k : Nat) : pcsC s (l ++ [k]) = pcsC s l ++ (pcs s k).toList := by simp [pcsC]
theorem cells_new (w : World) (xs : Array Value) (t : TypeId) : ∀ j u, xs.toList[j]? = some u → (w.alloc (.cells xs t)).cell? ((⟨w.heap.size, 0, none⟩ : Addr).add j) = some u := by
  intro j u hj
  have h := World.alloc_heap_new w (.cells xs t)
  simp only [Array.getElem?_toList] at hj
  obtain ⟨W, hW⟩ : ∃ W, w.alloc (.cells xs t) = W := ⟨_, rfl⟩
  rw [hW] at h ⊢
  cases j with
  | zero => simp [World.cell?, Addr.add, h, hj]
  | succ j => simp [World.cell?, Addr.add, h, hj]
set_option maxRecDepth 100000 in
set_option maxHeartbeats 2000000 in
theorem pieces_any (s : ByteArray) (w : World) (hs : s.size ≤ 5864062010000) (hT : Utf8Tabs 0 1 w) (hg : 2 ≤ w.heap.size) :
    Calls Tryd.prog 14 #[.string s] w fun e W' => ∃ v, e = .returned v ∧ W'.ownsRow w.heap.size 33 4 v (poss s).length (pcsC s (poss s)) ∧ Below w.heap.size w W' := by
  refine (callsIn_wide (n := 9)).1 ?_
  have hlen : (poss s).length ≤ s.size := posAt_len s s.size 0 (by omega)
  obtain ⟨i0, hi, hz0, hz1, hz2⟩ := info_parts info34
  refine callsIn_of_wp_marks Tryd.func14 rfl trivial ?_ rfl
  simp only [Tryd.ntmps14, List.size_toArray, List.length_cons, List.length_nil, Nat.reduceAdd, Nat.reduceSub, Array.replicate_succ, Array.replicate_zero, List.push_toArray, List.append_toArray, List.nil_append, List.cons_append]
  gi_wp2_with fail
  refine ⟨trivial, ?_⟩
  refine (each_in _ s _).mono ?_
  rintro e w' ⟨rfl, rfl⟩
  gi_wp2_with fail
  have bO := Boxed.new w 30 (.slice none 0 0)
  have bN := Boxed.new (w.alloc (.cells #[.slice none 0 0] 30)) 9 (.string s)
  rw [World.size_alloc] at bN
  have hB0 : Below w.heap.size w ((w.alloc (.cells #[.slice none 0 0] 30)).alloc (.cells #[.string s] 9)) := ((Below.refl _ w).alloc (Nat.le_refl _) _).alloc (by simp) _
  have hT0 := tabs_below hT (by omega) hB0
  have bO2 := bO.alloc (.cells #[.string s] 9)
  obtain ⟨W0, hW0⟩ : ∃ W0, (w.alloc (.cells #[.slice none 0 0] 30)).alloc (.cells #[.string s] 9) = W0 := ⟨_, rfl⟩
  have hsz : W0.heap.size = w.heap.size + 2 := by rw [← hW0]; simp
  rw [hW0] at bN hB0 hT0 bO2 ⊢
  clear hW0 bO
  refine wpIn_rangeFunc_ownH rfl (by omega) (gf := 47) (lb := #[.pointer (some ⟨w.heap.size + 1, 0, none⟩)]) rfl trivial (enters_of Tryd.func47 (by kernel_rfl) rfl)
    (each_stops _ (w.heap.size + 1) w.heap.size w.heap.size (w.heap.size + 2) s (by omega) W0 bN hg (by omega) (by omega) (by omega) (fun g h => by rw [rowAt_boxed bO2] at h; cases h) hT0) (fun h k => h.trans k) (fun W l o o' hl hW hc _ => KpB.put (by omega) (by omega) (by omega) W l o o' hl hW hc) (Below.refl _ _) (fun _ => rfl)
    (fun pre W => (∃ v, Boxed W w.heap.size 30 v ∧ W.ownsRow w.heap.size 33 4 v pre.length (pcsC s pre) ∧ True) ∧ Boxed W (w.heap.size + 1) 9 (.string s) ∧ Below w.heap.size w W)
    (fun _ _ _ => False)
    (OwnFrom.and (Own.from (holdsRow_own w.heap.size w.heap.size 30 33 4 (fun pre => pre.length) (fun pre => pcsC s pre) (fun _ _ => True)) _) (OwnFrom.and (Own.from (boxed_own _ _ _) _) (ownFrom_below (Nat.le_refl _) (by omega))))
    (fun _ _ _ _ _ hs _ _ => hs)
    ⟨⟨_, bO2, World.ownsRow_nil _ _ _ _, trivial⟩, bN, hB0⟩
    (fun k a' W => ∃ Bx, w.heap.size + 2 ≤ Bx ∧ W.heap[Bx]? = some (.cells (pcs s k) 33 (0, 0)) ∧ a' = { tmps := #[.string s, undef, .slice none 0 0, .pointer (some ⟨w.heap.size, 0, none⟩), .pointer (some ⟨Bx, 0, none⟩), .string s, .func (.func 47) #[] #[.pointer (some ⟨w.heap.size + 1, 0, none⟩)], .agg (pcs s k), undef, undef, undef, undef, undef], defers := [] })
    (fun k a' => ?ax) ?assign ?body ?done ?stop
  case ax =>
    rintro u X Y row ⟨Bx, h1, h2, h3⟩ hg' hr
    exact ⟨Bx, h1, boxC_own (β := Unit) Bx (pcs s k) 33 () X Y row h2 hg' (fun r e => (hr r e).2), h3⟩
  case assign =>
    rintro l pre k W K ⟨⟨v, hv, hrow, _⟩, hbn, hB⟩ hK
    have hsW : w.heap.size + 2 ≤ W.heap.size := hbn.lt
    have HK : Hid _ := hK _ _ ((KeepsOthers.alloc W (.cells (pcs s k) 33)).from _) (kp_alloc (by omega) (by omega) (by omega) _) ⟨⟨v, hv.alloc _, hrow.alloc _, trivial⟩, hbn.alloc _, hB.alloc hB.size _⟩ ⟨W.heap.size, hsW, World.alloc_heap_new _ _, rfl⟩
    clear hK
    unfold pcs at HK ⊢
    gi_wp2
    exact HK
  case body =>
    rintro l pre k a' W hl ⟨r, hr⟩ ⟨⟨v, hv, hrow, _⟩, hbn, hB⟩ ⟨Bx, hBx, bX, rfl⟩ hlt
    have hc := hv.cell
    have cx0 : W.cell? ⟨Bx, 0, none⟩ = some (.int .i64 k) := by simp [World.cell?, bX, pcs]
    have cx1 : W.cell? ⟨Bx, 1, none⟩ = some (.int .i64 (pSt s k)) := by simp [World.cell?, bX, pcs]
    have cx2 : W.cell? ⟨Bx, 2, none⟩ = some (.int .i32 (pRu s k)) := by simp [World.cell?, bX, pcs]
    have cx3 : W.cell? ⟨Bx, 3, none⟩ = some (.bool (pWr s k)) := by simp [World.cell?, bX, pcs]
    have hcn := cells_new W (pcs s k) 33
    unfold pcs at hcn ⊢
    gi_wp2_with (gi_at_builtin; go_must (refine wpListIn_append_own_at _ rfl _ _ 30 rfl w.heap.size 33 i0 _ 4 24 Tryd.underlying30 hi hz0 hz1 hz2 rfl (by decide) _ _ _ rfl (hrow.alloc _) ⟨W.heap.size, 0, none⟩ 1 1 [.int .i64 k, .int .i64 (pSt s k), .int .i32 (pRu s k), .bool (pWr s k)] rfl rfl hcn (by simp [Value.oneCell']) (by unfold maxLen; omega) (by omega) (by have := hB.size; simp; omega) ?_))
    intro v' w1 hown' hgrow _ hat
    obtain ⟨g', cap', rfl⟩ := ownsRow_succ hown'
    have hkp := kp_append (L := w.heap.size + 2) hv (by decide) hbn (by decide) (by omega) (by omega) hrow hB.size (Nat.le_refl _) hown' hgrow hat
    obtain ⟨hv1, hv2, hr2, hk2, hb2⟩ := hv.appended (by decide) hrow hB.size (Nat.le_refl _) hown' hgrow
    have hbn2 := (hbn.alloc _).kept hgrow (hbn.not_row (by decide) hrow)
    have hc1 := hv1.cell
    have hf1 := hv1.frozen
    clear hat
    gi_wp2
    exact ⟨hk2.from _, hkp, ⟨⟨_, hv2, by simpa [pcsC, pcs] using hr2, trivial⟩, hbn2.other (by omega) _, hB.trans hb2⟩⟩
  case done =>
    rintro D ys W hD rfl ⟨⟨v, hv, hrow, _⟩, hbn, hB⟩ hK
    have hc := hv.cell
    gi_wp2
    refine ⟨by simp, .inl ⟨_, _, rfl, run_takeDeferred hK, ?_⟩⟩
    exact ⟨_, results_tmp rfl _ _ _, v, rfl, ownsRow_putObj hrow _ hK rfl, hB.trans (belowK_b (w := w) (Nat.le_refl _) W D _ _ (by omega) hK rfl rfl)⟩
  case stop =>
    rintro D c pre W _ _ h _
    exact h.elim
end Go.Proofs.YtabofadjnbpjkabDoor

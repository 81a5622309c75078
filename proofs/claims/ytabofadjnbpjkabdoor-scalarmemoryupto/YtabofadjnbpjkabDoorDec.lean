/-
  The contract of Decode: what the pieces of a text say, in a list of the call's own. Conditions: the text takes no more bytes than one that comes in can; the library's two tables hold what their text lays.
-/
import Derived.Test.YtabofadjnbpjkabDoorEach
import Derived.Maps.OwnIn
import Derived.WalkSpells
namespace Go.Proofs.YtabofadjnbpjkabDoor
open Go.RowKit Go.Lib Go.Shelf
attribute [local go_sem] Oper.semAt_some
theorem each_in (n : Nat) (s : ByteArray) (w : World) : CallsIn Fence.wide n Tryd.prog 31 #[.string s] w fun e w' => e = .returned (.func (.func 47) #[] #[.pointer (some ⟨w.heap.size, 0, none⟩)]) ∧ w' = w.alloc (.cells #[.string s] 9) := by
  refine callsIn_of_wp Tryd.func31 rfl trivial ?_ rfl
  simp only [Tryd.ntmps31, List.size_toArray, List.length_cons, List.length_nil, Nat.reduceAdd, Nat.reduceSub, Array.replicate_succ, Array.replicate_zero, List.push_toArray, List.append_toArray, List.nil_append, List.cons_append]
  gi_wp2
  go_ret
  exact ⟨rfl, rfl⟩
theorem each_stops (n : Nat) (Bn n₀ B L : Nat) (s : ByteArray) (hs : s.size ≤ 140737488351232) (w : World) (hBn : w.heap[Bn]? = some (.cells #[.string s] 9 (0, 0))) (hn0 : 2 ≤ n₀) (hn1 : n₀ ≤ w.heap.size) (hB : B < w.heap.size) (hL : L ≤ w.heap.size) (hr0 : RowIn B w) (hT : Utf8Tabs 0 1 w) :
    SeqStopsK Fence.wide n Tryd.prog 47 #[.pointer (some ⟨Bn, 0, none⟩)] (fun k : Nat => #[Value.agg (pcs s k)]) (KpB n₀ Bn B L) (fun ys => ys = poss s) (fun pre => pre <+: poss s) (poss s).length w := fun l J Jx W hW hJ _ hY h0 => by
  have hBnl := (Array.getElem?_eq_some_iff.1 hBn).1
  have hrow : rowAt W B = rowAt w B := rowAt_same (hW.block B hB)
  exact each1_in n l Bn n₀ B L s hs J Jx W (fun x W1 W2 h g => hJ x W1 W2 none h g (fun r e => by cases e)) hY ((hW.block Bn hBnl).trans hBn) hn0 (Nat.le_trans hn1 hW.size) (Nat.lt_of_lt_of_le hB hW.size) (Nat.le_trans hL hW.size)
    (fun g hg => by rw [hrow] at hg; exact Nat.lt_of_lt_of_le (hr0 g hg) hW.size) (tabs_below hT (by omega) hW) h0
theorem rowAt_boxed {W : World} {B : Nat} {t : TypeId} {v : Value} (h : Boxed W B t v) : rowAt W B = v.ownBlock := by
  unfold rowAt; rw [show W.heap[B]? = _ from h]; rfl
/-- A round that appends to the row of its own variable keeps its word. -/
theorem kp_append {W w1 : World} {n₀ B Bn L : Nat} {t e tn : TypeId} {size k m : Nat} {v v' sv : Value} {xs ys : List Value} {tmp : Obj}
    (hv : Boxed W B t v) (hte : t ≠ e) (hbn : Boxed W Bn tn sv) (hne : tn ≠ e) (hBBn : B ≠ Bn) (hBL : B < L) (hrow : W.ownsRow n₀ e size v k xs) (hn₀ : n₀ ≤ W.heap.size) (hB : n₀ ≤ B)
    (hown' : w1.ownsRow n₀ e size v' m ys) (hgrow : (W.alloc tmp).grownBy w1 v.ownBlock) (hat : v'.ownBlock = v.ownBlock ∨ v'.ownBlock = some (W.heap.size + 1)) :
    KpB n₀ Bn B L W (w1.setCell ⟨B, 0, none⟩ v') := fun hr => by
  obtain ⟨hv1, hv2, hr2, _, hb2⟩ := hv.appended hte hrow hn₀ hB hown' hgrow
  have hset : ∀ b, b ≠ B → (w1.setCell ⟨B, 0, none⟩ v').heap[b]? = w1.heap[b]? := fun b hb => Below.heap_setCell w1 ⟨B, 0, none⟩ v' b hb
  have hold : ∀ b, b < W.heap.size → some b ≠ v.ownBlock → b ≠ B → (w1.setCell ⟨B, 0, none⟩ v').heap[b]? = W.heap[b]? := fun b hb hn h => by
    rw [hset b h, hgrow.block b (by simp; omega) hn, Below.heap_alloc _ _ _ hb]
  refine ⟨hb2, hold Bn hbn.lt (hbn.not_row hne hrow) (Ne.symm hBBn), fun g hg => ?_, ?_, fun b cs t f hb hc hn => ?_⟩
  · rw [rowAt_boxed hv2] at hg
    exact (hr2.lt g hg).2
  · rw [rowAt_boxed hv2, rowAt_boxed hv]
    rcases hat with h | h
    · exact .inl h
    · exact .inr ⟨_, h, by omega⟩
  · rw [rowAt_boxed hv] at hn
    exact hold b (Array.getElem?_eq_some_iff.1 hc).1 (fun e => hn e.symm) (by omega)
theorem kp_alloc {W : World} {n₀ B Bn L : Nat} (hn : n₀ ≤ W.heap.size) (hB : B < W.heap.size) (hBn : Bn < W.heap.size) (o : Obj) : KpB n₀ Bn B L W (W.alloc o) := fun hr => by
  have hrow : rowAt (W.alloc o) B = rowAt W B := rowAt_same (Below.heap_alloc _ _ _ hB)
  exact ⟨(Below.refl _ _).alloc hn _, Below.heap_alloc _ _ _ hBn, fun g hg => by rw [hrow] at hg; have := hr g hg; simp; omega, .inl hrow, fun b cs t f _ hc _ => Below.heap_alloc _ _ _ (Array.getElem?_eq_some_iff.1 hc).1⟩
theorem boxC_own {β : Type} (B : Nat) (cs : Array Value) (t : TypeId) : Own (fun (_ : β) W => W.heap[B]? = some (.cells cs t (0, 0))) := fun s X Y row hs hg hrow =>
  (hg.block B (Array.getElem?_eq_some_iff.1 hs).1 (fun e => by obtain ⟨o, ho, hc⟩ := hrow B e.symm; rw [hs] at ho; cases ho; cases hc)).trans hs
theorem info21 : (Tryd.prog.info? 21).map (fun i => (i.zero, i.size, i.bytes)) = some (some (.int .i32 0), 1, 4) := by kernel_rfl
/-- What the pieces say, as cells. -/
def runesC (s : ByteArray) (l : List Nat) : List Value := l.map fun k => Value.int .i32 (pRu s k)
set_option maxRecDepth 100000 in
set_option maxHeartbeats 2000000 in
theorem decode_any (s : ByteArray) (w : World) (hs : s.size ≤ 35184372088000) (hT : Utf8Tabs 0 1 w) (hg : 2 ≤ w.heap.size) :
    Calls Tryd.prog 10 #[.string s] w fun e W' => ∃ v, e = .returned v ∧ W'.ownsRow w.heap.size 21 1 v (poss s).length (runesC s (poss s)) ∧ Below w.heap.size w W' := by
  refine (callsIn_wide (n := 9)).1 ?_
  have hlen : (poss s).length ≤ s.size := posAt_len s s.size 0 (by omega)
  obtain ⟨i0, hi, hz0, hz1, hz2⟩ := info_parts info21
  refine callsIn_of_wp_marks Tryd.func10 rfl trivial ?_ rfl
  simp only [Tryd.ntmps10, List.size_toArray, List.length_cons, List.length_nil, Nat.reduceAdd, Nat.reduceSub, Array.replicate_succ, Array.replicate_zero, List.push_toArray, List.append_toArray, List.nil_append, List.cons_append]
  gi_wp2_with fail
  refine ⟨trivial, ?_⟩
  refine (each_in _ s _).mono ?_
  rintro e w' ⟨rfl, rfl⟩
  gi_wp2_with fail
  have bO := Boxed.new w 23 (.slice none 0 0)
  have bN := Boxed.new (w.alloc (.cells #[.slice none 0 0] 23)) 9 (.string s)
  rw [World.size_alloc] at bN
  have hB0 : Below w.heap.size w ((w.alloc (.cells #[.slice none 0 0] 23)).alloc (.cells #[.string s] 9)) := ((Below.refl _ w).alloc (Nat.le_refl _) _).alloc (by simp) _
  have hT0 := tabs_below hT (by omega) hB0
  have bO2 := bO.alloc (.cells #[.string s] 9)
  obtain ⟨W0, hW0⟩ : ∃ W0, (w.alloc (.cells #[.slice none 0 0] 23)).alloc (.cells #[.string s] 9) = W0 := ⟨_, rfl⟩
  have hsz : W0.heap.size = w.heap.size + 2 := by rw [← hW0]; simp
  rw [hW0] at bN hB0 hT0 bO2 ⊢
  clear hW0 bO
  refine wpIn_rangeFunc_ownH rfl (by omega) (gf := 47) (lb := #[.pointer (some ⟨w.heap.size + 1, 0, none⟩)]) rfl trivial (enters_of Tryd.func47 (by kernel_rfl) rfl)
    (each_stops _ (w.heap.size + 1) w.heap.size w.heap.size (w.heap.size + 2) s (by omega) W0 bN hg (by omega) (by omega) (by omega) (fun g h => by rw [rowAt_boxed bO2] at h; cases h) hT0) (fun h k => h.trans k) (fun W l o o' hl hW hc _ => KpB.put (by omega) (by omega) (by omega) W l o o' hl hW hc) (Below.refl _ _) (fun _ => rfl)
    (fun pre W => (∃ v, Boxed W w.heap.size 23 v ∧ W.ownsRow w.heap.size 21 1 v pre.length (runesC s pre) ∧ True) ∧ Boxed W (w.heap.size + 1) 9 (.string s) ∧ Below w.heap.size w W)
    (fun _ _ _ => False)
    (OwnFrom.and (Own.from (holdsRow_own w.heap.size w.heap.size 23 21 1 (fun pre => pre.length) (fun pre => runesC s pre) (fun _ _ => True)) _) (OwnFrom.and (Own.from (boxed_own _ _ _) _) (ownFrom_below (Nat.le_refl _) (by omega))))
    (fun _ _ _ _ _ hs _ _ => hs)
    ⟨⟨_, bO2, World.ownsRow_nil _ _ _ _, trivial⟩, bN, hB0⟩
    (fun k a' W => ∃ Bx, w.heap.size + 2 ≤ Bx ∧ W.heap[Bx]? = some (.cells (pcs s k) 33 (0, 0)) ∧ a' = { tmps := #[.string s, undef, .slice none 0 0, .pointer (some ⟨w.heap.size, 0, none⟩), .pointer (some ⟨Bx, 0, none⟩), .string s, .func (.func 47) #[] #[.pointer (some ⟨w.heap.size + 1, 0, none⟩)], .agg (pcs s k), undef, undef, undef, undef, undef, undef], defers := [] })
    (fun k a' => ?ax) ?assign ?body ?done ?stop
  case ax =>
    rintro u X Y row ⟨Bx, h1, h2, h3⟩ hg' hr
    exact ⟨Bx, h1, boxC_own (β := Unit) Bx (pcs s k) 33 () X Y row h2 hg' (fun r e => (hr r e).2), h3⟩
  case assign =>
    rintro l pre k W K ⟨⟨v, hv, hrow, _⟩, hbn, hB⟩ hK
    have hsW : w.heap.size + 2 ≤ W.heap.size := hbn.lt
    have HK : Hid _ := hK _ _ ((KeepsOthers.alloc W (.cells (pcs s k) 33)).from _) (kp_alloc (by omega) (by omega) (by omega) _) ⟨⟨v, hv.alloc _, hrow.alloc _, trivial⟩, hbn.alloc _, hB.alloc hB.size _⟩ ⟨W.heap.size, hsW, World.alloc_heap_new _ _, rfl⟩
    clear hK
    unfold pcs at HK ⊢
    gi_wp2
    exact HK
  case body =>
    rintro l pre k a' W hl ⟨r, hr⟩ ⟨⟨v, hv, hrow, _⟩, hbn, hB⟩ ⟨Bx, hBx, bX, rfl⟩ hlt
    have hc := hv.cell
    have cx : W.cell? ⟨Bx, 2, none⟩ = some (.int .i32 (pRu s k)) := by simp [World.cell?, bX, pcs]
    unfold pcs
    gi_wp2_with (gi_at_builtin; go_must (refine wpListIn_append_own_at _ rfl _ _ 23 rfl w.heap.size 21 i0 (.int .i32 0) 1 4 Tryd.underlying23 hi hz0 hz1 hz2 rfl (by decide) _ _ _ rfl (hrow.alloc _) ⟨W.heap.size, 0, none⟩ 1 1 [.int .i32 (pRu s k)] rfl rfl (cell_one_new _ _ _) (by simp [Value.oneCell']) (by unfold maxLen; omega) (by omega) (by have := hB.size; simp; omega) ?_))
    intro v' w1 hown' hgrow _ hat
    obtain ⟨g', cap', rfl⟩ := ownsRow_succ hown'
    have hkp := kp_append (L := w.heap.size + 2) hv (by decide) hbn (by decide) (by omega) (by omega) hrow hB.size (Nat.le_refl _) hown' hgrow hat
    obtain ⟨hv1, hv2, hr2, hk2, hb2⟩ := hv.appended (by decide) hrow hB.size (Nat.le_refl _) hown' hgrow
    have hbn2 := (hbn.alloc _).kept hgrow (hbn.not_row (by decide) hrow)
    have hc1 := hv1.cell
    have hf1 := hv1.frozen
    clear hat
    gi_wp2
    exact ⟨hk2.from _, hkp, ⟨⟨_, hv2, by simpa [runesC] using hr2, trivial⟩, hbn2.other (by omega) _, hB.trans hb2⟩⟩
  case done =>
    rintro D ys W hD rfl ⟨⟨v, hv, hrow, _⟩, hbn, hB⟩ hK
    have hc := hv.cell
    gi_wp2
    refine ⟨by simp, .inl ⟨_, _, rfl, run_takeDeferred hK, ?_⟩⟩
    exact ⟨_, results_tmp rfl _ _ _, v, rfl, ownsRow_putObj hrow _ hK rfl, hB.trans (belowK_b (w := w) (Nat.le_refl _) W D _ _ (by omega) hK rfl rfl)⟩
  case stop =>
    rintro D c pre W _ _ h _
    exact h.elim
end Go.Proofs.YtabofadjnbpjkabDoor

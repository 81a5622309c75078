/-
  The contract of Decode: each part of a text as what it says. Condition: the text is no longer than one that comes in can be.
-/
import Derived.Test.YtoliiccmfmgmlaaDoorEa
import Derived.Maps.OwnIn
import Derived.WalkSpells
namespace Go.Proofs.YtoliiccmfmgmlaaDoor
open Go.RowKit Go.Lib Go.Shelf
attribute [local go_sem] Oper.semAt_some
theorem parts_in (n : Nat) (s : ByteArray) (w : World) : CallsIn Fence.wide n Tryd.prog 21 #[.string s] w fun e w' => e = .returned (.func (.func 36) #[] #[.pointer (some ⟨w.heap.size, 0, none⟩)]) ∧ w' = w.alloc (.cells #[.string s] 9) := by
  refine callsIn_of_wp Tryd.func21 rfl trivial ?_ rfl
  simp only [Tryd.ntmps21, List.size_toArray, List.length_cons, List.length_nil, Nat.reduceAdd, Nat.reduceSub, Array.replicate_succ, Array.replicate_zero, List.push_toArray, List.append_toArray, List.nil_append, List.cons_append]
  gi_wp2
  go_ret
  exact ⟨rfl, rfl⟩
theorem parts_stops (n : Nat) (Bn n₀ : Nat) (s : ByteArray) (hs : s.size ≤ 140737488351232) (w : World) (hBn : w.heap[Bn]? = some (.cells #[.string s] 9 (0, 0))) (hn1 : n₀ ≤ w.heap.size) :
    SeqStopsK Fence.wide n Tryd.prog 36 #[.pointer (some ⟨Bn, 0, none⟩)] (fun k : Nat => #[Value.agg (pcs s k)]) (Kp n₀ Bn) (fun ys => ys = poss s) (fun pre => pre <+: poss s) (poss s).length w := fun l J Jx W hW hJ _ hY h0 => by
  have hBnl := (Array.getElem?_eq_some_iff.1 hBn).1
  exact parts1_in n l Bn n₀ s hs J Jx W (fun x W1 W2 h g => hJ x W1 W2 none h g (fun r e => by cases e)) hY ((hW.block Bn hBnl).trans hBn) (Nat.le_trans hn1 hW.size) h0
theorem boxC_own {β : Type} (B : Nat) (cs : Array Value) (t : TypeId) : Own (fun (_ : β) W => W.heap[B]? = some (.cells cs t (0, 0))) := fun s X Y row hs hg hrow =>
  (hg.block B (Array.getElem?_eq_some_iff.1 hs).1 (fun e => by obtain ⟨o, ho, hc⟩ := hrow B e.symm; rw [hs] at ho; cases ho; cases hc)).trans hs
theorem builderAt_own {β : Type} (B b : Nat) (p : Value) (f : β → List Value) : Own (fun x W => BuilderAt 45 5 B b p (f x) W) := by
  rintro s X Y row ⟨hB, v, hb, hr, hne⟩ hg hrow
  refine ⟨hB, v, (hg.block b (Array.getElem?_eq_some_iff.1 hb).1 (fun e' => ?_)).trans hb, hr.kept hg ?_, hne⟩
  · obtain ⟨o, ho, hc⟩ := hrow b e'.symm
    rw [hb] at ho; cases ho; cases hc
  · rcases hr.2 with ⟨rfl, _⟩ | ⟨g, cap, cur, rfl, _, hgb, _⟩
    · exact .inl rfl
    · refine .inr fun e' => ?_
      obtain ⟨o, ho, hc⟩ := hrow g (by simpa [Value.ownBlock] using e'.symm)
      rw [hgb] at ho; cases ho; cases hc
theorem builder_own {β : Type} (B b : Nat) (f : β → List Value) : Own (fun x W => IsBuilder 45 5 B b (f x) W) := by
  rintro s X Y row (h | h) hg hrow
  · exact .inl (builderAt_own B b _ f s X Y row h hg hrow)
  · exact .inr (builderAt_own B b _ f s X Y row h hg hrow)
theorem builder_alloc {B b : Nat} {bs : List Value} {w : World} (h : IsBuilder 45 5 B b bs w) (o : Obj) : IsBuilder 45 5 B b bs (w.alloc o) := by
  refine builder_own (β := Unit) B b (fun _ => bs) () w (w.alloc o) none h (World.grownBy_alloc _ _ none) (fun b e => by cases e)
theorem says_append (s : ByteArray) (l : List Nat) (k : Nat) : byteCells (says s (l ++ [k])) = byteCells (says s l) ++ [.int .u8 (sy s k)] := by
  have : (UInt8.ofNat (sy s k)).toNat = sy s k := by
    have := sy_lt s k
    simp; omega
  simp [byteCells, says, this]
theorem says_len (s : ByteArray) (l : List Nat) : (byteCells (says s l)).length = l.length := by simp [byteCells, says]
/-- A write turns no object but rows. -/
theorem kept_from {b B : Nat} {w w' : World} (h : OthersKept 5 (some b) w w') (hz : w.heap.size ≤ w'.heap.size) {cs : Array Value} {t : TypeId} (hb : w.heap[b]? = some (.cells cs t (0, 0))) : KeepsFrom B w w' :=
  ⟨hz, fun k o _ hk ho => h k o hk (fun e => by cases e; rw [hb] at hk; cases hk; cases ho) (fun c fz e => by subst e; cases ho)⟩
theorem kept_box {b Bn : Nat} {w w' : World} (h : OthersKept 5 (some b) w w') {cs : Array Value} (hb : w.heap[Bn]? = some (.cells cs 9 (0, 0))) (hne : Bn ≠ b) : w'.heap[Bn]? = w.heap[Bn]? := by
  rw [hb]
  exact h Bn _ hb (by simpa using hne) (fun c fz e => by simp at e)
set_option maxRecDepth 100000 in
set_option maxHeartbeats 2000000 in
theorem decode_any (s : ByteArray) (w : World) (hs : s.size ≤ 140737488351232) :
    Calls Tryd.prog 11 #[.string s] w fun e W' => e = .returned (.string (decB s)) ∧ Below w.heap.size w W' := by
  refine (callsIn_wide (n := 9)).1 ?_
  have hlen : (poss s).length ≤ s.size := poss_len s
  refine callsIn_of_wp_marks Tryd.func11 rfl trivial ?_ rfl
  simp only [Tryd.ntmps11, List.size_toArray, List.length_cons, List.length_nil, Nat.reduceAdd, Nat.reduceSub, Array.replicate_succ, Array.replicate_zero, List.push_toArray, List.append_toArray, List.nil_append, List.cons_append]
  gi_wp2_with fail
  refine ⟨trivial, ?_⟩
  refine (parts_in _ s _).mono ?_
  rintro e w' ⟨rfl, rfl⟩
  gi_wp2_with fail
  have bO : IsBuilder 45 5 w.heap.size w.heap.size [] (w.alloc (.cells #[.pointer none, .slice none 0 0] 45)) := .inl ⟨Nat.le_refl _, _, World.alloc_heap_new _ _, World.ownsRow_nil _ _ _ _, by simp [Value.ownBlock]⟩
  have bN := Boxed.new (w.alloc (.cells #[.pointer none, .slice none 0 0] 45)) 9 (.string s)
  rw [World.size_alloc] at bN
  have hB0 : Below w.heap.size w ((w.alloc (.cells #[.pointer none, .slice none 0 0] 45)).alloc (.cells #[.string s] 9)) := ((Below.refl _ w).alloc (Nat.le_refl _) _).alloc (by simp) _
  have bO2 := builder_alloc bO (.cells #[.string s] 9)
  obtain ⟨W0, hW0⟩ : ∃ W0, (w.alloc (.cells #[.pointer none, .slice none 0 0] 45)).alloc (.cells #[.string s] 9) = W0 := ⟨_, rfl⟩
  have hsz : W0.heap.size = w.heap.size + 2 := by rw [← hW0]; simp
  rw [hW0] at bN hB0 bO2 ⊢
  clear hW0 bO
  refine wpIn_rangeFunc_ownH rfl (by omega) (gf := 36) (lb := #[.pointer (some ⟨w.heap.size + 1, 0, none⟩)]) rfl trivial (enters_of Tryd.func36 (by kernel_rfl) rfl)
    (parts_stops _ (w.heap.size + 1) w.heap.size s hs W0 bN (by omega)) (fun h k => h.trans k) (fun W l o o' hl hW hc _ => Kp.put (w := W0) (by omega) (by omega) W l o' hl) (Below.refl _ _) (fun _ => rfl)
    (fun pre W => IsBuilder 45 5 w.heap.size w.heap.size (byteCells (says s pre)) W ∧ Boxed W (w.heap.size + 1) 9 (.string s) ∧ Below w.heap.size w W)
    (fun _ _ _ => False)
    (OwnFrom.and (Own.from (builder_own w.heap.size w.heap.size (fun pre => byteCells (says s pre))) _) (OwnFrom.and (Own.from (boxed_own _ _ _) _) (ownFrom_below (Nat.le_refl _) (by omega))))
    (fun _ _ _ _ _ hs _ _ => hs)
    ⟨bO2, bN, hB0⟩
    (fun k a' W => ∃ Bx, w.heap.size + 2 ≤ Bx ∧ W.heap[Bx]? = some (.cells (pcs s k) 50 (0, 0)) ∧ a' = { tmps := #[.string s, undef, .string ⟨#[]⟩, .pointer (some ⟨w.heap.size, 0, none⟩), .pointer (some ⟨Bx, 0, none⟩), .string s, .func (.func 36) #[] #[.pointer (some ⟨w.heap.size + 1, 0, none⟩)], .agg (pcs s k), undef, undef, undef, undef], defers := [] })
    (fun k a' => ?ax) ?assign ?body ?done ?stop
  case ax =>
    rintro u X Y row ⟨Bx, h1, h2, h3⟩ hg' hr
    exact ⟨Bx, h1, boxC_own (β := Unit) Bx (pcs s k) 50 () X Y row h2 hg' (fun r e => (hr r e).2), h3⟩
  case assign =>
    rintro l pre k W K ⟨hv, hbn, hB⟩ hK
    have hsW : w.heap.size + 2 ≤ W.heap.size := hbn.lt
    have HK : Hid _ := hK _ _ ((KeepsOthers.alloc W (.cells (pcs s k) 50)).from _) (Kp.alloc (by omega) (by omega) _) ⟨builder_alloc hv _, hbn.alloc _, hB.alloc hB.size _⟩ ⟨W.heap.size, hsW, World.alloc_heap_new _ _, rfl⟩
    clear hK
    unfold pcs at HK ⊢
    gi_wp2
    exact HK
  case body =>
    rintro l pre k a' W hl ⟨r, hr⟩ ⟨hv, hbn, hB⟩ ⟨Bx, hBx, bX, rfl⟩ hlt
    have cx : W.cell? ⟨Bx, 2, none⟩ = some (.int .u8 (sy s k)) := by simp [World.cell?, bX, pcs]
    unfold pcs
    gi_wp2_with fail
    refine ⟨trivial, ?_⟩
    refine (CallsIn.inRound l (callsIn_wide.2 (wbyte_any w.heap.size w.heap.size _ (sy s k) W hv (by rw [says_len]; omega) hB.size))).mono ?_
    rintro e W2 ⟨rfl, hv2, hb2, hk2⟩
    rw [← says_append] at hv2
    obtain ⟨cb, hcb⟩ : ∃ cb, W.heap[w.heap.size]? = some (.cells cb 45 (0, 0)) := by
      rcases hv with ⟨_, v, h, _⟩ | ⟨_, v, h, _⟩
      · exact ⟨_, h⟩
      · exact ⟨_, h⟩
    have hkf : KeepsFrom W0.heap.size W W2 := kept_from hk2 hb2.size hcb
    have hbx : W2.heap[w.heap.size + 1]? = W.heap[w.heap.size + 1]? := kept_box hk2 hbn (by omega)
    have HF : Hid (KeepsFrom W0.heap.size W W2 ∧ Kp w.heap.size (w.heap.size + 1) W W2 ∧ IsBuilder 45 5 w.heap.size w.heap.size (byteCells (says s (pre ++ [k]))) W2 ∧ Boxed W2 (w.heap.size + 1) 9 (.string s) ∧ Below w.heap.size w W2) := ⟨hkf, ⟨hb2, hbx⟩, hv2, hbx.trans hbn, hB.trans hb2⟩
    clear hkf hbx hv2 hcb hk2 hb2 hv hbn hB
    gi_wp2
    exact HF.out
  case done =>
    rintro D ys W hD rfl ⟨hv, hbn, hB⟩ hK
    gi_wp2_with fail
    refine ⟨trivial, ?_⟩
    refine (callsIn_wide.2 (Tryd.Builder_String_any_k w.heap.size w.heap.size _ W (IsBuilderF.of hv) hB.size)).mono ?_
    rintro e W2 ⟨rfl, _, hb2, hk2⟩
    have hK2 : W2.heap[D]? = some (.deferred (some [])) := hk2 D _ hK (by simp; omega) (fun c fz e => by cases e)
    have hB2 := hB.trans hb2
    clear hv hbn hB hk2 hb2 hK
    gi_wp2
    refine ⟨by simp, .inl ⟨_, _, rfl, run_takeDeferred hK2, ?_⟩⟩
    exact ⟨_, results_tmp rfl _ _ _, rfl, hB2.trans (belowK_b (w := w) (Nat.le_refl _) W2 D _ _ (by omega) hK2 rfl rfl)⟩
  case stop =>
    rintro D c pre W _ _ h _
    exact h.elim
end Go.Proofs.YtoliiccmfmgmlaaDoor

/-
  The contract of Position: where a byte of a text stands. Conditions: the text has at most 2^35 bytes; the library's two tables hold what their text lays.
-/
import Derived.Test.YtabofadjnbpjkabDoorJe
namespace Go.Proofs.YtabofadjnbpjkabDoor
open Go.RowKit Go.Lib Go.Shelf
attribute [local go_sem] Oper.semAt_some
/-- A block with these cells. -/
def Bl (W : World) (b : Nat) (t : TypeId) (cs : Array Value) : Prop := W.heap[b]? = some (.cells cs t (0, 0))
theorem Bl.lt {W : World} {b : Nat} {t : TypeId} {cs : Array Value} (h : Bl W b t cs) : b < W.heap.size := (Array.getElem?_eq_some_iff.1 h).1
theorem Bl.set {W : World} {b : Nat} {t : TypeId} {cs : Array Value} (h : Bl W b t cs) (o : Nat) (v : Value) : Bl (W.setCell ⟨b, o, none⟩ v) b t (cs.setIfInBounds o v) := by
  obtain ⟨hlt, hk⟩ := Array.getElem?_eq_some_iff.1 h
  show (W.heap.modify b _)[b]? = _
  rw [Array.getElem?_eq_getElem (by rw [Array.size_modify]; exact hlt), Array.getElem_modify_self, hk]
  rfl
theorem Bl.other {W : World} {b b' o : Nat} {t : TypeId} {cs : Array Value} (h : Bl W b t cs) (hne : b ≠ b') (v : Value) : Bl (W.setCell ⟨b', o, none⟩ v) b t cs := (Below.heap_setCell W ⟨b', o, none⟩ v b hne).trans h
theorem Bl.later {W W' : World} {b : Nat} {t : TypeId} {cs : Array Value} (h : Bl W b t cs) (hb : Below W.heap.size W W') : Bl W' b t cs := (hb.block b h.lt).trans h
theorem Bl.cell {W : World} {b o : Nat} {t : TypeId} {cs : Array Value} {v : Value} (h : Bl W b t cs) (hv : cs[o]? = some v) : W.cell? ⟨b, o, none⟩ = some v := by simp [World.cell?, show W.heap[b]? = _ from h, hv]
theorem Bl.frozen {W : World} {b o : Nat} {t : TypeId} {cs : Array Value} (h : Bl W b t cs) : W.frozen? ⟨b, o, none⟩ = false := by simp [World.frozen?, show W.heap[b]? = _ from h]
theorem bl_own {β : Type} (b : Nat) (cs : β → Array Value) (t : TypeId) : Own (fun (x : β) W => Bl W b t (cs x)) := fun s X Y row hs hg hrow =>
  (hg.block b (Array.getElem?_eq_some_iff.1 hs).1 (fun e => by obtain ⟨o, ho, hc⟩ := hrow b e.symm; rw [show X.heap[b]? = _ from hs] at ho; cases ho; cases hc)).trans hs
/-- A position, as a struct's cells. -/
def psC (s : ByteArray) (l : List Nat) : Array Value := #[.int .i64 (lnF s l : Nat), .int .i64 (coF s l : Nat), .int .i64 (l.length : Nat), .int .i64 (unS s l : Nat)]
def zeC : Array Value := #[.int .i64 0, .int .i64 0, .int .i64 0, .int .i64 0]
set_option maxRecDepth 100000 in
set_option maxHeartbeats 4000000 in
theorem pos_good (s : ByteArray) (a : Nat) (w : World) (hs : s.size ≤ 35184372088000) (ha : a ≤ s.size) (hT : Utf8Tabs 0 1 w) (hg : 2 ≤ w.heap.size) :
    Calls Tryd.prog 24 #[.string s, .int .i64 (a : Nat)] w fun e W' => e = .returned (.tuple #[.agg (psC s (ahead s a)), .int .i64 0]) ∧ Below w.heap.size w W' := by
  refine (callsIn_wide (n := 9)).1 ?_
  have hlen : (poss s).length ≤ s.size := posAt_len s s.size 0 (by omega)
  have hneg : ¬ (s.size : Int) < (a : Int) := by omega
  refine callsIn_of_wp_marks Tryd.func24 rfl trivial ?_ rfl
  simp only [Tryd.ntmps24, List.size_toArray, List.length_cons, List.length_nil, Nat.reduceAdd, Nat.reduceSub, Array.replicate_succ, Array.replicate_zero, List.push_toArray, List.append_toArray, List.nil_append, List.cons_append]
  gi_wp2_with fail
  refine ⟨trivial, ?_⟩
  refine (each_in _ s _).mono ?_
  rintro e w' ⟨rfl, rfl⟩
  gi_wp2_with fail
  have b1 := Boxed.new w 9 (.string s)
  have b2 := Boxed.new (w.alloc (.cells #[.string s] 9)) 3 (.int .i64 (a : Nat))
  have b3 : Bl (((w.alloc (.cells #[.string s] 9)).alloc (.cells #[.int .i64 (a : Nat)] 3)).alloc (.cells zeC 49)) ((w.alloc (.cells #[.string s] 9)).alloc (.cells #[.int .i64 (a : Nat)] 3)).heap.size 49 zeC := World.alloc_heap_new _ _
  have b4 : Bl ((((w.alloc (.cells #[.string s] 9)).alloc (.cells #[.int .i64 (a : Nat)] 3)).alloc (.cells zeC 49)).alloc (.cells zeC 49)) (((w.alloc (.cells #[.string s] 9)).alloc (.cells #[.int .i64 (a : Nat)] 3)).alloc (.cells zeC 49)).heap.size 49 zeC := World.alloc_heap_new _ _
  have bN := Boxed.new ((((w.alloc (.cells #[.string s] 9)).alloc (.cells #[.int .i64 (a : Nat)] 3)).alloc (.cells zeC 49)).alloc (.cells zeC 49)) 9 (.string s)
  have e1 : (w.alloc (.cells #[.string s] 9)).heap.size = w.heap.size + 1 := by simp
  have e2 : ((w.alloc (.cells #[.string s] 9)).alloc (.cells #[.int .i64 (a : Nat)] 3)).heap.size = w.heap.size + 2 := by simp
  have e3 : (((w.alloc (.cells #[.string s] 9)).alloc (.cells #[.int .i64 (a : Nat)] 3)).alloc (.cells zeC 49)).heap.size = w.heap.size + 3 := by simp
  have e4 : ((((w.alloc (.cells #[.string s] 9)).alloc (.cells #[.int .i64 (a : Nat)] 3)).alloc (.cells zeC 49)).alloc (.cells zeC 49)).heap.size = w.heap.size + 4 := by simp
  rw [e1] at b2
  rw [e2] at b3
  rw [e3] at b4
  rw [e4] at bN
  have hB0 : Below w.heap.size w (((((w.alloc (.cells #[.string s] 9)).alloc (.cells #[.int .i64 (a : Nat)] 3)).alloc (.cells zeC 49)).alloc (.cells zeC 49)).alloc (.cells #[.string s] 9)) := (((((Below.refl _ w).alloc (Nat.le_refl _) _).alloc (by rw [e1]; omega) _).alloc (by rw [e2]; omega) _).alloc (by rw [e3]; omega) _).alloc (by rw [e4]; omega) _
  have hT0 := tabs_below hT (by omega) hB0
  have al : ∀ (W : World) (o : Obj), Below W.heap.size W (W.alloc o) := fun W o => (Below.refl _ _).alloc (Nat.le_refl _) _
  replace b1 := box_later (box_later (box_later (box_later b1 (al _ _)) (al _ _)) (al _ _)) (al ((((w.alloc (.cells #[.string s] 9)).alloc (.cells #[.int .i64 (a : Nat)] 3)).alloc (.cells zeC 49)).alloc (.cells zeC 49)) (.cells #[.string s] 9))
  replace b2 := box_later (box_later (box_later b2 (al _ _)) (al _ _)) (al ((((w.alloc (.cells #[.string s] 9)).alloc (.cells #[.int .i64 (a : Nat)] 3)).alloc (.cells zeC 49)).alloc (.cells zeC 49)) (.cells #[.string s] 9))
  replace b3 := (b3.later (al _ _)).later (al ((((w.alloc (.cells #[.string s] 9)).alloc (.cells #[.int .i64 (a : Nat)] 3)).alloc (.cells zeC 49)).alloc (.cells zeC 49)) (.cells #[.string s] 9))
  replace b4 := b4.later (al ((((w.alloc (.cells #[.string s] 9)).alloc (.cells #[.int .i64 (a : Nat)] 3)).alloc (.cells zeC 49)).alloc (.cells zeC 49)) (.cells #[.string s] 9))
  obtain ⟨W0, hW0⟩ : ∃ W0, (((((w.alloc (.cells #[.string s] 9)).alloc (.cells #[.int .i64 (a : Nat)] 3)).alloc (.cells zeC 49)).alloc (.cells zeC 49)).alloc (.cells #[.string s] 9)) = W0 := ⟨_, rfl⟩
  have hsz : W0.heap.size = w.heap.size + 5 := by rw [← hW0]; simp
  rw [hW0] at b1 b2 b3 b4 bN hB0 hT0
  unfold zeC at hW0
  rw [hW0]
  clear hW0 e1 e2 e3 e4 al
  refine wpIn_rangeFunc_ownH rfl (by omega) (gf := 47) (lb := #[.pointer (some ⟨w.heap.size + 4, 0, none⟩)]) rfl trivial (enters_of Tryd.func47 (by kernel_rfl) rfl)
    (each_stops2 _ (w.heap.size + 4) w.heap.size (w.heap.size + 4) (w.heap.size + 5) s (by omega) W0 bN hg (by omega) (by omega) (by omega) (fun g h => by rw [rowAt_string bN] at h; cases h) hT0) (fun h k => h.trans k) (fun W l o o' hl hW hc _ => KpB.put (by omega) (by omega) (by omega) W l o o' hl hW hc) (Below.refl _ _) (fun _ => rfl)
    (fun (pre : List (Plc s)) W => (∀ k ∈ vals pre, k < a) ∧ Boxed W w.heap.size 9 (.string s) ∧ Boxed W (w.heap.size + 1) 3 (.int .i64 (a : Nat)) ∧ Bl W (w.heap.size + 2) 49 zeC ∧ Bl W (w.heap.size + 3) 49 (psC s (vals pre)) ∧ Boxed W (w.heap.size + 4) 9 (.string s) ∧ Below w.heap.size w W)
    (fun c (pre : List (Plc s)) W => (c = .exit 0 ∧ ∃ p k, pre = p ++ [k] ∧ (∀ j ∈ vals p, j < a) ∧ a ≤ k.1) ∧ Boxed W w.heap.size 9 (.string s) ∧ Boxed W (w.heap.size + 1) 3 (.int .i64 (a : Nat)) ∧ Bl W (w.heap.size + 2) 49 zeC ∧ Bl W (w.heap.size + 3) 49 (psC s (vals pre.dropLast)) ∧ Boxed W (w.heap.size + 4) 9 (.string s) ∧ Below w.heap.size w W)
    (OwnFrom.and (ownFrom_pure _ _) (OwnFrom.and (Own.from (boxed_own _ _ _) _) (OwnFrom.and (Own.from (boxed_own _ _ _) _) (OwnFrom.and (Own.from (bl_own _ (fun _ => zeC) _) _) (OwnFrom.and (Own.from (bl_own _ (fun (pre : List (Plc s)) => psC s (vals pre)) _) _) (OwnFrom.and (Own.from (boxed_own _ _ _) _) (ownFrom_below (Nat.le_refl _) (by omega))))))))
    (fun _ => OwnFrom.and (ownFrom_pure _ _) (OwnFrom.and (Own.from (boxed_own _ _ _) _) (OwnFrom.and (Own.from (boxed_own _ _ _) _) (OwnFrom.and (Own.from (bl_own _ (fun _ => zeC) _) _) (OwnFrom.and (Own.from (bl_own _ (fun (pre : List (Plc s)) => psC s (vals pre.dropLast)) _) _) (OwnFrom.and (Own.from (boxed_own _ _ _) _) (ownFrom_below (Nat.le_refl _) (by omega))))))))
    ⟨fun k hk => by simp [vals] at hk, b1, b2, b3, b4, bN, hB0⟩
    (fun k a' W => ∃ Bx, w.heap.size + 5 ≤ Bx ∧ W.heap[Bx]? = some (.cells (pcs s k.1) 33 (0, 0)) ∧ a' = { tmps := #[.string s, .int .i64 (a : Nat), .pointer (some ⟨w.heap.size, 0, none⟩), .pointer (some ⟨w.heap.size + 1, 0, none⟩), .pointer (some ⟨w.heap.size + 2, 0, none⟩), .int .i64 0, .pointer (some ⟨w.heap.size + 3, 0, none⟩), .pointer (some ⟨Bx, 0, none⟩), .int .i64 (a : Nat), .bool false, .bool false, .int .i64 (a : Nat), .string s, .int .i64 s.size, .bool false, .bool false, undef, .string s, .func (.func 47) #[] #[.pointer (some ⟨w.heap.size + 4, 0, none⟩)], .agg (pcs s k.1), undef, undef, undef, undef, undef, undef, undef, undef, undef, undef, undef, undef, undef, undef, undef, undef, undef, undef, undef, undef, undef, undef, undef, undef, undef, undef, undef, undef, undef], defers := [] })
    (fun k a' => ?ax) ?assign ?body ?done ?stop
  case ax =>
    rintro u X Y row ⟨Bx, h1, h2, h3⟩ hg' hr
    exact ⟨Bx, h1, boxC_own (β := Unit) Bx (pcs s k.1) 33 () X Y row h2 hg' (fun r e => (hr r e).2), h3⟩
  case assign =>
    rintro l pre k W K ⟨hp, h1, h2, h3, h4, hbn, hB⟩ hK
    have hsW : w.heap.size + 5 ≤ W.heap.size := hbn.lt
    have HK : Hid _ := hK _ _ ((KeepsOthers.alloc W (.cells (pcs s k.1) 33)).from _) (kp_alloc (by omega) (by omega) (by omega) _) ⟨hp, h1.alloc _, h2.alloc _, h3.later ((Below.refl _ _).alloc (Nat.le_refl _) _), h4.later ((Below.refl _ _).alloc (Nat.le_refl _) _), hbn.alloc _, hB.alloc hB.size _⟩ ⟨W.heap.size, hsW, World.alloc_heap_new _ _, rfl⟩
    clear hK hp
    unfold pcs at HK ⊢
    gi_wp2
    exact HK
  case body =>
    rintro l pre ⟨k, hks⟩ a' W hl ⟨r, hr⟩ ⟨hp, h1, h2, h3, h4, hbn, hB⟩ ⟨Bx, hBx, bX, rfl⟩ hlt
    have hsW : w.heap.size + 5 ≤ W.heap.size := hbn.lt
    have hl1 := lnF_le s (vals pre)
    have hl2 := coF_le s (vals pre)
    have hl3 := unS_le s (vals pre)
    have hN := unR_le (pRu s k)
    have hvl := vals_len pre
    have cx0 : W.cell? ⟨Bx, 0, none⟩ = some (.int .i64 k) := by simp [World.cell?, bX, pcs]
    have c1 := h1.cell
    have c2 := h2.cell
    unfold pcs
    by_cases hka : a ≤ k
    · have HF : Hid ((∀ j ∈ vals pre, j < a) ∧ a ≤ k) := ⟨hp, hka⟩
      clear hp
      gi_wp2
      exact ⟨KeepsFrom.refl _ _, ⟨rfl, pre, k, ⟨hks, rfl⟩, HF.out.1, HF.out.2⟩, h1, h2, h3, by simpa using h4, hbn, hB⟩
    · have HP : Hid (∀ j ∈ vals pre, j < a) := hp
      obtain ⟨LN, hLN⟩ : ∃ LN : Int, ((lnF s (vals pre) : Nat) : Int) = LN := ⟨_, rfl⟩
      obtain ⟨CO, hCO⟩ : ∃ CO : Int, ((coF s (vals pre) : Nat) : Int) = CO := ⟨_, rfl⟩
      obtain ⟨PT, hPT⟩ : ∃ PT : Int, (((vals pre).length : Nat) : Int) = PT := ⟨_, rfl⟩
      obtain ⟨UN, hUN⟩ : ∃ UN : Int, ((unS s (vals pre) : Nat) : Int) = UN := ⟨_, rfl⟩
      obtain ⟨N, hNN⟩ : ∃ N : Int, ((unR (pRu s k) : Nat) : Int) = N := ⟨_, rfl⟩
      unfold psC at h4
      rw [hLN, hCO, hPT, hUN] at h4
      have d1 : W.cell? ⟨w.heap.size + 3, 1, none⟩ = some (.int .i64 CO) := h4.cell rfl
      have d2 : W.cell? ⟨w.heap.size + 3, 2, none⟩ = some (.int .i64 PT) := h4.cell rfl
      have f1 := h4.frozen (o := 1)
      have f2 := h4.frozen (o := 2)
      have i1 : CO < 35184372088000 := by omega
      have j1 : 0 ≤ CO := by omega
      have j2 : 0 ≤ PT := by omega
      have j0 : 0 ≤ LN := by omega
      have j3 : 0 ≤ UN := by omega
      have j4 : 0 ≤ N := by omega
      have i2 : PT < 35184372088000 := by omega
      have i0 : LN < 35184372088000 := by omega
      have i3 : UN < 70368744176000 := by omega
      have i4 : N ≤ 2 := by omega
      have m1 : Bl ((W.setCell ⟨w.heap.size + 3, 1, none⟩ (.int .i64 (CO + 1))).setCell ⟨w.heap.size + 3, 2, none⟩ (.int .i64 (PT + 1))) w.heap.size 9 #[.string s] := (Bl.other h1 (by omega) _).other (by omega) _
      have m2 : Bl ((W.setCell ⟨w.heap.size + 3, 1, none⟩ (.int .i64 (CO + 1))).setCell ⟨w.heap.size + 3, 2, none⟩ (.int .i64 (PT + 1))) (w.heap.size + 1) 3 #[.int .i64 (a : Nat)] := (Bl.other h2 (by omega) _).other (by omega) _
      have m3 : Bl ((W.setCell ⟨w.heap.size + 3, 1, none⟩ (.int .i64 (CO + 1))).setCell ⟨w.heap.size + 3, 2, none⟩ (.int .i64 (PT + 1))) (w.heap.size + 2) 49 zeC := (h3.other (by omega) _).other (by omega) _
      have mn : Bl ((W.setCell ⟨w.heap.size + 3, 1, none⟩ (.int .i64 (CO + 1))).setCell ⟨w.heap.size + 3, 2, none⟩ (.int .i64 (PT + 1))) (w.heap.size + 4) 9 #[.string s] := (Bl.other hbn (by omega) _).other (by omega) _
      have m4 : Bl ((W.setCell ⟨w.heap.size + 3, 1, none⟩ (.int .i64 (CO + 1))).setCell ⟨w.heap.size + 3, 2, none⟩ (.int .i64 (PT + 1))) (w.heap.size + 3) 49 #[.int .i64 LN, .int .i64 (CO + 1), .int .i64 (PT + 1), .int .i64 UN] := (h4.set 1 (.int .i64 (CO + 1))).set 2 (.int .i64 (PT + 1))
      have mX : Bl ((W.setCell ⟨w.heap.size + 3, 1, none⟩ (.int .i64 (CO + 1))).setCell ⟨w.heap.size + 3, 2, none⟩ (.int .i64 (PT + 1))) Bx 33 (pcs s k) := (Bl.other bX (by omega) _).other (by omega) _
      have K1 : Hid (KpB w.heap.size (w.heap.size + 4) (w.heap.size + 4) (w.heap.size + 5) W ((W.setCell ⟨w.heap.size + 3, 1, none⟩ (.int .i64 (CO + 1))).setCell ⟨w.heap.size + 3, 2, none⟩ (.int .i64 (PT + 1)))) := (kp_set _ (by omega) (by omega) (by omega)).trans (kp_set _ (by omega) (by omega) (by omega))
      have K2 : Hid (KeepsOthers W ((W.setCell ⟨w.heap.size + 3, 1, none⟩ (.int .i64 (CO + 1))).setCell ⟨w.heap.size + 3, 2, none⟩ (.int .i64 (PT + 1)))) := (KeepsOthers.setCell W _ _).trans (KeepsOthers.setCell _ _ _)
      have B1 : Hid (Below w.heap.size w ((W.setCell ⟨w.heap.size + 3, 1, none⟩ (.int .i64 (CO + 1))).setCell ⟨w.heap.size + 3, 2, none⟩ (.int .i64 (PT + 1)))) := (hB.setCell (by simp) _).setCell (by simp) _
      clear hp h1 h2 h3 hbn hB bX hl1 hl2 hl3
      gi_wp2_with fail
      have hmx : Tryd.prog.follows .mixedOrders = true := by kernel_rfl
      clear d1 d2 f1 f2 cx0 c1 c2 h4
      generalize ((W.setCell ⟨w.heap.size + 3, 1, none⟩ (.int .i64 (CO + 1))).setCell ⟨w.heap.size + 3, 2, none⟩ (.int .i64 (PT + 1))) = W2 at *
      have c1 : W2.cell? ⟨w.heap.size, 0, none⟩ = some (.string s) := m1.cell rfl
      have d0 : W2.cell? ⟨w.heap.size + 3, 0, none⟩ = some (.int .i64 LN) := m4.cell rfl
      have d3 : W2.cell? ⟨w.heap.size + 3, 3, none⟩ = some (.int .i64 UN) := m4.cell rfl
      have f0 := m4.frozen (o := 0)
      have f1 := m4.frozen (o := 1)
      have f3 := m4.frozen (o := 3)
      have e1 : W2.cell? ⟨w.heap.size + 3, 1, none⟩ = some (.int .i64 (CO + 1)) := m4.cell rfl
      have cx2 : W2.cell? ⟨Bx, 2, none⟩ = some (.int .i32 (pRu s k)) := mX.cell rfl
      have cx0 : W2.cell? ⟨Bx, 0, none⟩ = some (.int .i64 k) := mX.cell rfl
      have KU : Hid (∀ W, Calls Tryd.prog 42 #[.int .i32 (pRu s k : Nat)] W fun e w' => e = .returned (.int .i64 N) ∧ w' = W) := fun W => by
        have := unitCount_any (pRu s k) W
        rw [hNN] at this
        exact this
      have wz : IntKind.i64.wrap (UN + N) = UN + N := IntWalk.i64_in _ (by omega)
      cases he : eol s k
      · have KE : Hid (∀ W, Calls Tryd.prog 43 #[.string s, .int .i64 (k : Nat)] W fun e w' => e = .returned (.bool false) ∧ w' = W) := fun W => by
          have := ends_any s k W (by omega) hks
          rw [he] at this
          exact this
        have FIN : Hid (∀ W', Below (W2.setCell ⟨w.heap.size + 3, 3, none⟩ (.int .i64 (UN + N))).heap.size (W2.setCell ⟨w.heap.size + 3, 3, none⟩ (.int .i64 (UN + N))) W' → KeepsFrom W0.heap.size W W' ∧ KpB w.heap.size (w.heap.size + 4) (w.heap.size + 4) (w.heap.size + 5) W W' ∧ (∀ j ∈ vals (pre ++ [⟨k, hks⟩]), j < a) ∧ Boxed W' w.heap.size 9 (.string s) ∧ Boxed W' (w.heap.size + 1) 3 (.int .i64 (a : Nat)) ∧ Bl W' (w.heap.size + 2) 49 zeC ∧ Bl W' (w.heap.size + 3) 49 (psC s (vals (pre ++ [⟨k, hks⟩]))) ∧ Boxed W' (w.heap.size + 4) 9 (.string s) ∧ Below w.heap.size w W') := fun W' hb => by
          have z1 : Bl (W2.setCell ⟨w.heap.size + 3, 3, none⟩ (.int .i64 (UN + N))) w.heap.size 9 #[.string s] := (m1.other (o := _) (by omega) _)
          have z2 : Bl (W2.setCell ⟨w.heap.size + 3, 3, none⟩ (.int .i64 (UN + N))) (w.heap.size + 1) 3 #[.int .i64 (a : Nat)] := (m2.other (o := _) (by omega) _)
          have z3 : Bl (W2.setCell ⟨w.heap.size + 3, 3, none⟩ (.int .i64 (UN + N))) (w.heap.size + 2) 49 zeC := (m3.other (o := _) (by omega) _)
          have zn : Bl (W2.setCell ⟨w.heap.size + 3, 3, none⟩ (.int .i64 (UN + N))) (w.heap.size + 4) 9 #[.string s] := (mn.other (o := _) (by omega) _)
          have z4 : Bl (W2.setCell ⟨w.heap.size + 3, 3, none⟩ (.int .i64 (UN + N))) (w.heap.size + 3) 49 #[.int .i64 LN, .int .i64 (CO + 1), .int .i64 (PT + 1), .int .i64 (UN + N)] := (m4.set 3 (.int .i64 (UN + N)))
          have ec : #[.int .i64 LN, .int .i64 (CO + 1), .int .i64 (PT + 1), .int .i64 (UN + N)] = psC s (vals (pre ++ [⟨k, hks⟩])) := by
            have q0 : ((lnF s (vals (pre ++ [⟨k, hks⟩])) : Nat) : Int) = LN := by rw [vals_app, lnF_app, he]; simp; omega
            have q1 : ((coF s (vals (pre ++ [⟨k, hks⟩])) : Nat) : Int) = CO + 1 := by rw [vals_app, coF_app, he]; simp; omega
            have q2 : (((vals (pre ++ [⟨k, hks⟩])).length : Nat) : Int) = PT + 1 := by rw [vals_app, List.length_append]; simp; omega
            have q3 : ((unS s (vals (pre ++ [⟨k, hks⟩])) : Nat) : Int) = UN + N := by rw [vals_app, unS_app]; simp; omega
            unfold psC
            rw [q0, q1, q2, q3]
          rw [ec] at z4
          have bb : Below w.heap.size w (W2.setCell ⟨w.heap.size + 3, 3, none⟩ (.int .i64 (UN + N))) := (B1.out.setCell (by simp) _)
          have zl := zn.lt
          refine ⟨(K2.out.trans ((KeepsOthers.setCell W2 _ _).trans (keeps_below hb))).from _, K1.out.trans ((kp_set _ (by omega) (by omega) (by omega) : KpB w.heap.size (w.heap.size + 4) (w.heap.size + 4) (w.heap.size + 5) W2 (W2.setCell ⟨w.heap.size + 3, 3, none⟩ (.int .i64 (UN + N)))).trans (kp_below (by omega) (by omega) hb)), ?_, z1.later hb, z2.later hb, z3.later hb, z4.later hb, zn.later hb, bb.trans (hb.mono bb.size)⟩
          intro j hj
          rw [vals_app] at hj
          rcases List.mem_append.1 hj with q | q
          · exact HP.out j q
          · rw [List.mem_singleton.1 q]; show k < a; omega
        clear he HP K1 K2 B1 hLN hCO hPT hUN hNN hka m1 m2 m3 mn m4 mX hN hvl hlt hs hlen ha hneg hT0 hB0 bN b1 b2 b3 b4 hT hg
        gi_region_with_o ((try refine ⟨trivial, ?_⟩); gi_at_call 42; refine (CallsIn.inRound l (callsIn_wide.2 (KU.out _))).mono ?_; rintro e W7 ⟨rfl, rfl⟩)
        all_goals gi_wp2_with fail
        all_goals refine ⟨trivial, ?_⟩
        all_goals refine (CallsIn.inRound l (callsIn_wide.2 (KE.out _))).mono ?_
        all_goals rintro e W7 ⟨rfl, rfl⟩
        all_goals gi_wp2
        all_goals exact FIN.out _ ⟨rfl, rfl, rfl, Nat.le_refl _, fun _ _ => rfl⟩
      · have KE : Hid (∀ W, Calls Tryd.prog 43 #[.string s, .int .i64 (k : Nat)] W fun e w' => e = .returned (.bool true) ∧ w' = W) := fun W => by
          have := ends_any s k W (by omega) hks
          rw [he] at this
          exact this
        have FIN : Hid (∀ W', Below (((W2.setCell ⟨w.heap.size + 3, 3, none⟩ (.int .i64 (UN + N))).setCell ⟨w.heap.size + 3, 0, none⟩ (.int .i64 (LN + 1))).setCell ⟨w.heap.size + 3, 1, none⟩ (.int .i64 0)).heap.size (((W2.setCell ⟨w.heap.size + 3, 3, none⟩ (.int .i64 (UN + N))).setCell ⟨w.heap.size + 3, 0, none⟩ (.int .i64 (LN + 1))).setCell ⟨w.heap.size + 3, 1, none⟩ (.int .i64 0)) W' → KeepsFrom W0.heap.size W W' ∧ KpB w.heap.size (w.heap.size + 4) (w.heap.size + 4) (w.heap.size + 5) W W' ∧ (∀ j ∈ vals (pre ++ [⟨k, hks⟩]), j < a) ∧ Boxed W' w.heap.size 9 (.string s) ∧ Boxed W' (w.heap.size + 1) 3 (.int .i64 (a : Nat)) ∧ Bl W' (w.heap.size + 2) 49 zeC ∧ Bl W' (w.heap.size + 3) 49 (psC s (vals (pre ++ [⟨k, hks⟩]))) ∧ Boxed W' (w.heap.size + 4) 9 (.string s) ∧ Below w.heap.size w W') := fun W' hb => by
          have z1 : Bl (((W2.setCell ⟨w.heap.size + 3, 3, none⟩ (.int .i64 (UN + N))).setCell ⟨w.heap.size + 3, 0, none⟩ (.int .i64 (LN + 1))).setCell ⟨w.heap.size + 3, 1, none⟩ (.int .i64 0)) w.heap.size 9 #[.string s] := (((m1.other (o := _) (by omega) _).other (o := _) (by omega) _).other (o := _) (by omega) _)
          have z2 : Bl (((W2.setCell ⟨w.heap.size + 3, 3, none⟩ (.int .i64 (UN + N))).setCell ⟨w.heap.size + 3, 0, none⟩ (.int .i64 (LN + 1))).setCell ⟨w.heap.size + 3, 1, none⟩ (.int .i64 0)) (w.heap.size + 1) 3 #[.int .i64 (a : Nat)] := (((m2.other (o := _) (by omega) _).other (o := _) (by omega) _).other (o := _) (by omega) _)
          have z3 : Bl (((W2.setCell ⟨w.heap.size + 3, 3, none⟩ (.int .i64 (UN + N))).setCell ⟨w.heap.size + 3, 0, none⟩ (.int .i64 (LN + 1))).setCell ⟨w.heap.size + 3, 1, none⟩ (.int .i64 0)) (w.heap.size + 2) 49 zeC := (((m3.other (o := _) (by omega) _).other (o := _) (by omega) _).other (o := _) (by omega) _)
          have zn : Bl (((W2.setCell ⟨w.heap.size + 3, 3, none⟩ (.int .i64 (UN + N))).setCell ⟨w.heap.size + 3, 0, none⟩ (.int .i64 (LN + 1))).setCell ⟨w.heap.size + 3, 1, none⟩ (.int .i64 0)) (w.heap.size + 4) 9 #[.string s] := (((mn.other (o := _) (by omega) _).other (o := _) (by omega) _).other (o := _) (by omega) _)
          have z4 : Bl (((W2.setCell ⟨w.heap.size + 3, 3, none⟩ (.int .i64 (UN + N))).setCell ⟨w.heap.size + 3, 0, none⟩ (.int .i64 (LN + 1))).setCell ⟨w.heap.size + 3, 1, none⟩ (.int .i64 0)) (w.heap.size + 3) 49 #[.int .i64 (LN + 1), .int .i64 0, .int .i64 (PT + 1), .int .i64 (UN + N)] := (((m4.set 3 (.int .i64 (UN + N))).set 0 (.int .i64 (LN + 1))).set 1 (.int .i64 0))
          have ec : #[.int .i64 (LN + 1), .int .i64 0, .int .i64 (PT + 1), .int .i64 (UN + N)] = psC s (vals (pre ++ [⟨k, hks⟩])) := by
            have q0 : ((lnF s (vals (pre ++ [⟨k, hks⟩])) : Nat) : Int) = LN + 1 := by rw [vals_app, lnF_app, he]; simp; omega
            have q1 : ((coF s (vals (pre ++ [⟨k, hks⟩])) : Nat) : Int) = 0 := by rw [vals_app, coF_app, he]; simp
            have q2 : (((vals (pre ++ [⟨k, hks⟩])).length : Nat) : Int) = PT + 1 := by rw [vals_app, List.length_append]; simp; omega
            have q3 : ((unS s (vals (pre ++ [⟨k, hks⟩])) : Nat) : Int) = UN + N := by rw [vals_app, unS_app]; simp; omega
            unfold psC
            rw [q0, q1, q2, q3]
          rw [ec] at z4
          have bb : Below w.heap.size w (((W2.setCell ⟨w.heap.size + 3, 3, none⟩ (.int .i64 (UN + N))).setCell ⟨w.heap.size + 3, 0, none⟩ (.int .i64 (LN + 1))).setCell ⟨w.heap.size + 3, 1, none⟩ (.int .i64 0)) := (((B1.out.setCell (by simp) _).setCell (by simp) _).setCell (by simp) _)
          have zl := zn.lt
          refine ⟨(K2.out.trans (((KeepsOthers.setCell W2 _ _).trans ((KeepsOthers.setCell _ _ _).trans (KeepsOthers.setCell _ _ _))).trans (keeps_below hb))).from _, K1.out.trans (((kp_set _ (by omega) (by omega) (by omega) : KpB w.heap.size (w.heap.size + 4) (w.heap.size + 4) (w.heap.size + 5) W2 (W2.setCell ⟨w.heap.size + 3, 3, none⟩ (.int .i64 (UN + N)))).trans ((kp_set _ (by omega) (by omega) (by omega)).trans (kp_set _ (by omega) (by omega) (by omega)))).trans (kp_below (by omega) (by omega) hb)), ?_, z1.later hb, z2.later hb, z3.later hb, z4.later hb, zn.later hb, bb.trans (hb.mono bb.size)⟩
          intro j hj
          rw [vals_app] at hj
          rcases List.mem_append.1 hj with q | q
          · exact HP.out j q
          · rw [List.mem_singleton.1 q]; show k < a; omega
        clear he HP K1 K2 B1 hLN hCO hPT hUN hNN hka m1 m2 m3 mn m4 mX hN hvl hlt hs hlen ha hneg hT0 hB0 bN b1 b2 b3 b4 hT hg
        gi_region_with_o ((try refine ⟨trivial, ?_⟩); gi_at_call 42; refine (CallsIn.inRound l (callsIn_wide.2 (KU.out _))).mono ?_; rintro e W7 ⟨rfl, rfl⟩)
        all_goals gi_wp2_with fail
        all_goals refine ⟨trivial, ?_⟩
        all_goals refine (CallsIn.inRound l (callsIn_wide.2 (KE.out _))).mono ?_
        all_goals rintro e W7 ⟨rfl, rfl⟩
        all_goals gi_wp2
        all_goals exact FIN.out _ ⟨rfl, rfl, rfl, Nat.le_refl _, fun _ _ => rfl⟩
  case done =>
    rintro D ys W hD hys ⟨hp, h1, h2, h3, h4, hbn, hB⟩ hK
    have h4' : Bl W (w.heap.size + 3) 49 (psC s (ahead s a)) := by
      have e : ahead s a = vals ys := by
        unfold ahead
        rw [← (hys : vals ys = poss s)]
        have := tw_is (fun k => decide (k < a)) (vals ys) [] (fun x hx => by simpa using hp x hx) (fun x l h => by cases h)
        rwa [List.append_nil] at this
      rw [e]; exact h4
    clear h4 hp
    obtain ⟨L, hL⟩ : ∃ L, ahead s a = L := ⟨_, rfl⟩
    rw [hL] at h4'
    have d0 : W.cell? ⟨w.heap.size + 3, 0, none⟩ = some (.int .i64 (lnF s L : Nat)) := h4'.cell rfl
    have d1 : W.cell? ⟨w.heap.size + 3, 1, none⟩ = some (.int .i64 (coF s L : Nat)) := h4'.cell rfl
    have d2 : W.cell? ⟨w.heap.size + 3, 2, none⟩ = some (.int .i64 (L.length : Nat)) := h4'.cell rfl
    have d3 : W.cell? ⟨w.heap.size + 3, 3, none⟩ = some (.int .i64 (unS s L : Nat)) := h4'.cell rfl
    have g0 : W.cell? ⟨w.heap.size + 2, 0, none⟩ = some (.int .i64 0) := h3.cell rfl
    have g1 : W.cell? ⟨w.heap.size + 2, 1, none⟩ = some (.int .i64 0) := h3.cell rfl
    have g2 : W.cell? ⟨w.heap.size + 2, 2, none⟩ = some (.int .i64 0) := h3.cell rfl
    have g3 : W.cell? ⟨w.heap.size + 2, 3, none⟩ = some (.int .i64 0) := h3.cell rfl
    have y0 := h3.frozen (o := 0)
    have y1 := h3.frozen (o := 1)
    have y2 := h3.frozen (o := 2)
    have y3 := h3.frozen (o := 3)
    gi_wp2
    have zf : Bl ((((W.setCell ⟨w.heap.size + 1 + 1, 0, none⟩ (.int .i64 (lnF s L : Nat))).setCell ⟨w.heap.size + 1 + 1, 1, none⟩ (.int .i64 (coF s L : Nat))).setCell ⟨w.heap.size + 1 + 1, 2, none⟩ (.int .i64 (L.length : Nat))).setCell ⟨w.heap.size + 1 + 1, 3, none⟩ (.int .i64 (unS s L : Nat))) (w.heap.size + 2) 49 (psC s L) := (((h3.set 0 (.int .i64 (lnF s L : Nat))).set 1 (.int .i64 (coF s L : Nat))).set 2 (.int .i64 (L.length : Nat))).set 3 (.int .i64 (unS s L : Nat))
    have bf : Below w.heap.size w ((((W.setCell ⟨w.heap.size + 1 + 1, 0, none⟩ (.int .i64 (lnF s L : Nat))).setCell ⟨w.heap.size + 1 + 1, 1, none⟩ (.int .i64 (coF s L : Nat))).setCell ⟨w.heap.size + 1 + 1, 2, none⟩ (.int .i64 (L.length : Nat))).setCell ⟨w.heap.size + 1 + 1, 3, none⟩ (.int .i64 (unS s L : Nat))) := (((hB.setCell (by simp; omega) _).setCell (by simp; omega) _).setCell (by simp; omega) _).setCell (by simp; omega) _
    have hK2 : ((((W.setCell ⟨w.heap.size + 1 + 1, 0, none⟩ (.int .i64 (lnF s L : Nat))).setCell ⟨w.heap.size + 1 + 1, 1, none⟩ (.int .i64 (coF s L : Nat))).setCell ⟨w.heap.size + 1 + 1, 2, none⟩ (.int .i64 (L.length : Nat))).setCell ⟨w.heap.size + 1 + 1, 3, none⟩ (.int .i64 (unS s L : Nat))).heap[D]? = some (.deferred (some [])) := (Below.heap_setCell _ _ _ D (by simp; omega)).trans ((Below.heap_setCell _ _ _ D (by simp; omega)).trans ((Below.heap_setCell _ _ _ D (by simp; omega)).trans ((Below.heap_setCell _ _ _ D (by simp; omega)).trans hK)))
    generalize ((((W.setCell ⟨w.heap.size + 1 + 1, 0, none⟩ (.int .i64 (lnF s L : Nat))).setCell ⟨w.heap.size + 1 + 1, 1, none⟩ (.int .i64 (coF s L : Nat))).setCell ⟨w.heap.size + 1 + 1, 2, none⟩ (.int .i64 (L.length : Nat))).setCell ⟨w.heap.size + 1 + 1, 3, none⟩ (.int .i64 (unS s L : Nat))) = WF at *
    refine ⟨by simp, .inl ⟨_, _, rfl, run_takeDeferred hK2, ?_⟩⟩
    have zg : Bl (WF.putObj D (.deferred none)) (w.heap.size + 2) 49 (psC s L) := ((grownBy_putObj' WF D (.deferred none)).block _ zf.lt (by simp; omega)).trans zf
    have k0 : (WF.putObj D (.deferred none)).cell? ⟨w.heap.size + 1 + 1, 0, none⟩ = some (.int .i64 (lnF s L : Nat)) := zg.cell rfl
    have k1 : (WF.putObj D (.deferred none)).cell? ⟨w.heap.size + 1 + 1, 1, none⟩ = some (.int .i64 (coF s L : Nat)) := zg.cell rfl
    have k2 : (WF.putObj D (.deferred none)).cell? ⟨w.heap.size + 1 + 1, 2, none⟩ = some (.int .i64 (L.length : Nat)) := zg.cell rfl
    have k3 : (WF.putObj D (.deferred none)).cell? ⟨w.heap.size + 1 + 1, 3, none⟩ = some (.int .i64 (unS s L : Nat)) := zg.cell rfl
    refine ⟨.tuple #[.agg (psC s L), .int .i64 0], ?_, by rw [hL], bf.trans (belowK_b (w := w) (Nat.le_refl _) WF D _ _ (by omega) hK2 rfl rfl)⟩
    unfold psC
    simp [results, Tryd.results24, go_sem, k0, k1, k2, k3]
  case stop =>
    rintro D c pre W hD hpre ⟨⟨rfl, p, k, rfl, hp, hk⟩, h1, h2, h3, h4, hbn, hB⟩ hK
    have h4' : Bl W (w.heap.size + 3) 49 (psC s (ahead s a)) := by
      have e : ahead s a = vals p := by
        obtain ⟨t, ht⟩ : vals (p ++ [k]) <+: poss s := hpre
        unfold ahead
        rw [← ht, vals_app, List.append_assoc]
        exact tw_is _ _ _ (fun x hx => by simpa using hp x hx) (fun x l h => by obtain ⟨rfl, _⟩ := List.cons.inj h; simpa using hk)
      rw [e]; simpa using h4
    clear h4 hp
    obtain ⟨L, hL⟩ : ∃ L, ahead s a = L := ⟨_, rfl⟩
    rw [hL] at h4'
    have d0 : W.cell? ⟨w.heap.size + 3, 0, none⟩ = some (.int .i64 (lnF s L : Nat)) := h4'.cell rfl
    have d1 : W.cell? ⟨w.heap.size + 3, 1, none⟩ = some (.int .i64 (coF s L : Nat)) := h4'.cell rfl
    have d2 : W.cell? ⟨w.heap.size + 3, 2, none⟩ = some (.int .i64 (L.length : Nat)) := h4'.cell rfl
    have d3 : W.cell? ⟨w.heap.size + 3, 3, none⟩ = some (.int .i64 (unS s L : Nat)) := h4'.cell rfl
    have g0 : W.cell? ⟨w.heap.size + 2, 0, none⟩ = some (.int .i64 0) := h3.cell rfl
    have g1 : W.cell? ⟨w.heap.size + 2, 1, none⟩ = some (.int .i64 0) := h3.cell rfl
    have g2 : W.cell? ⟨w.heap.size + 2, 2, none⟩ = some (.int .i64 0) := h3.cell rfl
    have g3 : W.cell? ⟨w.heap.size + 2, 3, none⟩ = some (.int .i64 0) := h3.cell rfl
    have y0 := h3.frozen (o := 0)
    have y1 := h3.frozen (o := 1)
    have y2 := h3.frozen (o := 2)
    have y3 := h3.frozen (o := 3)
    gi_wp2
    have zf : Bl ((((W.setCell ⟨w.heap.size + 1 + 1, 0, none⟩ (.int .i64 (lnF s L : Nat))).setCell ⟨w.heap.size + 1 + 1, 1, none⟩ (.int .i64 (coF s L : Nat))).setCell ⟨w.heap.size + 1 + 1, 2, none⟩ (.int .i64 (L.length : Nat))).setCell ⟨w.heap.size + 1 + 1, 3, none⟩ (.int .i64 (unS s L : Nat))) (w.heap.size + 2) 49 (psC s L) := (((h3.set 0 (.int .i64 (lnF s L : Nat))).set 1 (.int .i64 (coF s L : Nat))).set 2 (.int .i64 (L.length : Nat))).set 3 (.int .i64 (unS s L : Nat))
    have bf : Below w.heap.size w ((((W.setCell ⟨w.heap.size + 1 + 1, 0, none⟩ (.int .i64 (lnF s L : Nat))).setCell ⟨w.heap.size + 1 + 1, 1, none⟩ (.int .i64 (coF s L : Nat))).setCell ⟨w.heap.size + 1 + 1, 2, none⟩ (.int .i64 (L.length : Nat))).setCell ⟨w.heap.size + 1 + 1, 3, none⟩ (.int .i64 (unS s L : Nat))) := (((hB.setCell (by simp; omega) _).setCell (by simp; omega) _).setCell (by simp; omega) _).setCell (by simp; omega) _
    have hK2 : ((((W.setCell ⟨w.heap.size + 1 + 1, 0, none⟩ (.int .i64 (lnF s L : Nat))).setCell ⟨w.heap.size + 1 + 1, 1, none⟩ (.int .i64 (coF s L : Nat))).setCell ⟨w.heap.size + 1 + 1, 2, none⟩ (.int .i64 (L.length : Nat))).setCell ⟨w.heap.size + 1 + 1, 3, none⟩ (.int .i64 (unS s L : Nat))).heap[D]? = some (.deferred (some [])) := (Below.heap_setCell _ _ _ D (by simp; omega)).trans ((Below.heap_setCell _ _ _ D (by simp; omega)).trans ((Below.heap_setCell _ _ _ D (by simp; omega)).trans ((Below.heap_setCell _ _ _ D (by simp; omega)).trans hK)))
    generalize ((((W.setCell ⟨w.heap.size + 1 + 1, 0, none⟩ (.int .i64 (lnF s L : Nat))).setCell ⟨w.heap.size + 1 + 1, 1, none⟩ (.int .i64 (coF s L : Nat))).setCell ⟨w.heap.size + 1 + 1, 2, none⟩ (.int .i64 (L.length : Nat))).setCell ⟨w.heap.size + 1 + 1, 3, none⟩ (.int .i64 (unS s L : Nat))) = WF at *
    refine ⟨by simp, .inl ⟨_, _, rfl, run_takeDeferred hK2, ?_⟩⟩
    have zg : Bl (WF.putObj D (.deferred none)) (w.heap.size + 2) 49 (psC s L) := ((grownBy_putObj' WF D (.deferred none)).block _ zf.lt (by simp; omega)).trans zf
    have k0 : (WF.putObj D (.deferred none)).cell? ⟨w.heap.size + 1 + 1, 0, none⟩ = some (.int .i64 (lnF s L : Nat)) := zg.cell rfl
    have k1 : (WF.putObj D (.deferred none)).cell? ⟨w.heap.size + 1 + 1, 1, none⟩ = some (.int .i64 (coF s L : Nat)) := zg.cell rfl
    have k2 : (WF.putObj D (.deferred none)).cell? ⟨w.heap.size + 1 + 1, 2, none⟩ = some (.int .i64 (L.length : Nat)) := zg.cell rfl
    have k3 : (WF.putObj D (.deferred none)).cell? ⟨w.heap.size + 1 + 1, 3, none⟩ = some (.int .i64 (unS s L : Nat)) := zg.cell rfl
    refine ⟨.tuple #[.agg (psC s L), .int .i64 0], ?_, by rw [hL], bf.trans (belowK_b (w := w) (Nat.le_refl _) WF D _ _ (by omega) hK2 rfl rfl)⟩
    unfold psC
    simp [results, Tryd.results24, go_sem, k0, k1, k2, k3]
end Go.Proofs.YtabofadjnbpjkabDoor

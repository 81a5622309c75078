/-
  The contract of a Decoder's Feed. Conditions: what is held and the text are together no longer than a text that comes in can be; the library's two tables hold what their text lays.
-/
import Derived.Test.YtabofadjnbpjkabDoorFe
namespace Go.Proofs.YtabofadjnbpjkabDoor
open Go.RowKit Go.Lib Go.Shelf
attribute [local go_sem] Oper.semAt_some
set_option maxRecDepth 100000 in
set_option maxHeartbeats 1000000 in
theorem each1_lt (n : Nat) (l Bn n₀ B L : Nat) (s : ByteArray) (hs : s.size ≤ 140737488351232) (J Jx : List Nat → World → Prop)
    (W : World) (hJ : ∀ s W1 W2, J s W1 → W1.grownBy W2 none → J s W2)
    (hY : ∀ pre x W, J pre W → x < s.size → pre.length < (poss s).length → YieldAt Fence.wide (n - 1) Tryd.prog l #[.agg (pcs s x)] W fun e W' =>
      (e = .returned (.bool true) ∧ J (pre ++ [x]) W' ∧ KpB n₀ Bn B L W W') ∨ (e = .returned (.bool false) ∧ Jx (pre ++ [x]) W'))
    (hBn : W.heap[Bn]? = some (.cells #[.string s] 9 (0, 0))) (hn0 : 2 ≤ n₀) (hn1 : n₀ ≤ W.heap.size) (hB : B < W.heap.size) (hL : L ≤ W.heap.size) (hr0 : RowIn B W) (hT : Utf8Tabs 0 1 W) (h0 : J [] W) :
    CallsIn Fence.wide n Tryd.prog 47 #[.func (.yield l) #[] #[], .pointer (some ⟨Bn, 0, none⟩)] W fun e W' => (∃ v, e = .returned v) ∧
      ((∃ ys, ys = poss s ∧ J ys W') ∨ (∃ pre, pre <+: poss s ∧ Jx pre W')) := by
  refine callsIn_of_wp Tryd.func47 rfl trivial ?_ rfl
  simp only [Tryd.ntmps47, List.size_toArray, List.length_cons, List.length_nil, Nat.reduceAdd, Nat.reduceSub, Array.replicate_succ, Array.replicate_zero, List.push_toArray, List.append_toArray, List.nil_append, List.cons_append]
  gi_wp2
  gi_loopw [3] (fun i wr => ∃ (pre : List Nat) (k : Nat), i = .int .i64 k ∧ k ≤ s.size ∧ poss s = pre ++ posAt s k ∧ J pre wr ∧ wr.heap[Bn]? = some (.cells #[.string s] 9 (0, 0)) ∧ W.heap.size ≤ wr.heap.size ∧ RowIn B wr ∧ Utf8Tabs 0 1 wr)
    (fun i _ => s.size - (RowKit.intOf i).toNat)
  case atStart => exact ⟨[], 0, rfl, by omega, rfl, h0, hBn, Nat.le_refl _, hr0, hT⟩
  case round =>
    obtain ⟨pre, k, rfl, hk, hx, hJs, hbn, hnr, hri, hTr⟩ := hrel
    have hc : wr.cell? ⟨Bn, 0, none⟩ = some (.string s) := by simp [World.cell?, hbn]
    by_cases hlt : k < s.size
    · have hlti : (k : Int) < (s.size : Int) := by omega
      rw [posAt_cons s k hlt] at hx
      have HX : Hid (poss s = pre ++ k :: posAt s (k + pSt s k)) := hx
      clear hx
      have hp := pSt_le s k hlt
      gi_wp2_with fail
      refine ⟨trivial, fun h => (by cases h), ?_⟩
      refine (callsIn_wide.2 (pieceAt_any s k _ hs hlt hTr (by omega))).mono ?_
      rintro e w' ⟨rfl, hb⟩
      have hJ2 : J pre (w'.alloc (.cells (pcs s k) 33)) := hJ _ _ _ (hJ _ _ _ hJs (grown_of_below hb)) (World.grownBy_alloc _ _ none)
      have hb2 : Below wr.heap.size wr (w'.alloc (.cells (pcs s k) 33)) := hb.alloc hb.size _
      have hP : (w'.alloc (.cells (pcs s k) 33)).heap[w'.heap.size]? = some (.cells (pcs s k) 33 (0, 0)) := World.alloc_heap_new _ _
      have hrowE : rowAt (w'.alloc (.cells (pcs s k) 33)) B = rowAt wr B := rowAt_same (hb2.block B (by omega))
      have hri2 : RowIn B (w'.alloc (.cells (pcs s k) 33)) := fun g hg => by rw [hrowE] at hg; have := hri g hg; have := hb2.size; omega
      have hnoP : rowAt (w'.alloc (.cells (pcs s k) 33)) B ≠ some w'.heap.size := fun e => by rw [hrowE] at e; have := hri _ e; have := hb.size; omega
      have hbn2 : (w'.alloc (.cells (pcs s k) 33)).heap[Bn]? = some (.cells #[.string s] 9 (0, 0)) := (hb2.block Bn (Array.getElem?_eq_some_iff.1 hbn).1).trans hbn
      have hT2 : Utf8Tabs 0 1 (w'.alloc (.cells (pcs s k) 33)) := tabs_below hTr (by omega) hb2
      have hs2 : wr.heap.size < (w'.alloc (.cells (pcs s k) 33)).heap.size := by have := hb.size; simp; omega
      have hwL : L ≤ w'.heap.size := by have := hb.size; omega
      obtain ⟨fn, tmps, assign, body, hy, hR⟩ := hY pre k (w'.alloc (.cells (pcs s k) 33)) hJ2 hlt (by rw [HX.out]; simp)
      have HP : Hid (RowIn B (w'.alloc (.cells (pcs s k) 33)) ∧ rowAt (w'.alloc (.cells (pcs s k) 33)) B ≠ some w'.heap.size ∧ (w'.alloc (.cells (pcs s k) 33)).heap[w'.heap.size]? = some (.cells (pcs s k) 33 (0, 0)) ∧ (w'.alloc (.cells (pcs s k) 33)).heap[Bn]? = some (.cells #[.string s] 9 (0, 0)) ∧ Utf8Tabs 0 1 (w'.alloc (.cells (pcs s k) 33)) ∧ wr.heap.size < (w'.alloc (.cells (pcs s k) 33)).heap.size) := ⟨hri2, hnoP, hP, hbn2, hT2, hs2⟩
      clear hri2 hnoP hP hbn2 hT2 hs2 hrowE hb2 hJ2 hTr hT
      unfold pcs at hy ⊢
      gi_wp2
      refine ⟨fun h => (by cases h), hR.mono ?_⟩
      rintro e W3 (⟨rfl, hJ3, hk3⟩ | ⟨rfl, hJx3⟩)
      · obtain ⟨q1, q2, q3, q4, q5, q6⟩ := HP.out
        obtain ⟨z1, z2, z3, _, z5⟩ := hk3 q1
        have e3 : W3.heap[w'.heap.size]? = some (.cells (pcs s k) 33 (0, 0)) := (z5 _ _ _ _ hwL q3 q2).trans q3
        have c3 : W3.cell? ⟨w'.heap.size, 1, none⟩ = some (.int .i64 (pSt s k)) := by simp [World.cell?, e3, pcs]
        have hT3 : Utf8Tabs 0 1 W3 := ⟨fun c hc => (z1.cell (p := ⟨0, c, none⟩) (by simp; omega)).trans (q5.1 c hc), fun i hi => ⟨(z1.cell (p := ⟨1, 2 * i, none⟩) (by simp; omega)).trans (q5.2 i hi).1, (z1.cell (p := ⟨1, 2 * i + 1, none⟩) (by simp; omega)).trans (q5.2 i hi).2⟩⟩
        have hbn3 := z2.trans q4
        have hs3 : W.heap.size ≤ W3.heap.size := by have := z1.size; omega
        clear q1 q2 q3 q4 q5 q6 z1 z2 z5 e3 HP
        gi_wp2
        go_roundw
        case rel => exact ⟨pre ++ [k], k + pSt s k, by go_num, by omega, by rw [HX.out]; simp, hJ3, hbn3, hs3, z3, hT3⟩
        case measure => simp [RowKit.intOf]; omega
      · gi_wp2
        refine bodyPost_ret (results_none rfl _ _ _) rfl ?_
        exact ⟨⟨_, rfl⟩, .inr ⟨pre ++ [k], ⟨posAt s (k + pSt s k), by rw [HX.out]; simp⟩, hJx3⟩⟩
    · have hlti : ¬ (k : Int) < (s.size : Int) := by omega
      rw [posAt_nil s k hlt, List.append_nil] at hx
      have HX : Hid (poss s = pre) := hx
      clear hx
      gi_wp2
      go_end0
      exact ⟨⟨_, rfl⟩, .inl (by rw [HX.out]; exact hJs)⟩
/-- The same, where a round is told that its piece lies in the text. -/
theorem each_stops_lt (n : Nat) (Bn n₀ B L : Nat) (s : ByteArray) (hs : s.size ≤ 140737488351232) (w : World) (hBn : w.heap[Bn]? = some (.cells #[.string s] 9 (0, 0))) (hn0 : 2 ≤ n₀) (hn1 : n₀ ≤ w.heap.size) (hB : B < w.heap.size) (hL : L ≤ w.heap.size) (hr0 : RowIn B w) (hT : Utf8Tabs 0 1 w) :
    SeqStopsK Fence.wide n Tryd.prog 47 #[.pointer (some ⟨Bn, 0, none⟩)] (fun k : {k : Nat // k < s.size} => #[Value.agg (pcs s k.1)]) (KpB n₀ Bn B L) (fun ys => ys.map (·.1) = poss s) (fun pre => pre.map (·.1) <+: poss s) (poss s).length w := fun l J Jx W hW hJ _ hY h0 => by
  have hBnl := (Array.getElem?_eq_some_iff.1 hBn).1
  have hrow : rowAt W B = rowAt w B := rowAt_same (hW.block B hB)
  refine (each1_lt n l Bn n₀ B L s hs (fun pre W => ∃ q : List {k : Nat // k < s.size}, q.map (·.1) = pre ∧ J q W) (fun pre W => ∃ q : List {k : Nat // k < s.size}, q.map (·.1) = pre ∧ Jx q W) W
    (fun x W1 W2 ⟨q, e, h⟩ g => ⟨q, e, hJ q W1 W2 none h g (fun r e => by cases e)⟩) ?_ ((hW.block Bn hBnl).trans hBn) hn0 (Nat.le_trans hn1 hW.size) (Nat.lt_of_lt_of_le hB hW.size) (Nat.le_trans hL hW.size)
    (fun g hg => by rw [hrow] at hg; exact Nat.lt_of_lt_of_le (hr0 g hg) hW.size) (tabs_below hT (by omega) hW) ⟨[], rfl, h0⟩).mono ?_
  · rintro pre x W1 ⟨q, rfl, hq⟩ hx hl
    obtain ⟨fn, tmps, assign, body, hy, hR⟩ := hY q ⟨x, hx⟩ W1 hq (by simpa using hl)
    refine ⟨fn, tmps, assign, body, hy, hR.mono ?_⟩
    rintro e W3 (⟨rfl, h3, h4⟩ | ⟨rfl, h3⟩)
    · exact .inl ⟨rfl, ⟨q ++ [⟨x, hx⟩], by simp, h3⟩, h4⟩
    · exact .inr ⟨rfl, ⟨q ++ [⟨x, hx⟩], by simp, h3⟩⟩
  · rintro e W3 ⟨hv, ⟨ys, rfl, q, e1, hq⟩ | ⟨pre, hp, q, e1, hq⟩⟩
    · exact ⟨hv, .inl ⟨q, e1, hq⟩⟩
    · exact ⟨hv, .inr ⟨q, (by rw [e1]; exact hp : q.map (·.1) <+: poss s), hq⟩⟩
theorem owns_set {W : World} {n b e size m : Nat} {v : Value} {xs : List Value} (h : W.ownsRow n e size v m xs) (hb : b < n) (u : Value) : (W.setCell ⟨b, 0, none⟩ u).ownsRow n e size v m xs := by
  refine h.kept (grown_set W b u) ?_
  cases hv : v.ownBlock with
  | none => exact .inl rfl
  | some g => exact .inr (fun q => by
      have := (h.lt g hv).1
      cases q
      omega)
theorem runes_snoc (T : ByteArray) (pre : List {k : Nat // k < T.size}) (x : {k : Nat // k < T.size}) : runesC T ((pre ++ [x]).map (·.1)) = runesC T (pre.map (·.1)) ++ [.int .i32 (pRu T x.1)] := by
  unfold runesC
  rw [List.map_append, List.map_append]
  rfl
theorem kp_below {W W2 : World} {n₀ B Bn L : Nat} (hn : n₀ ≤ W.heap.size) (hB : B < W.heap.size) (hBn : Bn < W.heap.size) (hb : Below W.heap.size W W2) : KpB n₀ Bn B L W W2 := fun hr => by
  have hrow : rowAt W2 B = rowAt W B := rowAt_same (hb.block B hB)
  exact ⟨hb.mono hn, hb.block Bn hBn, fun g hg => by rw [hrow] at hg; have := hr g hg; have := hb.size; omega, .inl hrow, fun b cs t f _ hc _ => hb.block b (Array.getElem?_eq_some_iff.1 hc).1⟩
theorem keeps_below {W W2 : World} {B : Nat} (hb : Below W.heap.size W W2) : KeepsFrom B W W2 := ⟨hb.size, fun k _ _ hk _ => (hb.block k (Array.getElem?_eq_some_iff.1 hk).1).trans hk⟩
theorem tabs_set {w : World} {b : Nat} (hT : Utf8Tabs 0 1 w) (hb : 2 ≤ b) (v : Value) : Utf8Tabs 0 1 (w.setCell ⟨b, 0, none⟩ v) := by
  have h0 : ∀ (g o : Nat), g ≠ b → (w.setCell ⟨b, 0, none⟩ v).cell? ⟨g, o, none⟩ = w.cell? ⟨g, o, none⟩ := fun g o h => by
    have := Below.heap_setCell w ⟨b, 0, none⟩ v g h
    simp only [World.cell?, this]
  exact ⟨fun c hc => (h0 0 c (by omega)).trans (hT.1 c hc), fun i hi => ⟨(h0 1 _ (by omega)).trans (hT.2 i hi).1, (h0 1 _ (by omega)).trans (hT.2 i hi).2⟩⟩
theorem box_below {W W2 : World} {B : Nat} {t : TypeId} {v : Value} (h : Boxed W B t v) (hb : Below W.heap.size W W2) : Boxed W2 B t v := (hb.block B h.lt).trans h
theorem below_next {w W : World} {b : Nat} {h x y : ByteArray} {n : Nat} (hb : DecAt w b h) (hB : Below n (w.setCell ⟨b, 0, none⟩ (.string x)) W) (hn : b < n) : Below n (w.setCell ⟨b, 0, none⟩ (.string y)) (W.setCell ⟨b, 0, none⟩ (.string y)) := by
  refine ⟨hB.os, hB.tape, hB.output, by have := hB.size; simpa [World.setCell] using this, fun k hk => ?_⟩
  have hW : DecAt W b x := (hB.block b hn).trans (hb.set x)
  by_cases e : k = b
  · subst e
    exact (hW.set y).trans (hb.set y).symm
  · rw [Below.heap_setCell _ _ _ _ e, Below.heap_setCell _ _ _ _ e, hB.block k hk, Below.heap_setCell _ _ _ _ e]
/-- What a Decoder told of a text that is sure to the end. -/
theorem feed_done (T : ByteArray) (h : ∀ k ∈ poss T, un T k = false) : runesC T (poss T) = ((sn T).map fun z => Value.int .i32 z) ∧ (poss T).length = (sn T).length ∧ hd T = ⟨#[]⟩ := by
  rcases ct_cases T with ⟨h1, h2, _⟩ | ⟨h1, h2, h3, _⟩
  · have e : sn T = (poss T).map fun k => (pRu T k : Int) := by unfold sn; rw [h2]
    rw [e]
    refine ⟨by unfold runesC; rw [List.map_map]; rfl, by rw [List.length_map], text_ext _ _ ?_ (fun j hj => ?_)⟩
    · rw [hd_size, h1, Nat.sub_self]; rfl
    · rw [hd_size, h1] at hj; omega
  · have := h (ct T) (by rw [h3]; simp)
    rw [this] at h2; cases h2
/-- What a Decoder told of a text that ends in a beginning. -/
theorem feed_stop (T : ByteArray) (p q : List Nat) (k : Nat) (e : p ++ [k] ++ q = poss T) (h : ∀ j ∈ p, un T j = false) (hk : un T k = true) : runesC T p = ((sn T).map fun z => Value.int .i32 z) ∧ p.length = (sn T).length ∧ hd T = T.extract k T.size := by
  have e' : poss T = p ++ k :: q := by rw [← e]; simp
  have hp : pr T = p := by
    unfold pr
    rw [e']
    exact take_all (fun k => !un T k) p (k :: q) (fun x hx => by rw [h x hx]; rfl) (fun x l r => by
      obtain ⟨rfl, _⟩ := List.cons.inj r
      rw [hk]; rfl)
  have hc : ct T = k := by
    unfold ct
    rw [e', List.find?_append, List.find?_eq_none.2 (fun x hx => by rw [h x hx]; simp), Option.none_or, List.find?_cons, hk]
    rfl
  have es : sn T = p.map fun k => (pRu T k : Int) := by unfold sn; rw [hp]
  rw [es]
  refine ⟨by unfold runesC; rw [List.map_map]; rfl, by rw [List.length_map], by unfold hd; rw [hc]⟩
theorem grown_of_set {w W : World} {b n : Nat} {v : Value} (hn : w.heap.size = n) (h : Below n (w.setCell ⟨b, 0, none⟩ v) W) : w.grownBy W (some b) :=
  ⟨h.os, h.tape, h.output, by have := h.size; simpa [World.setCell] using this, fun k hk hne => (h.block k (by omega)).trans (Below.heap_setCell _ _ _ _ (fun e => hne (by simp [e])))⟩
set_option maxRecDepth 100000 in
set_option maxHeartbeats 2000000 in
theorem feed_any (b : Nat) (h p : ByteArray) (w : World) (hz : (h ++ p).size ≤ 35184372088000) (d : DecAt w b h) (hT : Utf8Tabs 0 1 w) (hg : 2 ≤ w.heap.size) (hb2 : 2 ≤ b) :
    Calls Tryd.prog 18 #[.pointer (some ⟨b, 0, none⟩), .string p] w fun e W' => ∃ v, e = .returned v ∧ W'.ownsRow w.heap.size 21 1 v (sn (h ++ p)).length ((sn (h ++ p)).map fun z => Value.int .i32 z) ∧ DecAt W' b (hd (h ++ p)) ∧ w.grownBy W' (some b) := by
  refine (callsIn_wide (n := 9)).1 ?_
  have hc := d.cell
  have hf := d.frozen
  have hcat : ¬ 9223372036854775807 < h.size + p.size := by
    have : (h ++ p).size = h.size + p.size := by simp
    omega
  have hlen : (poss (h ++ p)).length ≤ (h ++ p).size := posAt_len (h ++ p) (h ++ p).size 0 (by omega)
  have hpl : ∀ k ∈ poss (h ++ p), k < (h ++ p).size := fun k hk => (posAt_ge (h ++ p) _ 0 (Nat.le_refl _) k hk).2
  obtain ⟨T, hTT⟩ : ∃ T, h ++ p = T := ⟨_, rfl⟩
  rw [hTT] at hz hlen hpl ⊢
  obtain ⟨i0, hi, hz0, hz1, hz2⟩ := info_parts info21
  have hbl := d.lt
  have HD : Hid (DecAt w b h) := d
  clear d
  refine callsIn_of_wp_marks Tryd.func18 rfl trivial ?_ rfl
  simp only [Tryd.ntmps18, List.size_toArray, List.length_cons, List.length_nil, Nat.reduceAdd, Nat.reduceSub, Array.replicate_succ, Array.replicate_zero, List.push_toArray, List.append_toArray, List.nil_append, List.cons_append]
  gi_wp2_with fail
  refine ⟨trivial, ?_⟩
  refine (each_in _ T _).mono ?_
  rintro e w' ⟨rfl, rfl⟩
  gi_wp2_with fail
  have hT1 : Utf8Tabs 0 1 (w.setCell ⟨b, 0, none⟩ (.string ⟨#[]⟩)) := tabs_set hT hb2 _
  obtain ⟨w1, hw1⟩ : ∃ w1, w.setCell ⟨b, 0, none⟩ (.string ⟨#[]⟩) = w1 := ⟨_, rfl⟩
  have hs1 : w1.heap.size = w.heap.size := by rw [← hw1]; simp [World.setCell]
  have HD1 : Hid (DecAt w1 b ⟨#[]⟩) := by unfold Hid; rw [← hw1]; exact HD.out.set _
  have HW1 : Hid (w.setCell ⟨b, 0, none⟩ (.string ⟨#[]⟩) = w1) := hw1
  rw [hw1] at hT1 ⊢
  clear hw1
  obtain ⟨n, hn⟩ : ∃ n, w.heap.size = n := ⟨_, rfl⟩
  rw [hn] at hs1 hg hbl ⊢
  have bP := Boxed.new w1 37 (.pointer (some ⟨b, 0, none⟩))
  have bT := Boxed.new (w1.alloc (.cells #[.pointer (some ⟨b, 0, none⟩)] 37)) 9 (.string T)
  have bO := Boxed.new ((w1.alloc (.cells #[.pointer (some ⟨b, 0, none⟩)] 37)).alloc (.cells #[.string T] 9)) 23 (.slice none 0 0)
  have bN := Boxed.new (((w1.alloc (.cells #[.pointer (some ⟨b, 0, none⟩)] 37)).alloc (.cells #[.string T] 9)).alloc (.cells #[.slice none 0 0] 23)) 9 (.string T)
  simp only [World.size_alloc, hs1] at bP bT bO bN
  have hB0 : Below n w1 ((((w1.alloc (.cells #[.pointer (some ⟨b, 0, none⟩)] 37)).alloc (.cells #[.string T] 9)).alloc (.cells #[.slice none 0 0] 23)).alloc (.cells #[.string T] 9)) := ((((Below.refl _ w1).alloc (by omega) _).alloc (by simp; omega) _).alloc (by simp; omega) _).alloc (by simp; omega) _
  have hT0 := tabs_below hT1 (by omega) (by rw [hs1]; exact hB0)
  have bP2 := ((bP.alloc (.cells #[.string T] 9)).alloc (.cells #[.slice none 0 0] 23)).alloc (.cells #[.string T] 9)
  have bT2 := (bT.alloc (.cells #[.slice none 0 0] 23)).alloc (.cells #[.string T] 9)
  have bO2 := bO.alloc (.cells #[.string T] 9)
  obtain ⟨W0, hW0⟩ : ∃ W0, (((w1.alloc (.cells #[.pointer (some ⟨b, 0, none⟩)] 37)).alloc (.cells #[.string T] 9)).alloc (.cells #[.slice none 0 0] 23)).alloc (.cells #[.string T] 9) = W0 := ⟨_, rfl⟩
  have hsz : W0.heap.size = n + 4 := by rw [← hW0]; simp; omega
  rw [hW0] at bN hB0 hT0 bO2 bP2 bT2
  rw [hW0]
  clear hW0 bO bP bT
  refine wpIn_rangeFunc_ownH rfl (by omega) (gf := 47) (lb := #[.pointer (some ⟨n + 1 + 1 + 1, 0, none⟩)]) rfl trivial (enters_of Tryd.func47 (by kernel_rfl) rfl)
    (each_stops_lt _ (n + 1 + 1 + 1) n (n + 1 + 1) (n + 4) T (by omega) W0 bN hg (by omega) (by omega) (by omega) (fun g h => by rw [rowAt_boxed bO2] at h; cases h) hT0) (fun h k => h.trans k) (fun W l o o' hl hW hc _ => KpB.put (by omega) (by omega) (by omega) W l o o' hl hW hc) (Below.refl _ _) (fun _ => rfl)
    (fun pre W => (∃ v, Boxed W (n + 1 + 1) 23 v ∧ W.ownsRow n 21 1 v pre.length (runesC T (pre.map (·.1))) ∧ True) ∧ (∀ k ∈ pre.map (·.1), un T k = false) ∧ Boxed W n 37 (.pointer (some ⟨b, 0, none⟩)) ∧ Boxed W (n + 1) 9 (.string T) ∧ Boxed W (n + 1 + 1 + 1) 9 (.string T) ∧ Below n w1 W)
    (fun c pre W => (∃ v, Boxed W (n + 1 + 1) 23 v ∧ W.ownsRow n 21 1 v pre.dropLast.length (runesC T (pre.dropLast.map (·.1))) ∧ True) ∧ (c = .exit 0 ∧ ∃ p k, pre = p ++ [k] ∧ (∀ j ∈ p.map (·.1), un T j = false) ∧ un T k.1 = true) ∧ Below n (w.setCell ⟨b, 0, none⟩ (.string (T.extract ((pre.map (·.1)).getLast?.getD 0) T.size))) W)
    (OwnFrom.and (Own.from (holdsRow_own n (n + 1 + 1) 23 21 1 (fun pre : List {k : Nat // k < T.size} => pre.length) (fun pre => runesC T (pre.map (·.1))) (fun _ _ => True)) _) (OwnFrom.and (ownFrom_pure _ _) (OwnFrom.and (Own.from (boxed_own _ _ _) _) (OwnFrom.and (Own.from (boxed_own _ _ _) _) (OwnFrom.and (Own.from (boxed_own _ _ _) _) (ownFrom_below (by omega) (by omega)))))))
    (fun _ => OwnFrom.and (Own.from (holdsRow_own n (n + 1 + 1) 23 21 1 (fun pre : List {k : Nat // k < T.size} => pre.dropLast.length) (fun pre => runesC T (pre.dropLast.map (·.1))) (fun _ _ => True)) _) (OwnFrom.and (ownFrom_pure _ _) (fun pre A B row hs hgr hr => ownFrom_below (β := Unit) (n₀ := n) (B := W0.heap.size) (by simp [World.setCell]; omega) (by omega) () A B row hs hgr hr)))
    ⟨⟨_, bO2, World.ownsRow_nil _ _ _ _, trivial⟩, fun k hk => by simp at hk, bP2, bT2, bN, hB0⟩
    (fun k a' W => ∃ Bx, n + 4 ≤ Bx ∧ W.heap[Bx]? = some (.cells (pcs T k.1) 33 (0, 0)) ∧ a' = { tmps := #[.pointer (some ⟨b, 0, none⟩), .string p, .pointer (some ⟨n, 0, none⟩), undef, .slice none 0 0, .pointer (some ⟨n + 1, 0, none⟩), .pointer (some ⟨n + 1 + 1, 0, none⟩), .pointer (some ⟨Bx, 0, none⟩), undef, .pointer (some ⟨b, 0, none⟩), .bool false, .pointer (some ⟨b, 0, none⟩), .pointer (some ⟨b, 0, none⟩), .pointer (some ⟨b, 0, none⟩), .string h, .string p, .string T, .pointer (some ⟨b, 0, none⟩), .pointer (some ⟨b, 0, none⟩), .pointer (some ⟨b, 0, none⟩), .string T, .func (.func 47) #[] #[.pointer (some ⟨n + 1 + 1 + 1, 0, none⟩)], .agg (pcs T k.1), undef, undef, undef, undef, undef, undef, undef, undef, undef, undef, undef, undef, undef, undef, undef, undef, undef], defers := [] })
    (fun k a' => ?ax) ?assign ?body ?done ?stop
  case ax =>
    rintro u X Y row ⟨Bx, h1, h2, h3⟩ hg' hr
    exact ⟨Bx, h1, boxC_own (β := Unit) Bx (pcs T k.1) 33 () X Y row h2 hg' (fun r e => (hr r e).2), h3⟩
  case assign =>
    rintro l pre k W K ⟨⟨v, hv, hrow, _⟩, hun, hbp, hbt, hbn, hB⟩ hK
    have hsW : n + 4 ≤ W.heap.size := hbn.lt
    have HK : Hid _ := hK _ _ ((KeepsOthers.alloc W (.cells (pcs T k.1) 33)).from _) (kp_alloc (by omega) (by omega) (by omega) _) ⟨⟨v, hv.alloc _, hrow.alloc _, trivial⟩, hun, hbp.alloc _, hbt.alloc _, hbn.alloc _, hB.alloc (by omega) _⟩ ⟨W.heap.size, hsW, World.alloc_heap_new _ _, rfl⟩
    clear hK
    unfold pcs at HK ⊢
    gi_wp2
    exact HK
  case body =>
    rintro l pre ⟨k, hk⟩ a' W hl ⟨r, hr⟩ ⟨⟨v, hv, hrow, _⟩, hun, hbp, hbt, hbn, hB⟩ ⟨Bx, hBx, bX, rfl⟩ hlt
    have hct := hbt.cell
    have hsW : n + 4 ≤ W.heap.size := hbn.lt
    have hki : (k : Int) ≤ (T.size : Int) := by omega
    have cx0 : W.cell? ⟨Bx, 0, none⟩ = some (.int .i64 k) := by simp [World.cell?, bX, pcs]
    have hTW : Utf8Tabs 0 1 W := tabs_below hT1 (by omega) (by rw [hs1]; exact hB)
    have key := unf_any (T.extract k T.size) W (by unfold maxLen; simp; omega) hTW
    have eu : unfN (T.extract k T.size).size (byt (T.extract k T.size) 0) (byt (T.extract k T.size) 1) (byt (T.extract k T.size) 2) = un T k := by
      have e := un_behind T k 0
      rw [Nat.add_zero] at e
      rw [← e]; rfl
    rw [eu] at key
    clear eu
    unfold pcs
    gi_wp2_with fail
    refine ⟨trivial, ?_⟩
    refine (CallsIn.inRound l (callsIn_wide.2 key)).mono ?_
    rintro e W2 ⟨rfl, hb3⟩
    have hv2 := box_below hv hb3
    have hbp2 := box_below hbp hb3
    have hbt2 := box_below hbt hb3
    have hbn2 := box_below hbn hb3
    have hB2 : Below n w1 W2 := hB.trans (hb3.mono (by omega))
    have hrow2 := owns_below hrow hb3
    have bX2 : W2.heap[Bx]? = some (.cells (pcs T k) 33 (0, 0)) := (hb3.block Bx (Array.getElem?_eq_some_iff.1 bX).1).trans bX
    have hkp2 : KpB n (n + 1 + 1 + 1) (n + 1 + 1) (n + 4) W W2 := kp_below (by omega) hv.lt hbn.lt hb3
    have hke2 : KeepsFrom W0.heap.size W W2 := keeps_below hb3
    clear hv hbp hbt hbn hB hrow bX hct cx0 key hTW
    cases hu : un T k
    · have cx : W2.cell? ⟨Bx, 2, none⟩ = some (.int .i32 (pRu T k)) := by simp [World.cell?, bX2, pcs]
      have hc2 := hv2.cell
      gi_wp2_with (gi_at_builtin; go_must (refine wpListIn_append_own_at _ rfl _ _ 23 rfl n 21 i0 (.int .i32 0) 1 4 Tryd.underlying23 hi hz0 hz1 hz2 rfl (by decide) _ _ _ rfl (hrow2.alloc _) ⟨W2.heap.size, 0, none⟩ 1 1 [.int .i32 (pRu T k)] rfl rfl (cell_one_new _ _ _) (by simp [Value.oneCell']) (by unfold maxLen; omega) (by omega) (by have := hB2.size; simp; omega) ?_))
      intro v' w3 hown' hgrow _ hat
      obtain ⟨g', cap', rfl⟩ := ownsRow_succ hown'
      have hn2 : n ≤ W2.heap.size := by have := hb3.size; omega
      have hkp := kp_append (L := n + 4) hv2 (by decide) hbn2 (by decide) (by omega) (by omega) hrow2 hn2 (by omega) hown' hgrow hat
      obtain ⟨hv3, hv4, hr4, hk4, hb4⟩ := hv2.appended (by decide) hrow2 hn2 (by omega) hown' hgrow
      have hbn3 := (hbn2.alloc _).kept hgrow (hbn2.not_row (by decide) hrow2)
      have hbp3 := (hbp2.alloc _).kept hgrow (hbp2.not_row (by decide) hrow2)
      have hbt3 := (hbt2.alloc _).kept hgrow (hbt2.not_row (by decide) hrow2)
      have hc3 := hv3.cell
      have hf3 := hv3.frozen
      have HR : Hid _ := hr4
      have HU : Hid (∀ j ∈ (pre ++ [(⟨k, hk⟩ : {k : Nat // k < T.size})]).map (·.1), un T j = false) := fun j hj => by
        rw [List.map_append] at hj
        rcases List.mem_append.1 hj with h | h
        · exact hun j h
        · have : j = k := by simpa using h
          rw [this]; exact hu
      clear hat hr4 hun hu
      gi_wp2
      exact ⟨hke2.trans (hk4.from _), hkp2.trans hkp, ⟨⟨_, hv4, by rw [runes_snoc, List.length_append]; exact HR.out, trivial⟩, HU.out, hbp3.other (by omega) _, hbt3.other (by omega) _, hbn3.other (by omega) _, hB2.trans hb4⟩⟩
    · have hcp := hbp2.cell
      have hd2 : DecAt W2 b ⟨#[]⟩ := (hB2.block b hbl).trans HD1.out
      have hdc := hd2.cell
      have hdf := hd2.frozen
      have hlz : (T.extract k T.size).size ≤ 281474976710656 := by simp; omega
      have HF : Hid (∀ W3, Below W2.heap.size W2 W3 → (Boxed W3 n 37 (.pointer (some ⟨b, 0, none⟩)) ∧ DecAt W3 b ⟨#[]⟩ ∧ Below n w1 W3 ∧ Boxed W3 (n + 1 + 1) 23 v ∧ W3.ownsRow n 21 1 v pre.length (runesC T (pre.map (·.1))) ∧ KeepsFrom W0.heap.size W W3)) := fun W3 hb4 => ⟨box_below hbp2 hb4, hd2.below hb4, hB2.trans (hb4.mono (by have := hb3.size; omega)), box_below hv2 hb4, owns_below hrow2 hb4, hke2.trans (keeps_below hb4)⟩
      have HU : Hid (∀ j ∈ pre.map (·.1), un T j = false) := hun
      clear hv2 hbp2 hbt2 hbn2 hrow2 hd2 hkp2 hke2 bX2 hun
      gi_wp2_with fail
      obtain ⟨X, hX⟩ : ∃ X, T.extract k T.size = X := ⟨_, rfl⟩
      rw [hX] at hlz ⊢
      gi_region_with (first | (refine ⟨trivial, ?_⟩; refine (CallsIn.inRound l (callsIn_wide.2 (clone_any _ _ hlz))).mono ?_; rintro e W3 ⟨rfl, hb4⟩; have hq := HF.out W3 ((Below.refl _ W2).drew.trans hb4); have hcp := hq.1.cell; have hdc := hq.2.1.cell; have hdf := hq.2.1.frozen))
      all_goals
        (have HQ : Hid (KeepsFrom W0.heap.size W (W3.setCell ⟨b, 0, none⟩ (.string X)) ∧ Boxed (W3.setCell ⟨b, 0, none⟩ (.string X)) (n + 1 + 1) 23 v ∧ (W3.setCell ⟨b, 0, none⟩ (.string X)).ownsRow n 21 1 v pre.length (runesC T (pre.map (·.1))) ∧ Below n (w.setCell ⟨b, 0, none⟩ (.string X)) (W3.setCell ⟨b, 0, none⟩ (.string X))) :=
            ⟨hq.2.2.2.2.2.trans ((KeepsOthers.setCell _ _ _).from _), hq.2.2.2.1.other (by omega) _, owns_set hq.2.2.2.2.1 hbl _, below_next HD.out (by rw [HW1.out]; exact hq.2.2.1) hbl⟩
         clear hq hcp hdc hdf
         gi_wp2
         exact ⟨HQ.out.1, ⟨v, HQ.out.2.1, by rw [List.dropLast_concat]; exact HQ.out.2.2.1, trivial⟩, ⟨rfl, pre, ⟨k, hk⟩, rfl, HU.out, hu⟩, by rw [List.map_append, List.map_singleton, List.getLast?_concat]; show Below n (w.setCell ⟨b, 0, none⟩ (.string (T.extract k T.size))) _; rw [hX]; exact HQ.out.2.2.2⟩)
  case done =>
    rintro D ys W hD hys ⟨⟨v, hv, hrow, _⟩, hun, hbp, hbt, hbn, hB⟩ hK
    rw [hys] at hun hrow
    obtain ⟨q1, q2, q3⟩ := feed_done T hun
    have hc := hv.cell
    have hBf := hB.trans ((belowK_b (w := w1) (Nat.le_refl _) W D _ (.deferred none) (by omega) hK rfl rfl).mono (by omega))
    gi_wp2
    refine ⟨by simp, .inl ⟨_, _, rfl, run_takeDeferred hK, ?_⟩⟩
    have hys2 : ys.length = (poss T).length := by rw [← hys, List.length_map]
    rw [q3, hn]
    exact ⟨_, results_tmp rfl _ _ _, v, rfl, by rw [← q1, ← q2, ← hys2]; exact ownsRow_putObj hrow _ hK rfl, (hBf.block b hbl).trans HD1.out, grown_of_set hn (by rw [HW1.out]; exact hBf)⟩
  case stop =>
    rintro D c pre W hD ⟨q, hq⟩ ⟨⟨v, hv, hrow, _⟩, ⟨rfl, p1, k, rfl, hun, hk⟩, hB⟩ hK
    obtain ⟨q1, q2, q3⟩ := feed_stop T (p1.map (·.1)) q k.1 (by rw [List.map_append] at hq; exact hq) hun hk
    rw [List.dropLast_concat] at hrow
    rw [List.map_append, List.map_singleton, List.getLast?_concat] at hB
    have hc := hv.cell
    have hBf : Below n (w.setCell ⟨b, 0, none⟩ (.string (T.extract k.1 T.size))) (W.putObj D (.deferred none)) := Below.trans hB ((belowK_b (w := w1) (Nat.le_refl _) W D _ (.deferred none) (by omega) hK rfl rfl).mono (by omega))
    gi_wp2
    refine ⟨by simp, .inl ⟨_, _, rfl, run_takeDeferred hK, ?_⟩⟩
    rw [q3, hn]
    exact ⟨_, results_tmp rfl _ _ _, v, rfl, by rw [← q1, ← q2, List.length_map]; exact ownsRow_putObj hrow _ hK rfl, (hBf.block b hbl).trans (HD.out.set _), grown_of_set hn hBf⟩
end Go.Proofs.YtabofadjnbpjkabDoor

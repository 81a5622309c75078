/-
  The walk of the law ScalarUnit: it returns true and turns nothing that was there. Conditions: the text has at most about a million bytes; the library's two tables hold what their text lays.
-/
import Derived.Test.YtabofadjnbpjkabDoorLawP
import Derived.Shelf.RegionOpenPlain
namespace Go.Proofs.YtabofadjnbpjkabDoor
open Go.RowKit Go.Lib
theorem lnF_take (s : ByteArray) : ∀ (l : List Nat) (i : Nat), lnF s (l.take i) ≤ lnF s l
  | [], i => by simp
  | k :: l, 0 => by simp [lnF]
  | k :: l, i + 1 => by
    have := lnF_take s l i
    rw [List.take_succ_cons, lnF, lnF]
    omega
theorem unS_take (s : ByteArray) : ∀ (l : List Nat) (i : Nat), unS s (l.take i) ≤ unS s l
  | [], i => by simp
  | k :: l, 0 => by simp [unS]
  | k :: l, i + 1 => by
    have := unS_take s l i
    rw [List.take_succ_cons]
    simp only [unS, List.map_cons, List.sum_cons] at this ⊢
    omega
set_option maxRecDepth 100000 in
set_option maxHeartbeats 8000000 in
theorem lawU8 (s : ByteArray) (w : World) (hs : s.size ≤ 1048576) (hT : Utf8Tabs 0 1 w) (hg : 2 ≤ w.heap.size) : Calls Tryd.prog 8 #[.string s] w fun e w' => e = .returned (.bool true) ∧ Below w.heap.size w w' := by
  have hlen : (poss s).length ≤ s.size := posAt_len s s.size 0 (by omega)
  have TB : Hid (∀ W, Below w.heap.size w W → Utf8Tabs 0 1 W ∧ 2 ≤ W.heap.size) := fun W hb => ⟨tabs_below hT (by omega) hb, by have := hb.size; omega⟩
  have K9 : Hid (∀ W, Below w.heap.size w W → Calls Tryd.prog 9 #[] W fun e w' => e = .returned (.bool true) ∧ Below W.heap.size W w') := fun W hb => awake_any W (TB.out W hb).1 (TB.out W hb).2
  have K14 : Hid (∀ W, Below w.heap.size w W → Calls Tryd.prog 14 #[.string s] W fun e W' => ∃ v, e = .returned v ∧ W'.ownsRow W.heap.size 33 4 v (poss s).length (pcsC s (poss s)) ∧ Below W.heap.size W W') := fun W hb => pieces_any s W (by omega) (TB.out W hb).1 (TB.out W hb).2
  have K24 : Hid (∀ W (a : Nat), a ≤ s.size → Below w.heap.size w W → Calls Tryd.prog 24 #[.string s, .int .i64 (a : Nat)] W fun r W' => r = .returned (.tuple #[.agg (psC s (ahead s a)), .int .i64 0]) ∧ Below W.heap.size W W') := fun W a ha hb => pos_good s a W (by omega) ha (TB.out W hb).1 (TB.out W hb).2
  have K26 : Hid (∀ W u, u ≤ 9223372036854775807 → Below w.heap.size w W → Calls Tryd.prog 26 #[.string s, .int .i64 u] W fun r W' => r = .returned (.tuple #[.int .i64 (unA s u).1, .int .i64 (unA s u).2]) ∧ Below W.heap.size W W') := fun W u hu hb => unit_any s u W (by omega) hu (TB.out W hb).1 (TB.out W hb).2
  have K29 : Hid (∀ W, Calls Tryd.prog 29 #[.string s] W fun e W' => ∃ v, e = .returned v ∧ W'.ownsRow W.heap.size 9 1 v (lnAll s).length (strC (lnAll s)) ∧ Below W.heap.size W W') := fun W => lines_any s W (by omega)
  have K10 : Hid (∀ W, Below w.heap.size w W → Calls Tryd.prog 10 #[.string s] W fun e W' => ∃ v, e = .returned v ∧ W'.ownsRow W.heap.size 21 1 v (poss s).length (runesC s (poss s)) ∧ Below W.heap.size W W') := fun W hb => decode_any s W (by omega) (TB.out W hb).1 (TB.out W hb).2
  have HS : Hid (s.size ≤ 1048576 ∧ (poss s).length ≤ s.size) := ⟨hs, hlen⟩
  have B : Hid (Below w.heap.size w w) := Below.refl _ _
  have hpi : ((poss s).length : Int) ≤ 1048576 := by omega
  clear hs hlen hT hg
  go_enter Tryd.func8, Tryd.ntmps8
  go_wp2_with (go_at_call 9; refine (K9.out _ B.out).mono ?_)
  first | rintro e w1 rfl bb | rintro e w1 ⟨rfl, bb⟩
  have B1 : Hid (Below w.heap.size w (w1.alloc (.cells #[.int .i64 0, .int .i64 0, .int .i64 0, .int .i64 0] 49))) := bb.alloc bb.size _
  have P0 : Hid (Bl (w1.alloc (.cells #[.int .i64 0, .int .i64 0, .int .i64 0, .int .i64 0] 49)) w1.heap.size 49 zeC) := World.alloc_heap_new _ _
  have hw1 : w.heap.size ≤ w1.heap.size := bb.size
  have hz1 : (w1.alloc (.cells #[.int .i64 0, .int .i64 0, .int .i64 0, .int .i64 0] 49)).heap.size = w1.heap.size + 1 := by simp
  clear bb K9 B
  go_wp2_with (go_at_call 14; refine (K14.out _ B1.out).mono ?_)
  first | rintro e w2 v2 rfl o2 bb | rintro e w2 ⟨v2, rfl, o2, bb⟩
  obtain ⟨a2, c2, rfl, hn2⟩ := owns_slice o2
  have o2' : w2.ownsRow (w1.heap.size + 1) 33 4 (.slice a2 (poss s).length c2) (poss s).length (pcsC s (poss s)) := by first | exact o2 | (rw [hz1] at o2; exact o2)
  replace o2 := o2'
  clear o2'
  have O2 : Hid (w2.ownsRow (w1.heap.size + 1) 33 4 (.slice a2 (poss s).length c2) (poss s).length (pcsC s (poss s))) := o2
  have B2 : Hid (Below w.heap.size w w2) := B1.out.trans (bb.mono (by first | exact B1.out.size | omega))
  have bb' : Below (w1.alloc (.cells #[.int .i64 0, .int .i64 0, .int .i64 0, .int .i64 0] 49)).heap.size (w1.alloc (.cells #[.int .i64 0, .int .i64 0, .int .i64 0, .int .i64 0] 49)) w2 := by first | exact bb | (rw [hz1]; exact bb)
  have P1 : Hid (Bl w2 w1.heap.size 49 zeC) := P0.out.later bb'
  clear bb bb' K14 B1 P0 o2 hz1
  go_wp2_with fail
  go_loopw [18] (fun i wr => ∃ (k : Nat) (ln co pt un : Int), i = .int .i64 (k : Nat) ∧ k ≤ (poss s).length ∧ Hid (ln ≤ lnF s ((poss s).take k) ∧ pt ≤ k ∧ un ≤ unS s ((poss s).take k)) ∧ Hid (Bl wr w1.heap.size 49 #[.int .i64 ln, .int .i64 co, .int .i64 pt, .int .i64 un]) ∧ Hid (wr.ownsRow (w1.heap.size + 1) 33 4 (.slice a2 (poss s).length c2) (poss s).length (pcsC s (poss s))) ∧ Hid (Below w.heap.size w wr)) (fun i _ => (poss s).length - (RowKit.intOf i).toNat)
  case atStart => exact ⟨0, 0, 0, 0, 0, rfl, Nat.zero_le _, ⟨by simp, by simp, by simp⟩, P1, O2, B2⟩
  case round =>
    clear P1 O2 B2
    obtain ⟨k, ln, co, pt, un, rfl, hk, hI, hM, hO, hB⟩ := hrel
    have hwz := hB.out.size
    have hlz := hM.out.lt
    by_cases hlt : k < (poss s).length
    · have hlti : (k : Int) < ((poss s).length : Int) := by omega
      obtain ⟨g, rfl⟩ := hn2 (by omega)
      obtain ⟨q, hq, hqs, hah, hps⟩ := ahead_at s k hlt
      have d0 : wr.cell? ⟨g, k * 4, none⟩ = some (.int .i64 q) := owns_cell hO.out rfl _ _ ((pcsC_at s 0 (by omega) _ _ _ hq).trans rfl)
      have d1 : wr.cell? ⟨g, k * 4 + 1, none⟩ = some (.int .i64 (pSt s q)) := owns_cell hO.out rfl _ _ ((pcsC_at s 1 (by omega) _ _ _ hq).trans rfl)
      have d2 : wr.cell? ⟨g, k * 4 + 2, none⟩ = some (.int .i32 (pRu s q)) := owns_cell hO.out rfl _ _ ((pcsC_at s 2 (by omega) _ _ _ hq).trans rfl)
      have d3 : wr.cell? ⟨g, k * 4 + 3, none⟩ = some (.bool (pWr s q)) := owns_cell hO.out rfl _ _ ((pcsC_at s 3 (by omega) _ _ _ hq).trans rfl)
      have htl : ((poss s).take k).length = k := by rw [List.length_take]; omega
      have hcl := coF_le s ((poss s).take k)
      have hul := unS_le s ((poss s).take k)
      have hfu := fuU_at s q (posAt s (q + pSt s q)) ((poss s).take k)
      rw [← hps] at hfu
      have hua : unA s (unS s ((poss s).take k) : Nat) = (((q : Nat) : Int), 0) := by unfold unA; rw [if_neg (by omega), hfu]
      obtain ⟨LN, hLN⟩ : ∃ LN : Int, ((lnF s ((poss s).take k) : Nat) : Int) = LN := ⟨_, rfl⟩
      obtain ⟨CO, hCO⟩ : ∃ CO : Int, ((coF s ((poss s).take k) : Nat) : Int) = CO := ⟨_, rfl⟩
      obtain ⟨UN, hUN⟩ : ∃ UN : Int, ((unS s ((poss s).take k) : Nat) : Int) = UN := ⟨_, rfl⟩
      obtain ⟨PT, hPT⟩ : ∃ PT : Int, (k : Int) = PT := ⟨_, rfl⟩
      have KP : Hid (∀ W, Below w.heap.size w W → Calls Tryd.prog 24 #[.string s, .int .i64 (q : Nat)] W fun r W' => r = .returned (.tuple #[.agg #[.int .i64 LN, .int .i64 CO, .int .i64 PT, .int .i64 UN], .int .i64 0]) ∧ Below W.heap.size W W') := fun W hb => by
        have := K24.out W q (by omega) hb
        rw [hah] at this
        unfold psC at this
        rw [hLN, hCO, hUN, htl, hPT] at this
        exact this
      have KN : Hid (∀ W, Below w.heap.size w W → Calls Tryd.prog 26 #[.string s, .int .i64 UN] W fun r W' => r = .returned (.tuple #[.int .i64 q, .int .i64 0]) ∧ Below W.heap.size W W') := fun W hb => by
        have := K26.out W UN (by have := HS.out; omega) hb
        rw [← hUN, hua] at this
        rw [← hUN]
        exact this
      have t1 : decide (LN < ln) = false := decide_eq_false (by have := hI.out.1; omega)
      have t2 : decide (PT < pt) = false := decide_eq_false (by have := hI.out.2.1; omega)
      have t3 : decide (UN < un) = false := decide_eq_false (by have := hI.out.2.2; omega)
      have t4 : decide (PT < CO) = false := decide_eq_false (by omega)
      have HI2 : Hid (LN ≤ lnF s ((poss s).take (k + 1)) ∧ PT ≤ ((k + 1 : Nat) : Int) ∧ UN ≤ unS s ((poss s).take (k + 1))) := by
        have e : ((poss s).take (k + 1)).take k = (poss s).take k := by rw [List.take_take]; congr 1; omega
        have h1 := lnF_take s ((poss s).take (k + 1)) k
        have h2 := unS_take s ((poss s).take (k + 1)) k
        rw [e] at h1 h2
        unfold Hid
        omega
      have HK : Hid (k < (poss s).length) := hlt
      -- the world with the piece's box
      have al : Below wr.heap.size wr (wr.alloc (.cells #[.int .i64 q, .int .i64 (pSt s q), .int .i32 (pRu s q), .bool (pWr s q)] 33)) := (Below.refl _ _).alloc (Nat.le_refl _) _
      have M2 : Hid (Bl (wr.alloc (.cells #[.int .i64 q, .int .i64 (pSt s q), .int .i32 (pRu s q), .bool (pWr s q)] 33)) w1.heap.size 49 #[.int .i64 ln, .int .i64 co, .int .i64 pt, .int .i64 un]) := hM.out.later al
      have X2 : Hid (Bl (wr.alloc (.cells #[.int .i64 q, .int .i64 (pSt s q), .int .i32 (pRu s q), .bool (pWr s q)] 33)) wr.heap.size 33 #[.int .i64 q, .int .i64 (pSt s q), .int .i32 (pRu s q), .bool (pWr s q)]) := World.alloc_heap_new _ _
      have O2 : Hid ((wr.alloc (.cells #[.int .i64 q, .int .i64 (pSt s q), .int .i32 (pRu s q), .bool (pWr s q)] 33)).ownsRow (w1.heap.size + 1) 33 4 (.slice (some ⟨g, 0, none⟩) (poss s).length c2) (poss s).length (pcsC s (poss s))) := owns_below hO.out al
      have B2 : Hid (Below w.heap.size w (wr.alloc (.cells #[.int .i64 q, .int .i64 (pSt s q), .int .i32 (pRu s q), .bool (pWr s q)] 33))) := hB.out.alloc hwz _
      have z2 : (wr.alloc (.cells #[.int .i64 q, .int .i64 (pSt s q), .int .i32 (pRu s q), .bool (pWr s q)] 33)).heap.size = wr.heap.size + 1 := by simp
      have x0 : (wr.alloc (.cells #[.int .i64 q, .int .i64 (pSt s q), .int .i32 (pRu s q), .bool (pWr s q)] 33)).cell? ⟨wr.heap.size, 0, none⟩ = some (.int .i64 q) := X2.out.cell rfl
      obtain ⟨wb, hwb⟩ : ∃ wb, wr.alloc (.cells #[.int .i64 q, .int .i64 (pSt s q), .int .i32 (pRu s q), .bool (pWr s q)] 33) = wb := ⟨_, rfl⟩
      rw [hwb] at M2 X2 O2 B2 z2 x0
      clear al hM hO hB hI htl hcl hul hfu hua hLN hCO hUN hPT hps hah hq hlt
      go_wp2_with (go_at_call 24; refine (KP.out _ B2.out).mono ?_)
      first | rintro e w5 rfl bb | rintro e w5 ⟨rfl, bb⟩
      have z5 := bb.size
      have al : Below w5.heap.size w5 (w5.alloc (.cells #[.int .i64 LN, .int .i64 CO, .int .i64 PT, .int .i64 UN] 49)) := (Below.refl _ _).alloc (Nat.le_refl _) _
      have bc : Below wb.heap.size wb (w5.alloc (.cells #[.int .i64 LN, .int .i64 CO, .int .i64 PT, .int .i64 UN] 49)) := bb.trans (al.mono bb.size)
      have M3 : Hid (Bl (w5.alloc (.cells #[.int .i64 LN, .int .i64 CO, .int .i64 PT, .int .i64 UN] 49)) w1.heap.size 49 #[.int .i64 ln, .int .i64 co, .int .i64 pt, .int .i64 un]) := M2.out.later bc
      have X3 : Hid (Bl (w5.alloc (.cells #[.int .i64 LN, .int .i64 CO, .int .i64 PT, .int .i64 UN] 49)) wr.heap.size 33 #[.int .i64 q, .int .i64 (pSt s q), .int .i32 (pRu s q), .bool (pWr s q)]) := X2.out.later bc
      have Y3 : Hid (Bl (w5.alloc (.cells #[.int .i64 LN, .int .i64 CO, .int .i64 PT, .int .i64 UN] 49)) w5.heap.size 49 #[.int .i64 LN, .int .i64 CO, .int .i64 PT, .int .i64 UN]) := World.alloc_heap_new _ _
      have O3 : Hid ((w5.alloc (.cells #[.int .i64 LN, .int .i64 CO, .int .i64 PT, .int .i64 UN] 49)).ownsRow (w1.heap.size + 1) 33 4 (.slice (some ⟨g, 0, none⟩) (poss s).length c2) (poss s).length (pcsC s (poss s))) := owns_below O2.out bc
      have B3 : Hid (Below w.heap.size w (w5.alloc (.cells #[.int .i64 LN, .int .i64 CO, .int .i64 PT, .int .i64 UN] 49))) := B2.out.trans (bc.mono B2.out.size)
      obtain ⟨wc, hwc⟩ : ∃ wc, w5.alloc (.cells #[.int .i64 LN, .int .i64 CO, .int .i64 PT, .int .i64 UN] 49) = wc := ⟨_, rfl⟩
      rw [hwc] at M3 X3 Y3 O3 B3
      have y0 : wc.cell? ⟨w5.heap.size, 0, none⟩ = some (.int .i64 LN) := Y3.out.cell rfl
      have y1 : wc.cell? ⟨w5.heap.size, 1, none⟩ = some (.int .i64 CO) := Y3.out.cell rfl
      have y2 : wc.cell? ⟨w5.heap.size, 2, none⟩ = some (.int .i64 PT) := Y3.out.cell rfl
      have y3 : wc.cell? ⟨w5.heap.size, 3, none⟩ = some (.int .i64 UN) := Y3.out.cell rfl
      have m0 : wc.cell? ⟨w1.heap.size, 0, none⟩ = some (.int .i64 ln) := M3.out.cell rfl
      have m2 : wc.cell? ⟨w1.heap.size, 2, none⟩ = some (.int .i64 pt) := M3.out.cell rfl
      have m3 : wc.cell? ⟨w1.heap.size, 3, none⟩ = some (.int .i64 un) := M3.out.cell rfl
      clear al bc bb M2 X2 O2 B2 x0 hwb KP
      go_wp2_with (go_at_call 26; refine (KN.out _ B3.out).mono ?_)
      first | rintro e w6 rfl bb | rintro e w6 ⟨rfl, bb⟩
      have M4 : Hid (Bl w6 w1.heap.size 49 #[.int .i64 ln, .int .i64 co, .int .i64 pt, .int .i64 un]) := M3.out.later bb
      have X4' : Hid (Bl w6 wr.heap.size 33 #[.int .i64 q, .int .i64 (pSt s q), .int .i32 (pRu s q), .bool (pWr s q)]) := X3.out.later bb
      have Y4 : Hid (Bl w6 w5.heap.size 49 #[.int .i64 LN, .int .i64 CO, .int .i64 PT, .int .i64 UN]) := Y3.out.later bb
      have O4 : Hid (w6.ownsRow (w1.heap.size + 1) 33 4 (.slice (some ⟨g, 0, none⟩) (poss s).length c2) (poss s).length (pcsC s (poss s))) := owns_below O3.out bb
      have B4 : Hid (Below w.heap.size w w6) := B3.out.trans (bb.mono B3.out.size)
      clear bb M3 X3 Y3 O3 B3 y0 y1 y2 y3 m0 m2 m3 hwc KN t1 t2 t3 t4
      have x0 : w6.cell? ⟨wr.heap.size, 0, none⟩ = some (.int .i64 q) := X4'.out.cell rfl
      have y0 : w6.cell? ⟨w5.heap.size, 0, none⟩ = some (.int .i64 LN) := Y4.out.cell rfl
      have y1 : w6.cell? ⟨w5.heap.size, 1, none⟩ = some (.int .i64 CO) := Y4.out.cell rfl
      have y2 : w6.cell? ⟨w5.heap.size, 2, none⟩ = some (.int .i64 PT) := Y4.out.cell rfl
      have y3 : w6.cell? ⟨w5.heap.size, 3, none⟩ = some (.int .i64 UN) := Y4.out.cell rfl
      have m0 : w6.cell? ⟨w1.heap.size, 0, none⟩ = some (.int .i64 ln) := M4.out.cell rfl
      have m1 : w6.cell? ⟨w1.heap.size, 1, none⟩ = some (.int .i64 co) := M4.out.cell rfl
      have m2 : w6.cell? ⟨w1.heap.size, 2, none⟩ = some (.int .i64 pt) := M4.out.cell rfl
      have m3 : w6.cell? ⟨w1.heap.size, 3, none⟩ = some (.int .i64 un) := M4.out.cell rfl
      have f0 := M4.out.frozen (o := 0)
      have f1 := M4.out.frozen (o := 1)
      have f2 := M4.out.frozen (o := 2)
      have f3 := M4.out.frozen (o := 3)
      have nq : ((q : Int) != (q : Int)) = false := by simp
      go_wp2
      refine ⟨⟨k + 1, LN, CO, PT, UN, ?_, ?_, HI2, (((M4.out.set 0 (.int .i64 LN)).set 1 (.int .i64 CO)).set 2 (.int .i64 PT)).set 3 (.int .i64 UN), owns_at O4.out fun b hb1 _ => ?_, (((B4.out.setCell ?_ _).setCell ?_ _).setCell ?_ _).setCell ?_ _⟩, ?_⟩
      · go_num
      · have := HK.out; omega
      · exact (Below.heap_setCell _ _ _ b (by simp; omega)).trans ((Below.heap_setCell _ _ _ b (by simp; omega)).trans ((Below.heap_setCell _ _ _ b (by simp; omega)).trans (Below.heap_setCell _ _ _ b (by simp; omega))))
      · simp; omega
      · simp; omega
      · simp; omega
      · simp; omega
      · have := HK.out; simp [RowKit.intOf]; omega
    · have hlti : ¬ (k : Int) < ((poss s).length : Int) := by omega
      have hln : lnF s (poss s) = cnt s s.size := by
        have := (ahead_facts s s.size (Nat.le_refl _)).2.1
        rw [ahead_end] at this
        exact this
      have hll : (lnAll s).length = cnt s s.size + 1 := by unfold lnAll; rw [List.length_append, lnL_len]; rfl
      obtain ⟨Q1, hQ1⟩ : ∃ Q1 : Int, ((lnF s (poss s) : Nat) : Int) = Q1 := ⟨_, rfl⟩
      obtain ⟨Q2, hQ2⟩ : ∃ Q2 : Int, ((coF s (poss s) : Nat) : Int) = Q2 := ⟨_, rfl⟩
      obtain ⟨Q3, hQ3⟩ : ∃ Q3 : Int, (((poss s).length : Nat) : Int) = Q3 := ⟨_, rfl⟩
      obtain ⟨Q4, hQ4⟩ : ∃ Q4 : Int, ((unS s (poss s) : Nat) : Int) = Q4 := ⟨_, rfl⟩
      have KP : Hid (∀ W, Below w.heap.size w W → Calls Tryd.prog 24 #[.string s, .int .i64 s.size] W fun r W' => r = .returned (.tuple #[.agg #[.int .i64 Q1, .int .i64 Q2, .int .i64 Q3, .int .i64 Q4], .int .i64 0]) ∧ Below W.heap.size W W') := fun W hb => by
        have := K24.out W s.size (Nat.le_refl _) hb
        rw [ahead_end] at this
        unfold psC at this
        rw [hQ1, hQ2, hQ3, hQ4] at this
        exact this
      have hc := cnt_le s s.size
      have hsz := HS.out
      generalize hNL : (lnAll s).length = NL at *
      generalize hPL : (poss s).length = PL at *
      have e1 : ((NL : Int) == Q1 + 1) = true := by simp; omega
      have e2 : (Q3 == (PL : Int)) = true := by simp; omega
      have w1' : IntKind.i64.wrap (Q1 + 1) = Q1 + 1 := IntWalk.i64_in _ (by omega)
      have q0 : 0 ≤ Q1 := by omega
      have q1 : Q1 ≤ 1048576 := by omega
      clear hln hll hQ1 hQ2 hQ3 hQ4 hc hsz hNL hPL K24 K26 hI hM hO hn2 hk HS
      go_wp2_with (go_at_call 24; refine (KP.out _ hB.out).mono ?_)
      first | rintro e w5 rfl bb | rintro e w5 ⟨rfl, bb⟩
      have B5 : Hid (Below w.heap.size w (w5.alloc (.cells #[.int .i64 Q1, .int .i64 Q2, .int .i64 Q3, .int .i64 Q4] 49))) := (hB.out.trans (bb.mono hB.out.size)).alloc (by have := bb.size; omega) _
      have Y5 : Hid (Bl (w5.alloc (.cells #[.int .i64 Q1, .int .i64 Q2, .int .i64 Q3, .int .i64 Q4] 49)) w5.heap.size 49 #[.int .i64 Q1, .int .i64 Q2, .int .i64 Q3, .int .i64 Q4]) := World.alloc_heap_new _ _
      clear bb KP hB
      go_wp2_with fail
      generalize w5.alloc (.cells #[.int .i64 Q1, .int .i64 Q2, .int .i64 Q3, .int .i64 Q4] 49) = wd at *
      have y0 : wd.cell? ⟨w5.heap.size, 0, none⟩ = some (.int .i64 Q1) := Y5.out.cell rfl
      have y2 : wd.cell? ⟨w5.heap.size, 2, none⟩ = some (.int .i64 Q3) := Y5.out.cell rfl
      have hmx : Tryd.prog.follows .mixedOrders = true := by kernel_rfl
      have KL : Hid (∀ W, Below wd.heap.size wd W → Calls Tryd.prog 29 #[.string s] W fun e W' => ∃ v, e = .returned v ∧ (∃ a c, v = .slice a NL c) ∧ Below wd.heap.size wd W' ∧ W'.cell? ⟨w5.heap.size, 0, none⟩ = some (.int .i64 Q1) ∧ W'.cell? ⟨w5.heap.size, 2, none⟩ = some (.int .i64 Q3)) := fun W hb => (K29.out W).mono fun e W' ⟨v, h1, h2, h3⟩ => by
        obtain ⟨a, c, h4, -⟩ := owns_slice h2
        have h5 := hb.trans (h3.mono hb.size)
        exact ⟨v, h1, ⟨a, c, h4⟩, h5, (Y5.out.later h5).cell rfl, (Y5.out.later h5).cell rfl⟩
      have KD : Hid (∀ W, Below wd.heap.size wd W → Calls Tryd.prog 10 #[.string s] W fun e W' => ∃ v, e = .returned v ∧ (∃ a c, v = .slice a PL c) ∧ Below wd.heap.size wd W' ∧ W'.cell? ⟨w5.heap.size, 0, none⟩ = some (.int .i64 Q1) ∧ W'.cell? ⟨w5.heap.size, 2, none⟩ = some (.int .i64 Q3)) := fun W hb => (K10.out W (B5.out.trans (hb.mono B5.out.size))).mono fun e W' ⟨v, h1, h2, h3⟩ => by
        obtain ⟨a, c, h4, -⟩ := owns_slice h2
        have h5 := hb.trans (h3.mono hb.size)
        exact ⟨v, h1, ⟨a, c, h4⟩, h5, (Y5.out.later h5).cell rfl, (Y5.out.later h5).cell rfl⟩
      have EN : Hid (∀ W, Below wd.heap.size wd W → Below w.heap.size w W) := fun W hb => B5.out.trans (hb.mono B5.out.size)
      clear K29 K10 B5 Y5 TB hpi
      go_region_with_o (first | (go_at_call 29; refine (KL.out _ (by exact ⟨rfl, rfl, rfl, Nat.le_refl _, fun _ _ => rfl⟩)).mono ?_; rintro e w7 ⟨v7, rfl, ⟨a7, c7, rfl⟩, b7, g0, g2⟩) | (go_at_call 10; refine (KD.out _ (by first | exact b7 | exact b7.trans ⟨rfl, rfl, rfl, Nat.le_refl _, fun _ _ => rfl⟩)).mono ?_; rintro e w8 ⟨v8, rfl, ⟨a8, c8, rfl⟩, b8, g0', g2'⟩))
      all_goals go_wp2
      all_goals go_ret
      all_goals exact ⟨rfl, EN.out _ (by first | exact b8 | exact b8.trans ⟨rfl, rfl, rfl, Nat.le_refl _, fun _ _ => rfl⟩)⟩
end Go.Proofs.YtabofadjnbpjkabDoor

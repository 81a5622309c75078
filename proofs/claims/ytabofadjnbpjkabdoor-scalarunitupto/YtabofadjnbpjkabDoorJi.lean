/-
  The contract of the document's PositionOf. Conditions: the text has at most 2^35 bytes.
-/
import Derived.Test.YtabofadjnbpjkabDoorJh
import Derived.BigRegion
import Derived.Shelf.RegionOpenPlain
import Derived.Deep.RegionHeld3
namespace Go.Proofs.YtabofadjnbpjkabDoor
open Go.RowKit Go.Lib
theorem owns_at {W W' : World} {base : Nat} {e : TypeId} {z : Nat} {v : Value} {n : Nat} {xs : List Value} (h : W.ownsRow base e z v n xs) (hb : ∀ b, base ≤ b → b < W.heap.size → W'.heap[b]? = W.heap[b]?) : W'.ownsRow base e z v n xs := by
  obtain ⟨h0, h1 | ⟨g, cap, cur, rfl, h1, h2, h3⟩⟩ := h
  · exact ⟨h0, .inl h1⟩
  · exact ⟨h0, .inr ⟨g, cap, cur, rfl, h1, (hb g h1 (Array.getElem?_eq_some_iff.1 h2).1).trans h2, h3⟩⟩
theorem rpos_bad (s : ByteArray) (a : Int) (w : World) (ha : a < 0 ∨ (s.size : Int) < a) : Calls Tryd.prog 25 #[.string s, .int .i64 a] w fun e W' => e = .returned (.tuple #[.agg zeC, .int .i64 21]) ∧ Below w.heap.size w W' := by
  have hb : Below w.heap.size w (w.alloc (.cells #[.int .i64 0, .int .i64 0, .int .i64 0, .int .i64 0] 52)) := (Below.refl _ w).alloc (Nat.le_refl _) _
  by_cases h : a < 0
  · clear ha
    go_enter Tryd.func25, Tryd.ntmps25
    go_wp2
    refine bodyPost_ret (v := .tuple #[.agg zeC, .int .i64 21]) ?_ rfl ⟨rfl, hb⟩
    unfold zeC
    simp [results, Tryd.results25, go_sem]
  · have h2 : (s.size : Int) < a := by omega
    clear ha
    go_enter Tryd.func25, Tryd.ntmps25
    go_wp2
    refine bodyPost_ret (v := .tuple #[.agg zeC, .int .i64 21]) ?_ rfl ⟨rfl, hb⟩
    unfold zeC
    simp [results, Tryd.results25, go_sem]
set_option maxRecDepth 100000 in
set_option maxHeartbeats 4000000 in
theorem rpos_good (s : ByteArray) (a : Nat) (w : World) (hs : s.size ≤ 5864062010000) (ha : a ≤ s.size) : Calls Tryd.prog 25 #[.string s, .int .i64 (a : Nat)] w fun e W' => e = .returned (.tuple #[.agg (psC s (ahead s a)), .int .i64 0]) ∧ Below w.heap.size w W' := by
  have hlen : (poss s).length ≤ s.size := posAt_len s s.size 0 (by omega)
  have HAF : Hid (ahead s a <+: poss s ∧ lnF s (ahead s a) = cnt s a ∧ coF s (ahead s a) = coR (ahead s a) (lst s a)) := ahead_facts s a ha
  have KE : Hid (∀ W, Calls Tryd.prog 44 #[.string s, .int .i64 (a : Nat)] W fun e w' => e = .returned (.tuple #[.int .i64 (cnt s a : Nat), .int .i64 (lst s a : Nat)]) ∧ w' = W) := fun W => ended_any s a W (by omega) ha
  have KP : Hid (∀ W, Calls Tryd.prog 38 #[.string s] W fun e W' => ∃ v, e = .returned v ∧ W'.ownsRow W.heap.size 71 4 v (poss s).length (pcsC s (poss s)) ∧ Below W.heap.size W W') := fun W => rpieces_any s W hs
  have hneg : ¬ (s.size : Int) < (a : Int) := by omega
  have HL : Hid ((poss s).length ≤ s.size ∧ s.size ≤ 5864062010000 ∧ a ≤ s.size) := ⟨hlen, hs, ha⟩
  have HC : Hid (cnt s a ≤ a ∧ lst s a ≤ a) := ⟨cnt_le s a, lst_le s a⟩
  clear hs hlen ha
  go_enter Tryd.func25, Tryd.ntmps25
  go_wp2_with (go_at_call 44; refine (KE.out _).mono ?_; rintro e w' ⟨rfl, rfl⟩)
  obtain ⟨w0, hw0⟩ : ∃ w0, (w.alloc (.cells #[.int .i64 0, .int .i64 0, .int .i64 0, .int .i64 0] 52)).alloc (.cells #[.int .i64 (cnt s a : Nat), .int .i64 0, .int .i64 0, .int .i64 0] 52) = w0 := ⟨_, rfl⟩
  have z0 : w0.heap.size = w.heap.size + 2 := by rw [← hw0]; simp
  have m0 : Bl w0 w.heap.size 52 zeC := by rw [← hw0]; exact Bl.later (World.alloc_heap_new _ _) ((Below.refl _ _).alloc (Nat.le_refl _) _)
  have m1 : Bl w0 (w.heap.size + 1) 52 #[.int .i64 (cnt s a : Nat), .int .i64 0, .int .i64 0, .int .i64 0] := by
    rw [← hw0]
    have h := World.alloc_heap_new (w.alloc (.cells #[.int .i64 0, .int .i64 0, .int .i64 0, .int .i64 0] 52)) (.cells #[.int .i64 (cnt s a : Nat), .int .i64 0, .int .i64 0, .int .i64 0] 52)
    rw [World.size_alloc] at h
    exact h
  have bw0 : Below w.heap.size w w0 := by rw [← hw0]; exact ((Below.refl _ w).alloc (Nat.le_refl _) _).alloc (by simp) _
  rw [hw0]
  clear hw0 KE
  go_wp2_with (go_at_call 38; refine (KP.out _).mono ?_)
  first | rintro e w1 v1 rfl hp hb | rintro e w1 ⟨v1, rfl, hp, hb⟩
  rw [z0] at hp
  obtain ⟨a1, c1, rfl, hn1⟩ := owns_slice hp
  have HP : Hid (w1.ownsRow (w.heap.size + 2) 71 4 (.slice a1 (poss s).length c1) (poss s).length (pcsC s (poss s))) := hp
  have M0 : Hid (Bl w1 w.heap.size 52 zeC) := m0.later hb
  have M1 : Hid (Bl w1 (w.heap.size + 1) 52 #[.int .i64 (cnt s a : Nat), .int .i64 0, .int .i64 0, .int .i64 0]) := m1.later hb
  have HB0 : Hid (Below w.heap.size w w1) := bw0.trans (hb.mono bw0.size)
  clear hp hb KP m0 m1 bw0 z0
  have hpi : ((poss s).length : Int) ≤ 5864062010000 := by have := HL.out; omega
  have hls : ((lst s a : Nat) : Int) ≤ 5864062010000 := by have := HL.out; have := HC.out; omega
  go_wp2_with fail
  go_loopw [31] (fun i wr => ∃ (k : Nat) (CO PT UN : Int), i = .int .i64 (k : Nat) ∧ k ≤ (poss s).length ∧ Hid (CO = coR ((poss s).take k) (lst s a) ∧ PT = k ∧ UN = unS s ((poss s).take k) ∧ ∀ j ∈ (poss s).take k, j < a) ∧ Hid (Bl wr (w.heap.size + 1) 52 #[.int .i64 (cnt s a : Nat), .int .i64 CO, .int .i64 PT, .int .i64 UN]) ∧ Hid (Bl wr w.heap.size 52 zeC) ∧ Hid (wr.ownsRow (w.heap.size + 2) 71 4 (.slice a1 (poss s).length c1) (poss s).length (pcsC s (poss s))) ∧ Hid (Below w.heap.size w wr)) (fun i _ => (poss s).length - (RowKit.intOf i).toNat)
  case atStart => exact ⟨0, 0, 0, 0, rfl, Nat.zero_le _, ⟨by simp [coR], rfl, by simp [unS], fun j hj => by simp at hj⟩, M1, M0, HP, HB0⟩
  case round =>
    clear M0 M1 HP HB0
    obtain ⟨k, CO, PT, UN, rfl, hk, hI, hM, hZ, hO, hB⟩ := hrel
    have hwz := hB.out.size
    have hlz := hM.out.lt
    have hc := coR_le ((poss s).take k) (lst s a)
    have hu := unS_le s ((poss s).take k)
    have htl : ((poss s).take k).length = k := by rw [List.length_take]; omega
    have g1 : 0 ≤ CO := by have := hI.out; omega
    have g2 : CO ≤ 5864062010000 := by have := hI.out; omega
    have g3 : 0 ≤ PT := by have := hI.out; omega
    have g4 : PT ≤ 5864062010000 := by have := hI.out; omega
    have g5 : 0 ≤ UN := by have := hI.out; omega
    have g6 : UN ≤ 11728124020000 := by have := hI.out; omega
    clear hc hu htl
    by_cases hlt : k < (poss s).length
    · have hlti : (k : Int) < ((poss s).length : Int) := by omega
      obtain ⟨g, rfl⟩ := hn1 (by omega)
      have hq : (poss s)[k]? = some (poss s)[k] := List.getElem?_eq_getElem hlt
      obtain ⟨q, hq0⟩ : ∃ q, (poss s)[k] = q := ⟨_, rfl⟩
      rw [hq0] at hq
      have c0 : wr.cell? ⟨g, k * 4, none⟩ = some (.int .i64 q) := owns_cell hO.out rfl _ _ ((pcsC_at s 0 (by omega) _ _ _ hq).trans rfl)
      have c1' : wr.cell? ⟨g, k * 4 + 1, none⟩ = some (.int .i64 (pSt s q)) := owns_cell hO.out rfl _ _ ((pcsC_at s 1 (by omega) _ _ _ hq).trans rfl)
      have c2 : wr.cell? ⟨g, k * 4 + 2, none⟩ = some (.int .i32 (pRu s q)) := owns_cell hO.out rfl _ _ ((pcsC_at s 2 (by omega) _ _ _ hq).trans rfl)
      have c3 : wr.cell? ⟨g, k * 4 + 3, none⟩ = some (.bool (pWr s q)) := owns_cell hO.out rfl _ _ ((pcsC_at s 3 (by omega) _ _ _ hq).trans rfl)
      have tk := tk_step s k q hq
      have hqs : (q : Int) ≤ 5864062010000 := by
        obtain ⟨q', e1, e2, -⟩ := ahead_at s k hlt
        rw [hq] at e1
        cases e1
        have := HL.out
        omega
      by_cases hka : a ≤ q
      · have HF : Hid (ahead s a = (poss s).take k) := by
          unfold Hid ahead
          conv => lhs; rw [← List.take_append_drop k (poss s)]
          refine tw_is _ _ _ (fun x hx => by simpa using hI.out.2.2.2 x hx) (fun x l h => ?_)
          have : ((poss s).drop k)[0]? = some x := by rw [h]; rfl
          rw [List.getElem?_drop, Nat.add_zero, hq] at this
          cases this
          simpa using hka
        have HR : Hid (psC s (ahead s a) = #[.int .i64 (cnt s a : Nat), .int .i64 CO, .int .i64 PT, .int .i64 UN]) := by
          unfold Hid psC
          rw [HAF.out.2.1, HAF.out.2.2, HF.out, ← hI.out.1, ← hI.out.2.2.1, List.length_take, show ((min k (poss s).length : Nat) : Int) = PT by have := hI.out.2.1; omega]
        replace hM : Hid (Bl (wr.alloc (.cells #[.int .i64 q, .int .i64 (pSt s q), .int .i32 (pRu s q), .bool (pWr s q)] 71)) (w.heap.size + 1) 52 #[.int .i64 (cnt s a : Nat), .int .i64 CO, .int .i64 PT, .int .i64 UN]) := hM.out.later ((Below.refl _ _).alloc (Nat.le_refl _) _)
        replace hZ : Hid (Bl (wr.alloc (.cells #[.int .i64 q, .int .i64 (pSt s q), .int .i32 (pRu s q), .bool (pWr s q)] 71)) w.heap.size 52 zeC) := hZ.out.later ((Below.refl _ _).alloc (Nat.le_refl _) _)
        replace hB : Hid (Below w.heap.size w (wr.alloc (.cells #[.int .i64 q, .int .i64 (pSt s q), .int .i32 (pRu s q), .bool (pWr s q)] 71))) := hB.out.alloc hwz _
        have d0 : (wr.alloc (.cells #[.int .i64 q, .int .i64 (pSt s q), .int .i32 (pRu s q), .bool (pWr s q)] 71)).cell? ⟨w.heap.size + 1, 0, none⟩ = some (.int .i64 (cnt s a : Nat)) := hM.out.cell rfl
        have d1 : (wr.alloc (.cells #[.int .i64 q, .int .i64 (pSt s q), .int .i32 (pRu s q), .bool (pWr s q)] 71)).cell? ⟨w.heap.size + 1, 1, none⟩ = some (.int .i64 CO) := hM.out.cell rfl
        have d2 : (wr.alloc (.cells #[.int .i64 q, .int .i64 (pSt s q), .int .i32 (pRu s q), .bool (pWr s q)] 71)).cell? ⟨w.heap.size + 1, 2, none⟩ = some (.int .i64 PT) := hM.out.cell rfl
        have d3 : (wr.alloc (.cells #[.int .i64 q, .int .i64 (pSt s q), .int .i32 (pRu s q), .bool (pWr s q)] 71)).cell? ⟨w.heap.size + 1, 3, none⟩ = some (.int .i64 UN) := hM.out.cell rfl
        have e0 : (wr.alloc (.cells #[.int .i64 q, .int .i64 (pSt s q), .int .i32 (pRu s q), .bool (pWr s q)] 71)).cell? ⟨w.heap.size, 0, none⟩ = some (.int .i64 0) := hZ.out.cell rfl
        have e1 : (wr.alloc (.cells #[.int .i64 q, .int .i64 (pSt s q), .int .i32 (pRu s q), .bool (pWr s q)] 71)).cell? ⟨w.heap.size, 1, none⟩ = some (.int .i64 0) := hZ.out.cell rfl
        have e2 : (wr.alloc (.cells #[.int .i64 q, .int .i64 (pSt s q), .int .i32 (pRu s q), .bool (pWr s q)] 71)).cell? ⟨w.heap.size, 2, none⟩ = some (.int .i64 0) := hZ.out.cell rfl
        have e3 : (wr.alloc (.cells #[.int .i64 q, .int .i64 (pSt s q), .int .i32 (pRu s q), .bool (pWr s q)] 71)).cell? ⟨w.heap.size, 3, none⟩ = some (.int .i64 0) := hZ.out.cell rfl
        have y0 := hZ.out.frozen (o := 0)
        have y1 := hZ.out.frozen (o := 1)
        have y2 := hZ.out.frozen (o := 2)
        have y3 := hZ.out.frozen (o := 3)
        have BF : Hid (Below w.heap.size w (((((wr.alloc (.cells #[.int .i64 q, .int .i64 (pSt s q), .int .i32 (pRu s q), .bool (pWr s q)] 71)).setCell ⟨w.heap.size, 0, none⟩ (.int .i64 (cnt s a : Nat))).setCell ⟨w.heap.size, 1, none⟩ (.int .i64 CO)).setCell ⟨w.heap.size, 2, none⟩ (.int .i64 PT)).setCell ⟨w.heap.size, 3, none⟩ (.int .i64 UN))) := (((hB.out.setCell (by simp) _).setCell (by simp) _).setCell (by simp) _).setCell (by simp) _
        have ZF : Hid (Bl (((((wr.alloc (.cells #[.int .i64 q, .int .i64 (pSt s q), .int .i32 (pRu s q), .bool (pWr s q)] 71)).setCell ⟨w.heap.size, 0, none⟩ (.int .i64 (cnt s a : Nat))).setCell ⟨w.heap.size, 1, none⟩ (.int .i64 CO)).setCell ⟨w.heap.size, 2, none⟩ (.int .i64 PT)).setCell ⟨w.heap.size, 3, none⟩ (.int .i64 UN)) w.heap.size 52 #[.int .i64 (cnt s a : Nat), .int .i64 CO, .int .i64 PT, .int .i64 UN]) := (((hZ.out.set 0 (.int .i64 (cnt s a : Nat))).set 1 (.int .i64 CO)).set 2 (.int .i64 PT)).set 3 (.int .i64 UN)
        clear hI hM hZ hO hB HF
        go_wp2
        have k0 := ZF.out.cell (o := 0) (v := .int .i64 (cnt s a : Nat)) rfl
        have k1 := ZF.out.cell (o := 1) (v := .int .i64 CO) rfl
        have k2 := ZF.out.cell (o := 2) (v := .int .i64 PT) rfl
        have k3 := ZF.out.cell (o := 3) (v := .int .i64 UN) rfl
        refine bodyPost_ret (v := .tuple #[.agg #[.int .i64 (cnt s a : Nat), .int .i64 CO, .int .i64 PT, .int .i64 UN], .int .i64 0]) ?_ rfl ⟨by rw [HR.out], BF.out⟩
        simp [results, Tryd.results25, go_sem, k0, k1, k2, k3]
      · have hN := unR_le (pRu s q)
        obtain ⟨N, hNN⟩ : ∃ N : Int, ((unR (pRu s q) : Nat) : Int) = N := ⟨_, rfl⟩
        have n0 : 0 ≤ N := by omega
        have n1 : N ≤ 2 := by omega
        have KU : Hid (∀ W, Calls Tryd.prog 45 #[.int .i32 (pRu s q : Nat)] W fun e w' => e = .returned (.int .i64 N) ∧ w' = W) := fun W => by
          have := runits_any1 (pRu s q) W
          rw [hNN] at this
          exact this
        have HK : Hid (k < (poss s).length) := hlt
        have al : Below wr.heap.size wr (wr.alloc (.cells #[.int .i64 q, .int .i64 (pSt s q), .int .i32 (pRu s q), .bool (pWr s q)] 71)) := (Below.refl _ _).alloc (Nat.le_refl _) _
        have p4 : Bl (wr.alloc (.cells #[.int .i64 q, .int .i64 (pSt s q), .int .i32 (pRu s q), .bool (pWr s q)] 71)) (w.heap.size + 1) 52 #[.int .i64 (cnt s a : Nat), .int .i64 CO, .int .i64 PT, .int .i64 UN] := hM.out.later al
        have pc2 : (wr.alloc (.cells #[.int .i64 q, .int .i64 (pSt s q), .int .i32 (pRu s q), .bool (pWr s q)] 71)).cell? ⟨w.heap.size + 1, 2, none⟩ = some (.int .i64 PT) := p4.cell rfl
        have pf2 := p4.frozen (o := 2)
        have sz : (wr.setCell ⟨w.heap.size + 1, 2, none⟩ (.int .i64 (PT + 1))).heap.size = wr.heap.size := by simp
        have al2 : Below (wr.setCell ⟨w.heap.size + 1, 2, none⟩ (.int .i64 (PT + 1))).heap.size (wr.setCell ⟨w.heap.size + 1, 2, none⟩ (.int .i64 (PT + 1))) ((wr.setCell ⟨w.heap.size + 1, 2, none⟩ (.int .i64 (PT + 1))).alloc (.cells #[.int .i64 q, .int .i64 (pSt s q), .int .i32 (pRu s q), .bool (pWr s q)] 71)) := (Below.refl _ _).alloc (Nat.le_refl _) _
        have m4 : Bl ((wr.setCell ⟨w.heap.size + 1, 2, none⟩ (.int .i64 (PT + 1))).alloc (.cells #[.int .i64 q, .int .i64 (pSt s q), .int .i32 (pRu s q), .bool (pWr s q)] 71)) (w.heap.size + 1) 52 #[.int .i64 (cnt s a : Nat), .int .i64 CO, .int .i64 (PT + 1), .int .i64 UN] := (hM.out.set 2 (.int .i64 (PT + 1))).later al2
        have mZ : Bl ((wr.setCell ⟨w.heap.size + 1, 2, none⟩ (.int .i64 (PT + 1))).alloc (.cells #[.int .i64 q, .int .i64 (pSt s q), .int .i32 (pRu s q), .bool (pWr s q)] 71)) w.heap.size 52 zeC := (hZ.out.other (by omega) _).later al2
        have mX : Bl ((wr.setCell ⟨w.heap.size + 1, 2, none⟩ (.int .i64 (PT + 1))).alloc (.cells #[.int .i64 q, .int .i64 (pSt s q), .int .i32 (pRu s q), .bool (pWr s q)] 71)) wr.heap.size 71 #[.int .i64 q, .int .i64 (pSt s q), .int .i32 (pRu s q), .bool (pWr s q)] := by
          have h := World.alloc_heap_new (wr.setCell ⟨w.heap.size + 1, 2, none⟩ (.int .i64 (PT + 1))) (.cells #[.int .i64 q, .int .i64 (pSt s q), .int .i32 (pRu s q), .bool (pWr s q)] 71)
          rw [sz] at h
          exact h
        have mO : Hid (((wr.setCell ⟨w.heap.size + 1, 2, none⟩ (.int .i64 (PT + 1))).alloc (.cells #[.int .i64 q, .int .i64 (pSt s q), .int .i32 (pRu s q), .bool (pWr s q)] 71)).ownsRow (w.heap.size + 2) 71 4 (.slice (some ⟨g, 0, none⟩) (poss s).length c1) (poss s).length (pcsC s (poss s))) := owns_below (owns_at hO.out fun b hb1 _ => Below.heap_setCell _ _ _ b (by simp; omega)) al2
        have B2 : Hid (Below w.heap.size w ((wr.setCell ⟨w.heap.size + 1, 2, none⟩ (.int .i64 (PT + 1))).alloc (.cells #[.int .i64 q, .int .i64 (pSt s q), .int .i32 (pRu s q), .bool (pWr s q)] 71))) := (hB.out.setCell (by simp) _).alloc (by rw [sz]; exact hwz) _
        clear al2 sz
        clear hM hZ hO hB hq hq0 hN p4 al
        go_wp2_with fail
        generalize ((wr.setCell ⟨w.heap.size + 1, 2, none⟩ (.int .i64 (PT + 1))).alloc (.cells #[.int .i64 q, .int .i64 (pSt s q), .int .i32 (pRu s q), .bool (pWr s q)] 71)) = W2 at *
        clear c0 c1' c2 c3 pc2 pf2
        have d1 : W2.cell? ⟨w.heap.size + 1, 1, none⟩ = some (.int .i64 CO) := m4.cell rfl
        have d3 : W2.cell? ⟨w.heap.size + 1, 3, none⟩ = some (.int .i64 UN) := m4.cell rfl
        have f1 := m4.frozen (o := 1)
        have f3 := m4.frozen (o := 3)
        have x0 : W2.cell? ⟨wr.heap.size, 0, none⟩ = some (.int .i64 q) := mX.cell rfl
        have x2 : W2.cell? ⟨wr.heap.size, 2, none⟩ = some (.int .i32 (pRu s q)) := mX.cell rfl
        have wz : IntKind.i64.wrap (UN + N) = UN + N := IntWalk.i64_in _ (by omega)
        by_cases hlq : lst s a ≤ q
        · have FIN : Hid (∀ W', Below ((W2.setCell ⟨w.heap.size + 1, 3, none⟩ (.int .i64 (UN + N))).setCell ⟨w.heap.size + 1, 1, none⟩ (.int .i64 (CO + 1))).heap.size ((W2.setCell ⟨w.heap.size + 1, 3, none⟩ (.int .i64 (UN + N))).setCell ⟨w.heap.size + 1, 1, none⟩ (.int .i64 (CO + 1))) W' → Bl W' (w.heap.size + 1) 52 #[.int .i64 (cnt s a : Nat), .int .i64 (CO + 1), .int .i64 (PT + 1), .int .i64 (UN + N)] ∧ Bl W' w.heap.size 52 zeC ∧ W'.ownsRow (w.heap.size + 2) 71 4 (.slice (some ⟨g, 0, none⟩) (poss s).length c1) (poss s).length (pcsC s (poss s)) ∧ Below w.heap.size w W') := fun W' hb => by
            have q4 : Bl ((W2.setCell ⟨w.heap.size + 1, 3, none⟩ (.int .i64 (UN + N))).setCell ⟨w.heap.size + 1, 1, none⟩ (.int .i64 (CO + 1))) (w.heap.size + 1) 52 #[.int .i64 (cnt s a : Nat), .int .i64 (CO + 1), .int .i64 (PT + 1), .int .i64 (UN + N)] := ((m4.set 3 (.int .i64 (UN + N))).set 1 (.int .i64 (CO + 1)))
            have qz : Bl ((W2.setCell ⟨w.heap.size + 1, 3, none⟩ (.int .i64 (UN + N))).setCell ⟨w.heap.size + 1, 1, none⟩ (.int .i64 (CO + 1))) w.heap.size 52 zeC := ((mZ.other (o := 3) (by omega) _).other (o := 1) (by omega) _)
            have qo : ((W2.setCell ⟨w.heap.size + 1, 3, none⟩ (.int .i64 (UN + N))).setCell ⟨w.heap.size + 1, 1, none⟩ (.int .i64 (CO + 1))).ownsRow (w.heap.size + 2) 71 4 (.slice (some ⟨g, 0, none⟩) (poss s).length c1) (poss s).length (pcsC s (poss s)) := owns_at mO.out fun b hb1 _ => ((Below.heap_setCell _ _ _ b (by simp; omega)).trans (Below.heap_setCell _ _ _ b (by simp; omega)))
            have qb : Below w.heap.size w ((W2.setCell ⟨w.heap.size + 1, 3, none⟩ (.int .i64 (UN + N))).setCell ⟨w.heap.size + 1, 1, none⟩ (.int .i64 (CO + 1))) := ((B2.out.setCell (by simp) _).setCell (by simp) _)
            exact ⟨q4.later hb, qz.later hb, owns_below qo hb, qb.trans (hb.mono qb.size)⟩
          have HI2 : Hid (CO + 1 = coR ((poss s).take (k + 1)) (lst s a) ∧ PT + 1 = ((k + 1 : Nat) : Int) ∧ UN + N = unS s ((poss s).take (k + 1)) ∧ ∀ j ∈ (poss s).take (k + 1), j < a) := by
            unfold Hid
            have h := hI.out
            rw [tk, coR_app, unS_app, if_pos hlq]
            refine ⟨by omega, by omega, by omega, fun j hj => ?_⟩
            rcases List.mem_append.1 hj with h1 | h1
            · exact h.2.2.2 j h1
            · rw [List.mem_singleton.1 h1]; omega
          have F1 : Hid (∀ W', Below ((W2.setCell ⟨w.heap.size + 1, 3, none⟩ (.int .i64 (UN + N))).setCell ⟨w.heap.size + 1, 1, none⟩ (.int .i64 (CO + 1))).heap.size ((W2.setCell ⟨w.heap.size + 1, 3, none⟩ (.int .i64 (UN + N))).setCell ⟨w.heap.size + 1, 1, none⟩ (.int .i64 (CO + 1))) W' → Hid (Bl W' (w.heap.size + 1) 52 #[.int .i64 (cnt s a : Nat), .int .i64 (CO + 1), .int .i64 (PT + 1), .int .i64 (UN + N)])) := fun W' hb => (FIN.out W' hb).1
          have F2 : Hid (∀ W', Below ((W2.setCell ⟨w.heap.size + 1, 3, none⟩ (.int .i64 (UN + N))).setCell ⟨w.heap.size + 1, 1, none⟩ (.int .i64 (CO + 1))).heap.size ((W2.setCell ⟨w.heap.size + 1, 3, none⟩ (.int .i64 (UN + N))).setCell ⟨w.heap.size + 1, 1, none⟩ (.int .i64 (CO + 1))) W' → Hid (Bl W' w.heap.size 52 zeC)) := fun W' hb => (FIN.out W' hb).2.1
          have F3 : Hid (∀ W', Below ((W2.setCell ⟨w.heap.size + 1, 3, none⟩ (.int .i64 (UN + N))).setCell ⟨w.heap.size + 1, 1, none⟩ (.int .i64 (CO + 1))).heap.size ((W2.setCell ⟨w.heap.size + 1, 3, none⟩ (.int .i64 (UN + N))).setCell ⟨w.heap.size + 1, 1, none⟩ (.int .i64 (CO + 1))) W' → Hid (W'.ownsRow (w.heap.size + 2) 71 4 (.slice (some ⟨g, 0, none⟩) (poss s).length c1) (poss s).length (pcsC s (poss s)))) := fun W' hb => (FIN.out W' hb).2.2.1
          have F4 : Hid (∀ W', Below ((W2.setCell ⟨w.heap.size + 1, 3, none⟩ (.int .i64 (UN + N))).setCell ⟨w.heap.size + 1, 1, none⟩ (.int .i64 (CO + 1))).heap.size ((W2.setCell ⟨w.heap.size + 1, 3, none⟩ (.int .i64 (UN + N))).setCell ⟨w.heap.size + 1, 1, none⟩ (.int .i64 (CO + 1))) W' → Hid (Below w.heap.size w W')) := fun W' hb => (FIN.out W' hb).2.2.2
          clear FIN
          clear hI m4 mZ mO B2 hNN hka tk mX
          have hmx : Tryd.prog.follows .mixedOrders = true := by kernel_rfl
          go_region_with_o (go_at_call 45; refine (KU.out _).mono ?_; rintro e w7 ⟨rfl, rfl⟩)
          all_goals go_wp2
          all_goals refine ⟨⟨k + 1, CO + 1, PT + 1, UN + N, ?_, ?_, HI2.out, F1.out _ ⟨rfl, rfl, rfl, Nat.le_refl _, fun _ _ => rfl⟩, F2.out _ ⟨rfl, rfl, rfl, Nat.le_refl _, fun _ _ => rfl⟩, F3.out _ ⟨rfl, rfl, rfl, Nat.le_refl _, fun _ _ => rfl⟩, F4.out _ ⟨rfl, rfl, rfl, Nat.le_refl _, fun _ _ => rfl⟩⟩, ?_⟩
          all_goals first | go_num | (have := HK.out; omega) | (have := HK.out; simp [RowKit.intOf]; omega)
        · have FIN : Hid (∀ W', Below (W2.setCell ⟨w.heap.size + 1, 3, none⟩ (.int .i64 (UN + N))).heap.size (W2.setCell ⟨w.heap.size + 1, 3, none⟩ (.int .i64 (UN + N))) W' → Bl W' (w.heap.size + 1) 52 #[.int .i64 (cnt s a : Nat), .int .i64 (CO), .int .i64 (PT + 1), .int .i64 (UN + N)] ∧ Bl W' w.heap.size 52 zeC ∧ W'.ownsRow (w.heap.size + 2) 71 4 (.slice (some ⟨g, 0, none⟩) (poss s).length c1) (poss s).length (pcsC s (poss s)) ∧ Below w.heap.size w W') := fun W' hb => by
            have q4 : Bl (W2.setCell ⟨w.heap.size + 1, 3, none⟩ (.int .i64 (UN + N))) (w.heap.size + 1) 52 #[.int .i64 (cnt s a : Nat), .int .i64 (CO), .int .i64 (PT + 1), .int .i64 (UN + N)] := (m4.set 3 (.int .i64 (UN + N)))
            have qz : Bl (W2.setCell ⟨w.heap.size + 1, 3, none⟩ (.int .i64 (UN + N))) w.heap.size 52 zeC := (mZ.other (o := 3) (by omega) _)
            have qo : (W2.setCell ⟨w.heap.size + 1, 3, none⟩ (.int .i64 (UN + N))).ownsRow (w.heap.size + 2) 71 4 (.slice (some ⟨g, 0, none⟩) (poss s).length c1) (poss s).length (pcsC s (poss s)) := owns_at mO.out fun b hb1 _ => (Below.heap_setCell _ _ _ b (by simp; omega))
            have qb : Below w.heap.size w (W2.setCell ⟨w.heap.size + 1, 3, none⟩ (.int .i64 (UN + N))) := (B2.out.setCell (by simp) _)
            exact ⟨q4.later hb, qz.later hb, owns_below qo hb, qb.trans (hb.mono qb.size)⟩
          have HI2 : Hid (CO = coR ((poss s).take (k + 1)) (lst s a) ∧ PT + 1 = ((k + 1 : Nat) : Int) ∧ UN + N = unS s ((poss s).take (k + 1)) ∧ ∀ j ∈ (poss s).take (k + 1), j < a) := by
            unfold Hid
            have h := hI.out
            rw [tk, coR_app, unS_app, if_neg hlq]
            refine ⟨by omega, by omega, by omega, fun j hj => ?_⟩
            rcases List.mem_append.1 hj with h1 | h1
            · exact h.2.2.2 j h1
            · rw [List.mem_singleton.1 h1]; omega
          have F1 : Hid (∀ W', Below (W2.setCell ⟨w.heap.size + 1, 3, none⟩ (.int .i64 (UN + N))).heap.size (W2.setCell ⟨w.heap.size + 1, 3, none⟩ (.int .i64 (UN + N))) W' → Hid (Bl W' (w.heap.size + 1) 52 #[.int .i64 (cnt s a : Nat), .int .i64 (CO), .int .i64 (PT + 1), .int .i64 (UN + N)])) := fun W' hb => (FIN.out W' hb).1
          have F2 : Hid (∀ W', Below (W2.setCell ⟨w.heap.size + 1, 3, none⟩ (.int .i64 (UN + N))).heap.size (W2.setCell ⟨w.heap.size + 1, 3, none⟩ (.int .i64 (UN + N))) W' → Hid (Bl W' w.heap.size 52 zeC)) := fun W' hb => (FIN.out W' hb).2.1
          have F3 : Hid (∀ W', Below (W2.setCell ⟨w.heap.size + 1, 3, none⟩ (.int .i64 (UN + N))).heap.size (W2.setCell ⟨w.heap.size + 1, 3, none⟩ (.int .i64 (UN + N))) W' → Hid (W'.ownsRow (w.heap.size + 2) 71 4 (.slice (some ⟨g, 0, none⟩) (poss s).length c1) (poss s).length (pcsC s (poss s)))) := fun W' hb => (FIN.out W' hb).2.2.1
          have F4 : Hid (∀ W', Below (W2.setCell ⟨w.heap.size + 1, 3, none⟩ (.int .i64 (UN + N))).heap.size (W2.setCell ⟨w.heap.size + 1, 3, none⟩ (.int .i64 (UN + N))) W' → Hid (Below w.heap.size w W')) := fun W' hb => (FIN.out W' hb).2.2.2
          clear FIN
          clear hI m4 mZ mO B2 hNN hka tk mX
          have hmx : Tryd.prog.follows .mixedOrders = true := by kernel_rfl
          go_region_with_o (go_at_call 45; refine (KU.out _).mono ?_; rintro e w7 ⟨rfl, rfl⟩)
          all_goals go_wp2
          all_goals refine ⟨⟨k + 1, CO, PT + 1, UN + N, ?_, ?_, HI2.out, F1.out _ ⟨rfl, rfl, rfl, Nat.le_refl _, fun _ _ => rfl⟩, F2.out _ ⟨rfl, rfl, rfl, Nat.le_refl _, fun _ _ => rfl⟩, F3.out _ ⟨rfl, rfl, rfl, Nat.le_refl _, fun _ _ => rfl⟩, F4.out _ ⟨rfl, rfl, rfl, Nat.le_refl _, fun _ _ => rfl⟩⟩, ?_⟩
          all_goals first | go_num | (have := HK.out; omega) | (have := HK.out; simp [RowKit.intOf]; omega)
    · have hlti : ¬ (k : Int) < ((poss s).length : Int) := by omega
      have hkk : k = (poss s).length := by omega
      have HF : Hid (ahead s a = (poss s).take k) := by
        unfold Hid ahead
        have := tw_is (fun j => decide (j < a)) ((poss s).take k) [] (fun x hx => by simpa using hI.out.2.2.2 x hx) (fun x l h => by cases h)
        rw [List.append_nil] at this
        rw [hkk, List.take_length] at this ⊢
        exact this
      have HR : Hid (psC s (ahead s a) = #[.int .i64 (cnt s a : Nat), .int .i64 CO, .int .i64 PT, .int .i64 UN]) := by
        unfold Hid psC
        rw [HAF.out.2.1, HAF.out.2.2, HF.out, ← hI.out.1, ← hI.out.2.2.1, List.length_take, show ((min k (poss s).length : Nat) : Int) = PT by have := hI.out.2.1; omega]
      have d0 : wr.cell? ⟨w.heap.size + 1, 0, none⟩ = some (.int .i64 (cnt s a : Nat)) := hM.out.cell rfl
      have d1 : wr.cell? ⟨w.heap.size + 1, 1, none⟩ = some (.int .i64 CO) := hM.out.cell rfl
      have d2 : wr.cell? ⟨w.heap.size + 1, 2, none⟩ = some (.int .i64 PT) := hM.out.cell rfl
      have d3 : wr.cell? ⟨w.heap.size + 1, 3, none⟩ = some (.int .i64 UN) := hM.out.cell rfl
      have e0 : wr.cell? ⟨w.heap.size, 0, none⟩ = some (.int .i64 0) := hZ.out.cell rfl
      have e1 : wr.cell? ⟨w.heap.size, 1, none⟩ = some (.int .i64 0) := hZ.out.cell rfl
      have e2 : wr.cell? ⟨w.heap.size, 2, none⟩ = some (.int .i64 0) := hZ.out.cell rfl
      have e3 : wr.cell? ⟨w.heap.size, 3, none⟩ = some (.int .i64 0) := hZ.out.cell rfl
      have y0 := hZ.out.frozen (o := 0)
      have y1 := hZ.out.frozen (o := 1)
      have y2 := hZ.out.frozen (o := 2)
      have y3 := hZ.out.frozen (o := 3)
      have BF : Hid (Below w.heap.size w ((((wr.setCell ⟨w.heap.size, 0, none⟩ (.int .i64 (cnt s a : Nat))).setCell ⟨w.heap.size, 1, none⟩ (.int .i64 CO)).setCell ⟨w.heap.size, 2, none⟩ (.int .i64 PT)).setCell ⟨w.heap.size, 3, none⟩ (.int .i64 UN))) := (((hB.out.setCell (by simp) _).setCell (by simp) _).setCell (by simp) _).setCell (by simp) _
      have ZF : Hid (Bl ((((wr.setCell ⟨w.heap.size, 0, none⟩ (.int .i64 (cnt s a : Nat))).setCell ⟨w.heap.size, 1, none⟩ (.int .i64 CO)).setCell ⟨w.heap.size, 2, none⟩ (.int .i64 PT)).setCell ⟨w.heap.size, 3, none⟩ (.int .i64 UN)) w.heap.size 52 #[.int .i64 (cnt s a : Nat), .int .i64 CO, .int .i64 PT, .int .i64 UN]) := (((hZ.out.set 0 (.int .i64 (cnt s a : Nat))).set 1 (.int .i64 CO)).set 2 (.int .i64 PT)).set 3 (.int .i64 UN)
      clear hI hM hZ hO hB HF
      go_wp2
      have k0 := ZF.out.cell (o := 0) (v := .int .i64 (cnt s a : Nat)) rfl
      have k1 := ZF.out.cell (o := 1) (v := .int .i64 CO) rfl
      have k2 := ZF.out.cell (o := 2) (v := .int .i64 PT) rfl
      have k3 := ZF.out.cell (o := 3) (v := .int .i64 UN) rfl
      refine bodyPost_ret (v := .tuple #[.agg #[.int .i64 (cnt s a : Nat), .int .i64 CO, .int .i64 PT, .int .i64 UN], .int .i64 0]) ?_ rfl ⟨by rw [HR.out], BF.out⟩
      simp [results, Tryd.results25, go_sem, k0, k1, k2, k3]
end Go.Proofs.YtabofadjnbpjkabDoor

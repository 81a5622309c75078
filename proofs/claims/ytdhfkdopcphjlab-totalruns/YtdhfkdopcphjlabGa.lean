/-
  The contracts of NewSums, and of Add, Total and Count on a Sums. Conditions: the floats' bits fit; no more than 65536 are added.
-/
import Derived.Test.YtdhfkdopcphjlabEx2
import Derived.Test.YtdhfkdopcphjlabBt
import Derived.Test.YtdhfkdopcphjlabCm
namespace Go.Proofs.Ytdhfkdopcphjlab
open Go.RowKit
/-- What stands behind the sum: how many were added. -/
def cntR (n : Nat) : Nat → Option Value := fun j => if j = 71 then some (.int .i64 (n : Int)) else none
/-- Block b holds a Sums to which these were added. -/
def SmAt (w : World) (b : Nat) (bs : List Nat) : Prop := ExAt w b 73 (cntR bs.length) (exF bs) (exZ bs)
theorem SmAt.below {w w' : World} {b : Nat} {bs : List Nat} (h : SmAt w b bs) (hb : Below w.heap.size w w') : SmAt w' b bs := ExAt.below h hb
theorem SmAt.lt {w : World} {b : Nat} {bs : List Nat} (h : SmAt w b bs) : b < w.heap.size := ExAt.lt h
theorem SmAt.kept {w w' : World} {b c : Nat} {bs : List Nat} (h : SmAt w b bs) (hg : w.grownBy w' (some c)) (hc : b ≠ c) : SmAt w' b bs := by
  obtain ⟨cs, W, h1, h2⟩ := h
  refine ⟨cs, W, ?_, h2⟩
  rw [← h1]
  exact hg.block b (Array.getElem?_eq_some_iff.1 h1).1 (fun e => hc (by cases e; rfl))
theorem ExAt.count {w : World} {b n : Nat} {F : Fl} {Z : Int} (h : ExAt w b 73 (cntR n) F Z) : w.cell? ⟨b, 71, none⟩ = some (.int .i64 (n : Int)) := by
  obtain ⟨cs, W, h1, h2, h3, h4, h5⟩ := h
  rw [cell_of_row w b _ _ _ _ h1, mkW_high _ _ _ (by decide), h4 71 (by decide)]
  rfl
theorem ExAt.recount {w : World} {b n m : Nat} {F : Fl} {Z : Int} (h : ExAt w b 73 (cntR n) F Z) : ExAt (w.setCell ⟨b, 71, none⟩ (.int .i64 (m : Int))) b 73 (cntR m) F Z := by
  obtain ⟨cs, W, h1, h2, ⟨f0, f1, f2, f3, f4, f5⟩, h4, h5⟩ := h
  have hs : 71 < cs.size := by
    have := h4 71 (by decide)
    exact (Array.getElem?_eq_some_iff.1 (this.trans rfl : cs[71]? = some _)).1
  refine ⟨cs.setIfInBounds 71 (.int .i64 (m : Int)), W, ?_, h2, ⟨by simpa using f0, ?_, ?_, ?_, ?_, ?_⟩, fun j hj => ?_, h5⟩
  · rw [set_at _ h1, mkW_flag _ _ _ _ (by decide)]
  all_goals first | (rw [Array.getElem?_setIfInBounds, if_neg (by decide)]; assumption) | skip
  rw [Array.getElem?_setIfInBounds]
  by_cases e : 71 = j
  · subst e
    rw [if_pos rfl, if_pos hs]
    rfl
  · rw [if_neg e, h4 j hj]
    unfold cntR
    rw [if_neg (fun h => e h.symm), if_neg (fun h => e h.symm)]
theorem info73 : (Try.prog.info? 73).map (fun i => (i.zero, i.size)) = some (some (.agg (mkW ((Array.replicate 71 (.bool false)).push (.int .i64 0)) fun _ => 0)), 72) := by kernel_rfl
theorem sm_new (w : World) : SmAt (w.alloc (.cells (mkW ((Array.replicate 71 (.bool false)).push (.int .i64 0)) fun _ => 0) 73)) w.heap.size [] := by
  refine ⟨_, _, heap_alloc_last _ _, fun _ => by decide, ⟨by simp, rfl, rfl, rfl, rfl, rfl⟩, fun j hj => ?_, ?_⟩
  · unfold cntR
    by_cases e : j = 71
    · subst e; rfl
    · rw [if_neg e, Array.getElem?_eq_none (by simp; omega)]
  · have : val (fun _ => 0) 66 = 0 := (val_zero 66).2 fun _ _ => rfl
    rw [this]
    rfl
set_option maxRecDepth 100000 in
theorem snew_any (w : World) : Calls Try.prog 20 #[] w fun e w' => e = .returned (.pointer (some ⟨w.heap.size, 0, none⟩)) ∧ SmAt w' w.heap.size [] ∧ Below w.heap.size w w' := by
  obtain ⟨hz, hi⟩ := zero_of_info info73
  clear hi
  have E0 : Hid (SmAt (w.alloc (.cells (mkW ((Array.replicate 71 (.bool false)).push (.int .i64 0)) fun _ => 0) 73)) w.heap.size []) := sm_new w
  have B0 : Hid (Below w.heap.size w (w.alloc (.cells (mkW ((Array.replicate 71 (.bool false)).push (.int .i64 0)) fun _ => 0) 73))) := (Below.refl _ _).alloc (Nat.le_refl _) _
  go_enter Try.func20, Try.ntmps20
  go_wp2
  go_ret
  exact ⟨rfl, E0.out, B0.out⟩
set_option maxRecDepth 100000 in
theorem scount_any (b : Nat) (bs : List Nat) (w : World) (h : SmAt w b bs) : Calls Try.prog 23 #[.pointer (some ⟨b, 0, none⟩)] w fun e w' => e = .returned (.int .i64 (bs.length : Int)) ∧ Below w.heap.size w w' := by
  have hc := ExAt.count h
  clear h
  go_enter Try.func23, Try.ntmps23
  go_wp2
  go_ret
  exact ⟨rfl, Below.refl _ _⟩
set_option maxRecDepth 100000 in
theorem scount_nil (w : World) : Calls Try.prog 23 #[.pointer none] w fun e w' => e = .returned (.int .i64 0) ∧ Below w.heap.size w w' := by
  go_enter Try.func23, Try.ntmps23
  go_wp2
  go_ret
  exact ⟨rfl, Below.refl _ _⟩
set_option maxRecDepth 100000 in
theorem stotal_any (b : Nat) (bs : List Nat) (w : World) (hl : bs.length ≤ 65536) (h : SmAt w b bs) : Calls Try.prog 22 #[.pointer (some ⟨b, 0, none⟩)] w fun e w' => e = .returned (.float .f64 (exB bs)) ∧ Below w.heap.size w w' := by
  have k : Hid (Calls Try.prog 52 #[.pointer (some ⟨b, 0, none⟩)] w fun e w'' => e = .returned (.float .f64 (exB bs)) ∧ Below w.heap.size w w'') := sumR_any _ _ _ _ _ _ h (exZ_small hl)
  clear h hl
  generalize exB bs = X at *
  go_enter Try.func22, Try.ntmps22
  go_wp2_with fail
  refine k.out.mono ?_
  rintro e w1 ⟨rfl, b1⟩
  go_wp2
  go_ret
  exact ⟨rfl, b1⟩
set_option maxRecDepth 100000 in
theorem stotal_nil (w : World) : Calls Try.prog 22 #[.pointer none] w fun e w' => e = .returned (.float .f64 0) ∧ Below w.heap.size w w' := by
  go_enter Try.func22, Try.ntmps22
  go_wp2
  go_ret
  exact ⟨rfl, Below.refl _ _⟩
set_option maxRecDepth 100000 in
theorem sadd_nil (x : Nat) (w : World) : Calls Try.prog 21 #[.pointer none, .float .f64 x] w fun e w' => e = .returned (.int .i64 50) ∧ Below w.heap.size w w' := by
  go_enter Try.func21, Try.ntmps21
  go_wp2
  go_ret
  exact ⟨rfl, Below.refl _ _⟩
set_option maxRecDepth 100000 in
set_option maxHeartbeats 600000 in
theorem sadd_any (b x : Nat) (bs : List Nat) (w : World) (hl : bs.length < 65536) (hx : x < 18446744073709551616) (h : SmAt w b bs) : Calls Try.prog 21 #[.pointer (some ⟨b, 0, none⟩), .float .f64 x] w fun e w' => e = .returned (.int .i64 0) ∧ SmAt w' b (bs ++ [x]) ∧ w.grownBy w' (some b) := by
  have k := add_any x 4607182418800017408 b 73 _ _ _ w hx (by decide) h
  have hc := ExAt.count h
  have hn : ((bs.length : Int) == 65536) = false := by simp; omega
  have hfin : Hid (∀ w1 : World, ExAt w1 b 73 (cntR bs.length) ((exF bs).add (pt 52 11 1023 x) one64) (exZ bs + prod (pt 52 11 1023 x) one64) → SmAt (w1.setCell ⟨b, 71, none⟩ (.int .i64 ((bs.length + 1 : Nat) : Int))) b (bs ++ [x])) := fun w1 h1 => by
    unfold SmAt
    rw [exF_snoc, exZ_snoc, List.length_append]
    exact h1.recount
  replace k : Hid (Calls Try.prog 51 #[.pointer (some ⟨b, 0, none⟩), .float .f64 x, .float .f64 4607182418800017408] w (AddDone b 73 (cntR bs.length) ((exF bs).add (pt 52 11 1023 x) one64) (exZ bs + prod (pt 52 11 1023 x) one64) w)) := k
  have hlt : b < w.heap.size := SmAt.lt h
  have hl2 : (bs.length : Int) < 65536 := by omega
  clear h hl
  generalize bs.length = n at *
  generalize (exF bs).add (pt 52 11 1023 x) one64 = F at *
  generalize exZ bs + prod (pt 52 11 1023 x) one64 = Z at *
  go_enter Try.func21, Try.ntmps21
  go_wp2_with fail
  refine Calls.mono k.out ?_
  rintro e w1 ⟨rfl, E1, G1⟩
  have hc1 := ExAt.count E1
  have hf1 := E1.frozen 71
  have hE := hfin.out w1 E1
  replace hE : Hid (SmAt (w1.setCell ⟨b, 71, none⟩ (.int .i64 ((n + 1 : Nat) : Int))) b (bs ++ [x])) := hE
  have G2 : Hid (w.grownBy (w1.setCell ⟨b, 71, none⟩ (.int .i64 ((n + 1 : Nat) : Int))) (some b)) := ⟨G1.os, G1.tape, G1.output, by simpa using G1.size, fun k hk hne => by
    rw [← G1.block k hk hne]
    have : k ≠ b := fun e => hne (by rw [e])
    simp [World.setCell, Array.getElem?_modify, Ne.symm this]⟩
  clear k E1 G1 hfin hc
  go_wp2
  go_ret
  rw [show ((n : Int) + 1) = ((n + 1 : Nat) : Int) by omega]
  exact ⟨rfl, hE.out, G2.out⟩
theorem run_slc {w : World} {l : List (Nat × Value)} {o : Oper} {x : Operand} {lo hi mx : Option Operand} {t : TypeId} (ho : o.op = .slice t x lo hi mx) {v : Value} (hr : (Instr.sliceAt t (rho l x) (lo.map (rho l)) (hi.map (rho l)) (mx.map (rho l))).run Try.prog w = .ok v w) : (execOp (rho l) o).run Try.prog w = .ok (.value v) w := by
  unfold execOp
  simp only [ho, Sem.run_bind, Sem.run_pure, Result.andThen_ok, hr]
theorem run_upto (w : World) (p : Option Addr) (n c at0 : Nat) (h : at0 ≤ n) (hc : n ≤ c) (hp : p = none → c = 0) : (Instr.sliceAt 24 (.slice p n c) none (some (.int .i64 (at0 : Int))) none).run Try.prog w = .ok (.slice p at0 c) w := by
  have h1 : (at0 : Int) ≤ (c : Int) := by omega
  cases p with
  | none =>
    obtain rfl := hp rfl
    obtain rfl : n = 0 := by omega
    obtain rfl : at0 = 0 := by omega
    simp [Instr.sliceAt, Instr.slice, go_sem, run_underlying Try.underlying24]
  | some a => simp [Instr.sliceAt, Instr.slice, go_sem, run_underlying Try.underlying24, h1]
theorem Rd.upto {w : World} {p : Option Addr} {n c k : Nat} {bs : List Nat} (h : Rd w (.slice p n c) (flt bs)) : Rd w (.slice p (bs.take k).length c) (flt (bs.take k)) := by
  obtain ⟨a, c', e, hc⟩ := h
  cases e
  refine ⟨p, c, by rw [flt_len], fun hp => ?_⟩
  rw [flt_len, List.length_take] at hp
  obtain ⟨g, off, rfl, hd⟩ := hc (by rw [flt_len]; omega)
  refine ⟨g, off, rfl, fun j hj => ?_⟩
  rw [flt_len] at hj
  have hj2 := hj
  rw [List.length_take] at hj2
  rw [hd j (by rw [flt_len]; omega), flt_get _ j hj, flt_get _ j (by omega)]
  simp [List.getD, show j < k by omega]
theorem take_more {bs : List Nat} {k : Nat} (h : ¬ k < bs.length) : bs.take (k + 1) = bs.take k := by rw [List.take_of_length_le (by omega), List.take_of_length_le (by omega)]
theorem take_lt {bs : List Nat} (hb : ∀ b ∈ bs, b < 18446744073709551616) (k : Nat) : ∀ b ∈ bs.take k, b < 18446744073709551616 := fun b h => hb b (List.mem_of_mem_take h)
theorem tot_same (bs : List Nat) (w : World) : Calls Try.prog 24 #[.float .f64 (exB bs), .float .f64 (rxB bs)] w fun e w' => e = .returned (.bool true) ∧ Below w.heap.size w w' := (same_any _ _ w (same_by (ex_is bs) (rx_is bs))).mono fun e w' h => ⟨h.1, by rw [h.2]; exact Below.refl _ _⟩
set_option maxRecDepth 100000 in
set_option maxHeartbeats 8000000 in
theorem law_gathers (ls ms : List Nat) (v u : Value) (w : World) (hbl : ∀ b ∈ ls, b < 18446744073709551616) (hbm : ∀ b ∈ ms, b < 18446744073709551616) (hll : ls.length ≤ 17592186044416) (hlm : ms.length ≤ 17592186044416) (hl : Rd w v (flt ls)) (hm : Rd w u (flt ms)) (hcl : ∀ p n c, v = .slice p n c → n ≤ c ∧ (p = none → c = 0)) (hcm : ∀ p n c, u = .slice p n c → n ≤ c ∧ (p = none → c = 0)) : Calls Try.prog 4 #[v, u] w fun e w' => e = .returned (.bool true) ∧ Below w.heap.size w w' := by
  have RL : Hid (Rd w v (flt ls)) := hl
  have RM : Hid (Rd w u (flt ms)) := hm
  obtain ⟨pl, cl, rfl, hdl⟩ := hl
  obtain ⟨pm, cm, rfl, hdm⟩ := hm
  simp only [flt_len] at hdl hdm RL RM hcl hcm ⊢
  obtain ⟨hcl1, hcl2⟩ := hcl _ _ _ rfl
  obtain ⟨hcm1, hcm2⟩ := hcm _ _ _ rfl
  clear hcl hcm
  replace hdl : Hid (0 < ls.length → ∃ g off, pl = some ⟨g, off, none⟩ ∧ ∀ j, j < ls.length → w.cell? ⟨g, off + j, none⟩ = some ((flt ls).getD j undef)) := hdl
  replace hdm : Hid (0 < ms.length → ∃ g off, pm = some ⟨g, off, none⟩ ∧ ∀ j, j < ms.length → w.cell? ⟨g, off + j, none⟩ = some ((flt ms).getD j undef)) := hdm
  replace hbl : Hid (∀ b ∈ ls, b < 18446744073709551616) := hbl
  replace hbm : Hid (∀ b ∈ ms, b < 18446744073709551616) := hbm
  replace hcl1 : Hid (ls.length ≤ cl) := hcl1
  replace hcm1 : Hid (ms.length ≤ cm) := hcm1
  replace hcl2 : Hid (pl = none → cl = 0) := hcl2
  replace hcm2 : Hid (pm = none → cm = 0) := hcm2
  have hll2 : Hid (ls.length ≤ 17592186044416) := hll
  have hlm2 : Hid (ms.length ≤ 17592186044416) := hlm
  go_enter Try.func4, Try.ntmps4
  go_wp2_with (go_at_call 20; refine (snew_any _).mono ?_)
  first | rintro e w1 rfl s1 b1 | rintro e w1 ⟨rfl, s1, b1⟩
  replace s1 : Hid (SmAt w1 w.heap.size []) := s1
  replace b1 : Hid (Below w.heap.size w w1) := b1
  have z1 : Hid (w.heap.size < w1.heap.size) := s1.out.lt
  go_wp2_with (go_at_call 20; refine (snew_any _).mono ?_)
  first | rintro e w2 rfl s2 b2 | rintro e w2 ⟨rfl, s2, b2⟩
  replace s1 : Hid (SmAt w2 w.heap.size []) := s1.out.below b2
  replace s2 : Hid (SmAt w2 w1.heap.size []) := s2
  replace b1 : Hid (Below w.heap.size w w2) := b1.out.trans (b2.mono b1.out.size)
  clear b2
  go_wp2_with (go_at_call 9; refine (awake_any _).mono ?_)
  first | rintro e w3 rfl b3 | rintro e w3 ⟨rfl, b3⟩
  replace s1 : Hid (SmAt w3 w.heap.size []) := s1.out.below b3
  replace s2 : Hid (SmAt w3 w1.heap.size []) := s2.out.below b3
  replace b1 : Hid (Below w.heap.size w w3) := b1.out.trans (b3.mono b1.out.size)
  clear b3
  go_wp2_with (go_at_call 21; refine (sadd_nil _ _).mono ?_)
  first | rintro e w4 rfl b4 | rintro e w4 ⟨rfl, b4⟩
  replace s1 : Hid (SmAt w4 w.heap.size []) := s1.out.below b4
  replace s2 : Hid (SmAt w4 w1.heap.size []) := s2.out.below b4
  replace b1 : Hid (Below w.heap.size w w4) := b1.out.trans (b4.mono b1.out.size)
  clear b4
  go_wp2_with (go_at_call 22; refine (stotal_nil _).mono ?_)
  first | rintro e w5 rfl b5 | rintro e w5 ⟨rfl, b5⟩
  replace s1 : Hid (SmAt w5 w.heap.size []) := s1.out.below b5
  replace s2 : Hid (SmAt w5 w1.heap.size []) := s2.out.below b5
  replace b1 : Hid (Below w.heap.size w w5) := b1.out.trans (b5.mono b1.out.size)
  clear b5
  go_wp2_with (go_at_call 23; refine (scount_nil _).mono ?_)
  first | rintro e w6 rfl b6 | rintro e w6 ⟨rfl, b6⟩
  replace s1 : Hid (SmAt w6 w.heap.size []) := s1.out.below b6
  replace s2 : Hid (SmAt w6 w1.heap.size []) := s2.out.below b6
  replace b1 : Hid (Below w.heap.size w w6) := b1.out.trans (b6.mono b1.out.size)
  clear b6
  by_cases c1 : 300 < ls.length
  · have d1 : decide ((300 : Int) < (ls.length : Int)) = true := decide_eq_true (by omega)
    go_wp2
    go_ret
    exact ⟨rfl, b1.out⟩
  by_cases c2 : 300 < ms.length
  · have d1 : decide ((300 : Int) < (ls.length : Int)) = false := decide_eq_false (by omega)
    have d2 : decide ((300 : Int) < (ms.length : Int)) = true := decide_eq_true (by omega)
    clear c1
    go_wp2
    go_ret
    exact ⟨rfl, b1.out⟩
  have d1 : decide ((300 : Int) < (ls.length : Int)) = false := decide_eq_false (by omega)
  have d2 : decide ((300 : Int) < (ms.length : Int)) = false := decide_eq_false (by omega)
  have n1 : Hid (ls.length ≤ 300) := by rw [Hid]; omega
  have n2 : Hid (ms.length ≤ 300) := by rw [Hid]; omega
  clear c1 c2 hll hlm
  go_wp2_with fail
  go_loopw [8] (fun x wr => ∃ k : Nat, k ≤ ls.length + ms.length ∧ x = .int .i64 (k : Int) ∧ Hid (SmAt wr w.heap.size (ls.take k)) ∧ Hid (SmAt wr w1.heap.size (ms.take k)) ∧ Hid (Below w.heap.size w wr)) (fun x _ => ls.length + ms.length - (intOf x).toNat)
  case atStart => exact ⟨0, by omega, rfl, by rw [List.take_zero]; exact s1, by rw [List.take_zero]; exact s2, b1⟩
  case round =>
    clear s1 s2 b1 d1 d2
    obtain ⟨k, hk, rfl, S1, S2, B⟩ := hrel
    replace hk : Hid (k ≤ ls.length + ms.length) := hk
    have kk : Hid (k ≤ 600) := by rw [Hid]; have := n1.out; have := n2.out; have := hk.out; omega
    by_cases k1 : k < ls.length
    · by_cases k2 : k < ms.length
      · have KK : Hid (k < ls.length + ms.length) := by rw [Hid]; omega
        obtain ⟨g1, o1, rfl, e1⟩ := hdl.out (by omega)
        have c1 := e1 k k1
        rw [flt_get ls k k1] at c1
        have C1 : Hid (∀ W, Below w.heap.size w W → W.cell? ⟨g1, o1 + k, none⟩ = some (.float .f64 (ls.getD k 0))) := fun W hW => (hW.cell (p := ⟨g1, o1 + k, none⟩) (by simpa using World.block_lt_of_cell? w _ c1)).trans c1
        have K1 : Hid (∀ W, SmAt W w.heap.size (ls.take k) → Calls Try.prog 21 #[.pointer (some ⟨w.heap.size, 0, none⟩), .float .f64 (ls.getD k 0)] W fun e w' => e = .returned (.int .i64 0) ∧ SmAt w' w.heap.size (ls.take k ++ [ls.getD k 0]) ∧ W.grownBy w' (some w.heap.size)) := fun W h => sadd_any _ _ _ W (by have := n1.out; rw [List.length_take]; omega) (getD_lt hbl.out k k1) h
        have i1 : decide ((k : Int) < (ls.length : Int)) = true := decide_eq_true (by omega)
        have I1 : (k : Int) < (ls.length : Int) := by omega
        have T1 : Hid (ls.take (k + 1) = ls.take k ++ [ls.getD k 0]) := take_snoc ls k k1
        replace k1 : Hid (k < ls.length) := k1
        clear c1 e1
        generalize ls.getD k 0 = X1 at *
        obtain ⟨g2, o2, rfl, e2⟩ := hdm.out (by omega)
        have c2 := e2 k k2
        rw [flt_get ms k k2] at c2
        have C2 : Hid (∀ W, Below w.heap.size w W → W.cell? ⟨g2, o2 + k, none⟩ = some (.float .f64 (ms.getD k 0))) := fun W hW => (hW.cell (p := ⟨g2, o2 + k, none⟩) (by simpa using World.block_lt_of_cell? w _ c2)).trans c2
        have K2 : Hid (∀ W, SmAt W w1.heap.size (ms.take k) → Calls Try.prog 21 #[.pointer (some ⟨w1.heap.size, 0, none⟩), .float .f64 (ms.getD k 0)] W fun e w' => e = .returned (.int .i64 0) ∧ SmAt w' w1.heap.size (ms.take k ++ [ms.getD k 0]) ∧ W.grownBy w' (some w1.heap.size)) := fun W h => sadd_any _ _ _ W (by have := n2.out; rw [List.length_take]; omega) (getD_lt hbm.out k k2) h
        have i2 : decide ((k : Int) < (ms.length : Int)) = true := decide_eq_true (by omega)
        have I2 : (k : Int) < (ms.length : Int) := by omega
        have T2 : Hid (ms.take (k + 1) = ms.take k ++ [ms.getD k 0]) := take_snoc ms k k2
        replace k2 : Hid (k < ms.length) := k2
        clear c2 e2
        generalize ms.getD k 0 = X2 at *
        have x1 := C1.out wr B.out
        go_wp2_with (go_at_call 21; refine (K1.out _ S1.out).mono ?_)
        first | rintro e w7 rfl q g | rintro e w7 ⟨rfl, q, g⟩
        replace S1 : Hid (SmAt w7 w.heap.size (ls.take (k + 1))) := by rw [Hid, T1.out]; exact q
        replace S2 : Hid (SmAt w7 w1.heap.size (ms.take k)) := S2.out.kept g (by have := z1.out; omega)
        replace B : Hid (Below w.heap.size w w7) := below_of_grown B.out (Nat.le_refl _) g
        clear q g K1
        have x2 := C2.out w7 B.out
        go_wp2_with (go_at_call 21; refine (K2.out _ S2.out).mono ?_)
        first | rintro e w8 rfl q g | rintro e w8 ⟨rfl, q, g⟩
        replace S2 : Hid (SmAt w8 w1.heap.size (ms.take (k + 1))) := by rw [Hid, T2.out]; exact q
        replace S1 : Hid (SmAt w8 w.heap.size (ls.take (k + 1))) := S1.out.kept g (by have := z1.out; omega)
        replace B : Hid (Below w.heap.size w w8) := below_of_grown B.out (by have := z1.out; omega) g
        clear q g K2
        have A1 : Hid ((ls.take (k + 1)).length ≤ 65536) := by rw [Hid, List.length_take]; have := n1.out; omega
        have A2 : Hid ((ms.take (k + 1)).length ≤ 65536) := by rw [Hid, List.length_take]; have := n2.out; omega
        have L1 : Hid (min ((k : Int) + 1) (ls.length : Int) = ((ls.take (k + 1)).length : Int)) := by rw [Hid, List.length_take]; omega
        have L2 : Hid (min ((k : Int) + 1) (ms.length : Int) = ((ms.take (k + 1)).length : Int)) := by rw [Hid, List.length_take]; omega
        have kk2 : (k : Int) ≤ 600 := by have := kk.out; omega
        go_wp2_with fail
        rw [L1.out, L2.out]
        clear L1 L2
        refine wp_region_vals (a1 := ?a1r13n1) (grown _) [.pointer (some ⟨w.heap.size, 0, none⟩), .int .i64 ((ls.take (k + 1)).length : Int), .int .i64 ((ls.take (k + 1)).length : Int), .bool false, .bool false, .pointer (some ⟨w1.heap.size, 0, none⟩), .int .i64 ((ms.take (k + 1)).length : Int), .int .i64 ((ms.take (k + 1)).length : Int), .bool false, .bool false, .bool false, .pointer (some ⟨w.heap.size, 0, none⟩), .float .f64 (exB (ls.take (k + 1))), .slice (some ⟨g1, o1, none⟩) ls.length cl, .int .i64 ((ls.take (k + 1)).length : Int), .slice (some ⟨g1, o1, none⟩) (ls.take (k + 1)).length cl, .float .f64 (rxB (ls.take (k + 1))), .bool true, .bool false, .bool false, .bool false, .pointer (some ⟨w1.heap.size, 0, none⟩), .float .f64 (exB (ms.take (k + 1))), .slice (some ⟨g2, o2, none⟩) ms.length cm, .int .i64 ((ms.take (k + 1)).length : Int), .slice (some ⟨g2, o2, none⟩) (ms.take (k + 1)).length cm, .float .f64 (rxB (ms.take (k + 1))), .bool true, .bool false, .bool false] 138 rfl (by kernel_rfl) (by kernel_rfl) (grown_start _) ⟨?o0r13n1, ?o1r13n1, ?o2r13n1, ?o3r13n1, ?o4r13n1, ?o5r13n1, ?o6r13n1, ?o7r13n1, ?o8r13n1, ?o9r13n1, ?o10r13n1, ?o11r13n1, ?o12r13n1, ?o13r13n1, ?o14r13n1, ?o15r13n1, ?o16r13n1, ?o17r13n1, ?o18r13n1, ?o19r13n1, ?o20r13n1, ?o21r13n1, ?o22r13n1, ?o23r13n1, ?o24r13n1, ?o25r13n1, ?o26r13n1, ?o27r13n1, ?o28r13n1, ?o29r13n1, trivial⟩ ?har13n1 ?hdoner13n1
        case har13n1 => simp [putAll, Act.put]; exact rfl
        case o0r13n1 => exact ValOp.pure (grown_steady _ 0) [(6, .pointer (some ⟨w.heap.size, 0, none⟩))] rfl (fun _ _ h2 => ⟨(h2 6 (by kernel_rfl)).trans rfl, trivial⟩) (by kernel_rfl) (fun _ _ _ _ _ => by kernel_rfl)
        case o1r13n1 => exact ValOp.call (grown_steady _ 1) [(96, .pointer (some ⟨w.heap.size, 0, none⟩))] rfl (fun _ h1 _ => ⟨h1 0 96 (by kernel_rfl), trivial⟩) (by kernel_rfl) 23 #[.pointer (some ⟨w.heap.size, 0, none⟩)] (fun _ => by kernel_rfl) (fun _ W hg => scount_any _ _ W (S1.out.below hg))
        case o2r13n1 => exact ValOp.pure (grown_steady _ 2) [(9, .int .i64 ((ls.take (k + 1)).length : Int))] rfl (fun _ _ h2 => ⟨(h2 9 (by kernel_rfl)).trans rfl, trivial⟩) (by kernel_rfl) (fun _ _ _ _ _ => by kernel_rfl)
        case o3r13n1 => exact ValOp.pure (grown_steady _ 3) [(97, .int .i64 ((ls.take (k + 1)).length : Int)), (98, .int .i64 ((ls.take (k + 1)).length : Int))] rfl (fun _ h1 _ => ⟨h1 1 97 (by kernel_rfl), h1 2 98 (by kernel_rfl), trivial⟩) (by kernel_rfl) (fun _ _ _ _ _ => run_bin (a := .int .i64 ((ls.take (k + 1)).length : Int)) (b := .int .i64 ((ls.take (k + 1)).length : Int)) rfl rfl rfl (by kernel_rfl) (by simp [go_sem]))
        case o4r13n1 => exact ValOp.pure (grown_steady _ 4) [(99, .bool false)] rfl (fun _ h1 _ => ⟨h1 3 99 (by kernel_rfl), trivial⟩) (by kernel_rfl) (fun _ _ _ _ _ => by kernel_rfl)
        case o5r13n1 => exact ValOp.pure (grown_steady _ 5) [(7, .pointer (some ⟨w1.heap.size, 0, none⟩))] ⟨100, _, rfl, rfl, by kernel_rfl, rfl⟩ (fun _ _ h2 => ⟨(h2 7 (by kernel_rfl)).trans rfl, trivial⟩) (by kernel_rfl) (fun _ _ _ _ _ => by kernel_rfl)
        case o6r13n1 => exact ValOp.call (grown_steady _ 6) [(101, .pointer (some ⟨w1.heap.size, 0, none⟩))] ⟨100, _, rfl, rfl, by kernel_rfl, rfl⟩ (fun _ h1 _ => ⟨h1 5 101 (by kernel_rfl), trivial⟩) (by kernel_rfl) 23 #[.pointer (some ⟨w1.heap.size, 0, none⟩)] (fun _ => by kernel_rfl) (fun _ W hg => scount_any _ _ W (S2.out.below hg))
        case o7r13n1 => exact ValOp.pure (grown_steady _ 7) [(10, .int .i64 ((ms.take (k + 1)).length : Int))] ⟨100, _, rfl, rfl, by kernel_rfl, rfl⟩ (fun _ _ h2 => ⟨(h2 10 (by kernel_rfl)).trans rfl, trivial⟩) (by kernel_rfl) (fun _ _ _ _ _ => by kernel_rfl)
        case o8r13n1 => exact ValOp.pure (grown_steady _ 8) [(102, .int .i64 ((ms.take (k + 1)).length : Int)), (103, .int .i64 ((ms.take (k + 1)).length : Int))] ⟨100, _, rfl, rfl, by kernel_rfl, rfl⟩ (fun _ h1 _ => ⟨h1 6 102 (by kernel_rfl), h1 7 103 (by kernel_rfl), trivial⟩) (by kernel_rfl) (fun _ _ _ _ _ => run_bin (a := .int .i64 ((ms.take (k + 1)).length : Int)) (b := .int .i64 ((ms.take (k + 1)).length : Int)) rfl rfl rfl (by kernel_rfl) (by simp [go_sem]))
        case o9r13n1 => exact ValOp.pure (grown_steady _ 9) [(100, .bool false), (104, .bool false)] rfl (fun _ h1 _ => ⟨h1 4 100 (by kernel_rfl), h1 8 104 (by kernel_rfl), trivial⟩) (by kernel_rfl) (fun _ _ _ _ _ => by kernel_rfl)
        case o10r13n1 => exact ValOp.pure (grown_steady _ 10) [(105, .bool false)] rfl (fun _ h1 _ => ⟨h1 9 105 (by kernel_rfl), trivial⟩) (by kernel_rfl) (fun _ _ _ _ _ => by kernel_rfl)
        case o11r13n1 => exact ValOp.pure (grown_steady _ 11) [(6, .pointer (some ⟨w.heap.size, 0, none⟩))] ⟨106, _, rfl, rfl, by kernel_rfl, rfl⟩ (fun _ _ h2 => ⟨(h2 6 (by kernel_rfl)).trans rfl, trivial⟩) (by kernel_rfl) (fun _ _ _ _ _ => by kernel_rfl)
        case o12r13n1 => exact ValOp.call (grown_steady _ 12) [(107, .pointer (some ⟨w.heap.size, 0, none⟩))] ⟨106, _, rfl, rfl, by kernel_rfl, rfl⟩ (fun _ h1 _ => ⟨h1 11 107 (by kernel_rfl), trivial⟩) (by kernel_rfl) 22 #[.pointer (some ⟨w.heap.size, 0, none⟩)] (fun _ => by kernel_rfl) (fun _ W hg => stotal_any _ _ W A1.out (S1.out.below hg))
        case o13r13n1 => exact ValOp.pure (grown_steady _ 13) [(0, .slice (some ⟨g1, o1, none⟩) ls.length cl)] ⟨106, _, rfl, rfl, by kernel_rfl, rfl⟩ (fun _ _ h2 => ⟨(h2 0 (by kernel_rfl)).trans rfl, trivial⟩) (by kernel_rfl) (fun _ _ _ _ _ => by kernel_rfl)
        case o14r13n1 => exact ValOp.pure (grown_steady _ 14) [(9, .int .i64 ((ls.take (k + 1)).length : Int))] ⟨106, _, rfl, rfl, by kernel_rfl, rfl⟩ (fun _ _ h2 => ⟨(h2 9 (by kernel_rfl)).trans rfl, trivial⟩) (by kernel_rfl) (fun _ _ _ _ _ => by kernel_rfl)
        case o15r13n1 => exact ValOp.pure (grown_steady _ 15) [(109, .slice (some ⟨g1, o1, none⟩) ls.length cl), (110, .int .i64 ((ls.take (k + 1)).length : Int))] ⟨106, _, rfl, rfl, by kernel_rfl, rfl⟩ (fun _ h1 _ => ⟨h1 13 109 (by kernel_rfl), h1 14 110 (by kernel_rfl), trivial⟩) (by kernel_rfl) (fun _ _ _ _ _ => run_slc rfl (run_upto _ _ _ _ _ (by rw [List.length_take]; omega) hcl1.out (fun h => by cases h)))
        case o16r13n1 => exact ValOp.call (grown_steady _ 16) [(111, .slice (some ⟨g1, o1, none⟩) (ls.take (k + 1)).length cl)] ⟨106, _, rfl, rfl, by kernel_rfl, rfl⟩ (fun _ h1 _ => ⟨h1 15 111 (by kernel_rfl), trivial⟩) (by kernel_rfl) 25 #[.slice (some ⟨g1, o1, none⟩) (ls.take (k + 1)).length cl] (fun _ => by kernel_rfl) (fun _ W hg => rexact_any _ _ W (take_lt hbl.out _) A1.out (Rd.upto (RL.out.below (B.out.trans (Below.mono hg B.out.size)))))
        case o17r13n1 => exact ValOp.call (grown_steady _ 17) [(108, .float .f64 (exB (ls.take (k + 1)))), (112, .float .f64 (rxB (ls.take (k + 1))))] ⟨106, _, rfl, rfl, by kernel_rfl, rfl⟩ (fun _ h1 _ => ⟨h1 12 108 (by kernel_rfl), h1 16 112 (by kernel_rfl), trivial⟩) (by kernel_rfl) 24 #[.float .f64 (exB (ls.take (k + 1))), .float .f64 (rxB (ls.take (k + 1)))] (fun _ => by kernel_rfl) (fun _ W hg => tot_same _ W)
        case o18r13n1 => exact ValOp.pure (grown_steady _ 18) [(113, .bool true)] ⟨106, _, rfl, rfl, by kernel_rfl, rfl⟩ (fun _ h1 _ => ⟨h1 17 113 (by kernel_rfl), trivial⟩) (by kernel_rfl) (fun _ _ _ _ _ => by kernel_rfl)
        case o19r13n1 => exact ValOp.pure (grown_steady _ 19) [(106, .bool false), (114, .bool false)] rfl (fun _ h1 _ => ⟨h1 10 106 (by kernel_rfl), h1 18 114 (by kernel_rfl), trivial⟩) (by kernel_rfl) (fun _ _ _ _ _ => by kernel_rfl)
        case o20r13n1 => exact ValOp.pure (grown_steady _ 20) [(115, .bool false)] rfl (fun _ h1 _ => ⟨h1 19 115 (by kernel_rfl), trivial⟩) (by kernel_rfl) (fun _ _ _ _ _ => by kernel_rfl)
        case o21r13n1 => exact ValOp.pure (grown_steady _ 21) [(7, .pointer (some ⟨w1.heap.size, 0, none⟩))] ⟨116, _, rfl, rfl, by kernel_rfl, rfl⟩ (fun _ _ h2 => ⟨(h2 7 (by kernel_rfl)).trans rfl, trivial⟩) (by kernel_rfl) (fun _ _ _ _ _ => by kernel_rfl)
        case o22r13n1 => exact ValOp.call (grown_steady _ 22) [(117, .pointer (some ⟨w1.heap.size, 0, none⟩))] ⟨116, _, rfl, rfl, by kernel_rfl, rfl⟩ (fun _ h1 _ => ⟨h1 21 117 (by kernel_rfl), trivial⟩) (by kernel_rfl) 22 #[.pointer (some ⟨w1.heap.size, 0, none⟩)] (fun _ => by kernel_rfl) (fun _ W hg => stotal_any _ _ W A2.out (S2.out.below hg))
        case o23r13n1 => exact ValOp.pure (grown_steady _ 23) [(1, .slice (some ⟨g2, o2, none⟩) ms.length cm)] ⟨116, _, rfl, rfl, by kernel_rfl, rfl⟩ (fun _ _ h2 => ⟨(h2 1 (by kernel_rfl)).trans rfl, trivial⟩) (by kernel_rfl) (fun _ _ _ _ _ => by kernel_rfl)
        case o24r13n1 => exact ValOp.pure (grown_steady _ 24) [(10, .int .i64 ((ms.take (k + 1)).length : Int))] ⟨116, _, rfl, rfl, by kernel_rfl, rfl⟩ (fun _ _ h2 => ⟨(h2 10 (by kernel_rfl)).trans rfl, trivial⟩) (by kernel_rfl) (fun _ _ _ _ _ => by kernel_rfl)
        case o25r13n1 => exact ValOp.pure (grown_steady _ 25) [(119, .slice (some ⟨g2, o2, none⟩) ms.length cm), (120, .int .i64 ((ms.take (k + 1)).length : Int))] ⟨116, _, rfl, rfl, by kernel_rfl, rfl⟩ (fun _ h1 _ => ⟨h1 23 119 (by kernel_rfl), h1 24 120 (by kernel_rfl), trivial⟩) (by kernel_rfl) (fun _ _ _ _ _ => run_slc rfl (run_upto _ _ _ _ _ (by rw [List.length_take]; omega) hcm1.out (fun h => by cases h)))
        case o26r13n1 => exact ValOp.call (grown_steady _ 26) [(121, .slice (some ⟨g2, o2, none⟩) (ms.take (k + 1)).length cm)] ⟨116, _, rfl, rfl, by kernel_rfl, rfl⟩ (fun _ h1 _ => ⟨h1 25 121 (by kernel_rfl), trivial⟩) (by kernel_rfl) 25 #[.slice (some ⟨g2, o2, none⟩) (ms.take (k + 1)).length cm] (fun _ => by kernel_rfl) (fun _ W hg => rexact_any _ _ W (take_lt hbm.out _) A2.out (Rd.upto (RM.out.below (B.out.trans (Below.mono hg B.out.size)))))
        case o27r13n1 => exact ValOp.call (grown_steady _ 27) [(118, .float .f64 (exB (ms.take (k + 1)))), (122, .float .f64 (rxB (ms.take (k + 1))))] ⟨116, _, rfl, rfl, by kernel_rfl, rfl⟩ (fun _ h1 _ => ⟨h1 22 118 (by kernel_rfl), h1 26 122 (by kernel_rfl), trivial⟩) (by kernel_rfl) 24 #[.float .f64 (exB (ms.take (k + 1))), .float .f64 (rxB (ms.take (k + 1)))] (fun _ => by kernel_rfl) (fun _ W hg => tot_same _ W)
        case o28r13n1 => exact ValOp.pure (grown_steady _ 28) [(123, .bool true)] ⟨116, _, rfl, rfl, by kernel_rfl, rfl⟩ (fun _ h1 _ => ⟨h1 27 123 (by kernel_rfl), trivial⟩) (by kernel_rfl) (fun _ _ _ _ _ => by kernel_rfl)
        case o29r13n1 => exact ValOp.pure (grown_steady _ 29) [(116, .bool false), (124, .bool false)] rfl (fun _ h1 _ => ⟨h1 20 116 (by kernel_rfl), h1 28 124 (by kernel_rfl), trivial⟩) (by kernel_rfl) (fun _ _ _ _ _ => by kernel_rfl)
        case hdoner13n1 =>
          intro w9 s hs b9
          replace S1 : Hid (SmAt w9 w.heap.size (ls.take (k + 1))) := S1.out.below b9
          replace S2 : Hid (SmAt w9 w1.heap.size (ms.take (k + 1))) := S2.out.below b9
          replace B : Hid (Below w.heap.size w w9) := B.out.trans (Below.mono b9 B.out.size)
          clear b9 hs
          go_wp2
          refine ⟨⟨k + 1, ?_, by go_num, S1, S2, B⟩, ?_⟩
          · have := hk.out; have := KK.out; omega
          · have := hk.out; have := KK.out; simp [intOf]; omega
      · have KK : Hid (k < ls.length + ms.length) := by rw [Hid]; omega
        have TM : Hid (ms.take (k + 1) = ms.take k) := take_more k2
        have i2 : decide ((k : Int) < (ms.length : Int)) = false := decide_eq_false (by omega)
        have I2 : ¬ ((k : Int) < (ms.length : Int)) := by omega
        clear k2
        obtain ⟨g1, o1, rfl, e1⟩ := hdl.out (by omega)
        have c1 := e1 k k1
        rw [flt_get ls k k1] at c1
        have C1 : Hid (∀ W, Below w.heap.size w W → W.cell? ⟨g1, o1 + k, none⟩ = some (.float .f64 (ls.getD k 0))) := fun W hW => (hW.cell (p := ⟨g1, o1 + k, none⟩) (by simpa using World.block_lt_of_cell? w _ c1)).trans c1
        have K1 : Hid (∀ W, SmAt W w.heap.size (ls.take k) → Calls Try.prog 21 #[.pointer (some ⟨w.heap.size, 0, none⟩), .float .f64 (ls.getD k 0)] W fun e w' => e = .returned (.int .i64 0) ∧ SmAt w' w.heap.size (ls.take k ++ [ls.getD k 0]) ∧ W.grownBy w' (some w.heap.size)) := fun W h => sadd_any _ _ _ W (by have := n1.out; rw [List.length_take]; omega) (getD_lt hbl.out k k1) h
        have i1 : decide ((k : Int) < (ls.length : Int)) = true := decide_eq_true (by omega)
        have I1 : (k : Int) < (ls.length : Int) := by omega
        have T1 : Hid (ls.take (k + 1) = ls.take k ++ [ls.getD k 0]) := take_snoc ls k k1
        replace k1 : Hid (k < ls.length) := k1
        clear c1 e1
        generalize ls.getD k 0 = X1 at *
        have x1 := C1.out wr B.out
        go_wp2_with (go_at_call 21; refine (K1.out _ S1.out).mono ?_)
        first | rintro e w7 rfl q g | rintro e w7 ⟨rfl, q, g⟩
        replace S1 : Hid (SmAt w7 w.heap.size (ls.take (k + 1))) := by rw [Hid, T1.out]; exact q
        replace S2 : Hid (SmAt w7 w1.heap.size (ms.take k)) := S2.out.kept g (by have := z1.out; omega)
        replace B : Hid (Below w.heap.size w w7) := below_of_grown B.out (Nat.le_refl _) g
        clear q g K1
        replace S2 : Hid (SmAt w7 w1.heap.size (ms.take (k + 1))) := by rw [Hid, TM.out]; exact S2.out
        clear TM
        have A1 : Hid ((ls.take (k + 1)).length ≤ 65536) := by rw [Hid, List.length_take]; have := n1.out; omega
        have A2 : Hid ((ms.take (k + 1)).length ≤ 65536) := by rw [Hid, List.length_take]; have := n2.out; omega
        have L1 : Hid (min ((k : Int) + 1) (ls.length : Int) = ((ls.take (k + 1)).length : Int)) := by rw [Hid, List.length_take]; omega
        have L2 : Hid (min ((k : Int) + 1) (ms.length : Int) = ((ms.take (k + 1)).length : Int)) := by rw [Hid, List.length_take]; omega
        have kk2 : (k : Int) ≤ 600 := by have := kk.out; omega
        go_wp2_with fail
        rw [L1.out, L2.out]
        clear L1 L2
        refine wp_region_vals (a1 := ?a1r13n2) (grown _) [.pointer (some ⟨w.heap.size, 0, none⟩), .int .i64 ((ls.take (k + 1)).length : Int), .int .i64 ((ls.take (k + 1)).length : Int), .bool false, .bool false, .pointer (some ⟨w1.heap.size, 0, none⟩), .int .i64 ((ms.take (k + 1)).length : Int), .int .i64 ((ms.take (k + 1)).length : Int), .bool false, .bool false, .bool false, .pointer (some ⟨w.heap.size, 0, none⟩), .float .f64 (exB (ls.take (k + 1))), .slice (some ⟨g1, o1, none⟩) ls.length cl, .int .i64 ((ls.take (k + 1)).length : Int), .slice (some ⟨g1, o1, none⟩) (ls.take (k + 1)).length cl, .float .f64 (rxB (ls.take (k + 1))), .bool true, .bool false, .bool false, .bool false, .pointer (some ⟨w1.heap.size, 0, none⟩), .float .f64 (exB (ms.take (k + 1))), .slice pm ms.length cm, .int .i64 ((ms.take (k + 1)).length : Int), .slice pm (ms.take (k + 1)).length cm, .float .f64 (rxB (ms.take (k + 1))), .bool true, .bool false, .bool false] 138 rfl (by kernel_rfl) (by kernel_rfl) (grown_start _) ⟨?o0r13n2, ?o1r13n2, ?o2r13n2, ?o3r13n2, ?o4r13n2, ?o5r13n2, ?o6r13n2, ?o7r13n2, ?o8r13n2, ?o9r13n2, ?o10r13n2, ?o11r13n2, ?o12r13n2, ?o13r13n2, ?o14r13n2, ?o15r13n2, ?o16r13n2, ?o17r13n2, ?o18r13n2, ?o19r13n2, ?o20r13n2, ?o21r13n2, ?o22r13n2, ?o23r13n2, ?o24r13n2, ?o25r13n2, ?o26r13n2, ?o27r13n2, ?o28r13n2, ?o29r13n2, trivial⟩ ?har13n2 ?hdoner13n2
        case har13n2 => simp [putAll, Act.put]; exact rfl
        case o0r13n2 => exact ValOp.pure (grown_steady _ 0) [(6, .pointer (some ⟨w.heap.size, 0, none⟩))] rfl (fun _ _ h2 => ⟨(h2 6 (by kernel_rfl)).trans rfl, trivial⟩) (by kernel_rfl) (fun _ _ _ _ _ => by kernel_rfl)
        case o1r13n2 => exact ValOp.call (grown_steady _ 1) [(96, .pointer (some ⟨w.heap.size, 0, none⟩))] rfl (fun _ h1 _ => ⟨h1 0 96 (by kernel_rfl), trivial⟩) (by kernel_rfl) 23 #[.pointer (some ⟨w.heap.size, 0, none⟩)] (fun _ => by kernel_rfl) (fun _ W hg => scount_any _ _ W (S1.out.below hg))
        case o2r13n2 => exact ValOp.pure (grown_steady _ 2) [(9, .int .i64 ((ls.take (k + 1)).length : Int))] rfl (fun _ _ h2 => ⟨(h2 9 (by kernel_rfl)).trans rfl, trivial⟩) (by kernel_rfl) (fun _ _ _ _ _ => by kernel_rfl)
        case o3r13n2 => exact ValOp.pure (grown_steady _ 3) [(97, .int .i64 ((ls.take (k + 1)).length : Int)), (98, .int .i64 ((ls.take (k + 1)).length : Int))] rfl (fun _ h1 _ => ⟨h1 1 97 (by kernel_rfl), h1 2 98 (by kernel_rfl), trivial⟩) (by kernel_rfl) (fun _ _ _ _ _ => run_bin (a := .int .i64 ((ls.take (k + 1)).length : Int)) (b := .int .i64 ((ls.take (k + 1)).length : Int)) rfl rfl rfl (by kernel_rfl) (by simp [go_sem]))
        case o4r13n2 => exact ValOp.pure (grown_steady _ 4) [(99, .bool false)] rfl (fun _ h1 _ => ⟨h1 3 99 (by kernel_rfl), trivial⟩) (by kernel_rfl) (fun _ _ _ _ _ => by kernel_rfl)
        case o5r13n2 => exact ValOp.pure (grown_steady _ 5) [(7, .pointer (some ⟨w1.heap.size, 0, none⟩))] ⟨100, _, rfl, rfl, by kernel_rfl, rfl⟩ (fun _ _ h2 => ⟨(h2 7 (by kernel_rfl)).trans rfl, trivial⟩) (by kernel_rfl) (fun _ _ _ _ _ => by kernel_rfl)
        case o6r13n2 => exact ValOp.call (grown_steady _ 6) [(101, .pointer (some ⟨w1.heap.size, 0, none⟩))] ⟨100, _, rfl, rfl, by kernel_rfl, rfl⟩ (fun _ h1 _ => ⟨h1 5 101 (by kernel_rfl), trivial⟩) (by kernel_rfl) 23 #[.pointer (some ⟨w1.heap.size, 0, none⟩)] (fun _ => by kernel_rfl) (fun _ W hg => scount_any _ _ W (S2.out.below hg))
        case o7r13n2 => exact ValOp.pure (grown_steady _ 7) [(10, .int .i64 ((ms.take (k + 1)).length : Int))] ⟨100, _, rfl, rfl, by kernel_rfl, rfl⟩ (fun _ _ h2 => ⟨(h2 10 (by kernel_rfl)).trans rfl, trivial⟩) (by kernel_rfl) (fun _ _ _ _ _ => by kernel_rfl)
        case o8r13n2 => exact ValOp.pure (grown_steady _ 8) [(102, .int .i64 ((ms.take (k + 1)).length : Int)), (103, .int .i64 ((ms.take (k + 1)).length : Int))] ⟨100, _, rfl, rfl, by kernel_rfl, rfl⟩ (fun _ h1 _ => ⟨h1 6 102 (by kernel_rfl), h1 7 103 (by kernel_rfl), trivial⟩) (by kernel_rfl) (fun _ _ _ _ _ => run_bin (a := .int .i64 ((ms.take (k + 1)).length : Int)) (b := .int .i64 ((ms.take (k + 1)).length : Int)) rfl rfl rfl (by kernel_rfl) (by simp [go_sem]))
        case o9r13n2 => exact ValOp.pure (grown_steady _ 9) [(100, .bool false), (104, .bool false)] rfl (fun _ h1 _ => ⟨h1 4 100 (by kernel_rfl), h1 8 104 (by kernel_rfl), trivial⟩) (by kernel_rfl) (fun _ _ _ _ _ => by kernel_rfl)
        case o10r13n2 => exact ValOp.pure (grown_steady _ 10) [(105, .bool false)] rfl (fun _ h1 _ => ⟨h1 9 105 (by kernel_rfl), trivial⟩) (by kernel_rfl) (fun _ _ _ _ _ => by kernel_rfl)
        case o11r13n2 => exact ValOp.pure (grown_steady _ 11) [(6, .pointer (some ⟨w.heap.size, 0, none⟩))] ⟨106, _, rfl, rfl, by kernel_rfl, rfl⟩ (fun _ _ h2 => ⟨(h2 6 (by kernel_rfl)).trans rfl, trivial⟩) (by kernel_rfl) (fun _ _ _ _ _ => by kernel_rfl)
        case o12r13n2 => exact ValOp.call (grown_steady _ 12) [(107, .pointer (some ⟨w.heap.size, 0, none⟩))] ⟨106, _, rfl, rfl, by kernel_rfl, rfl⟩ (fun _ h1 _ => ⟨h1 11 107 (by kernel_rfl), trivial⟩) (by kernel_rfl) 22 #[.pointer (some ⟨w.heap.size, 0, none⟩)] (fun _ => by kernel_rfl) (fun _ W hg => stotal_any _ _ W A1.out (S1.out.below hg))
        case o13r13n2 => exact ValOp.pure (grown_steady _ 13) [(0, .slice (some ⟨g1, o1, none⟩) ls.length cl)] ⟨106, _, rfl, rfl, by kernel_rfl, rfl⟩ (fun _ _ h2 => ⟨(h2 0 (by kernel_rfl)).trans rfl, trivial⟩) (by kernel_rfl) (fun _ _ _ _ _ => by kernel_rfl)
        case o14r13n2 => exact ValOp.pure (grown_steady _ 14) [(9, .int .i64 ((ls.take (k + 1)).length : Int))] ⟨106, _, rfl, rfl, by kernel_rfl, rfl⟩ (fun _ _ h2 => ⟨(h2 9 (by kernel_rfl)).trans rfl, trivial⟩) (by kernel_rfl) (fun _ _ _ _ _ => by kernel_rfl)
        case o15r13n2 => exact ValOp.pure (grown_steady _ 15) [(109, .slice (some ⟨g1, o1, none⟩) ls.length cl), (110, .int .i64 ((ls.take (k + 1)).length : Int))] ⟨106, _, rfl, rfl, by kernel_rfl, rfl⟩ (fun _ h1 _ => ⟨h1 13 109 (by kernel_rfl), h1 14 110 (by kernel_rfl), trivial⟩) (by kernel_rfl) (fun _ _ _ _ _ => run_slc rfl (run_upto _ _ _ _ _ (by rw [List.length_take]; omega) hcl1.out (fun h => by cases h)))
        case o16r13n2 => exact ValOp.call (grown_steady _ 16) [(111, .slice (some ⟨g1, o1, none⟩) (ls.take (k + 1)).length cl)] ⟨106, _, rfl, rfl, by kernel_rfl, rfl⟩ (fun _ h1 _ => ⟨h1 15 111 (by kernel_rfl), trivial⟩) (by kernel_rfl) 25 #[.slice (some ⟨g1, o1, none⟩) (ls.take (k + 1)).length cl] (fun _ => by kernel_rfl) (fun _ W hg => rexact_any _ _ W (take_lt hbl.out _) A1.out (Rd.upto (RL.out.below (B.out.trans (Below.mono hg B.out.size)))))
        case o17r13n2 => exact ValOp.call (grown_steady _ 17) [(108, .float .f64 (exB (ls.take (k + 1)))), (112, .float .f64 (rxB (ls.take (k + 1))))] ⟨106, _, rfl, rfl, by kernel_rfl, rfl⟩ (fun _ h1 _ => ⟨h1 12 108 (by kernel_rfl), h1 16 112 (by kernel_rfl), trivial⟩) (by kernel_rfl) 24 #[.float .f64 (exB (ls.take (k + 1))), .float .f64 (rxB (ls.take (k + 1)))] (fun _ => by kernel_rfl) (fun _ W hg => tot_same _ W)
        case o18r13n2 => exact ValOp.pure (grown_steady _ 18) [(113, .bool true)] ⟨106, _, rfl, rfl, by kernel_rfl, rfl⟩ (fun _ h1 _ => ⟨h1 17 113 (by kernel_rfl), trivial⟩) (by kernel_rfl) (fun _ _ _ _ _ => by kernel_rfl)
        case o19r13n2 => exact ValOp.pure (grown_steady _ 19) [(106, .bool false), (114, .bool false)] rfl (fun _ h1 _ => ⟨h1 10 106 (by kernel_rfl), h1 18 114 (by kernel_rfl), trivial⟩) (by kernel_rfl) (fun _ _ _ _ _ => by kernel_rfl)
        case o20r13n2 => exact ValOp.pure (grown_steady _ 20) [(115, .bool false)] rfl (fun _ h1 _ => ⟨h1 19 115 (by kernel_rfl), trivial⟩) (by kernel_rfl) (fun _ _ _ _ _ => by kernel_rfl)
        case o21r13n2 => exact ValOp.pure (grown_steady _ 21) [(7, .pointer (some ⟨w1.heap.size, 0, none⟩))] ⟨116, _, rfl, rfl, by kernel_rfl, rfl⟩ (fun _ _ h2 => ⟨(h2 7 (by kernel_rfl)).trans rfl, trivial⟩) (by kernel_rfl) (fun _ _ _ _ _ => by kernel_rfl)
        case o22r13n2 => exact ValOp.call (grown_steady _ 22) [(117, .pointer (some ⟨w1.heap.size, 0, none⟩))] ⟨116, _, rfl, rfl, by kernel_rfl, rfl⟩ (fun _ h1 _ => ⟨h1 21 117 (by kernel_rfl), trivial⟩) (by kernel_rfl) 22 #[.pointer (some ⟨w1.heap.size, 0, none⟩)] (fun _ => by kernel_rfl) (fun _ W hg => stotal_any _ _ W A2.out (S2.out.below hg))
        case o23r13n2 => exact ValOp.pure (grown_steady _ 23) [(1, .slice pm ms.length cm)] ⟨116, _, rfl, rfl, by kernel_rfl, rfl⟩ (fun _ _ h2 => ⟨(h2 1 (by kernel_rfl)).trans rfl, trivial⟩) (by kernel_rfl) (fun _ _ _ _ _ => by kernel_rfl)
        case o24r13n2 => exact ValOp.pure (grown_steady _ 24) [(10, .int .i64 ((ms.take (k + 1)).length : Int))] ⟨116, _, rfl, rfl, by kernel_rfl, rfl⟩ (fun _ _ h2 => ⟨(h2 10 (by kernel_rfl)).trans rfl, trivial⟩) (by kernel_rfl) (fun _ _ _ _ _ => by kernel_rfl)
        case o25r13n2 => exact ValOp.pure (grown_steady _ 25) [(119, .slice pm ms.length cm), (120, .int .i64 ((ms.take (k + 1)).length : Int))] ⟨116, _, rfl, rfl, by kernel_rfl, rfl⟩ (fun _ h1 _ => ⟨h1 23 119 (by kernel_rfl), h1 24 120 (by kernel_rfl), trivial⟩) (by kernel_rfl) (fun _ _ _ _ _ => run_slc rfl (run_upto _ _ _ _ _ (by rw [List.length_take]; omega) hcm1.out hcm2.out))
        case o26r13n2 => exact ValOp.call (grown_steady _ 26) [(121, .slice pm (ms.take (k + 1)).length cm)] ⟨116, _, rfl, rfl, by kernel_rfl, rfl⟩ (fun _ h1 _ => ⟨h1 25 121 (by kernel_rfl), trivial⟩) (by kernel_rfl) 25 #[.slice pm (ms.take (k + 1)).length cm] (fun _ => by kernel_rfl) (fun _ W hg => rexact_any _ _ W (take_lt hbm.out _) A2.out (Rd.upto (RM.out.below (B.out.trans (Below.mono hg B.out.size)))))
        case o27r13n2 => exact ValOp.call (grown_steady _ 27) [(118, .float .f64 (exB (ms.take (k + 1)))), (122, .float .f64 (rxB (ms.take (k + 1))))] ⟨116, _, rfl, rfl, by kernel_rfl, rfl⟩ (fun _ h1 _ => ⟨h1 22 118 (by kernel_rfl), h1 26 122 (by kernel_rfl), trivial⟩) (by kernel_rfl) 24 #[.float .f64 (exB (ms.take (k + 1))), .float .f64 (rxB (ms.take (k + 1)))] (fun _ => by kernel_rfl) (fun _ W hg => tot_same _ W)
        case o28r13n2 => exact ValOp.pure (grown_steady _ 28) [(123, .bool true)] ⟨116, _, rfl, rfl, by kernel_rfl, rfl⟩ (fun _ h1 _ => ⟨h1 27 123 (by kernel_rfl), trivial⟩) (by kernel_rfl) (fun _ _ _ _ _ => by kernel_rfl)
        case o29r13n2 => exact ValOp.pure (grown_steady _ 29) [(116, .bool false), (124, .bool false)] rfl (fun _ h1 _ => ⟨h1 20 116 (by kernel_rfl), h1 28 124 (by kernel_rfl), trivial⟩) (by kernel_rfl) (fun _ _ _ _ _ => by kernel_rfl)
        case hdoner13n2 =>
          intro w9 s hs b9
          replace S1 : Hid (SmAt w9 w.heap.size (ls.take (k + 1))) := S1.out.below b9
          replace S2 : Hid (SmAt w9 w1.heap.size (ms.take (k + 1))) := S2.out.below b9
          replace B : Hid (Below w.heap.size w w9) := B.out.trans (Below.mono b9 B.out.size)
          clear b9 hs
          go_wp2
          refine ⟨⟨k + 1, ?_, by go_num, S1, S2, B⟩, ?_⟩
          · have := hk.out; have := KK.out; omega
          · have := hk.out; have := KK.out; simp [intOf]; omega
    · by_cases k2 : k < ms.length
      · have KK : Hid (k < ls.length + ms.length) := by rw [Hid]; omega
        have TM : Hid (ls.take (k + 1) = ls.take k) := take_more k1
        have i1 : decide ((k : Int) < (ls.length : Int)) = false := decide_eq_false (by omega)
        have I1 : ¬ ((k : Int) < (ls.length : Int)) := by omega
        clear k1
        obtain ⟨g2, o2, rfl, e2⟩ := hdm.out (by omega)
        have c2 := e2 k k2
        rw [flt_get ms k k2] at c2
        have C2 : Hid (∀ W, Below w.heap.size w W → W.cell? ⟨g2, o2 + k, none⟩ = some (.float .f64 (ms.getD k 0))) := fun W hW => (hW.cell (p := ⟨g2, o2 + k, none⟩) (by simpa using World.block_lt_of_cell? w _ c2)).trans c2
        have K2 : Hid (∀ W, SmAt W w1.heap.size (ms.take k) → Calls Try.prog 21 #[.pointer (some ⟨w1.heap.size, 0, none⟩), .float .f64 (ms.getD k 0)] W fun e w' => e = .returned (.int .i64 0) ∧ SmAt w' w1.heap.size (ms.take k ++ [ms.getD k 0]) ∧ W.grownBy w' (some w1.heap.size)) := fun W h => sadd_any _ _ _ W (by have := n2.out; rw [List.length_take]; omega) (getD_lt hbm.out k k2) h
        have i2 : decide ((k : Int) < (ms.length : Int)) = true := decide_eq_true (by omega)
        have I2 : (k : Int) < (ms.length : Int) := by omega
        have T2 : Hid (ms.take (k + 1) = ms.take k ++ [ms.getD k 0]) := take_snoc ms k k2
        replace k2 : Hid (k < ms.length) := k2
        clear c2 e2
        generalize ms.getD k 0 = X2 at *
        have x2 := C2.out wr B.out
        go_wp2_with (go_at_call 21; refine (K2.out _ S2.out).mono ?_)
        first | rintro e w7 rfl q g | rintro e w7 ⟨rfl, q, g⟩
        replace S2 : Hid (SmAt w7 w1.heap.size (ms.take (k + 1))) := by rw [Hid, T2.out]; exact q
        replace S1 : Hid (SmAt w7 w.heap.size (ls.take k)) := S1.out.kept g (by have := z1.out; omega)
        replace B : Hid (Below w.heap.size w w7) := below_of_grown B.out (by have := z1.out; omega) g
        clear q g K2
        replace S1 : Hid (SmAt w7 w.heap.size (ls.take (k + 1))) := by rw [Hid, TM.out]; exact S1.out
        clear TM
        have A1 : Hid ((ls.take (k + 1)).length ≤ 65536) := by rw [Hid, List.length_take]; have := n1.out; omega
        have A2 : Hid ((ms.take (k + 1)).length ≤ 65536) := by rw [Hid, List.length_take]; have := n2.out; omega
        have L1 : Hid (min ((k : Int) + 1) (ls.length : Int) = ((ls.take (k + 1)).length : Int)) := by rw [Hid, List.length_take]; omega
        have L2 : Hid (min ((k : Int) + 1) (ms.length : Int) = ((ms.take (k + 1)).length : Int)) := by rw [Hid, List.length_take]; omega
        have kk2 : (k : Int) ≤ 600 := by have := kk.out; omega
        go_wp2_with fail
        rw [L1.out, L2.out]
        clear L1 L2
        refine wp_region_vals (a1 := ?a1r13n3) (grown _) [.pointer (some ⟨w.heap.size, 0, none⟩), .int .i64 ((ls.take (k + 1)).length : Int), .int .i64 ((ls.take (k + 1)).length : Int), .bool false, .bool false, .pointer (some ⟨w1.heap.size, 0, none⟩), .int .i64 ((ms.take (k + 1)).length : Int), .int .i64 ((ms.take (k + 1)).length : Int), .bool false, .bool false, .bool false, .pointer (some ⟨w.heap.size, 0, none⟩), .float .f64 (exB (ls.take (k + 1))), .slice pl ls.length cl, .int .i64 ((ls.take (k + 1)).length : Int), .slice pl (ls.take (k + 1)).length cl, .float .f64 (rxB (ls.take (k + 1))), .bool true, .bool false, .bool false, .bool false, .pointer (some ⟨w1.heap.size, 0, none⟩), .float .f64 (exB (ms.take (k + 1))), .slice (some ⟨g2, o2, none⟩) ms.length cm, .int .i64 ((ms.take (k + 1)).length : Int), .slice (some ⟨g2, o2, none⟩) (ms.take (k + 1)).length cm, .float .f64 (rxB (ms.take (k + 1))), .bool true, .bool false, .bool false] 138 rfl (by kernel_rfl) (by kernel_rfl) (grown_start _) ⟨?o0r13n3, ?o1r13n3, ?o2r13n3, ?o3r13n3, ?o4r13n3, ?o5r13n3, ?o6r13n3, ?o7r13n3, ?o8r13n3, ?o9r13n3, ?o10r13n3, ?o11r13n3, ?o12r13n3, ?o13r13n3, ?o14r13n3, ?o15r13n3, ?o16r13n3, ?o17r13n3, ?o18r13n3, ?o19r13n3, ?o20r13n3, ?o21r13n3, ?o22r13n3, ?o23r13n3, ?o24r13n3, ?o25r13n3, ?o26r13n3, ?o27r13n3, ?o28r13n3, ?o29r13n3, trivial⟩ ?har13n3 ?hdoner13n3
        case har13n3 => simp [putAll, Act.put]; exact rfl
        case o0r13n3 => exact ValOp.pure (grown_steady _ 0) [(6, .pointer (some ⟨w.heap.size, 0, none⟩))] rfl (fun _ _ h2 => ⟨(h2 6 (by kernel_rfl)).trans rfl, trivial⟩) (by kernel_rfl) (fun _ _ _ _ _ => by kernel_rfl)
        case o1r13n3 => exact ValOp.call (grown_steady _ 1) [(96, .pointer (some ⟨w.heap.size, 0, none⟩))] rfl (fun _ h1 _ => ⟨h1 0 96 (by kernel_rfl), trivial⟩) (by kernel_rfl) 23 #[.pointer (some ⟨w.heap.size, 0, none⟩)] (fun _ => by kernel_rfl) (fun _ W hg => scount_any _ _ W (S1.out.below hg))
        case o2r13n3 => exact ValOp.pure (grown_steady _ 2) [(9, .int .i64 ((ls.take (k + 1)).length : Int))] rfl (fun _ _ h2 => ⟨(h2 9 (by kernel_rfl)).trans rfl, trivial⟩) (by kernel_rfl) (fun _ _ _ _ _ => by kernel_rfl)
        case o3r13n3 => exact ValOp.pure (grown_steady _ 3) [(97, .int .i64 ((ls.take (k + 1)).length : Int)), (98, .int .i64 ((ls.take (k + 1)).length : Int))] rfl (fun _ h1 _ => ⟨h1 1 97 (by kernel_rfl), h1 2 98 (by kernel_rfl), trivial⟩) (by kernel_rfl) (fun _ _ _ _ _ => run_bin (a := .int .i64 ((ls.take (k + 1)).length : Int)) (b := .int .i64 ((ls.take (k + 1)).length : Int)) rfl rfl rfl (by kernel_rfl) (by simp [go_sem]))
        case o4r13n3 => exact ValOp.pure (grown_steady _ 4) [(99, .bool false)] rfl (fun _ h1 _ => ⟨h1 3 99 (by kernel_rfl), trivial⟩) (by kernel_rfl) (fun _ _ _ _ _ => by kernel_rfl)
        case o5r13n3 => exact ValOp.pure (grown_steady _ 5) [(7, .pointer (some ⟨w1.heap.size, 0, none⟩))] ⟨100, _, rfl, rfl, by kernel_rfl, rfl⟩ (fun _ _ h2 => ⟨(h2 7 (by kernel_rfl)).trans rfl, trivial⟩) (by kernel_rfl) (fun _ _ _ _ _ => by kernel_rfl)
        case o6r13n3 => exact ValOp.call (grown_steady _ 6) [(101, .pointer (some ⟨w1.heap.size, 0, none⟩))] ⟨100, _, rfl, rfl, by kernel_rfl, rfl⟩ (fun _ h1 _ => ⟨h1 5 101 (by kernel_rfl), trivial⟩) (by kernel_rfl) 23 #[.pointer (some ⟨w1.heap.size, 0, none⟩)] (fun _ => by kernel_rfl) (fun _ W hg => scount_any _ _ W (S2.out.below hg))
        case o7r13n3 => exact ValOp.pure (grown_steady _ 7) [(10, .int .i64 ((ms.take (k + 1)).length : Int))] ⟨100, _, rfl, rfl, by kernel_rfl, rfl⟩ (fun _ _ h2 => ⟨(h2 10 (by kernel_rfl)).trans rfl, trivial⟩) (by kernel_rfl) (fun _ _ _ _ _ => by kernel_rfl)
        case o8r13n3 => exact ValOp.pure (grown_steady _ 8) [(102, .int .i64 ((ms.take (k + 1)).length : Int)), (103, .int .i64 ((ms.take (k + 1)).length : Int))] ⟨100, _, rfl, rfl, by kernel_rfl, rfl⟩ (fun _ h1 _ => ⟨h1 6 102 (by kernel_rfl), h1 7 103 (by kernel_rfl), trivial⟩) (by kernel_rfl) (fun _ _ _ _ _ => run_bin (a := .int .i64 ((ms.take (k + 1)).length : Int)) (b := .int .i64 ((ms.take (k + 1)).length : Int)) rfl rfl rfl (by kernel_rfl) (by simp [go_sem]))
        case o9r13n3 => exact ValOp.pure (grown_steady _ 9) [(100, .bool false), (104, .bool false)] rfl (fun _ h1 _ => ⟨h1 4 100 (by kernel_rfl), h1 8 104 (by kernel_rfl), trivial⟩) (by kernel_rfl) (fun _ _ _ _ _ => by kernel_rfl)
        case o10r13n3 => exact ValOp.pure (grown_steady _ 10) [(105, .bool false)] rfl (fun _ h1 _ => ⟨h1 9 105 (by kernel_rfl), trivial⟩) (by kernel_rfl) (fun _ _ _ _ _ => by kernel_rfl)
        case o11r13n3 => exact ValOp.pure (grown_steady _ 11) [(6, .pointer (some ⟨w.heap.size, 0, none⟩))] ⟨106, _, rfl, rfl, by kernel_rfl, rfl⟩ (fun _ _ h2 => ⟨(h2 6 (by kernel_rfl)).trans rfl, trivial⟩) (by kernel_rfl) (fun _ _ _ _ _ => by kernel_rfl)
        case o12r13n3 => exact ValOp.call (grown_steady _ 12) [(107, .pointer (some ⟨w.heap.size, 0, none⟩))] ⟨106, _, rfl, rfl, by kernel_rfl, rfl⟩ (fun _ h1 _ => ⟨h1 11 107 (by kernel_rfl), trivial⟩) (by kernel_rfl) 22 #[.pointer (some ⟨w.heap.size, 0, none⟩)] (fun _ => by kernel_rfl) (fun _ W hg => stotal_any _ _ W A1.out (S1.out.below hg))
        case o13r13n3 => exact ValOp.pure (grown_steady _ 13) [(0, .slice pl ls.length cl)] ⟨106, _, rfl, rfl, by kernel_rfl, rfl⟩ (fun _ _ h2 => ⟨(h2 0 (by kernel_rfl)).trans rfl, trivial⟩) (by kernel_rfl) (fun _ _ _ _ _ => by kernel_rfl)
        case o14r13n3 => exact ValOp.pure (grown_steady _ 14) [(9, .int .i64 ((ls.take (k + 1)).length : Int))] ⟨106, _, rfl, rfl, by kernel_rfl, rfl⟩ (fun _ _ h2 => ⟨(h2 9 (by kernel_rfl)).trans rfl, trivial⟩) (by kernel_rfl) (fun _ _ _ _ _ => by kernel_rfl)
        case o15r13n3 => exact ValOp.pure (grown_steady _ 15) [(109, .slice pl ls.length cl), (110, .int .i64 ((ls.take (k + 1)).length : Int))] ⟨106, _, rfl, rfl, by kernel_rfl, rfl⟩ (fun _ h1 _ => ⟨h1 13 109 (by kernel_rfl), h1 14 110 (by kernel_rfl), trivial⟩) (by kernel_rfl) (fun _ _ _ _ _ => run_slc rfl (run_upto _ _ _ _ _ (by rw [List.length_take]; omega) hcl1.out hcl2.out))
        case o16r13n3 => exact ValOp.call (grown_steady _ 16) [(111, .slice pl (ls.take (k + 1)).length cl)] ⟨106, _, rfl, rfl, by kernel_rfl, rfl⟩ (fun _ h1 _ => ⟨h1 15 111 (by kernel_rfl), trivial⟩) (by kernel_rfl) 25 #[.slice pl (ls.take (k + 1)).length cl] (fun _ => by kernel_rfl) (fun _ W hg => rexact_any _ _ W (take_lt hbl.out _) A1.out (Rd.upto (RL.out.below (B.out.trans (Below.mono hg B.out.size)))))
        case o17r13n3 => exact ValOp.call (grown_steady _ 17) [(108, .float .f64 (exB (ls.take (k + 1)))), (112, .float .f64 (rxB (ls.take (k + 1))))] ⟨106, _, rfl, rfl, by kernel_rfl, rfl⟩ (fun _ h1 _ => ⟨h1 12 108 (by kernel_rfl), h1 16 112 (by kernel_rfl), trivial⟩) (by kernel_rfl) 24 #[.float .f64 (exB (ls.take (k + 1))), .float .f64 (rxB (ls.take (k + 1)))] (fun _ => by kernel_rfl) (fun _ W hg => tot_same _ W)
        case o18r13n3 => exact ValOp.pure (grown_steady _ 18) [(113, .bool true)] ⟨106, _, rfl, rfl, by kernel_rfl, rfl⟩ (fun _ h1 _ => ⟨h1 17 113 (by kernel_rfl), trivial⟩) (by kernel_rfl) (fun _ _ _ _ _ => by kernel_rfl)
        case o19r13n3 => exact ValOp.pure (grown_steady _ 19) [(106, .bool false), (114, .bool false)] rfl (fun _ h1 _ => ⟨h1 10 106 (by kernel_rfl), h1 18 114 (by kernel_rfl), trivial⟩) (by kernel_rfl) (fun _ _ _ _ _ => by kernel_rfl)
        case o20r13n3 => exact ValOp.pure (grown_steady _ 20) [(115, .bool false)] rfl (fun _ h1 _ => ⟨h1 19 115 (by kernel_rfl), trivial⟩) (by kernel_rfl) (fun _ _ _ _ _ => by kernel_rfl)
        case o21r13n3 => exact ValOp.pure (grown_steady _ 21) [(7, .pointer (some ⟨w1.heap.size, 0, none⟩))] ⟨116, _, rfl, rfl, by kernel_rfl, rfl⟩ (fun _ _ h2 => ⟨(h2 7 (by kernel_rfl)).trans rfl, trivial⟩) (by kernel_rfl) (fun _ _ _ _ _ => by kernel_rfl)
        case o22r13n3 => exact ValOp.call (grown_steady _ 22) [(117, .pointer (some ⟨w1.heap.size, 0, none⟩))] ⟨116, _, rfl, rfl, by kernel_rfl, rfl⟩ (fun _ h1 _ => ⟨h1 21 117 (by kernel_rfl), trivial⟩) (by kernel_rfl) 22 #[.pointer (some ⟨w1.heap.size, 0, none⟩)] (fun _ => by kernel_rfl) (fun _ W hg => stotal_any _ _ W A2.out (S2.out.below hg))
        case o23r13n3 => exact ValOp.pure (grown_steady _ 23) [(1, .slice (some ⟨g2, o2, none⟩) ms.length cm)] ⟨116, _, rfl, rfl, by kernel_rfl, rfl⟩ (fun _ _ h2 => ⟨(h2 1 (by kernel_rfl)).trans rfl, trivial⟩) (by kernel_rfl) (fun _ _ _ _ _ => by kernel_rfl)
        case o24r13n3 => exact ValOp.pure (grown_steady _ 24) [(10, .int .i64 ((ms.take (k + 1)).length : Int))] ⟨116, _, rfl, rfl, by kernel_rfl, rfl⟩ (fun _ _ h2 => ⟨(h2 10 (by kernel_rfl)).trans rfl, trivial⟩) (by kernel_rfl) (fun _ _ _ _ _ => by kernel_rfl)
        case o25r13n3 => exact ValOp.pure (grown_steady _ 25) [(119, .slice (some ⟨g2, o2, none⟩) ms.length cm), (120, .int .i64 ((ms.take (k + 1)).length : Int))] ⟨116, _, rfl, rfl, by kernel_rfl, rfl⟩ (fun _ h1 _ => ⟨h1 23 119 (by kernel_rfl), h1 24 120 (by kernel_rfl), trivial⟩) (by kernel_rfl) (fun _ _ _ _ _ => run_slc rfl (run_upto _ _ _ _ _ (by rw [List.length_take]; omega) hcm1.out (fun h => by cases h)))
        case o26r13n3 => exact ValOp.call (grown_steady _ 26) [(121, .slice (some ⟨g2, o2, none⟩) (ms.take (k + 1)).length cm)] ⟨116, _, rfl, rfl, by kernel_rfl, rfl⟩ (fun _ h1 _ => ⟨h1 25 121 (by kernel_rfl), trivial⟩) (by kernel_rfl) 25 #[.slice (some ⟨g2, o2, none⟩) (ms.take (k + 1)).length cm] (fun _ => by kernel_rfl) (fun _ W hg => rexact_any _ _ W (take_lt hbm.out _) A2.out (Rd.upto (RM.out.below (B.out.trans (Below.mono hg B.out.size)))))
        case o27r13n3 => exact ValOp.call (grown_steady _ 27) [(118, .float .f64 (exB (ms.take (k + 1)))), (122, .float .f64 (rxB (ms.take (k + 1))))] ⟨116, _, rfl, rfl, by kernel_rfl, rfl⟩ (fun _ h1 _ => ⟨h1 22 118 (by kernel_rfl), h1 26 122 (by kernel_rfl), trivial⟩) (by kernel_rfl) 24 #[.float .f64 (exB (ms.take (k + 1))), .float .f64 (rxB (ms.take (k + 1)))] (fun _ => by kernel_rfl) (fun _ W hg => tot_same _ W)
        case o28r13n3 => exact ValOp.pure (grown_steady _ 28) [(123, .bool true)] ⟨116, _, rfl, rfl, by kernel_rfl, rfl⟩ (fun _ h1 _ => ⟨h1 27 123 (by kernel_rfl), trivial⟩) (by kernel_rfl) (fun _ _ _ _ _ => by kernel_rfl)
        case o29r13n3 => exact ValOp.pure (grown_steady _ 29) [(116, .bool false), (124, .bool false)] rfl (fun _ h1 _ => ⟨h1 20 116 (by kernel_rfl), h1 28 124 (by kernel_rfl), trivial⟩) (by kernel_rfl) (fun _ _ _ _ _ => by kernel_rfl)
        case hdoner13n3 =>
          intro w9 s hs b9
          replace S1 : Hid (SmAt w9 w.heap.size (ls.take (k + 1))) := S1.out.below b9
          replace S2 : Hid (SmAt w9 w1.heap.size (ms.take (k + 1))) := S2.out.below b9
          replace B : Hid (Below w.heap.size w w9) := B.out.trans (Below.mono b9 B.out.size)
          clear b9 hs
          go_wp2
          refine ⟨⟨k + 1, ?_, by go_num, S1, S2, B⟩, ?_⟩
          · have := hk.out; have := KK.out; omega
          · have := hk.out; have := KK.out; simp [intOf]; omega
      · skip
        replace S1 : Hid (SmAt wr w.heap.size ls) := by have := S1.out; rw [List.take_of_length_le (by omega)] at this; exact this
        replace S2 : Hid (SmAt wr w1.heap.size ms) := by have := S2.out; rw [List.take_of_length_le (by omega)] at this; exact this
        have i1 : decide ((k : Int) < (ls.length : Int)) = false := decide_eq_false (by omega)
        have i2 : decide ((k : Int) < (ms.length : Int)) = false := decide_eq_false (by omega)
        have I1 : ¬ ((k : Int) < (ls.length : Int)) := by omega
        have I2 : ¬ ((k : Int) < (ms.length : Int)) := by omega
        clear k1 k2 hk kk
        go_wp2_with (go_at_call 22; refine (stotal_any _ ls _ (by have := n1.out; omega) S1.out).mono ?_)
        first | rintro e w7 rfl b | rintro e w7 ⟨rfl, b⟩
        replace S2 : Hid (SmAt w7 w1.heap.size ms) := S2.out.below b
        replace B : Hid (Below w.heap.size w w7) := B.out.trans (b.mono B.out.size)
        clear b S1
        go_wp2_with (go_at_call 25; refine (rexact_any ls _ _ hbl.out (by have := n1.out; omega) (RL.out.below B.out)).mono ?_)
        first | rintro e w8 rfl b | rintro e w8 ⟨rfl, b⟩
        replace S2 : Hid (SmAt w8 w1.heap.size ms) := S2.out.below b
        replace B : Hid (Below w.heap.size w w8) := B.out.trans (b.mono B.out.size)
        clear b
        go_wp2_with (go_at_call 24; refine (tot_same ls _).mono ?_)
        first | rintro e w9 rfl b | rintro e w9 ⟨rfl, b⟩
        replace S2 : Hid (SmAt w9 w1.heap.size ms) := S2.out.below b
        replace B : Hid (Below w.heap.size w w9) := B.out.trans (b.mono B.out.size)
        clear b
        go_wp2_with (go_at_call 22; refine (stotal_any _ ms _ (by have := n2.out; omega) S2.out).mono ?_)
        first | rintro e w10 rfl b | rintro e w10 ⟨rfl, b⟩
        replace B : Hid (Below w.heap.size w w10) := B.out.trans (b.mono B.out.size)
        clear b S2
        go_wp2_with (go_at_call 25; refine (rexact_any ms _ _ hbm.out (by have := n2.out; omega) (RM.out.below B.out)).mono ?_)
        first | rintro e w11 rfl b | rintro e w11 ⟨rfl, b⟩
        replace B : Hid (Below w.heap.size w w11) := B.out.trans (b.mono B.out.size)
        clear b
        go_wp2_with (go_at_call 24; refine (tot_same ms _).mono ?_)
        first | rintro e w12 rfl b | rintro e w12 ⟨rfl, b⟩
        replace B : Hid (Below w.heap.size w w12) := B.out.trans (b.mono B.out.size)
        clear b
        go_wp2
        go_ret
        exact ⟨rfl, B.out⟩
end Go.Proofs.Ytdhfkdopcphjlab

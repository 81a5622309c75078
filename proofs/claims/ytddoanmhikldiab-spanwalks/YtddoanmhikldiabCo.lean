/-
  The contract of common: what is in both sets. Conditions: the lists are not too long.
-/
import Derived.Test.YtddoanmhikldiabMk
import Derived.BigRegion
namespace Go.Proofs.Ytddoanmhikldiab
open Go.RowKit
def lenV : Value → Nat
  | .slice _ n _ => n
  | _ => 0
theorem cell_al {w : World} {g k : Nat} {v : Value} {o : Obj} (h : w.cell? ⟨g, k, none⟩ = some v) : (w.alloc o).cell? ⟨g, k, none⟩ = some v := by
  rw [← h]
  exact World.cell?_of_block (Below.heap_alloc w o g (by simpa using World.block_lt_of_cell? w _ h))
theorem below_dN (B : Nat) (w : World) (n : Nat) : Below B w (w.drewN n) := ⟨rfl, rfl, rfl, Nat.le_refl _, fun _ _ => rfl⟩
/-- What is left behind the first one. -/
theorem run_tail (g off n c : Nat) (h : 1 ≤ n) (hc : n ≤ c) : ∃ ad : Addr, (1 < n → ad = ⟨g, off + 2, none⟩) ∧ ∀ w, (Instr.sliceAt 22 (.slice (some ⟨g, off, none⟩) n c) (some (.int .i64 1)) none none).run Try.prog w = .ok (.slice (some ad) (n - 1) (c - 1)) w := by
  have h1 : (1 : Int) ≤ (n : Int) := by omega
  by_cases h2 : c = 1
  · refine ⟨⟨g, off, none⟩, fun h => by omega, fun w => ?_⟩
    simp [Instr.sliceAt, Instr.slice, go_sem, run_underlying Try.underlying22, h1, h2]
  · refine ⟨⟨g, off + 2, none⟩, fun _ => rfl, fun w => ?_⟩
    simp [Instr.sliceAt, Instr.slice, go_sem, run_underlying Try.underlying22, h1, h2, Try.sizeOf41, Go.WideShapes.add_plain]
theorem RdS.tail {w : World} {g off c : Nat} {s : Sn} {L : List Sn} {ad : Addr} (hlc : L.length + 1 ≤ c) (hd : ∀ j, j < L.length + 1 → w.cell? ⟨g, off + j * 2, none⟩ = some (.int .i32 ((s :: L).getD j (0, 0)).1) ∧ w.cell? ⟨g, off + j * 2 + 1, none⟩ = some (.int .i32 ((s :: L).getD j (0, 0)).2)) (had : 1 < L.length + 1 → ad = ⟨g, off + 2, none⟩) : RdS w (.slice (some ad) L.length (c - 1)) L := by
  refine ⟨some ad, c - 1, rfl, by omega, fun hp => ?_⟩
  rw [had (by omega)]
  refine ⟨g, off + 2, rfl, fun j hj => ?_⟩
  obtain ⟨h1, h2⟩ := hd (j + 1) (by omega)
  rw [show off + (j + 1) * 2 = off + 2 + j * 2 by omega] at h1 h2
  exact ⟨by simpa using h1, by simpa using h2⟩
set_option maxRecDepth 100000 in
set_option maxHeartbeats 1000000 in
theorem common_any (A B : List Sn) (va vb : Value) (w : World) (ha : RdS w va A) (hb : RdS w vb B) (hla : A.length ≤ 1000000) (hlb : B.length ≤ 1000000) : Calls Try.prog 24 #[va, vb] w fun e w' => ∃ v', e = .returned v' ∧ w'.ownsRow w.heap.size 41 2 v' (commonL A B).length (celS (commonL A B)) ∧ Below w.heap.size w w' := by
  obtain ⟨i0, hi, hz0, hz1, hz2⟩ := info_parts info57
  have HA : Hid (RdS w va A) := ha
  have HB : Hid (RdS w vb B) := hb
  clear ha hb
  go_enter Try.func24, Try.ntmps24
  go_wp2_with fail
  go_loopw [0, 1, 5] (fun x y z wr => ∃ A' B' O : List Sn, A'.length + B'.length + O.length ≤ 3000000 ∧ Hid (RdS w x A') ∧ Hid (RdS w y B') ∧ Hid (wr.ownsRow w.heap.size 41 2 z O.length (celS O)) ∧ Hid (O ++ commonL A' B' = commonL A B) ∧ Hid (Below w.heap.size w wr)) (fun x y _ _ => lenV x + lenV y)
  case atStart => exact ⟨A, B, [], by simp; omega, HA.out, HB.out, World.ownsRow_nil _ _ _ _, rfl, Below.refl _ _⟩
  case round =>
    obtain ⟨A', B', O, hlen, hA, hB, hO, hE, hBel⟩ := hrel
    obtain ⟨pa, ca, rfl, hca, hda⟩ := hA.out
    obtain ⟨pb, cb, rfl, hcb, hdb⟩ := hB.out
    cases A' with
    | nil =>
      have hE2 : Hid (O = commonL A B) := by have := hE.out; rw [commonL, List.append_nil] at this; exact this
      go_wp2
      go_ret
      exact ⟨_, rfl, by rw [← hE2.out]; exact hO.out, hBel.out⟩
    | cons s A' =>
      cases B' with
      | nil =>
        have hE2 : Hid (O = commonL A B) := by have := hE.out; rw [commonL, List.append_nil] at this; exact this
        simp only [List.length_cons]
        have n1 : (0 : Int) < (A'.length : Int) + 1 := by omega
        go_wp2
        go_ret
        exact ⟨_, rfl, by rw [← hE2.out]; exact hO.out, hBel.out⟩
      | cons t B' =>
        obtain ⟨ga, oa, rfl, ha⟩ := hda (by simp)
        obtain ⟨gb, ob, rfl, hb⟩ := hdb (by simp)
        obtain ⟨ada, hada, hra⟩ := run_tail ga oa (A'.length + 1) ca (by omega) (by simpa using hca)
        obtain ⟨adb, hadb, hrb⟩ := run_tail gb ob (B'.length + 1) cb (by omega) (by simpa using hcb)
        have TA : Hid (RdS w (.slice (some ada) A'.length (ca - 1)) A') := RdS.tail (by simpa using hca) (by simpa using ha) hada
        have TB : Hid (RdS w (.slice (some adb) B'.length (cb - 1)) B') := RdS.tail (by simpa using hcb) (by simpa using hb) hadb
        obtain ⟨a1, a2⟩ := ha 0 (by simp)
        obtain ⟨b1, b2⟩ := hb 0 (by simp)
        simp only [Nat.zero_mul, Nat.add_zero, List.getD_cons_zero] at a1 a2 b1 b2
        have ga1 := World.block_lt_of_cell? w _ a1
        have gb1 := World.block_lt_of_cell? w _ b1
        have q1 := (hBel.out.cell (p := ⟨ga, oa, none⟩) (by simpa using ga1)).trans a1
        have q2 := (hBel.out.cell (p := ⟨ga, oa + 1, none⟩) (by simpa using ga1)).trans a2
        have q3 := (hBel.out.cell (p := ⟨gb, ob, none⟩) (by simpa using gb1)).trans b1
        have q4 := (hBel.out.cell (p := ⟨gb, ob + 1, none⟩) (by simpa using gb1)).trans b2
        have HQ : Hid (∀ w1 : World, Below w.heap.size w w1 → w1.cell? ⟨ga, oa + 1, none⟩ = some (.int .i32 s.2) ∧ w1.cell? ⟨gb, ob + 1, none⟩ = some (.int .i32 t.2)) := fun w1 hb1 => ⟨(hb1.cell (p := ⟨ga, oa + 1, none⟩) (by simpa using ga1)).trans a2, (hb1.cell (p := ⟨gb, ob + 1, none⟩) (by simpa using gb1)).trans b2⟩
        have r1 := cell_al (o := .cells #[.int .i32 0, .int .i32 0] 41) q1
        have r2 := cell_al (o := .cells #[.int .i32 0, .int .i32 0] 41) q2
        have r3 := cell_al (o := .cells #[.int .i32 0, .int .i32 0] 41) q3
        have r4 := cell_al (o := .cells #[.int .i32 0, .int .i32 0] 41) q4
        obtain ⟨s1, s2⟩ := s
        obtain ⟨t1, t2⟩ := t
        simp only [List.length_cons] at hlen ⊢
        clear a1 a2 b1 b2 ha hb hada hadb ga1 gb1 hda hdb
        have n1 : (0 : Int) < (A'.length : Int) + 1 := by omega
        have n2 : (0 : Int) < (B'.length : Int) + 1 := by omega
        have hEE : Hid (O ++ commonL ((s1, s2) :: A') ((t1, t2) :: B') = commonL A B) := hE.out
        have hbs := hBel.out.size
        go_wp2_with fail
        go_region
        obtain ⟨M, hM⟩ : ∃ M, max s1 t1 = M := ⟨_, rfl⟩
        obtain ⟨m, hm⟩ : ∃ m, min s2 t2 = m := ⟨_, rfl⟩
        rw [hM, hm]
        have HM : Hid (max s1 t1 = M) := hM
        have Hm : Hid (min s2 t2 = m) := hm
        have hb2 := box2 wr M m 41
        obtain ⟨x1, x2⟩ := hb2
        have B1 : Hid (Below w.heap.size w (wr.alloc (.cells #[.int .i32 M, .int .i32 m] 41)).drew) := (hBel.out.alloc hbs _).drew
        have O1 : Hid ((wr.alloc (.cells #[.int .i32 M, .int .i32 m] 41)).drew.ownsRow w.heap.size 41 2 u5 O.length (celS O)) := owns_below hO.out (((Below.refl _ _).alloc (Nat.le_refl _) _).drew)
        clear hM hm r1 r2 r3 r4 q1 q2 q3 q4 hE
        obtain ⟨W, hW⟩ : ∃ W, (wr.alloc (.cells #[.int .i32 M, .int .i32 m] 41)).drew = W := ⟨_, rfl⟩
        have y1 : W.cell? ⟨wr.heap.size, 0, none⟩ = some (.int .i32 M) := by rw [← hW]; exact x1
        have y2 : W.cell? ⟨wr.heap.size, 1, none⟩ = some (.int .i32 m) := by rw [← hW]; exact x2
        rw [hW] at B1 O1 ⊢
        clear hW x1 x2
        have hws := B1.out.size
        by_cases c1 : M ≤ m
        · have hcn : Hid _ := cells_new W #[.int .i32 M, .int .i32 m] 41
          go_wp2_with (at_builtin; go_must (refine wpList_append_own _ rfl _ _ 22 rfl w.heap.size 41 i0 _ 2 8 Try.underlying22 hi hz0 hz1 hz2 rfl (by decide) _ _ _ rfl (O1.out.alloc _) ⟨_, 0, none⟩ 1 1 [.int .i32 M, .int .i32 m] rfl rfl hcn.out (by simp [Value.oneCell']) (by unfold maxLen; omega) (by omega) (by simp; omega) ?_))
          intro v' w2 hown' hgrow _
          have B3 : Hid (Below w.heap.size w w2) := (B1.out.alloc hws _).grown hgrow (by simp; omega) (fun j hj => (O1.out.lt j hj).1)
          have O3 : Hid (w2.ownsRow w.heap.size 41 2 v' (O ++ [(M, m)]).length (celS (O ++ [(M, m)]))) := by rw [Hid, List.length_append, celS_snoc]; exact hown'
          clear hown' hgrow hcn O1 B1
          obtain ⟨z1, z2⟩ := HQ.out w2 B3.out
          by_cases c2 : s2 < t2
          · have hlt : s2 < t2 := c2
            have hE2 : Hid ((O ++ [(M, m)]) ++ commonL A' ((t1, t2) :: B') = commonL A B) := by rw [Hid, ← hEE.out, commonL, HM.out, Hm.out, if_pos c1, if_pos c2, List.append_assoc]
            clear c2 hrb y1 y2 hEE HM Hm HQ hbs hws
            go_wp2_with fail
            go_quiet (fail)
            go_wp2
            exact ⟨⟨A', (t1, t2) :: B', (O ++ [(M, m)]), by simp; omega, TA.out, hB.out, O3.out, hE2.out, B3.out.trans (below_dN _ _ _)⟩, by simp [lenV]⟩
          · have hlt : decide (s2 < t2) = false := decide_eq_false c2
            have hE2 : Hid ((O ++ [(M, m)]) ++ commonL ((s1, s2) :: A') B' = commonL A B) := by rw [Hid, ← hEE.out, commonL, HM.out, Hm.out, if_pos c1, if_neg c2, List.append_assoc]
            clear c2 hra y1 y2 hEE HM Hm HQ hbs hws
            go_wp2_with fail
            go_quiet (fail)
            go_wp2
            exact ⟨⟨(s1, s2) :: A', B', (O ++ [(M, m)]), by simp; omega, hA.out, TB.out, O3.out, hE2.out, B3.out.trans (below_dN _ _ _)⟩, by simp [lenV]⟩
        · have c1' : decide (M ≤ m) = false := decide_eq_false c1
          obtain ⟨z1, z2⟩ := HQ.out W B1.out
          have B3 : Hid (Below w.heap.size w W) := B1.out
          have O3 : Hid (W.ownsRow w.heap.size 41 2 u5 O.length (celS O)) := O1.out
          by_cases c2 : s2 < t2
          · have hlt : s2 < t2 := c2
            have hE2 : Hid (O ++ commonL A' ((t1, t2) :: B') = commonL A B) := by rw [Hid, ← hEE.out, commonL, HM.out, Hm.out, if_neg c1, if_pos c2, List.nil_append]
            clear c1 c2 hrb hEE HM Hm HQ hbs hws
            go_wp2_with fail
            go_quiet (fail)
            go_wp2
            exact ⟨⟨A', (t1, t2) :: B', O, by simp; omega, TA.out, hB.out, O3.out, hE2.out, B3.out.trans (below_dN _ _ _)⟩, by simp [lenV]⟩
          · have hlt : decide (s2 < t2) = false := decide_eq_false c2
            have hE2 : Hid (O ++ commonL ((s1, s2) :: A') B' = commonL A B) := by rw [Hid, ← hEE.out, commonL, HM.out, Hm.out, if_neg c1, if_neg c2, List.nil_append]
            clear c1 c2 hra hEE HM Hm HQ hbs hws
            go_wp2_with fail
            go_quiet (fail)
            go_wp2
            exact ⟨⟨(s1, s2) :: A', B', O, by simp; omega, hA.out, TB.out, O3.out, hE2.out, B3.out.trans (below_dN _ _ _)⟩, by simp [lenV]⟩
end Go.Proofs.Ytddoanmhikldiab

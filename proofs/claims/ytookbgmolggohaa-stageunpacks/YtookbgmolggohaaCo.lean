/-
  The contract of Count. Condition: the table's numbers are from 0 to 65535.
-/
import Derived.Test.YtookbgmolggohaaTi
namespace Go.Proofs.Ytookbgmolggohaa
open Go.RowKit
theorem wpList_load_run {P : Program} {w : World} {ops : Array Oper} {rest : List Oper} {o : Oper} {a : Act} {Q : Exit → Act → World → Prop} (hgd : o.guard = none) (ty : TypeId) (x : Operand) (ho : o.op = .load ty x) (p : Addr) (hx : a.eval x = .pointer (some p)) (v : Value)
    (hr : (loadVar ty p).run P w = .ok v w) (h : wpList P ops Q rest (a.put o.dst v) w) : wpList P ops Q (o :: rest) a w := by
  refine wpList_plain hgd fun K hK => ?_
  unfold Oper.wp execOp
  simp only [ho, hx, Instr.loadAt, Instr.sureAddr, Sem.run_bind, Sem.run_pure, Result.andThen_ok, hr]
  exact hK _ _ h
theorem isAgg70 (w : World) : (isAgg 70).run Try.prog w = .ok false w := by kernel_rfl
theorem index_blk (f : Nat → Int) (k : Nat) (w : World) (h : k < 128) : (Instr.index 72 (.agg (rowOf .u16 128 f)) (.int .i64 (k : Int))).run Try.prog w = .ok (.int .u16 (f k)) w := by
  have h1 : (0 : Int) ≤ k ∧ (k : Int) < 128 := by omega
  have hg := rowOf_get .u16 128 f k h
  simp [Instr.index, asIntOf, run_underlying Try.underlying72, h1, part, hg, h]
theorem cB_succ (f : Nat → Int) (n : Int) (j : Nat) : cB f n (j + 1) = cB f n j + (if f j = n then 1 else 0) := rfl
theorem sumT_succ (t g : Nat → Nat) (u : Nat) : sumT t g (u + 1) = sumT t g u + t u * g u := rfl
set_option maxRecDepth 100000 in
set_option maxHeartbeats 4000000 in
theorem count_any (vt : Value) (F : Int → Int) (n : Int) (w : World) (hT : Tab w vt F) (hF : ∀ p, 0 ≤ F p ∧ F p ≤ 65535) : Calls Try.prog 29 #[vt, .int .i64 n] w fun e w' => e = .returned (.int .i64 (cN F n 1114112 : Nat)) ∧ Below w.heap.size w w' := by
  have hci := count_is F n
  generalize hcn : cN F n 1114112 = C at *
  replace hcn : Hid (cN F n 1114112 = C) := hcn
  have HF : Hid (∀ p, 0 ≤ F p ∧ F p ≤ 65535) := hF
  have KF : Hid (Calls Try.prog 39 #[vt] w fun e w' => ∃ T, e = .returned (.pointer (some ⟨T, 0, none⟩)) ∧ TabAt w' T F ∧ Below w.heap.size w w') := full_any w vt F hT
  clear hT hF
  go_enter Try.func29, Try.ntmps29
  go_wp2_with (go_at_call 39; refine KF.out.mono ?_)
  first | rintro e wa T rfl ta ba | rintro e wa ⟨T, rfl, ta, ba⟩
  have KT : Hid (Calls Try.prog 51 #[.pointer (some ⟨T, 0, none⟩)] wa fun e w' => ∃ v, e = .returned v ∧ w'.ownsRow wa.heap.size 3 1 v (unl F 8704).length (tmRow F (unl F 8704).length 8704) ∧ Below wa.heap.size wa w') := times_any T F wa ta
  replace ta : Hid (TabAt wa T F) := ta
  replace ba : Hid (Below w.heap.size w wa) := ba
  clear KF
  go_wp2_with (go_at_call 51; refine KT.out.mono ?_)
  first | rintro e wb vb rfl ob bb | rintro e wb ⟨vb, rfl, ob, bb⟩
  have tb : Hid (TabAt wb T F) := ta.out.below bb
  have Bb : Hid (Below w.heap.size w wb) := ba.out.trans (bb.mono ba.out.size)
  obtain ⟨av, cv, rfl, -, hav⟩ := owns_slice ob
  obtain ⟨tg, rfl⟩ := hav (unl_pos F 8703)
  have HT : Hid (∀ i, i < (unl F 8704).length → wb.cell? ⟨tg, i, none⟩ = some (.int .i64 (tmN F i 8704 : Nat))) := fun i hi => (owns_cell ob rfl i _ (tmRow_get F _ 8704 i hi)).1
  obtain ⟨pg, pc, ug, uc, c1, -, -, -, c5⟩ := tb.out
  obtain ⟨-, d2⟩ := tab_cells c1
  have HU : Hid (∀ (w1 : World) i, Below wb.heap.size wb w1 → i < (unl F 8704).length → (loadVar 72 ⟨ug, i * 128, none⟩).run Try.prog w1 = .ok (.agg (rowOf .u16 128 ((unl F 8704).getD i zerosF))) w1) := fun w1 i hb hi => by
    refine run_l72 fun j hj => ?_
    have h1 := c5 i ((unl F 8704).getD i zerosF) (by simp [List.getD, hi]) j hj
    exact (hb.cell (p := ⟨ug, i * 128 + j, none⟩) (World.block_lt_of_cell? wb _ h1)).trans h1
  have HR : Hid (∀ i, i < (unl F 8704).length → ∀ j, 0 ≤ (unl F 8704).getD i zerosF j ∧ (unl F 8704).getD i zerosF j ≤ 65535) := fun i hi j => by
    obtain ⟨k, _, hk⟩ := unl_all F 8704 ((unl F 8704).getD i zerosF) (by rw [show (unl F 8704).getD i zerosF = (unl F 8704)[i] by simp [List.getD, hi]]; exact List.getElem_mem hi)
    rw [hk]
    exact blk_range HF.out k j
  have hD2 : Hid (∀ w1 : World, Below wb.heap.size wb w1 → w1.cell? ⟨T, 1, none⟩ = some (.slice (some ⟨ug, 0, none⟩) (unl F 8704).length uc)) := fun w1 hb => (hb.cell (p := ⟨T, 1, none⟩) (World.block_lt_of_cell? wb _ d2)).trans d2
  have hul := unl_len F 8704
  clear KT ob bb c1 c5 d2 hav ta ba tb
  generalize (unl F 8704).length = u at *
  obtain ⟨Uf, hUf⟩ : ∃ Uf : Nat → Nat → Int, ∀ i, (unl F 8704).getD i zerosF = Uf i := ⟨_, fun _ => rfl⟩
  simp only [hUf] at HU HR hci
  clear hUf
  obtain ⟨tm, htm⟩ : ∃ tm : Nat → Nat, ∀ i, tmN F i 8704 = tm i := ⟨_, fun _ => rfl⟩
  have htl : ∀ i, tm i ≤ 8704 := fun i => by rw [← htm]; exact tmN_le F i 8704
  simp only [htm] at HT hci
  clear htm HF
  have hbd : Hid (∀ k j, k < u → j ≤ 128 → sumT tm (fun i => cB (Uf i) n 128) k + tm k * cB (Uf k) n j ≤ 10000000000 ∧ tm k ≤ 8704) := fun k j hk hj => by
    have h1 := sumT_le tm (fun i => cB (Uf i) n 128) 8704 128 k fun i _ => ⟨htl i, cB_le _ _ _⟩
    have h2 := Nat.mul_le_mul (htl k) (Nat.le_trans (cB_le (Uf k) n j) hj)
    have h3 : k * (8704 * 128) ≤ 8704 * (8704 * 128) := Nat.mul_le_mul_right _ (by omega)
    exact ⟨by omega, htl k⟩
  have HCI : Hid (sumT tm (fun i => cB (Uf i) n 128) u = C) := hci
  clear hci htl
  go_wp2_with fail
  go_loopw [5, 15] (fun x y wr => ∃ (k : Nat), k ≤ u ∧ y = .int .i64 (k : Nat) ∧ x = .int .i64 (sumT tm (fun i => cB (Uf i) n 128) k : Nat) ∧ Hid (Below wb.heap.size wb wr)) (fun _ y _ => (u - (intOf y).toNat : Nat))
  case atStart => exact ⟨0, Nat.zero_le _, rfl, rfl, Below.refl _ _⟩
  case round =>
    obtain ⟨k, hk, rfl, rfl, hB⟩ := hrel
    by_cases hkl : k < u
    · have kl : (k : Int) < (u : Int) := by omega
      have d3 := HT.out k hkl
      have e3 := (hB.out.cell (p := ⟨tg, k, none⟩) (World.block_lt_of_cell? wb _ d3)).trans d3
      have dT := hD2.out wr hB.out
      have hld := HU.out wr k hB.out hkl
      have hrg : Hid (∀ j, 0 ≤ Uf k j ∧ Uf k j ≤ 65535) := HR.out k hkl
      have hbk : Hid (∀ j, j ≤ 128 → sumT tm (fun i => cB (Uf i) n 128) k + tm k * cB (Uf k) n j ≤ 10000000000 ∧ tm k ≤ 8704) := fun j hj => hbd.out k j hkl hj
      have hst : Hid (sumT tm (fun i => cB (Uf i) n 128) (k + 1) = sumT tm (fun i => cB (Uf i) n 128) k + tm k * cB (Uf k) n 128) := rfl
      have hix : Hid (∀ (j : Nat) (w1 : World), j < 128 → (Instr.index 72 (.agg (rowOf .u16 128 (Uf k))) (.int .i64 (j : Int))).run Try.prog w1 = .ok (.int .u16 (Uf k j)) w1) := fun j w1 hj => index_blk (Uf k) j w1 hj
      have hcb : Hid (∀ j, cB (Uf k) n (j + 1) = cB (Uf k) n j + (if Uf k j = n then 1 else 0)) := fun j => rfl
      have hcb0 : Hid (cB (Uf k) n 0 = 0) := rfl
      have hku : ¬ u ≤ k := by omega
      clear d3 HT hD2 HU HR hbd HCI
      obtain ⟨S1, hS1⟩ : ∃ S1, S1 = sumT tm (fun i => cB (Uf i) n 128) (k + 1) := ⟨_, rfl⟩
      rw [← hS1] at hst
      replace hS1 : Hid (S1 = sumT tm (fun i => cB (Uf i) n 128) (k + 1)) := hS1
      generalize sumT tm (fun i => cB (Uf i) n 128) k = S0 at *
      generalize Uf k = fk at *
      generalize tm k = t at *
      generalize rowOf .u16 128 fk = X at *
      replace hld : Hid ((loadVar 72 ⟨ug, k * 128, none⟩).run Try.prog wr = .ok (.agg X) wr) := hld
      go_wp2_with (refine wpList_load_run rfl 72 _ rfl ⟨ug, k * 128, none⟩ rfl _ hld.out ?_)
      clear hld e3 dT
      go_loopw [5, 27] (fun x y wi => ∃ (j c : Nat), j ≤ 128 ∧ y = .int .i64 (j : Nat) ∧ Hid (c = S0 + t * cB fk n j) ∧ x = .int .i64 (c : Nat) ∧ c ≤ 10000000000 ∧ Hid (Below wb.heap.size wb wi)) (fun _ y _ => (128 - (intOf y).toNat : Nat))
      case atStart => exact ⟨0, S0, by omega, rfl, by rw [Hid, hcb0.out]; simp, rfl, by have := (hbk.out 0 (by omega)).1; omega, hB⟩
      case round =>
        obtain ⟨j, c, hj, rfl, hc, rfl, hcl, hB2⟩ := hrel
        by_cases hjl : j < 128
        · have jl : (j : Int) < 128 := by omega
          have hixj := fun w1 => hix.out j w1 hjl
          have hcj := hcb.out j
          obtain ⟨r1, r2⟩ := hrg.out j
          have hb1 := hbk.out (j + 1) (by omega)
          generalize fk j = x at *
          by_cases hx : x = n
          · have hxd : (x == n) = true := by simpa using hx
            rw [if_pos hx] at hcj
            have hc2 : Hid (c + t = S0 + t * cB fk n (j + 1)) := by rw [Hid, hcj, hc.out, Nat.mul_add]; omega
            have hcl2 : c + t ≤ 10000000000 := by rw [hc2.out]; exact hb1.1
            have wc2 : IntKind.i64.wrap ((c : Int) + (t : Int)) = (c : Int) + (t : Int) := IntWalk.i64_in _ (by omega)
            clear hcj hb1 hc hx
            go_wp2
            refine ⟨⟨j + 1, c + t, by omega, by go_num, hc2, by go_num, hcl2, hB2⟩, by simp [intOf]; omega⟩
          · have hxd : (x == n) = false := by simpa using hx
            rw [if_neg hx] at hcj
            have hc2 : Hid (c = S0 + t * cB fk n (j + 1)) := by rw [Hid, hcj, hc.out]; simp
            clear hcj hb1 hc hx
            go_wp2
            refine ⟨⟨j + 1, c, by omega, by go_num, hc2, rfl, hcl, hB2⟩, by simp [intOf]; omega⟩
        · have hjj : j = 128 := by omega
          subst hjj
          have hc2 : c = S1 := by rw [hc.out, hst.out]
          have hc3 : Hid ((Value.int .i64 (c : Nat)) = .int .i64 (sumT tm (fun i => cB (Uf i) n 128) (k + 1) : Nat)) := by rw [Hid, hc2, hS1.out]
          clear hc hst hc2 hS1
          go_wp2
          refine ⟨⟨k + 1, by omega, by go_num, hc3.out, hB2⟩, by simp [intOf]; omega⟩
    · have hkk : k = u := by omega
      subst hkk
      have B2 : Hid (Below w.heap.size w wr) := Bb.out.trans (hB.out.mono Bb.out.size)
      rw [HCI.out]
      go_wp2
      go_ret
      exact ⟨rfl, B2.out⟩
end Go.Proofs.Ytookbgmolggohaa

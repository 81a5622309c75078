/-
  The contract of Swap. Conditions: the table's numbers are from 0 to 65535; sswap_good: the two numbers, too.
-/
import Derived.Test.YtookbgmolggohabNc
namespace Go.Proofs.Ytookbgmolggohab
open Go.RowKit
/-- What a table says once t stands in the place of f. -/
def swF (f t : Int) (F : Int → Int) (p : Int) : Int := if 0 ≤ p ∧ p ≤ 1114111 then sw1 f t (F p) else 0
theorem sw1_range {f t x : Int} (ht : 0 ≤ t ∧ t ≤ 65535) (hx : 0 ≤ x ∧ x ≤ 65535) : 0 ≤ sw1 f t x ∧ sw1 f t x ≤ 65535 := by
  unfold sw1
  split <;> assumption
theorem swF_range {f t : Int} {F : Int → Int} (ht : 0 ≤ t ∧ t ≤ 65535) (hF : ∀ p, 0 ≤ F p ∧ F p ≤ 65535) (p : Int) : 0 ≤ swF f t F p ∧ swF f t F p ≤ 65535 := by
  unfold swF
  split
  · exact sw1_range ht (hF p)
  · omega
theorem swF_blk {f t : Int} {F : Int → Int} {i : Nat} (hi : i < 8704) (j : Nat) (hj : j < 128) : sw1 f t (blk F i j) = blk (swF f t F) i j := by
  unfold blk swF
  rw [if_pos hj, if_pos hj, if_pos (by omega)]
theorem num_no {p : Int} (h : ¬ (0 ≤ p ∧ p ≤ 65535)) : (decide (0 ≤ p) && decide (p ≤ 65535)) = false := by
  cases h1 : decide (0 ≤ p) with
  | false => rfl
  | true => exact decide_eq_false (fun h2 => h ⟨of_decide_eq_true h1, h2⟩)
theorem num_yes {p : Int} (h : 0 ≤ p ∧ p ≤ 65535) : (decide (0 ≤ p) && decide (p ≤ 65535)) = true := by
  rw [decide_eq_true h.1, decide_eq_true h.2]; rfl
set_option maxRecDepth 100000 in
set_option maxHeartbeats 1000000 in
theorem sswap_bad (vt : Value) (f t : Int) (w : World) (h : ¬ ((0 ≤ f ∧ f ≤ 65535) ∧ (0 ≤ t ∧ t ≤ 65535))) : Calls Try.prog 31 #[vt, .int .i64 f, .int .i64 t] w fun e w' => e = .returned (.tuple #[.pointer none, .int .i64 81]) ∧ Below w.heap.size w w' := by
  have K1 := number_any f w
  have K2 : Hid (∀ w1, Calls Try.prog 58 #[.int .i64 t] w1 fun e w' => e = .returned (.bool (decide (0 ≤ t) && decide (t ≤ 65535))) ∧ Below w1.heap.size w1 w') := fun w1 => number_any t w1
  by_cases h1 : 0 ≤ f ∧ f ≤ 65535
  · have h2 : ¬ (0 ≤ t ∧ t ≤ 65535) := fun h2 => h ⟨h1, h2⟩
    rw [num_yes h1] at K1
    rw [num_no h2] at K2
    replace K1 : Hid (Calls Try.prog 58 #[.int .i64 f] w fun e w' => e = .returned (.bool true) ∧ Below w.heap.size w w') := K1
    clear h h1 h2
    go_enter Try.func31, Try.ntmps31
    go_wp2_with (go_at_call 58; refine K1.out.mono ?_)
    intro e w1 hq
    first | (obtain ⟨rfl, b1⟩ : _ ∧ _ := hq) | (subst hq; intro b1)
    replace b1 : Hid (Below w.heap.size w w1) := b1
    clear K1
    go_wp2_with (go_at_call 58; refine (K2.out _).mono ?_)
    intro e w2 hq
    first | (obtain ⟨rfl, b2⟩ : _ ∧ _ := hq) | (subst hq; intro b2)
    have B2 : Hid (Below w.heap.size w w2) := b1.out.trans (b2.mono b1.out.size)
    clear b1 b2 K2
    go_wp2
    go_ret2
    exact ⟨rfl, B2.out⟩
  · rw [num_no h1] at K1
    replace K1 : Hid (Calls Try.prog 58 #[.int .i64 f] w fun e w' => e = .returned (.bool false) ∧ Below w.heap.size w w') := K1
    clear h h1 K2
    go_enter Try.func31, Try.ntmps31
    go_wp2_with (go_at_call 58; refine K1.out.mono ?_)
    intro e w1 hq
    first | (obtain ⟨rfl, b1⟩ : _ ∧ _ := hq) | (subst hq; intro b1)
    replace b1 : Hid (Below w.heap.size w w1) := b1
    clear K1
    go_wp2
    go_ret2
    exact ⟨rfl, b1.out⟩
set_option maxRecDepth 100000 in
set_option maxHeartbeats 4000000 in
theorem sswap_good (vt : Value) (F : Int → Int) (f t : Int) (w : World) (hT : Tab w vt F) (hF : ∀ p, 0 ≤ F p ∧ F p ≤ 65535) (hf : 0 ≤ f ∧ f ≤ 65535) (ht : 0 ≤ t ∧ t ≤ 65535) : Calls Try.prog 31 #[vt, .int .i64 f, .int .i64 t] w fun e w' => ∃ T, e = .returned (.tuple #[.pointer (some ⟨T, 0, none⟩), .int .i64 0]) ∧ TabAt w' T (swF f t F) ∧ Below w.heap.size w w' := by
  have K1 := number_any f w
  have K2 : Hid (∀ w1, Calls Try.prog 58 #[.int .i64 t] w1 fun e w' => e = .returned (.bool (decide (0 ≤ t) && decide (t ≤ 65535))) ∧ Below w1.heap.size w1 w') := fun w1 => number_any t w1
  rw [num_yes hf] at K1
  rw [num_yes ht] at K2
  replace K1 : Hid (Calls Try.prog 58 #[.int .i64 f] w fun e w' => e = .returned (.bool true) ∧ Below w.heap.size w w') := K1
  have hfu : IntKind.u16.wrap f = f := by rw [IntWalk.u16_in _ (by omega)]
  have htu : IntKind.u16.wrap t = t := by rw [IntWalk.u16_in _ (by omega)]
  have HT : Hid (Tab w vt F) := hT
  have HF : Hid (∀ p, 0 ≤ F p ∧ F p ≤ 65535) := hF
  have HG : Hid (∀ p, 0 ≤ swF f t F p ∧ swF f t F p ≤ 65535) := swF_range ht hF
  clear hT hF hf ht
  go_enter Try.func31, Try.ntmps31
  go_wp2_with (go_at_call 58; refine K1.out.mono ?_)
  intro e w1 hq
  first | (obtain ⟨rfl, b1⟩ : _ ∧ _ := hq) | (subst hq; intro b1)
  replace b1 : Hid (Below w.heap.size w w1) := b1
  clear K1
  go_wp2_with (go_at_call 58; refine (K2.out _).mono ?_)
  intro e w2 hq
  first | (obtain ⟨rfl, b2⟩ : _ ∧ _ := hq) | (subst hq; intro b2)
  have B2 : Hid (Below w.heap.size w w2) := b1.out.trans (b2.mono b1.out.size)
  clear b1 b2 K2
  go_wp2_with (go_at_call 59; refine (full_any _ vt F (HT.out.below B2.out)).mono ?_)
  first | rintro e w3 T0 rfl t3 b3 | rintro e w3 ⟨T0, rfl, t3, b3⟩
  have B3 : Hid (Below w.heap.size w w3) := B2.out.trans (b3.mono B2.out.size)
  clear b3 B2 HT
  obtain ⟨pg, pc, ug, uc, c1, c2, c3, c4, c5⟩ := t3
  obtain ⟨d1, d2⟩ := tab_cells c1
  have hul := unl_len F 8704
  have hup := unl_pos F 8703
  have hTl : Hid (T0 < w3.heap.size ∧ pg < w3.heap.size) := ⟨(Array.getElem?_eq_some_iff.1 c1).1, World.block_lt_of_cell? w3 _ (c4 0 (by decide))⟩
  have HP : Hid (∀ i, i < 8704 → w3.cell? ⟨pg, i, none⟩ = some (.int .u16 (plc F i : Nat))) := c4
  have HD : Hid (w3.cell? ⟨T0, 0, none⟩ = some (.slice (some ⟨pg, 0, none⟩) 8704 pc)) := d1
  have KC : Hid (Calls Try.prog 60 #[.slice (some ⟨ug, 0, none⟩) (unl F 8704).length uc] w3 fun e w' => ∃ v, e = .returned v ∧ w'.ownsRow w3.heap.size 102 128 v (unl F 8704).length (celU (unl F 8704)) ∧ Below w3.heap.size w3 w') := clone_any ug uc (unl F 8704) w3 hul c5 (World.block_lt_of_cell? w3 _ (c5 _ _ (plc_get F (n := 8704) (i := 0) (by decide)) 0 (by decide)))
  clear c1 c2 c3 c4 c5 d1
  go_wp2_with (go_at_call 60; refine KC.out.mono ?_)
  first | rintro e w4 v4 rfl o4 b4 | rintro e w4 ⟨v4, rfl, o4, b4⟩
  obtain ⟨av, cv, rfl, hcv, hav⟩ := owns_slice o4
  obtain ⟨g, rfl⟩ := hav hup
  have hgB : Hid (w3.heap.size ≤ g) := (owns_blk o4).2
  have HB4 : Hid (Below w3.heap.size w3 w4) := b4
  have HC4 : Hid (CelU w4 g ((unl F 8704).length * 128) (fun i => ((unl F 8704).getD (i / 128) zerosF) (i % 128))) := by
    obtain ⟨h1, ⟨h2, _⟩ | ⟨g', cap', cur, h2, h3, h4, h5, h6, h7, h8⟩⟩ := o4
    · cases h2
    · cases h2
      refine ⟨cur, h4, fun i hi => ?_⟩
      have hq : i / 128 < (unl F 8704).length := by omega
      have h9 := celU_get (unl F 8704) (i / 128) (i % 128) (unl F 8704)[i / 128] (by simp [hq]) (by omega)
      rw [show i / 128 * 128 + i % 128 = i by omega, ← h8, List.getElem?_take_of_lt hi, Array.getElem?_toList] at h9
      show cur[i]? = some (.int .u16 ((unl F 8704).getD (i / 128) zerosF (i % 128)))
      rw [h9, show (unl F 8704).getD (i / 128) zerosF = (unl F 8704)[i / 128] by simp [List.getD, hq]]
  have HV : Hid (∀ i, i < 8704 → plc F i < (unl F 8704).length ∧ ∀ j, j < 128 → sw1 f t ((fun i => ((unl F 8704).getD (i / 128) zerosF) (i % 128)) (plc F i * 128 + j)) = blk (swF f t F) i j) := fun i hi => by
    have h1 := plc_lt F hi
    refine ⟨h1, fun j hj => ?_⟩
    have h2 := plc_get F hi
    show sw1 f t ((unl F 8704).getD ((plc F i * 128 + j) / 128) zerosF ((plc F i * 128 + j) % 128)) = _
    rw [show (plc F i * 128 + j) / 128 = plc F i by omega, show (plc F i * 128 + j) % 128 = j by omega, show (unl F 8704).getD (plc F i) zerosF = blk F i by simp [List.getD, h2]]
    exact swF_blk hi j hj
  clear o4 b4 hav KC d2 hup hcv
  generalize (unl F 8704).length = u at *
  generalize (fun i => ((unl F 8704).getD (i / 128) zerosF) (i % 128)) = hh at HC4 HV
  go_wp2_with fail
  generalize hpl : plc F = pl at *
  clear hpl
  generalize hGe : swF f t F = G at *
  replace hGe : Hid (swF f t F = G) := hGe
  go_loopw [30] (fun y wr => ∃ k : Nat, k ≤ u ∧ y = .int .i64 (k : Nat) ∧ Hid (CelU wr g (u * 128) (fun i => if i < k * 128 then sw1 f t (hh i) else hh i)) ∧ Hid (Below w3.heap.size w3 wr)) (fun y _ => (u - (intOf y).toNat : Nat))
  case atStart => exact ⟨0, Nat.zero_le _, rfl, HC4.out.congr fun i _ => by rw [if_neg (by omega)], HB4⟩
  case round =>
    clear HC4 HB4
    obtain ⟨k, hk, rfl, HC, HB⟩ := hrel
    by_cases hkl : k < u
    · have kl : (k : Int) < (u : Int) := by omega
      have hku : ¬ u ≤ k := by omega
      have KS : Hid (Calls Try.prog 61 #[.pointer (some ⟨g, k * 128, none⟩), .int .u16 f, .int .u16 t] wr fun e w' => e = .returned (.tuple #[]) ∧ Far (fun k => k = g) wr w' ∧ CelU w' g (u * 128) (fun i => if k * 128 ≤ i ∧ i < k * 128 + 128 then sw1 f t (if i < k * 128 then sw1 f t (hh i) else hh i) else (if i < k * 128 then sw1 f t (hh i) else hh i))) := bswap_any g (k * 128) (u * 128) _ f t wr HC.out (by omega)
      clear HC
      go_wp2_with (go_at_call 61; refine KS.out.mono ?_)
      intro e w5 hq
      first | (obtain ⟨rfl, f5, q5⟩ : _ ∧ _ ∧ _ := hq) | (subst hq; intro f5 q5)
      have B5 : Hid (Below w3.heap.size w3 w5) := HB.out.trans (f5.toBelow HB.out.size (fun k hk => by rw [hk]; exact hgB.out))
      have Q5 : Hid (CelU w5 g (u * 128) (fun i => if i < (k + 1) * 128 then sw1 f t (hh i) else hh i)) := q5.congr fun i _ => by
        by_cases c1 : i < k * 128
        · rw [if_neg (by omega), if_pos c1, if_pos (by omega)]
        · by_cases c2 : i < k * 128 + 128
          · rw [if_pos (by omega), if_neg c1, if_pos (by omega)]
          · rw [if_neg (by omega), if_neg c1, if_neg (by omega)]
      clear f5 q5 KS HB
      go_wp2
      refine ⟨⟨k + 1, by omega, by go_num, Q5, B5⟩, by simp [intOf]; omega⟩
    · have hkk : u = k := by omega
      subst hkk
      have HC5 : Hid (CelU wr g (u * 128) (fun i => sw1 f t (hh i))) := HC.out.congr fun i hi => by rw [if_pos hi]
      clear HC hkl hk
      go_wp2_with (go_at_call 62; refine (maker_new _).mono ?_)
      rintro e w6 hq
      first | (obtain ⟨rfl, rfl⟩ : _ ∧ _ := hq) | (subst hq; rintro rfl)
      obtain ⟨w5, hw5⟩ : ∃ w5, w5 = wr := ⟨wr, rfl⟩
      subst hw5
      have hM : Hid (∃ pv uv, Mk (((w5.alloc (.cells #[.slice none 0 0, .slice none 0 0] 105)).alloc (.map #[] 0)).alloc (.cells #[.pointer (some ⟨w5.heap.size, 0, none⟩), .map (some (w5.heap.size + 1))] 112)) w5.heap.size (w5.heap.size + 2) w5.heap.size (w5.heap.size + 1) pv uv (unl G 0) (plcs G 0)) := ⟨_, _, maker_mk w5⟩
      have hB6 : Hid (Below w5.heap.size w5 (((w5.alloc (.cells #[.slice none 0 0, .slice none 0 0] 105)).alloc (.map #[] 0)).alloc (.cells #[.pointer (some ⟨w5.heap.size, 0, none⟩), .map (some (w5.heap.size + 1))] 112))) := (((Below.refl _ w5).alloc (Nat.le_refl _) _).alloc (by simp) _).alloc (by simp; omega) _
      generalize (((w5.alloc (.cells #[.slice none 0 0, .slice none 0 0] 105)).alloc (.map #[] 0)).alloc (.cells #[.pointer (some ⟨w5.heap.size, 0, none⟩), .map (some (w5.heap.size + 1))] 112)) = w6 at *
      have hd : ∀ w1, Below w5.heap.size w5 w1 → w1.cell? ⟨T0, 0, none⟩ = some (.slice (some ⟨pg, 0, none⟩) 8704 pc) := fun w1 hb => by
        have h1 := (HB.out.cell (p := ⟨T0, 0, none⟩) hTl.out.1).trans HD.out
        exact (hb.cell (p := ⟨T0, 0, none⟩) (World.block_lt_of_cell? w5 _ h1)).trans h1
      have HPp : Hid (∀ i, i < 8704 → ∀ w1, Below w5.heap.size w5 w1 → w1.cell? ⟨pg, i, none⟩ = some (.int .u16 (pl i : Nat))) := fun i hi w1 hb => by
        have h1 := (HB.out.cell (p := ⟨pg, i, none⟩) hTl.out.2).trans (HP.out i hi)
        exact (hb.cell (p := ⟨pg, i, none⟩) (World.block_lt_of_cell? w5 _ h1)).trans h1
      have HL : Hid (∀ i, i < 8704 → ∀ w1, Below w5.heap.size w5 w1 → (loadVar 102 ⟨g, pl i * 128, none⟩).run Try.prog w1 = .ok (.agg (rowOf .u16 128 (blk G i))) w1) := fun i hi w1 hb => by
        obtain ⟨h1, h2⟩ := HV.out i hi
        exact run_l72 fun j hj => by
          have h3 := ((HC5.out.below hb).cell (i := pl i * 128 + j) (by omega)).1
          rw [h3, h2 j hj]
      have d1 := hd w6 hB6.out
      have hpu : Hid (∀ i, i < 8704 → pl i < u) := fun i hi => (HV.out i hi).1
      have BW : Hid (Below w.heap.size w w5) := B3.out.trans (HB.out.mono B3.out.size)
      clear hd HP HV HC5 HB HD hTl hgB B3
      go_wp2_with fail
      clear d1
      go_loopw [48] (fun y wr => ∃ i : Nat, i ≤ 8704 ∧ y = .int .i64 (i : Nat) ∧ Hid (∃ pv uv, Mk wr w5.heap.size (w5.heap.size + 2) w5.heap.size (w5.heap.size + 1) pv uv (unl G i) (plcs G i)) ∧ Hid (Below w5.heap.size w5 wr)) (fun y _ => (8704 - (intOf y).toNat : Nat))
      case atStart => exact ⟨0, by omega, rfl, hM, hB6⟩
      case round =>
        clear hM hB6
        obtain ⟨i, hi, rfl, hM, hB⟩ := hrel
        by_cases hil : i < 8704
        · have il : (i : Int) < 8704 := by omega
          have d3 := HPp.out i hil wr hB.out
          have hld : Hid ((loadVar 102 ⟨g, pl i * 128, none⟩).run Try.prog wr = .ok (.agg (rowOf .u16 128 (blk G i))) wr) := HL.out i hil wr hB.out
          have hpi := hpu.out i hil
          have hpn : ¬ u ≤ pl i := by omega
          obtain ⟨pv, uv, hm⟩ := hM.out
          have KA : Hid (Calls Try.prog 63 #[.pointer (some ⟨w5.heap.size + 2, 0, none⟩), .agg (rowOf .u16 128 (blk G i))] wr fun e w' => e = .returned (.tuple #[]) ∧ Below w5.heap.size wr w' ∧ ∃ pv' uv', Mk w' w5.heap.size (w5.heap.size + 2) w5.heap.size (w5.heap.size + 1) pv' uv' (unl G (i + 1)) (plcs G (i + 1))) := add_any _ _ _ _ pv uv G i wr hm HG.out hil
          clear hm hM HPp HL
          generalize rowOf .u16 128 (blk G i) = XB at *
          generalize pl i = m at *
          go_wp2_with (first | (refine wpList_load_run rfl 102 _ rfl ⟨g, m * 128, none⟩ rfl _ hld.out ?_) | (go_at_call 63; refine KA.out.mono ?_))
          intro e w7 hq
          first | (obtain ⟨rfl, b7, m7⟩ : _ ∧ _ ∧ _ := hq) | (subst hq; intro b7 m7)
          have B7 : Hid (Below w5.heap.size w5 w7) := hB.out.trans b7
          replace m7 : Hid (∃ pv uv, Mk w7 w5.heap.size (w5.heap.size + 2) w5.heap.size (w5.heap.size + 1) pv uv (unl G (i + 1)) (plcs G (i + 1))) := m7
          clear b7 KA hld d3 hB
          go_wp2
          refine ⟨⟨i + 1, by omega, by go_num, m7, B7⟩, by simp [intOf]; omega⟩
        · have hii : i = 8704 := by omega
          subst hii
          obtain ⟨pv, uv, hm⟩ := hM.out
          obtain ⟨m0, -⟩ := tab_cells hm.m
          have tE : Hid (TabAt wr w5.heap.size G) := hm.tab
          have BE : Hid (Below w.heap.size w wr) := BW.out.trans (hB.out.mono BW.out.size)
          clear hm hM HPp HL hpu BW hB
          go_wp2
          go_ret2
          refine ⟨_, rfl, ?_, BE.out⟩
          rw [hGe.out]
          exact tE.out
end Go.Proofs.Ytookbgmolggohab

/-
  The document's Pack, cut into pieces: whether a block is as the one ahead. Condition: the rows may be.
-/
import Derived.Test.YtookbgmolggohaaUe
import Derived.Deep.LoopGhost
namespace Go.Proofs.Ytookbgmolggohaa
open Go.RowKit
def inB : Code → Code
  | .block _ c => c
  | c => c
def inL : Code → Code
  | .loop c => c
  | c => c
noncomputable def body22 : Code := Try.f22.body.getD .skip
/-- What is done of a block. -/
noncomputable def in22 : Code := inB (hd (sq 1 (inL (inB (sq 1 (hd (sq 5 body22)))))))
theorem info3' : (Try.prog.info? 3).map (fun i => (i.zero, i.size, i.bytes)) = some (some (.int .i64 0), 1, 8) := by kernel_rfl
theorem info54' : (Try.prog.info? 54).map (fun i => (i.zero, i.size, i.bytes)) = some (some (.slice none 0 0), 1, 24) := by kernel_rfl
set_option maxRecDepth 100000 in
set_option maxHeartbeats 2000000 in
theorem rp_ahead (F : Int → Int) (X : List Rw) (w1 : World) (rg ro rc : Nat) (hC : Hid (∀ W, Below w1.heap.size w1 W → ∀ j, j < X.length → W.cell? ⟨rg, ro + j * 3, none⟩ = some (.int .i64 (X.getD j (0, 0, 0)).1) ∧ W.cell? ⟨rg, ro + j * 3 + 1, none⟩ = some (.int .i64 (X.getD j (0, 0, 0)).2.1) ∧ W.cell? ⟨rg, ro + j * 3 + 2, none⟩ = some (.int .i64 (X.getD j (0, 0, 0)).2.2))) (hI : Hid (Rn F 0 X 1114112)) (Q : Exit → Act → World → Prop) (a : Act) (wr : World) (b a1 : Nat) (vu vi : Value) (us : List Value) (ha1 : a1 < X.length) (hbl : b < 8704) (hR : Hid (Rp wr w1.heap.size vi vu us (plcs F b) (unl F b))) (hB : Hid (Below w1.heap.size w1 wr)) (y1 : 0 < b) (y2 : (X.getD a1 (0, 0, 0)).1 ≤ 128 * (b : Int) - 128) (y3 : 128 * (b : Int) + 127 ≤ (X.getD a1 (0, 0, 0)).2.1)
    (hK : Hid (∀ a' w' vi', At 175 [(4, .slice (some ⟨rg, ro, none⟩) X.length rc), (5, vu), (6, vi'), (7, .int .i64 (a1 : Nat)), (8, .int .i64 (b : Nat))] a' → Rp w' w1.heap.size vi' vu us (plcs F (b + 1)) (unl F (b + 1)) → Below w1.heap.size w1 w' → Q (.exit 1) a' w'))
    (ha : At 175 [(4, .slice (some ⟨rg, ro, none⟩) X.length rc), (5, vu), (6, vi), (7, .int .i64 (a1 : Nat)), (8, .int .i64 (b : Nat)), (9, .int .i64 (128 * (b : Int)))] a) : Code.wp Try.prog (sq 2 in22) Q a wr := by
  obtain ⟨i3, hi3, ha0, ha1', ha2⟩ := info_parts info3'
  obtain ⟨c1, c2, c3⟩ := hC.out _ hB.out a1 ha1
  obtain ⟨-, -, -, q4, -⟩ := hI.out.ix a1 ha1
  have d2 : decide ((X.getD a1 (0, 0, 0)).1 ≤ 128 * (b : Int) - 128) = true := decide_eq_true y2
  have d3 : decide (128 * (b : Int) + 127 ≤ (X.getD a1 (0, 0, 0)).2.1) = true := decide_eq_true y3
  obtain ⟨b', hbb⟩ : ∃ b', b = b' + 1 := ⟨b - 1, by omega⟩
  obtain ⟨pa1, pa2⟩ : plc F b = plc F b' ∧ unl F (b + 1) = unl F b := by subst hbb; exact plc_ahead (blk_ahead q4 y2 y3)
  replace pa1 : Hid (plc F b = plc F b') := pa1
  replace pa2 : Hid (unl F (b + 1) = unl F b) := pa2
  have hown := hR.out.i
  rw [plcs_len] at hown
  obtain ⟨ho0, ⟨-, h0⟩ | ⟨gi, ci, cur, rfl, ho1, ho2, ho3, ho4, ho5, ho6⟩⟩ := hown
  · omega
  have c6 : wr.cell? ⟨gi, b', none⟩ = some (.int .i64 (plc F b' : Nat)) := by
    have h1 := hR.out.i
    rw [plcs_len] at h1
    rw [h1.cellAt b' (by omega), hbb, plcs_succ, celI_snoc, List.getElem?_append_right (by simp [celI, plcs_len])]
    simp [celI, plcs_len]
  have e6 : (b : Int) - 1 = (b' : Int) := by omega
  have b3 : ¬ b ≤ b' := by omega
  have l1 : (b : Int) < 8704 := by omega
  have l2 : (b' : Int) < 8704 := by omega
  have a3 : ¬ X.length ≤ a1 := by omega
  have HLL : Hid (b < 8704) := hbl
  have hgb := hB.out.size
  clear ho0 ho1 ho2 ho3 ho4 ho5 ho6 y2 y3 q4 c3 hbb hC hI hbl
  have OI : Hid (∀ (z : Int), ((wr.alloc (.cells #[.int .i64 z] 3)).ownsRow w1.heap.size 3 1 (.slice (some ⟨gi, 0, none⟩) b ci) (plcs F b).length (celI (plcs F b)))) := fun z => hR.out.i.alloc _
  generalize X.getD a1 (0, 0, 0) = r at *
  generalize plc F b' = pb at *
  obtain ⟨f, rfl, h4, h5, h6, h7, h8, h9, -⟩ := ha.lit
  change Code.wp _ _ _ ⟨#[f 0, f 1, f 2, f 3, f 4, f 5, f 6, f 7, f 8, f 9, f 10, f 11, f 12, f 13, f 14, f 15, f 16, f 17, f 18, f 19, f 20, f 21, f 22, f 23, f 24, f 25, f 26, f 27, f 28, f 29, f 30, f 31, f 32, f 33, f 34, f 35, f 36, f 37, f 38, f 39, f 40, f 41, f 42, f 43, f 44, f 45, f 46, f 47, f 48, f 49, f 50, f 51, f 52, f 53, f 54, f 55, f 56, f 57, f 58, f 59, f 60, f 61, f 62, f 63, f 64, f 65, f 66, f 67, f 68, f 69, f 70, f 71, f 72, f 73, f 74, f 75, f 76, f 77, f 78, f 79, f 80, f 81, f 82, f 83, f 84, f 85, f 86, f 87, f 88, f 89, f 90, f 91, f 92, f 93, f 94, f 95, f 96, f 97, f 98, f 99, f 100, f 101, f 102, f 103, f 104, f 105, f 106, f 107, f 108, f 109, f 110, f 111, f 112, f 113, f 114, f 115, f 116, f 117, f 118, f 119, f 120, f 121, f 122, f 123, f 124, f 125, f 126, f 127, f 128, f 129, f 130, f 131, f 132, f 133, f 134, f 135, f 136, f 137, f 138, f 139, f 140, f 141, f 142, f 143, f 144, f 145, f 146, f 147, f 148, f 149, f 150, f 151, f 152, f 153, f 154, f 155, f 156, f 157, f 158, f 159, f 160, f 161, f 162, f 163, f 164, f 165, f 166, f 167, f 168, f 169, f 170, f 171, f 172, f 173, f 174], []⟩ _
  simp only at h4 h5 h6 h7 h8 h9
  simp only [h4, h5, h6, h7, h8, h9]
  clear h4 h5 h6 h7 h8 h9
  change Code.wp _ (Code.seq (hd (sq 2 in22)) (sq 3 in22)) _ _ _
  generalize sq 3 in22 = REST at ha1 ⊢
  conv => arg 2; arg 1; whnf
  go_wp2_with (at_builtin; go_must (refine wpList_append_own_at _ rfl _ _ 54 rfl w1.heap.size 3 i3 _ 1 8 Try.underlying54 hi3 ha0 ha1' ha2 rfl (by decide) _ _ _ rfl (OI.out _) ⟨_, 0, none⟩ 1 1 [.int .i64 (pb : Nat)] rfl rfl ?a1 ?a2 ?a3 ?a4 ?a5 ?a6))
  case a1 => exact cell_one_new _ _ _
  case a2 => simp [Value.oneCell']
  case a3 => rw [plcs_len]; unfold maxLen; have := HLL.out; omega
  case a4 => rw [plcs_len]; have := HLL.out; omega
  case a5 => simp; omega
  case a6 =>
    intro v1 W1 hown1 hgrow1 _ hloc1
    have R1 : Hid (Rp W1 w1.heap.size v1 vu us (plcs F (b + 1)) (unl F (b + 1))) := by
      unfold Hid
      rw [pa2.out, plcs_succ, pa1.out]
      exact (hR.out.below ((Below.refl _ _).alloc (Nat.le_refl _) _)).addI pb hown1 hgrow1 (by simpa using hloc1)
    have B2 : Hid (Below w1.heap.size w1 W1) := (hB.out.alloc hgb _).grown hgrow1 (by simp; omega) (fun j hj => ((OI.out 0).lt j hj).1)
    clear hown1 hgrow1 hloc1 OI hR hB c6
    go_wp2
    exact hK.out _ _ _ ⟨rfl, rfl, rfl, rfl, rfl, rfl, rfl, trivial⟩ R1.out B2.out
set_option maxRecDepth 100000 in
set_option maxHeartbeats 2000000 in
theorem rp_not (F : Int → Int) (X : List Rw) (w1 : World) (rg ro rc : Nat) (hC : Hid (∀ W, Below w1.heap.size w1 W → ∀ j, j < X.length → W.cell? ⟨rg, ro + j * 3, none⟩ = some (.int .i64 (X.getD j (0, 0, 0)).1) ∧ W.cell? ⟨rg, ro + j * 3 + 1, none⟩ = some (.int .i64 (X.getD j (0, 0, 0)).2.1) ∧ W.cell? ⟨rg, ro + j * 3 + 2, none⟩ = some (.int .i64 (X.getD j (0, 0, 0)).2.2))) (_hI : Hid (Rn F 0 X 1114112)) (Q : Exit → Act → World → Prop) (a : Act) (wr : World) (b a1 : Nat) (vu vi : Value) (us : List Value) (ha1 : a1 < X.length) (hbl : b < 8704) (_hR : Hid (Rp wr w1.heap.size vi vu us (plcs F b) (unl F b))) (hB : Hid (Below w1.heap.size w1 wr)) (hno : ¬ (0 < b ∧ (X.getD a1 (0, 0, 0)).1 ≤ 128 * (b : Int) - 128 ∧ 128 * (b : Int) + 127 ≤ (X.getD a1 (0, 0, 0)).2.1))
    (hK : Hid (∀ a', At 175 [(4, .slice (some ⟨rg, ro, none⟩) X.length rc), (5, vu), (6, vi), (7, .int .i64 (a1 : Nat)), (8, .int .i64 (b : Nat)), (9, .int .i64 (128 * (b : Int)))] a' → Code.wp Try.prog (sq 3 in22) Q a' wr))
    (ha : At 175 [(4, .slice (some ⟨rg, ro, none⟩) X.length rc), (5, vu), (6, vi), (7, .int .i64 (a1 : Nat)), (8, .int .i64 (b : Nat)), (9, .int .i64 (128 * (b : Int)))] a) : Code.wp Try.prog (sq 2 in22) Q a wr := by
  obtain ⟨c1, c2, c3⟩ := hC.out _ hB.out a1 ha1
  have a3 : ¬ X.length ≤ a1 := by omega
  have l1 : (b : Int) < 8704 := by omega
  clear c3 hC _hI _hR hB
  generalize X.getD a1 (0, 0, 0) = r at *
  obtain ⟨f, rfl, h4, h5, h6, h7, h8, h9, -⟩ := ha.lit
  change Code.wp _ _ _ ⟨#[f 0, f 1, f 2, f 3, f 4, f 5, f 6, f 7, f 8, f 9, f 10, f 11, f 12, f 13, f 14, f 15, f 16, f 17, f 18, f 19, f 20, f 21, f 22, f 23, f 24, f 25, f 26, f 27, f 28, f 29, f 30, f 31, f 32, f 33, f 34, f 35, f 36, f 37, f 38, f 39, f 40, f 41, f 42, f 43, f 44, f 45, f 46, f 47, f 48, f 49, f 50, f 51, f 52, f 53, f 54, f 55, f 56, f 57, f 58, f 59, f 60, f 61, f 62, f 63, f 64, f 65, f 66, f 67, f 68, f 69, f 70, f 71, f 72, f 73, f 74, f 75, f 76, f 77, f 78, f 79, f 80, f 81, f 82, f 83, f 84, f 85, f 86, f 87, f 88, f 89, f 90, f 91, f 92, f 93, f 94, f 95, f 96, f 97, f 98, f 99, f 100, f 101, f 102, f 103, f 104, f 105, f 106, f 107, f 108, f 109, f 110, f 111, f 112, f 113, f 114, f 115, f 116, f 117, f 118, f 119, f 120, f 121, f 122, f 123, f 124, f 125, f 126, f 127, f 128, f 129, f 130, f 131, f 132, f 133, f 134, f 135, f 136, f 137, f 138, f 139, f 140, f 141, f 142, f 143, f 144, f 145, f 146, f 147, f 148, f 149, f 150, f 151, f 152, f 153, f 154, f 155, f 156, f 157, f 158, f 159, f 160, f 161, f 162, f 163, f 164, f 165, f 166, f 167, f 168, f 169, f 170, f 171, f 172, f 173, f 174], []⟩ _
  simp only at h4 h5 h6 h7 h8 h9
  simp only [h4, h5, h6, h7, h8, h9]
  clear h4 h5 h6 h7 h8 h9
  change Code.wp _ (Code.seq (hd (sq 2 in22)) (sq 3 in22)) _ _ _
  generalize sq 3 in22 = REST at hK ⊢
  conv => arg 2; arg 1; whnf
  by_cases y1 : 0 < b
  · by_cases y2 : r.1 ≤ 128 * (b : Int) - 128
    · have d2 : decide (r.1 ≤ 128 * (b : Int) - 128) = true := decide_eq_true y2
      have d3 : decide (128 * (b : Int) + 127 ≤ r.2.1) = false := decide_eq_false fun y3 => hno ⟨y1, y2, y3⟩
      clear y2 hno
      go_wp2
      exact hK.out _ ⟨rfl, rfl, rfl, rfl, rfl, rfl, rfl, rfl, trivial⟩
    · have d2 : decide (r.1 ≤ 128 * (b : Int) - 128) = false := decide_eq_false y2
      clear y2 hno
      go_wp2
      exact hK.out _ ⟨rfl, rfl, rfl, rfl, rfl, rfl, rfl, rfl, trivial⟩
  · clear hno
    go_wp2
    exact hK.out _ ⟨rfl, rfl, rfl, rfl, rfl, rfl, rfl, rfl, trivial⟩
set_option maxRecDepth 100000 in
set_option maxHeartbeats 2000000 in
theorem rp_block (F : Int → Int) (X : List Rw) (w1 : World) (rg ro rc : Nat) (hC : Hid (∀ W, Below w1.heap.size w1 W → ∀ j, j < X.length → W.cell? ⟨rg, ro + j * 3, none⟩ = some (.int .i64 (X.getD j (0, 0, 0)).1) ∧ W.cell? ⟨rg, ro + j * 3 + 1, none⟩ = some (.int .i64 (X.getD j (0, 0, 0)).2.1) ∧ W.cell? ⟨rg, ro + j * 3 + 2, none⟩ = some (.int .i64 (X.getD j (0, 0, 0)).2.2))) (hI : Hid (Rn F 0 X 1114112)) (Q : Exit → Act → World → Prop) (a : Act) (wr : World) (b a1 : Nat) (vu vi : Value) (us : List Value) (ha1 : a1 < X.length) (hbl : b < 8704) (_hR : Hid (Rp wr w1.heap.size vi vu us (plcs F b) (unl F b))) (hB : Hid (Below w1.heap.size w1 wr)) (haf : (X.getD a1 (0, 0, 0)).1 ≤ 128 * (b : Int))
    (hK : Hid (∀ a' w' vb g, At 175 [(4, .slice (some ⟨rg, ro, none⟩) X.length rc), (5, vu), (6, vi), (7, .int .i64 (a1 : Nat)), (8, .int .i64 (b : Nat)), (10, vb)] a' → w'.ownsRow w1.heap.size 3 1 vb 128 (rowI (blk F b) 128) → vb.ownBlock = some g → wr.heap.size ≤ g → Below wr.heap.size wr w' → Code.wp Try.prog (sq 6 in22) Q a' w'))
    (ha : At 175 [(4, .slice (some ⟨rg, ro, none⟩) X.length rc), (5, vu), (6, vi), (7, .int .i64 (a1 : Nat)), (8, .int .i64 (b : Nat)), (9, .int .i64 (128 * (b : Int)))] a) : Code.wp Try.prog (sq 3 in22) Q a wr := by
  obtain ⟨i3, hi3, ha0, ha1', ha2⟩ := info_parts info3'
  have hgb := hB.out.size
  have hblk : Hid (∀ j : Nat, j < 128 → blk F b j = F (128 * (b : Int) + j)) := fun j hj => by unfold blk; rw [if_pos hj]
  have f0 : 0 ≤ 128 * (b : Int) := by omega
  have f1 : 128 * (b : Int) ≤ 1113984 := by omega
  have HA : Hid (a1 < X.length ∧ (X.getD a1 (0, 0, 0)).1 ≤ 128 * (b : Int)) := ⟨ha1, haf⟩
  have hxm : (X.length : Int) ≤ 1114112 := by have := hI.out.len; omega
  clear _hR ha1 haf hbl
  obtain ⟨f, rfl, h4, h5, h6, h7, h8, h9, -⟩ := ha.lit
  change Code.wp _ _ _ ⟨#[f 0, f 1, f 2, f 3, f 4, f 5, f 6, f 7, f 8, f 9, f 10, f 11, f 12, f 13, f 14, f 15, f 16, f 17, f 18, f 19, f 20, f 21, f 22, f 23, f 24, f 25, f 26, f 27, f 28, f 29, f 30, f 31, f 32, f 33, f 34, f 35, f 36, f 37, f 38, f 39, f 40, f 41, f 42, f 43, f 44, f 45, f 46, f 47, f 48, f 49, f 50, f 51, f 52, f 53, f 54, f 55, f 56, f 57, f 58, f 59, f 60, f 61, f 62, f 63, f 64, f 65, f 66, f 67, f 68, f 69, f 70, f 71, f 72, f 73, f 74, f 75, f 76, f 77, f 78, f 79, f 80, f 81, f 82, f 83, f 84, f 85, f 86, f 87, f 88, f 89, f 90, f 91, f 92, f 93, f 94, f 95, f 96, f 97, f 98, f 99, f 100, f 101, f 102, f 103, f 104, f 105, f 106, f 107, f 108, f 109, f 110, f 111, f 112, f 113, f 114, f 115, f 116, f 117, f 118, f 119, f 120, f 121, f 122, f 123, f 124, f 125, f 126, f 127, f 128, f 129, f 130, f 131, f 132, f 133, f 134, f 135, f 136, f 137, f 138, f 139, f 140, f 141, f 142, f 143, f 144, f 145, f 146, f 147, f 148, f 149, f 150, f 151, f 152, f 153, f 154, f 155, f 156, f 157, f 158, f 159, f 160, f 161, f 162, f 163, f 164, f 165, f 166, f 167, f 168, f 169, f 170, f 171, f 172, f 173, f 174], []⟩ _
  simp only at h4 h5 h6 h7 h8 h9
  simp only [h4, h5, h6, h7, h8, h9]
  clear h4 h5 h6 h7 h8 h9
  change Code.wp _ (Code.seq (hd (sq 3 in22)) (Code.seq (hd (sq 4 in22)) (Code.seq (hd (sq 5 in22)) (sq 6 in22)))) _ _ _
  generalize sq 6 in22 = REST at hK ⊢
  conv => arg 2; arg 1; whnf
  conv => arg 2; arg 2; arg 1; whnf
  conv => arg 2; arg 2; arg 2; arg 1; whnf
  generalize 128 * (b : Int) = fb at *
  go_wp2_with fail
  have O0 : Hid ((wr.alloc (.cells #[] 3)).ownsRow w1.heap.size 3 1 (.slice (some ⟨wr.heap.size, 0, none⟩) 0 0) 0 (rowI (blk F b) 0)) := own_none wr w1.heap.size 3 1 hgb
  have B0 : Hid (Below wr.heap.size wr (wr.alloc (.cells #[] 3))) := (Below.refl _ _).alloc (Nat.le_refl _) _
  generalize wr.alloc (.cells #[] 3) = W0 at *
  obtain ⟨wq, hwq⟩ : ∃ wq, wq = wr := ⟨_, rfl⟩
  subst hwq
  go_loopw [10, 11, 12] (fun vb zk zp wx => ∃ (j k g : Nat) (p : Int), j ≤ 128 ∧ zp = .int .i64 p ∧ zk = .int .i64 (k : Nat) ∧ Hid (p = fb + j) ∧ Hid (k < X.length ∧ (X.getD k (0, 0, 0)).1 ≤ p) ∧ Hid (wx.ownsRow w1.heap.size 3 1 vb j (rowI (blk F b) j)) ∧ Hid (vb.ownBlock = some g ∧ wq.heap.size ≤ g) ∧ Hid (Below wq.heap.size wq wx)) (fun _ _ zp _ => ((fb + 128 - intOf zp).toNat : Nat))
  case atStart => exact ⟨0, a1, wq.heap.size, fb, by omega, rfl, rfl, (by unfold Hid; simp), HA, O0, ⟨rfl, Nat.le_refl _⟩, B0⟩
  case round =>
    clear O0 B0 HA
    obtain ⟨j, k0, g, p, hj, rfl, rfl, hp, hk0, hO, hg, hBx⟩ := hrel
    obtain ⟨wo, hwo⟩ : ∃ wo, wo = wr := ⟨_, rfl⟩
    subst hwo
    by_cases hj8 : j < 128
    · have hpl : decide (p < fb + 128) = true := decide_eq_true (by rw [hp.out]; omega)
      have p0 : 0 ≤ p := by rw [hp.out]; omega
      have p1 : p ≤ 1114111 := by rw [hp.out]; omega
      have HJ : Hid (j < 128) := hj8
      clear hj hj8
      go_wp2_with fail
      go_loopw [11] (fun zk wx => ∃ k : Nat, zk = .int .i64 (k : Nat) ∧ Hid (k < X.length ∧ (X.getD k (0, 0, 0)).1 ≤ p) ∧ wx = wo) (fun zk _ => (X.length - (intOf zk).toNat : Nat))
      case atStart => exact ⟨k0, rfl, hk0, rfl⟩
      case round =>
        clear hk0
        obtain ⟨k, rfl, hk, rfl⟩ := hrel
        obtain ⟨c1, c2, c3⟩ := hC.out wr (hB.out.trans (hBx.out.mono hgb)) k hk.out.1
        have k3 : ¬ X.length ≤ k := by have := hk.out.1; omega
        by_cases hto : (X.getD k (0, 0, 0)).2.1 < p
        · have hm := hI.out.more hk.out.1 (p := p) (by omega) hto
          replace hm : Hid (k + 1 < X.length ∧ (X.getD (k + 1) (0, 0, 0)).1 ≤ p) := hm
          have hd : decide ((X.getD k (0, 0, 0)).2.1 < p) = true := decide_eq_true hto
          have kx : (k : Int) < 1114112 := by omega
          clear hto c1 c3
          generalize X.getD k (0, 0, 0) = r at *
          go_wp2_with fail
          refine ⟨⟨k + 1, ?x1, hm, trivial⟩, ?x2⟩
          case x1 => go_num
          case x2 => simp [intOf]; omega
        · have hd : decide ((X.getD k (0, 0, 0)).2.1 < p) = false := decide_eq_false hto
          obtain ⟨-, -, -, q4, -⟩ := hI.out.ix k hk.out.1
          have hv : Hid ((X.getD k (0, 0, 0)).2.2 = blk F b j) := by
            unfold Hid
            rw [hblk.out j HJ.out, ← hp.out, q4 p hk.out.2 (Int.not_lt.1 hto)]
          have hk1 : Hid (∀ z, z = k → z < X.length ∧ (X.getD z (0, 0, 0)).1 ≤ p + 1) := fun z hz => by
            subst hz
            have := hk.out
            exact ⟨this.1, by omega⟩
          have OI : Hid (∀ (z : Int), ((wr.alloc (.cells #[.int .i64 z] 3)).ownsRow w1.heap.size 3 1 u10 j (rowI (blk F b) j))) := fun z => hO.out.alloc _
          have hxb := hBx.out.size
          clear hto c1 q4 hk hO
          generalize X.getD k (0, 0, 0) = r at *
          go_wp2_with (at_builtin; go_must (refine wpList_append_own_at _ rfl _ _ 54 rfl w1.heap.size 3 i3 _ 1 8 Try.underlying54 hi3 ha0 ha1' ha2 rfl (by decide) _ _ _ rfl (OI.out _) ⟨_, 0, none⟩ 1 1 [.int .i64 r.2.2] rfl rfl ?a1 ?a2 ?a3 ?a4 ?a5 ?a6))
          case a1 => exact cell_one_new _ _ _
          case a2 => simp [Value.oneCell']
          case a3 => unfold maxLen; have := HJ.out; omega
          case a4 => have := HJ.out; omega
          case a5 => simp; omega
          case a6 =>
            intro v1 W1 hown1 hgrow1 _ hloc1
            have O1 : Hid (W1.ownsRow w1.heap.size 3 1 v1 (j + 1) (rowI (blk F b) (j + 1))) := by
              unfold Hid
              rw [rowI_succ, ← hv.out]
              exact hown1
            have G1 : Hid (∃ g', v1.ownBlock = some g' ∧ wq.heap.size ≤ g') := by
              rcases hloc1 with h | h
              · exact ⟨g, h.trans hg.out.1, hg.out.2⟩
              · exact ⟨_, h, by first | omega | (simp; omega)⟩
            have B2 : Hid (Below wq.heap.size wq W1) := (hBx.out.alloc hxb _).grown hgrow1 (by simp; omega) (fun i hi => by rw [hg.out.1] at hi; cases hi; exact hg.out.2)
            clear hown1 hgrow1 hloc1 OI hBx hg
            obtain ⟨g', G2⟩ := G1.out
            go_wp2
            refine ⟨⟨j + 1, k, g', p + 1, ?y1, ?y2, rfl, ?y3, hk1.out k rfl, O1, G2, B2⟩, ?y4⟩
            case y1 => have := HJ.out; omega
            case y2 => rfl
            case y3 => unfold Hid; rw [hp.out]; omega
            case y4 => have h1 := HJ.out; have h2 := hp.out; simp [intOf]; omega
    · have hpl : decide (p < fb + 128) = false := decide_eq_false (by rw [hp.out]; omega)
      have hjj : j = 128 := by omega
      subst hjj
      have p1 : p ≤ 1114112 := by rw [hp.out]; omega
      have p0 : 0 ≤ p := by rw [hp.out]; omega
      clear hj hj8 hk0
      go_wp2
      exact hK.out _ _ _ g ⟨rfl, rfl, rfl, rfl, rfl, rfl, rfl, rfl, trivial⟩ hO.out hg.out.1 hg.out.2 hBx.out
theorem info54x : (Try.prog.info? 54).map (fun i => (i.zero, i.size, i.bytes)) = some (some (.slice none 0 0), 1, 24) := by kernel_rfl
theorem idx_is {U : List (Nat → Int)} {f : Nat → Int} {n : Nat} (hn : n < U.length) (h : U[n]? = some f) (h2 : ∀ i, i < n → U[i]? ≠ some f) : idx U f = n := by
  unfold idx
  rw [List.findIdx_eq hn]
  rw [List.getElem?_eq_getElem hn] at h
  refine ⟨by simpa using h, fun j hj => ?_⟩
  have := h2 j hj
  rw [List.getElem?_eq_getElem (by omega)] at this
  simpa using this
theorem blk_eq {F : Int → Int} {b : Nat} {f : Nat → Int} (hf : f ∈ unl F b) : (List.range 128).map f = (List.range 128).map (blk F b) ↔ f = blk F b := by
  rw [rowI_eq]
  constructor
  · intro h
    obtain ⟨i, -, rfl⟩ := unl_all F b f hf
    funext j
    by_cases hj : j < 128
    · exact h j hj
    · unfold blk; rw [if_neg hj, if_neg hj]
  · rintro rfl j _
    rfl
set_option maxRecDepth 100000 in
set_option maxHeartbeats 2000000 in
theorem rp_find (F : Int → Int) (X : List Rw) (w1 : World) (rg ro rc : Nat) (Q : Exit → Act → World → Prop) (a : Act) (wr : World) (b a1 : Nat) (vu vi vb : Value) (us : List Value) (hbl : b < 8704) (hR : Hid (Rp wr w1.heap.size vi vu us (plcs F b) (unl F b))) (hB : Hid (Below w1.heap.size w1 wr)) (hV : Hid (wr.ownsRow w1.heap.size 3 1 vb 128 (rowI (blk F b) 128)))
    (hK : Hid (∀ a' w' (n : Nat), At 175 [(4, .slice (some ⟨rg, ro, none⟩) X.length rc), (5, vu), (6, vi), (7, .int .i64 (a1 : Nat)), (8, .int .i64 (b : Nat)), (10, vb), (13, .int .i64 (n : Nat))] a' → (n ≤ (unl F b).length ∧ (∀ i, i < n → (unl F b)[i]? ≠ some (blk F b)) ∧ (n < (unl F b).length → (unl F b)[n]? = some (blk F b))) → Below wr.heap.size wr w' → Code.wp Try.prog (sq 8 in22) Q a' w'))
    (ha : At 175 [(4, .slice (some ⟨rg, ro, none⟩) X.length rc), (5, vu), (6, vi), (7, .int .i64 (a1 : Nat)), (8, .int .i64 (b : Nat)), (10, vb)] a) : Code.wp Try.prog (sq 6 in22) Q a wr := by
  have hul := unl_len F b
  have hmem : Hid (∀ f ∈ unl F b, ((List.range 128).map f = (List.range 128).map (blk F b) ↔ f = blk F b)) := fun f hf => blk_eq hf
  obtain ⟨hu0, hu1⟩ := hR.out.u
  obtain ⟨ua, uc, hvu, hud⟩ := owns_slice hR.out.u
  subst hvu
  obtain ⟨gb, cb, hvb⟩ : ∃ gb cb, vb = .slice (some ⟨gb, 0, none⟩) 128 cb := by
    obtain ⟨-, ⟨-, h0⟩ | ⟨g, cap, cur, h, -⟩⟩ := hV.out
    · omega
    · exact ⟨g, cap, h⟩
  subst hvb
  have HV : Hid (∀ W, Below wr.heap.size wr W → RdI W (.slice (some ⟨gb, 0, none⟩) 128 cb) ((List.range 128).map (blk F b))) := fun W hb => by
    have h1 := owns_below hV.out hb
    rw [rowI_map] at h1
    exact RdI.of_owns (by simpa using h1)
  have HE : Hid (∀ n, n < (unl F b).length → ∃ f g c gu, (unl F b)[n]? = some f ∧ f ∈ unl F b ∧ ua = some ⟨gu, 0, none⟩ ∧ (∀ W, Below wr.heap.size wr W → W.cell? ⟨gu, n, none⟩ = some (.slice (some ⟨g, 0, none⟩) 128 c) ∧ RdI W (.slice (some ⟨g, 0, none⟩) 128 c) ((List.range 128).map f))) := fun n hn => by
    have hf := List.getElem?_eq_getElem hn
    obtain ⟨v, h1, h2, -⟩ := hR.out.e n _ hf
    obtain ⟨g, c, rfl⟩ : ∃ g c, v = .slice (some ⟨g, 0, none⟩) 128 c := by
      obtain ⟨-, ⟨-, h0⟩ | ⟨g, cap, cur, h, -⟩⟩ := h2
      · omega
      · exact ⟨g, cap, h⟩
    obtain ⟨gu, hgu⟩ := hud.2 (by omega)
    subst hgu
    refine ⟨_, g, c, gu, hf, List.getElem_mem hn, rfl, fun W hb => ⟨?_, ?_⟩⟩
    · rw [(owns_below hR.out.u hb).cellAt n (by omega)]
      exact h1
    · have h3 := owns_below h2 hb
      rw [rowI_map] at h3
      exact RdI.of_owns (by simpa using h3)
  clear hu0 hu1 hud hV hR
  generalize unl F b = U at *
  have ul : (U.length : Int) ≤ 8704 := by omega
  obtain ⟨f, rfl, h4, h5, h6, h7, h8, h10, -⟩ := ha.lit
  change Code.wp _ _ _ ⟨#[f 0, f 1, f 2, f 3, f 4, f 5, f 6, f 7, f 8, f 9, f 10, f 11, f 12, f 13, f 14, f 15, f 16, f 17, f 18, f 19, f 20, f 21, f 22, f 23, f 24, f 25, f 26, f 27, f 28, f 29, f 30, f 31, f 32, f 33, f 34, f 35, f 36, f 37, f 38, f 39, f 40, f 41, f 42, f 43, f 44, f 45, f 46, f 47, f 48, f 49, f 50, f 51, f 52, f 53, f 54, f 55, f 56, f 57, f 58, f 59, f 60, f 61, f 62, f 63, f 64, f 65, f 66, f 67, f 68, f 69, f 70, f 71, f 72, f 73, f 74, f 75, f 76, f 77, f 78, f 79, f 80, f 81, f 82, f 83, f 84, f 85, f 86, f 87, f 88, f 89, f 90, f 91, f 92, f 93, f 94, f 95, f 96, f 97, f 98, f 99, f 100, f 101, f 102, f 103, f 104, f 105, f 106, f 107, f 108, f 109, f 110, f 111, f 112, f 113, f 114, f 115, f 116, f 117, f 118, f 119, f 120, f 121, f 122, f 123, f 124, f 125, f 126, f 127, f 128, f 129, f 130, f 131, f 132, f 133, f 134, f 135, f 136, f 137, f 138, f 139, f 140, f 141, f 142, f 143, f 144, f 145, f 146, f 147, f 148, f 149, f 150, f 151, f 152, f 153, f 154, f 155, f 156, f 157, f 158, f 159, f 160, f 161, f 162, f 163, f 164, f 165, f 166, f 167, f 168, f 169, f 170, f 171, f 172, f 173, f 174], []⟩ _
  simp only at h4 h5 h6 h7 h8 h10
  simp only [h4, h5, h6, h7, h8, h10]
  clear h4 h5 h6 h7 h8 h10
  change Code.wp _ (Code.seq (hd (sq 6 in22)) (Code.seq (hd (sq 7 in22)) (sq 8 in22))) _ _ _
  generalize sq 8 in22 = REST at hK ⊢
  conv => arg 2; arg 1; whnf
  conv => arg 2; arg 2; arg 1; whnf
  go_wp2_with fail
  obtain ⟨wq, hwq⟩ : ∃ wq, wq = wr := ⟨_, rfl⟩
  subst hwq
  go_loopw [13] (fun zn wx => ∃ n : Nat, n ≤ U.length ∧ zn = .int .i64 (n : Nat) ∧ Hid (∀ i, i < n → U[i]? ≠ some (blk F b)) ∧ Hid (Below wq.heap.size wq wx)) (fun zn _ => (U.length - (intOf zn).toNat : Nat))
  case atStart => exact ⟨0, Nat.zero_le _, rfl, fun i hi => by omega, Below.refl _ _⟩
  case round =>
    obtain ⟨n, hn, rfl, hno, hBx⟩ := hrel
    by_cases hnl : n < U.length
    · have n1 : (n : Int) < (U.length : Int) := by omega
      have n2 : ¬ U.length ≤ n := by omega
      obtain ⟨f', g, c, gu, hf, hfm, hua, hW⟩ := HE.out n hnl
      subst hua
      obtain ⟨cu, hrd⟩ := hW wr hBx.out
      have hcmp := hmem.out f' hfm
      by_cases hq : f' = blk F b
      · have KA : Hid (Calls Try.prog 44 #[.slice (some ⟨g, 0, none⟩) 128 c, .slice (some ⟨gb, 0, none⟩) 128 cb] wr fun e w' => e = .returned (.bool true) ∧ Below wr.heap.size wr w') := alike_any _ _ _ _ wr hrd (HV.out wr hBx.out) (by simp) (by simp) true ⟨fun _ => hcmp.2 hq, fun _ => rfl⟩
        have HF : Hid ((n ≤ U.length ∧ (∀ i, i < n → U[i]? ≠ some (blk F b)) ∧ (n < U.length → U[n]? = some (blk F b)))) := ⟨hn, hno.out, fun _ => by rw [hf, hq]⟩
        clear hcmp hrd hW hf hfm hq HE HV hmem
        go_wp2_with (go_at_call 44; refine KA.out.mono ?_)
        first | rintro e w3 rfl b3 | rintro e w3 ⟨rfl, b3⟩
        have B3 : Hid (Below wq.heap.size wq w3) := hBx.out.trans (b3.mono hBx.out.size)
        clear b3 KA hBx cu
        go_wp2
        exact hK.out _ _ n ⟨rfl, rfl, rfl, rfl, rfl, rfl, rfl, rfl, rfl, trivial⟩ HF.out B3.out
      · have KA : Hid (Calls Try.prog 44 #[.slice (some ⟨g, 0, none⟩) 128 c, .slice (some ⟨gb, 0, none⟩) 128 cb] wr fun e w' => e = .returned (.bool false) ∧ Below wr.heap.size wr w') := alike_any _ _ _ _ wr hrd (HV.out wr hBx.out) (by simp) (by simp) false ⟨fun h => Bool.noConfusion h, fun h => absurd (hcmp.1 h) hq⟩
        have HN : Hid (∀ i, i < n + 1 → U[i]? ≠ some (blk F b)) := fun i hi => by
          by_cases q : i = n
          · subst q; rw [hf]; simpa using hq
          · exact hno.out i (by omega)
        clear hcmp hrd hW hf hfm hq HE HV hmem
        go_wp2_with (go_at_call 44; refine KA.out.mono ?_)
        first | rintro e w3 rfl b3 | rintro e w3 ⟨rfl, b3⟩
        have B3 : Hid (Below wq.heap.size wq w3) := hBx.out.trans (b3.mono hBx.out.size)
        clear b3 KA hBx cu
        go_wp2
        refine ⟨⟨n + 1, ?z1, ?z2, HN, B3⟩, ?z3⟩
        case z1 => omega
        case z2 => go_num
        case z3 => simp [intOf]; omega
    · have n1 : ¬ (n : Int) < (U.length : Int) := by omega
      have HF : Hid ((n ≤ U.length ∧ (∀ i, i < n → U[i]? ≠ some (blk F b)) ∧ (n < U.length → U[n]? = some (blk F b)))) := ⟨hn, hno.out, fun h => absurd h hnl⟩
      clear HE HV hmem
      go_wp2
      exact hK.out _ _ n ⟨rfl, rfl, rfl, rfl, rfl, rfl, rfl, rfl, rfl, trivial⟩ HF.out hBx.out
set_option maxRecDepth 100000 in
set_option maxHeartbeats 2000000 in
theorem rp_put (F : Int → Int) (X : List Rw) (w1 : World) (rg ro rc : Nat) (Q : Exit → Act → World → Prop) (a : Act) (wr : World) (b a1 : Nat) (vu vi vb : Value) (us : List Value) (hbl : b < 8704) (hR : Hid (Rp wr w1.heap.size vi vu us (plcs F b) (unl F b))) (hB : Hid (Below w1.heap.size w1 wr)) (hV : Hid (wr.ownsRow w1.heap.size 3 1 vb 128 (rowI (blk F b) 128))) (n : Nat) (hF : (n ≤ (unl F b).length ∧ (∀ i, i < n → (unl F b)[i]? ≠ some (blk F b)) ∧ (n < (unl F b).length → (unl F b)[n]? = some (blk F b)))) (hne : Hid (vb.ownBlock ≠ vi.ownBlock))
    (hK : Hid (∀ a' w' vu' vi' us', At 175 [(4, .slice (some ⟨rg, ro, none⟩) X.length rc), (5, vu'), (6, vi'), (7, .int .i64 (a1 : Nat)), (8, .int .i64 (b : Nat))] a' → Rp w' w1.heap.size vi' vu' us' (plcs F (b + 1)) (unl F (b + 1)) → Below w1.heap.size w1 w' → Q .normal a' w'))
    (ha : At 175 [(4, .slice (some ⟨rg, ro, none⟩) X.length rc), (5, vu), (6, vi), (7, .int .i64 (a1 : Nat)), (8, .int .i64 (b : Nat)), (10, vb), (13, .int .i64 (n : Nat))] a) : Code.wp Try.prog (sq 8 in22) Q a wr := by
  obtain ⟨i3, hi3, ha0, ha1', ha2⟩ := info_parts info3'
  obtain ⟨i5, hi5, hb0, hb1, hb2⟩ := info_parts info54x
  have hul := unl_len F b
  have HLL : Hid (b < 8704) := hbl
  have hgb := hB.out.size
  obtain ⟨ua, uc, hvu, hud⟩ := owns_slice hR.out.u
  subst hvu
  obtain ⟨gb, cb, hvb⟩ : ∃ gb cb, vb = .slice (some ⟨gb, 0, none⟩) 128 cb := by
    obtain ⟨-, ⟨-, h0⟩ | ⟨g, cap, cur, h, -⟩⟩ := hV.out
    · omega
    · exact ⟨g, cap, h⟩
  subst hvb
  obtain ⟨f1, f2, f3⟩ := hF
  by_cases hnl : n < (unl F b).length
  · have hm : blk F b ∈ unl F b := by
      have := f3 hnl
      rw [List.getElem?_eq_getElem hnl] at this
      rw [← Option.some.inj this]
      exact List.getElem_mem hnl
    obtain ⟨pa2, pa1⟩ := plc_step F b hm
    rw [idx_is hnl (f3 hnl) f2] at pa1
    replace pa1 : Hid (plc F b = n) := pa1
    replace pa2 : Hid (unl F (b + 1) = unl F b) := pa2
    have d1 : ((n : Int) == ((unl F b).length : Int)) = false := beq_false_of_ne (by omega)
    have OI : Hid (∀ (z : Int), ((wr.alloc (.cells #[.int .i64 z] 3)).ownsRow w1.heap.size 3 1 vi (plcs F b).length (celI (plcs F b)))) := fun z => hR.out.i.alloc _
    clear f1 f2 f3 hnl hm hud hbl
    obtain ⟨f, rfl, h4, h5, h6, h7, h8, h10, h13, -⟩ := ha.lit
    change Code.wp _ _ _ ⟨#[f 0, f 1, f 2, f 3, f 4, f 5, f 6, f 7, f 8, f 9, f 10, f 11, f 12, f 13, f 14, f 15, f 16, f 17, f 18, f 19, f 20, f 21, f 22, f 23, f 24, f 25, f 26, f 27, f 28, f 29, f 30, f 31, f 32, f 33, f 34, f 35, f 36, f 37, f 38, f 39, f 40, f 41, f 42, f 43, f 44, f 45, f 46, f 47, f 48, f 49, f 50, f 51, f 52, f 53, f 54, f 55, f 56, f 57, f 58, f 59, f 60, f 61, f 62, f 63, f 64, f 65, f 66, f 67, f 68, f 69, f 70, f 71, f 72, f 73, f 74, f 75, f 76, f 77, f 78, f 79, f 80, f 81, f 82, f 83, f 84, f 85, f 86, f 87, f 88, f 89, f 90, f 91, f 92, f 93, f 94, f 95, f 96, f 97, f 98, f 99, f 100, f 101, f 102, f 103, f 104, f 105, f 106, f 107, f 108, f 109, f 110, f 111, f 112, f 113, f 114, f 115, f 116, f 117, f 118, f 119, f 120, f 121, f 122, f 123, f 124, f 125, f 126, f 127, f 128, f 129, f 130, f 131, f 132, f 133, f 134, f 135, f 136, f 137, f 138, f 139, f 140, f 141, f 142, f 143, f 144, f 145, f 146, f 147, f 148, f 149, f 150, f 151, f 152, f 153, f 154, f 155, f 156, f 157, f 158, f 159, f 160, f 161, f 162, f 163, f 164, f 165, f 166, f 167, f 168, f 169, f 170, f 171, f 172, f 173, f 174], []⟩ _
    simp only at h4 h5 h6 h7 h8 h10 h13
    simp only [h4, h5, h6, h7, h8, h10, h13]
    clear h4 h5 h6 h7 h8 h10 h13
    conv => arg 2; whnf
    generalize hU : (unl F b).length = ul at d1 ⊢
    go_wp2_with (at_builtin; go_must (refine wpList_append_own_at _ rfl _ _ 54 rfl w1.heap.size 3 i3 _ 1 8 Try.underlying54 hi3 ha0 ha1' ha2 rfl (by decide) _ _ _ rfl (OI.out _) ⟨_, 0, none⟩ 1 1 [.int .i64 (n : Nat)] rfl rfl ?a1 ?a2 ?a3 ?a4 ?a5 ?a6))
    case a1 => exact cell_one_new _ _ _
    case a2 => simp [Value.oneCell']
    case a3 => rw [plcs_len]; unfold maxLen; have := HLL.out; omega
    case a4 => rw [plcs_len]; have := HLL.out; omega
    case a5 => simp; omega
    case a6 =>
      intro v1 W1 hown1 hgrow1 _ hloc1
      rw [hU] at hR
      have R1 : Hid (Rp W1 w1.heap.size v1 (.slice ua ul uc) us (plcs F (b + 1)) (unl F (b + 1))) := by
        unfold Hid
        rw [pa2.out, plcs_succ, pa1.out]
        exact (hR.out.below ((Below.refl _ _).alloc (Nat.le_refl _) _)).addI n hown1 hgrow1 (by simpa using hloc1)
      have B2 : Hid (Below w1.heap.size w1 W1) := (hB.out.alloc hgb _).grown hgrow1 (by simp; omega) (fun j hj => ((OI.out 0).lt j hj).1)
      clear hown1 hgrow1 hloc1 OI hR hB
      go_wp2
      exact hK.out _ _ _ _ _ ⟨rfl, rfl, rfl, rfl, rfl, rfl, rfl, trivial⟩ R1.out B2.out
  · have hn : n = (unl F b).length := by omega
    have hm : blk F b ∉ unl F b := fun h => by
      obtain ⟨i, hi, e⟩ := List.getElem_of_mem h
      exact f2 i (by omega) (by rw [List.getElem?_eq_getElem hi, e])
    obtain ⟨pa2, pa1⟩ := plc_new F b hm
    rw [← hn] at pa1
    replace pa1 : Hid (plc F b = n) := pa1
    replace pa2 : Hid (unl F (b + 1) = unl F b ++ [blk F b]) := pa2
    have OU : Hid (∀ z, ((wr.alloc (.cells #[z] 54)).ownsRow w1.heap.size 54 1 (.slice ua (unl F b).length uc) (unl F b).length us)) := fun z => hR.out.u.alloc _
    have d1 : ((n : Int) == ((unl F b).length : Int)) = true := by rw [hn]; simp
    clear f1 f2 f3 hnl hm hud hbl
    replace hul : Hid ((unl F b).length ≤ b) := hul
    replace hn : Hid (n = (unl F b).length) := hn
    obtain ⟨f, rfl, h4, h5, h6, h7, h8, h10, h13, -⟩ := ha.lit
    change Code.wp _ _ _ ⟨#[f 0, f 1, f 2, f 3, f 4, f 5, f 6, f 7, f 8, f 9, f 10, f 11, f 12, f 13, f 14, f 15, f 16, f 17, f 18, f 19, f 20, f 21, f 22, f 23, f 24, f 25, f 26, f 27, f 28, f 29, f 30, f 31, f 32, f 33, f 34, f 35, f 36, f 37, f 38, f 39, f 40, f 41, f 42, f 43, f 44, f 45, f 46, f 47, f 48, f 49, f 50, f 51, f 52, f 53, f 54, f 55, f 56, f 57, f 58, f 59, f 60, f 61, f 62, f 63, f 64, f 65, f 66, f 67, f 68, f 69, f 70, f 71, f 72, f 73, f 74, f 75, f 76, f 77, f 78, f 79, f 80, f 81, f 82, f 83, f 84, f 85, f 86, f 87, f 88, f 89, f 90, f 91, f 92, f 93, f 94, f 95, f 96, f 97, f 98, f 99, f 100, f 101, f 102, f 103, f 104, f 105, f 106, f 107, f 108, f 109, f 110, f 111, f 112, f 113, f 114, f 115, f 116, f 117, f 118, f 119, f 120, f 121, f 122, f 123, f 124, f 125, f 126, f 127, f 128, f 129, f 130, f 131, f 132, f 133, f 134, f 135, f 136, f 137, f 138, f 139, f 140, f 141, f 142, f 143, f 144, f 145, f 146, f 147, f 148, f 149, f 150, f 151, f 152, f 153, f 154, f 155, f 156, f 157, f 158, f 159, f 160, f 161, f 162, f 163, f 164, f 165, f 166, f 167, f 168, f 169, f 170, f 171, f 172, f 173, f 174], []⟩ _
    simp only at h4 h5 h6 h7 h8 h10 h13
    simp only [h4, h5, h6, h7, h8, h10, h13]
    clear h4 h5 h6 h7 h8 h10 h13
    conv => arg 2; whnf
    generalize hU : (unl F b).length = ul at d1 ⊢
    rw [hU] at OU
    go_wp2_with (at_builtin; go_must (refine wpList_append_own_at _ rfl _ _ 90 rfl w1.heap.size 54 i5 _ 1 24 Try.underlying90 hi5 hb0 hb1 hb2 rfl (by decide) _ _ _ rfl (OU.out _) ⟨_, 0, none⟩ 1 1 [.slice (some ⟨gb, 0, none⟩) 128 cb] rfl rfl ?b1 ?b2 ?b3 ?b4 ?b5 ?b6))
    case b1 => exact cell_one_new _ _ _
    case b2 => simp [Value.oneCell']
    case b3 => have := hul.out; unfold maxLen; have := HLL.out; omega
    case b4 => have := hul.out; have := HLL.out; omega
    case b5 => simp; omega
    case b6 =>
      intro v2 W2 hown2 hgrow2 _ hloc2
      have hbel : Below wr.heap.size wr (wr.alloc (.cells #[.slice (some ⟨gb, 0, none⟩) 128 cb] 54)) := (Below.refl _ _).alloc (Nat.le_refl _) _
      rw [hU] at hR
      have R2 : Hid (Rp W2 w1.heap.size vi v2 (us ++ [.slice (some ⟨gb, 0, none⟩) 128 cb]) (plcs F b) (unl F b ++ [blk F b])) := (hR.out.below hbel).addU (blk F b) (owns_below hV.out hbel) hne.out (by rw [hU]; exact hown2) hgrow2
      have B3 : Hid (Below w1.heap.size w1 W2) := (hB.out.alloc hgb _).grown hgrow2 (by simp; omega) (fun j hj => ((OU.out undef).lt j hj).1)
      have hgb := B3.out.size
      have OI : Hid (∀ (z : Int), ((W2.alloc (.cells #[.int .i64 z] 3)).ownsRow w1.heap.size 3 1 vi (plcs F b).length (celI (plcs F b)))) := fun z => R2.out.i.alloc _
      clear hown2 hgrow2 hloc2 OU hR hB
      go_wp2_with (at_builtin; go_must (refine wpList_append_own_at _ rfl _ _ 54 rfl w1.heap.size 3 i3 _ 1 8 Try.underlying54 hi3 ha0 ha1' ha2 rfl (by decide) _ _ _ rfl (OI.out _) ⟨_, 0, none⟩ 1 1 [.int .i64 (n : Nat)] rfl rfl ?a1 ?a2 ?a3 ?a4 ?a5 ?a6))
      case a1 => exact cell_one_new _ _ _
      case a2 => simp [Value.oneCell']
      case a3 => rw [plcs_len]; unfold maxLen; have := HLL.out; omega
      case a4 => rw [plcs_len]; have := HLL.out; omega
      case a5 => simp; omega
      case a6 =>
        intro v1 W1 hown1 hgrow1 _ hloc1
        have R1 : Hid (Rp W1 w1.heap.size v1 v2 (us ++ [.slice (some ⟨gb, 0, none⟩) 128 cb]) (plcs F (b + 1)) (unl F (b + 1))) := by
          unfold Hid
          rw [pa2.out, plcs_succ, pa1.out]
          exact (R2.out.below ((Below.refl _ _).alloc (Nat.le_refl _) _)).addI n hown1 hgrow1 (by simpa using hloc1)
        have B2 : Hid (Below w1.heap.size w1 W1) := (B3.out.alloc hgb _).grown hgrow1 (by simp; omega) (fun j hj => ((OI.out 0).lt j hj).1)
        clear hown1 hgrow1 hloc1 OI R2 B3
        go_wp2
        exact hK.out _ _ _ _ _ ⟨rfl, rfl, rfl, rfl, rfl, rfl, rfl, trivial⟩ R1.out B2.out
theorem own_two (W : World) (B : Nat) (x y : Int) (hB : B ≤ W.heap.size) : (W.alloc (.cells #[.int .u8 x, .int .u8 y] 5)).ownsRow B 5 1 (.slice (some ⟨W.heap.size, 0, none⟩) 2 2) [x, y].length (u8s [x, y]) :=
  ⟨rfl, .inr ⟨W.heap.size, 2, #[.int .u8 x, .int .u8 y], rfl, hB, World.alloc_heap_new _ _, by simp, by unfold maxLen; omega, rfl, rfl⟩⟩
set_option maxRecDepth 100000 in
set_option maxHeartbeats 4000000 in
theorem rp_text (F : Int → Int) (w1 : World) (Q : Exit → Act → World → Prop) (a : Act) (wr : World) (vu vi : Value) (us : List Value) (hR : Hid (Rp wr w1.heap.size vi vu us (plcs F 8704) (unl F 8704))) (hB : Hid (Below w1.heap.size w1 wr)) (hpl : Hid (∀ i, i < 8704 → plc F i < 65536)) (hbr : Hid (∀ f ∈ unl F 8704, ∀ j, 0 ≤ f j ∧ f j ≤ 65535))
    (hK : Hid (∀ a' w', At 175 [(2, .string (strOfNums (num2 ((unl F 8704).length : Nat) ++ psB F 8704 ++ usB (unl F 8704)))), (3, .int .i64 ((unl F 8704).length : Nat))] a' → Below w1.heap.size w1 w' → Q .ret a' w'))
    (ha : At 175 [(5, vu), (6, vi)] a) : Code.wp Try.prog (sq 6 body22) Q a wr := by
  obtain ⟨i5, hi5, hz0, hz1, hz2⟩ := info_parts info5
  have hul := unl_len F 8704
  have hgb := hB.out.size
  obtain ⟨ua, uc, hvu, -, hud⟩ := owns_slice hR.out.u
  subst hvu
  obtain ⟨ia, ic, hvi, -, hid⟩ := owns_slice hR.out.i
  subst hvi
  rw [plcs_len] at hid
  obtain ⟨gi, hgi⟩ := hid (by decide)
  subst hgi
  -- the cells of both lists, in every later world
  have HP : Hid (∀ W k, Below wr.heap.size wr W → k < 8704 → W.cell? ⟨gi, k, none⟩ = some (.int .i64 (plc F k : Nat))) := fun W k hb hk => by
    have h1 := owns_below hR.out.i hb
    rw [h1.cellAt k (by rw [plcs_len]; omega)]
    simp [celI, plcs, hk]
  have HU : Hid (∀ n, n < (unl F 8704).length → ∃ f g c gu, (unl F 8704)[n]? = some f ∧ f ∈ unl F 8704 ∧ ua = some ⟨gu, 0, none⟩ ∧ (∀ W, Below wr.heap.size wr W → W.cell? ⟨gu, n, none⟩ = some (.slice (some ⟨g, 0, none⟩) 128 c) ∧ ∀ j, j < 128 → W.cell? ⟨g, j, none⟩ = some (.int .i64 (f j)))) := fun n hn => by
    have hf := List.getElem?_eq_getElem hn
    obtain ⟨v, h1, h2, -⟩ := hR.out.e n _ hf
    obtain ⟨g, c, rfl⟩ : ∃ g c, v = .slice (some ⟨g, 0, none⟩) 128 c := by
      obtain ⟨-, ⟨-, h0⟩ | ⟨g, cap, cur, h, -⟩⟩ := h2
      · omega
      · exact ⟨g, cap, h⟩
    obtain ⟨gu, hgu⟩ := hud (by omega)
    subst hgu
    refine ⟨_, g, c, gu, hf, List.getElem_mem hn, rfl, fun W hb => ⟨?_, fun j hj => ?_⟩⟩
    · rw [(owns_below hR.out.u hb).cellAt n (by omega)]
      exact h1
    · rw [(owns_below h2 hb).cellAt j (by omega)]
      simp [rowI, hj]
  clear hR hud hid
  have HNL : Hid (∀ z, z = (unl F 8704).length → num2 (z : Nat) = num2 ((unl F 8704).length : Nat)) := fun z hz => by rw [hz]
  generalize unl F 8704 = U at *
  have ul : (U.length : Int) ≤ 8704 := by omega
  have t1 : ((U.length : Nat) : Int).tdiv 256 = ((U.length : Nat) : Int) / 256 := Int.tdiv_eq_ediv_of_nonneg (by omega)
  have t2 : ((U.length : Nat) : Int).tmod 256 = ((U.length : Nat) : Int) % 256 := Int.tmod_eq_emod_of_nonneg (by omega)
  have u1 : IntKind.u8.wrap (((U.length : Nat) : Int) / 256) = ((U.length : Nat) : Int) / 256 := IntWalk.u8_in _ (by omega)
  have u2 : IntKind.u8.wrap (((U.length : Nat) : Int) % 256) = ((U.length : Nat) : Int) % 256 := IntWalk.u8_in _ (by omega)
  obtain ⟨f, rfl, h5, h6, -⟩ := ha.lit
  change Code.wp _ _ _ ⟨#[f 0, f 1, f 2, f 3, f 4, f 5, f 6, f 7, f 8, f 9, f 10, f 11, f 12, f 13, f 14, f 15, f 16, f 17, f 18, f 19, f 20, f 21, f 22, f 23, f 24, f 25, f 26, f 27, f 28, f 29, f 30, f 31, f 32, f 33, f 34, f 35, f 36, f 37, f 38, f 39, f 40, f 41, f 42, f 43, f 44, f 45, f 46, f 47, f 48, f 49, f 50, f 51, f 52, f 53, f 54, f 55, f 56, f 57, f 58, f 59, f 60, f 61, f 62, f 63, f 64, f 65, f 66, f 67, f 68, f 69, f 70, f 71, f 72, f 73, f 74, f 75, f 76, f 77, f 78, f 79, f 80, f 81, f 82, f 83, f 84, f 85, f 86, f 87, f 88, f 89, f 90, f 91, f 92, f 93, f 94, f 95, f 96, f 97, f 98, f 99, f 100, f 101, f 102, f 103, f 104, f 105, f 106, f 107, f 108, f 109, f 110, f 111, f 112, f 113, f 114, f 115, f 116, f 117, f 118, f 119, f 120, f 121, f 122, f 123, f 124, f 125, f 126, f 127, f 128, f 129, f 130, f 131, f 132, f 133, f 134, f 135, f 136, f 137, f 138, f 139, f 140, f 141, f 142, f 143, f 144, f 145, f 146, f 147, f 148, f 149, f 150, f 151, f 152, f 153, f 154, f 155, f 156, f 157, f 158, f 159, f 160, f 161, f 162, f 163, f 164, f 165, f 166, f 167, f 168, f 169, f 170, f 171, f 172, f 173, f 174], []⟩ _
  simp only at h5 h6
  simp only [h5, h6]
  clear h5 h6
  rw [plcs_len]
  conv => arg 2; whnf
  go_wp2_with fail
  obtain ⟨wq, hwq⟩ : ∃ wq, wq = wr := ⟨_, rfl⟩
  subst hwq
  have O0 : Hid ((wq.alloc (.cells #[.int .u8 (((U.length : Nat) : Int) / 256), .int .u8 (((U.length : Nat) : Int) % 256)] 5)).ownsRow wq.heap.size 5 1 (.slice (some ⟨wq.heap.size, 0, none⟩) 2 2) (num2 ((U.length : Nat) : Int)).length (u8s (num2 ((U.length : Nat) : Int)))) := own_two wq _ _ _ (Nat.le_refl _)
  have B0 : Hid (Below wq.heap.size wq (wq.alloc (.cells #[.int .u8 (((U.length : Nat) : Int) / 256), .int .u8 (((U.length : Nat) : Int) % 256)] 5))) := (Below.refl _ _).alloc (Nat.le_refl _) _
  have hn2 : Hid ((num2 ((U.length : Nat) : Int)).length = 2) := rfl
  generalize wq.alloc (.cells #[.int .u8 (((U.length : Nat) : Int) / 256), .int .u8 (((U.length : Nat) : Int) % 256)] 5) = W0 at *
  generalize num2 ((U.length : Nat) : Int) = Z0 at *
  clear t1 t2 u1 u2
  go_loopw [14, 134] (fun x y wr => ∃ k : Nat, k ≤ 8704 ∧ y = .int .i64 (k : Nat) ∧ Hid (wr.ownsRow wq.heap.size 5 1 x (Z0 ++ psB F k).length (u8s (Z0 ++ psB F k))) ∧ Hid (Below wq.heap.size wq wr)) (fun _ y _ => (8704 - (intOf y).toNat : Nat))
  case atStart => exact ⟨0, by omega, rfl, by rw [show psB F 0 = [] from rfl, List.append_nil]; exact O0, B0⟩
  case round =>
    clear O0 B0
    obtain ⟨k, hk, rfl, hO, hBx⟩ := hrel
    have hgx := hBx.out.size
    by_cases hkl : k < 8704
    · have kl : (k : Int) < 8704 := by omega
      have k3 : ¬ 8704 ≤ k := by omega
      have e3 := HP.out wr k hBx.out hkl
      have hlt := hpl.out k hkl
      have hstep : Hid (Z0 ++ psB F (k + 1) = Z0 ++ psB F k ++ num2 (plc F k : Nat)) := by rw [Hid, psB_succ, List.append_assoc]
      have hln : Hid ((Z0 ++ psB F k).length ≤ 100000000) := by rw [Hid, List.length_append, psB_len, hn2.out]; omega
      have HK : Hid (k < 8704) := hkl
      obtain ⟨z, hz⟩ : ∃ z : Int, z = ((plc F k : Nat) : Int) := ⟨_, rfl⟩
      rw [← hz] at e3 hstep
      have p0 : (0 : Int) ≤ z := by omega
      have p1 : z ≤ 65535 := by omega
      have t1 : z.tdiv 256 = z / 256 := Int.tdiv_eq_ediv_of_nonneg p0
      have t2 : z.tmod 256 = z % 256 := Int.tmod_eq_emod_of_nonneg p0
      have u1 : IntKind.u8.wrap (z / 256) = z / 256 := IntWalk.u8_in _ (by omega)
      have u2 : IntKind.u8.wrap (z % 256) = z % 256 := IntWalk.u8_in _ (by omega)
      generalize Z0 ++ psB F k = PP at *
      clear hlt hkl hz
      go_wp2_with (at_builtin; go_must (refine wpList_append_own_at _ rfl _ _ 55 rfl wq.heap.size 5 i5 _ 1 1 Try.underlying55 hi5 hz0 hz1 hz2 rfl (by decide) _ _ _ rfl (hO.out.alloc _) ⟨_, 0, none⟩ 2 2 [.int .u8 (z / 256), .int .u8 (z % 256)] rfl rfl ?a1 ?a2 ?a3 ?a4 ?a5 ?a6))
      case a1 => exact cells_two _ _ _ 5
      case a2 => simp [Value.oneCell']
      case a3 => unfold maxLen; have := hln.out; omega
      case a4 => have := hln.out; omega
      case a5 => simp; omega
      case a6 =>
        intro v1 W1 hown1 hgrow1 _ _
        have O1 : Hid (W1.ownsRow wq.heap.size 5 1 v1 (PP ++ num2 z).length (u8s (PP ++ num2 z))) := by rw [Hid, u8s_app, List.length_append]; exact hown1
        have B1 : Hid (Below wq.heap.size wr W1) := ((Below.refl wq.heap.size wr).alloc hgx _).grown hgrow1 (by simp; omega) (fun j hj => (hO.out.lt j hj).1)
        clear hown1 hgrow1
        have O3 : Hid (W1.ownsRow wq.heap.size 5 1 v1 (Z0 ++ psB F (k + 1)).length (u8s (Z0 ++ psB F (k + 1)))) := by rw [Hid, hstep.out]; exact O1.out
        have B3 : Hid (Below wq.heap.size wq W1) := hBx.out.trans B1.out
        clear O1 B1 hO hBx e3 hstep
        go_wp2
        exact ⟨⟨k + 1, by have := HK.out; omega, by go_num, O3, B3⟩, by have := HK.out; simp [intOf]; omega⟩
    · have hkk : k = 8704 := by omega
      subst hkk
      have hn3 : Hid ((Z0 ++ psB F 8704).length = 17410) := by rw [Hid, List.length_append, psB_len, hn2.out]
      generalize Z0 ++ psB F 8704 = Z1 at *
      obtain ⟨wo, hwo⟩ : ∃ wo, wo = wr := ⟨_, rfl⟩
      subst hwo
      clear hkl hn2 HP hk
      go_wp2_with fail
      go_loopw [14, 150] (fun x y wr => ∃ k : Nat, k ≤ U.length ∧ y = .int .i64 (k : Nat) ∧ Hid (wr.ownsRow wq.heap.size 5 1 x (Z1 ++ usB (U.take k)).length (u8s (Z1 ++ usB (U.take k)))) ∧ Hid (Below wq.heap.size wq wr)) (fun _ y _ => (U.length - (intOf y).toNat : Nat))
      case atStart => exact ⟨0, Nat.zero_le _, rfl, by rw [show usB (U.take 0) = [] from rfl, List.append_nil]; exact hO, hBx⟩
      case round =>
        clear hO hBx hgx
        obtain ⟨k, hk, rfl, hO, hBx⟩ := hrel
        by_cases hkl : k < U.length
        · have kl : (k : Int) < (U.length : Int) := by omega
          have hku : ¬ U.length ≤ k := by omega
          obtain ⟨fk, g, c, gu, hfk, hfm, hua, hW⟩ := HU.out k hkl
          subst hua
          obtain ⟨cu, -⟩ := hW wr hBx.out
          have hrg : Hid (∀ j, 0 ≤ fk j ∧ fk j ≤ 65535) := hbr.out _ hfm
          have hW2 : Hid (∀ W, Below wq.heap.size wq W → ∀ j, j < 128 → W.cell? ⟨g, j, none⟩ = some (.int .i64 (fk j))) := fun W hb => (hW W hb).2
          have hstep : Hid (Z1 ++ usB (U.take (k + 1)) = Z1 ++ usB (U.take k) ++ blB fk 128) := by
            rw [Hid, List.take_add_one, hfk, Option.toList_some, usB_snoc, List.append_assoc]
          have hln : Hid ((Z1 ++ usB (U.take k)).length ≤ 90000000) := by rw [Hid, List.length_append, usB_len, hn3.out, List.length_take]; omega
          have HK : Hid (k < U.length) := hkl
          obtain ⟨Z2, hZ2⟩ : ∃ Z2, Z2 = Z1 ++ usB (U.take (k + 1)) := ⟨_, rfl⟩
          rw [← hZ2] at hstep
          replace hZ2 : Hid (Z2 = Z1 ++ usB (U.take (k + 1))) := hZ2
          generalize Z1 ++ usB (U.take k) = PQ at *
          clear hkl hW hfk hfm HU
          obtain ⟨wo, hwo⟩ : ∃ wo, wo = wr := ⟨_, rfl⟩
          subst hwo
          go_wp2_with fail
          go_loopw [14, 156] (fun x y wi => ∃ j : Nat, j ≤ 128 ∧ y = .int .i64 (j : Nat) ∧ Hid (wi.ownsRow wq.heap.size 5 1 x (PQ ++ blB fk j).length (u8s (PQ ++ blB fk j))) ∧ Hid (Below wq.heap.size wq wi)) (fun _ y _ => (128 - (intOf y).toNat : Nat))
          case atStart => exact ⟨0, by omega, rfl, by rw [show blB fk 0 = [] from rfl, List.append_nil]; exact hO, hBx⟩
          case round =>
            clear hO hBx cu
            obtain ⟨j, hj, rfl, hO, hBx⟩ := hrel
            have hgx := hBx.out.size
            by_cases hjl : j < 128
            · have jl : (j : Int) < 128 := by omega
              have j3 : ¬ 128 ≤ j := by omega
              have e3 := hW2.out wr hBx.out j hjl
              obtain ⟨p0, p1⟩ := hrg.out j
              have hstep2 : Hid (PQ ++ blB fk (j + 1) = PQ ++ blB fk j ++ num2 (fk j)) := by rw [Hid, blB_succ, List.append_assoc]
              have hln2 : Hid ((PQ ++ blB fk j).length ≤ 100000000) := by rw [Hid, List.length_append, blB_len]; have := hln.out; omega
              have HJ : Hid (j < 128) := hjl
              generalize fk j = z at *
              have t1 : z.tdiv 256 = z / 256 := Int.tdiv_eq_ediv_of_nonneg p0
              have t2 : z.tmod 256 = z % 256 := Int.tmod_eq_emod_of_nonneg p0
              have u1 : IntKind.u8.wrap (z / 256) = z / 256 := IntWalk.u8_in _ (by omega)
              have u2 : IntKind.u8.wrap (z % 256) = z % 256 := IntWalk.u8_in _ (by omega)
              generalize PQ ++ blB fk j = PP at *
              clear hjl
              go_wp2_with (at_builtin; go_must (refine wpList_append_own_at _ rfl _ _ 55 rfl wq.heap.size 5 i5 _ 1 1 Try.underlying55 hi5 hz0 hz1 hz2 rfl (by decide) _ _ _ rfl (hO.out.alloc _) ⟨_, 0, none⟩ 2 2 [.int .u8 (z / 256), .int .u8 (z % 256)] rfl rfl ?b1 ?b2 ?b3 ?b4 ?b5 ?b6))
              case b1 => exact cells_two _ _ _ 5
              case b2 => simp [Value.oneCell']
              case b3 => unfold maxLen; have := hln2.out; omega
              case b4 => have := hln2.out; omega
              case b5 => simp; omega
              case b6 =>
                intro v1 W1 hown1 hgrow1 _ _
                have O1 : Hid (W1.ownsRow wq.heap.size 5 1 v1 (PP ++ num2 z).length (u8s (PP ++ num2 z))) := by rw [Hid, u8s_app, List.length_append]; exact hown1
                have B1 : Hid (Below wq.heap.size wr W1) := ((Below.refl wq.heap.size wr).alloc hgx _).grown hgrow1 (by simp; omega) (fun j hj => (hO.out.lt j hj).1)
                clear hown1 hgrow1
                have O3 : Hid (W1.ownsRow wq.heap.size 5 1 v1 (PQ ++ blB fk (j + 1)).length (u8s (PQ ++ blB fk (j + 1)))) := by rw [Hid, hstep2.out]; exact O1.out
                have B3 : Hid (Below wq.heap.size wq W1) := hBx.out.trans B1.out
                clear O1 B1 hO hBx e3 hstep2
                go_wp2
                refine ⟨⟨_, _, _, _, _, _, _, _, _, _, _, _, _, _, _, _, ⟨j + 1, ?s1, ?s2, O3, B3⟩, rfl⟩, ?s3⟩
                case s1 => have := HJ.out; omega
                case s2 => go_num
                case s3 => have := HJ.out; simp [intOf]; omega
            · have hjj : j = 128 := by omega
              subst hjj
              have O5 : Hid (wr.ownsRow wq.heap.size 5 1 u14 (Z1 ++ usB (U.take (k + 1))).length (u8s (Z1 ++ usB (U.take (k + 1))))) := by rw [Hid, ← hZ2.out, hstep.out]; exact hO.out
              clear hO hjl
              go_wp2
              refine ⟨⟨k + 1, ?q1, ?q2, O5, hBx⟩, ?q3⟩
              case q1 => have := HK.out; omega
              case q2 => go_num
              case q3 => have := HK.out; simp [intOf]; omega
        · have kl : decide ((k : Int) < (U.length : Int)) = false := decide_eq_false (by omega)
          have kl2 : ¬ ((k : Int) < (U.length : Int)) := by omega
          have hkt : U.take k = U := List.take_of_length_le (by omega)
          have hstr : Hid ((convert 55 9 u14).run Try.prog wr = .ok (.string (strOfNums (Z1 ++ usB U))) wr) := by
            have := hO.out
            rw [hkt] at this
            exact string_own 55 5 9 this Try.underlying55 under5 Try.underlying9
          have B6 : Hid (Below w1.heap.size w1 wr) := hB.out.trans (hBx.out.mono hgb)
          clear hO hBx hkt hkl HU
          go_wp2_with (refine wpList_cvs rfl 55 9 _ rfl _ rfl _ hstr.out ?_)
          exact hK.out _ _ ⟨rfl, rfl, rfl, rfl, trivial⟩ B6.out
set_option maxRecDepth 100000 in
set_option maxHeartbeats 8000000 in
theorem rpack_any (F : Int → Int) (X : List Rw) (v : Value) (w : World) (hrn : Rn F 0 X 1114112) (hF : ∀ p, 0 ≤ F p ∧ F p ≤ 65535) (K0 : Calls Try.prog 12 #[v] w fun e w' => ∃ v', e = .returned v' ∧ Rd3 .i64 w' v' X ∧ Below w.heap.size w w') : Calls Try.prog 22 #[v] w fun e w' => e = .returned (.tuple #[.string (pkT F), .int .i64 ((unl F 8704).length : Nat)]) ∧ Below w.heap.size w w' := by
  obtain ⟨i5, hi5, hz0, hz1, hz2⟩ := info_parts info5
  replace K0 : Hid (Calls Try.prog 12 #[v] w fun e w' => ∃ v', e = .returned v' ∧ Rd3 .i64 w' v' X ∧ Below w.heap.size w w') := K0
  have HI : Hid (Rn F 0 X 1114112) := hrn
  have hxl : 0 < X.length := by
    cases X with
    | nil => have h : (0 : Int) = 1114112 := hrn; omega
    | cons r X => simp
  have hxm : X.length ≤ 1114112 := by have := hrn.len; omega
  have HX0 : Hid ((X.getD 0 (0, 0, 0)).1 = 0) := (hrn.ix 0 hxl).2.2.2.2.1 rfl
  have hpl : Hid (∀ i, i < 8704 → plc F i < 65536) := fun i hi => by have := plc_lt F hi; have := unl_len F 8704; omega
  have hbr : Hid (∀ f ∈ unl F 8704, ∀ j, 0 ≤ f j ∧ f j ≤ 65535) := fun f hf j => by
    obtain ⟨i, _, rfl⟩ := unl_all F 8704 f hf
    exact blk_range hF i j
  have hul : Hid ((unl F 8704).length ≤ 8704) := unl_len F 8704
  have HPK : Hid (num2 ((unl F 8704).length : Nat) ++ psB F 8704 ++ usB (unl F 8704) = pkL F) := rfl
  clear hrn hF
  unfold pkT
  generalize pkL F = PKL at *
  go_enter Try.func22, Try.ntmps22
  change Code.wp _ (Code.seq _ (Code.seq _ (Code.seq _ (Code.seq _ (Code.seq _ (Code.seq _ (sq 6 body22))))))) _ _ _
  generalize hEND : sq 6 body22 = END
  replace hEND : Hid (sq 6 body22 = END) := hEND
  go_wp2_with (go_at_call 12; refine K0.out.mono ?_)
  rintro e w1 ⟨vr, rfl, hr, b1⟩
  obtain ⟨ra, rc, rfl, hrc, hrd⟩ := hr
  obtain ⟨rg, ro, rfl, hcell⟩ := hrd hxl
  have HC : Hid (∀ W, Below w1.heap.size w1 W → ∀ j, j < X.length → W.cell? ⟨rg, ro + j * 3, none⟩ = some (.int .i64 (X.getD j (0, 0, 0)).1) ∧ W.cell? ⟨rg, ro + j * 3 + 1, none⟩ = some (.int .i64 (X.getD j (0, 0, 0)).2.1) ∧ W.cell? ⟨rg, ro + j * 3 + 2, none⟩ = some (.int .i64 (X.getD j (0, 0, 0)).2.2)) := fun W hb j hj => by
    obtain ⟨c1, c2, c3⟩ := hcell j hj
    have hg := World.block_lt_of_cell? w1 _ c1
    exact ⟨(World.cell?_of_block (hb.block rg hg)).trans c1, (World.cell?_of_block (hb.block rg hg)).trans c2, (World.cell?_of_block (hb.block rg hg)).trans c3⟩
  have B1 : Hid (Below w.heap.size w w1) := b1
  clear hcell hrd hrc b1 K0
  go_wp2_with fail
  have R0 : Hid (Rp ((w1.alloc (.cells #[] 54)).alloc (.cells #[] 3)) w1.heap.size (.slice (some ⟨w1.heap.size + 1, 0, none⟩) 0 0) (.slice (some ⟨w1.heap.size, 0, none⟩) 0 0) [] (plcs F 0) (unl F 0)) := by
    have o1 := own_none (w1.alloc (.cells #[] 54)) w1.heap.size 3 1 (by simp)
    have o2 := (own_none w1 w1.heap.size 54 1 (Nat.le_refl _)).alloc (.cells #[] 3)
    have e1 : (w1.alloc (.cells #[] 54)).heap.size = w1.heap.size + 1 := by simp
    rw [e1] at o1
    exact ⟨o1, o2, fun j f hf => by simp [unl] at hf⟩
  have B0 : Hid (Below w1.heap.size w1 ((w1.alloc (.cells #[] 54)).alloc (.cells #[] 3))) := ((Below.refl _ _).alloc (Nat.le_refl _) _).alloc (by simp) _
  generalize (w1.alloc (.cells #[] 54)).alloc (.cells #[] 3) = W0 at *
  refine wp_loop_ghost_k (fun m a wr => ∃ (b at' : Nat) (us : List Value) (vu vi : Value), b ≤ 8704 ∧ m = 8704 - b ∧ At 175 [(4, .slice (some ⟨rg, ro, none⟩) X.length rc), (5, vu), (6, vi), (7, .int .i64 (at' : Nat)), (8, .int .i64 (b : Nat))] a ∧ (at' < X.length ∧ (X.getD at' (0, 0, 0)).1 ≤ 128 * (b : Int)) ∧ Rp wr w1.heap.size vi vu us (plcs F b) (unl F b) ∧ Below w1.heap.size w1 wr) 8704 ⟨0, 0, [], _, _, by omega, rfl, ⟨rfl, rfl, rfl, rfl, rfl, rfl, rfl, trivial⟩, ⟨hxl, by rw [HX0.out]; decide⟩, R0.out, B0.out⟩ ?_
  rintro m a wr ⟨b, a0, us, vu, vi, hb, rfl, ha, haf, hR, hB⟩ J0 K1 hJ hK1
  replace haf : Hid (a0 < X.length ∧ (X.getD a0 (0, 0, 0)).1 ≤ 128 * (b : Int)) := haf
  replace hR : Hid (Rp wr w1.heap.size vi vu us (plcs F b) (unl F b)) := hR
  replace hB : Hid (Below w1.heap.size w1 wr) := hB
  have HJ := show Hid _ from hJ
  clear hJ R0 B0 HX0
  · by_cases hbl : b < 8704
    · have bl : (b : Int) < 8704 := by omega
      obtain ⟨f, rfl, h4, h5, h6, h7, h8, -⟩ := ha.lit
      change Code.wp _ _ _ ⟨#[f 0, f 1, f 2, f 3, f 4, f 5, f 6, f 7, f 8, f 9, f 10, f 11, f 12, f 13, f 14, f 15, f 16, f 17, f 18, f 19, f 20, f 21, f 22, f 23, f 24, f 25, f 26, f 27, f 28, f 29, f 30, f 31, f 32, f 33, f 34, f 35, f 36, f 37, f 38, f 39, f 40, f 41, f 42, f 43, f 44, f 45, f 46, f 47, f 48, f 49, f 50, f 51, f 52, f 53, f 54, f 55, f 56, f 57, f 58, f 59, f 60, f 61, f 62, f 63, f 64, f 65, f 66, f 67, f 68, f 69, f 70, f 71, f 72, f 73, f 74, f 75, f 76, f 77, f 78, f 79, f 80, f 81, f 82, f 83, f 84, f 85, f 86, f 87, f 88, f 89, f 90, f 91, f 92, f 93, f 94, f 95, f 96, f 97, f 98, f 99, f 100, f 101, f 102, f 103, f 104, f 105, f 106, f 107, f 108, f 109, f 110, f 111, f 112, f 113, f 114, f 115, f 116, f 117, f 118, f 119, f 120, f 121, f 122, f 123, f 124, f 125, f 126, f 127, f 128, f 129, f 130, f 131, f 132, f 133, f 134, f 135, f 136, f 137, f 138, f 139, f 140, f 141, f 142, f 143, f 144, f 145, f 146, f 147, f 148, f 149, f 150, f 151, f 152, f 153, f 154, f 155, f 156, f 157, f 158, f 159, f 160, f 161, f 162, f 163, f 164, f 165, f 166, f 167, f 168, f 169, f 170, f 171, f 172, f 173, f 174], []⟩ _
      simp only at h4 h5 h6 h7 h8
      simp only [h4, h5, h6, h7, h8]
      clear h4 h5 h6 h7 h8
      obtain ⟨wo, hwo⟩ : ∃ wo, wo = wr := ⟨_, rfl⟩
      subst hwo
      change Code.wp _ (Code.seq _ (Code.seq (Code.block 1 (Code.seq _ (Code.seq _ (sq 2 in22)))) _)) _ _ _
      generalize hREST : sq 2 in22 = REST
      replace hREST : Hid (sq 2 in22 = REST) := hREST
      have HBL : Hid (b < 8704) := hbl
      clear hb hbl
      go_wp2_with fail
      go_loopw [7] (fun za wr => ∃ at' : Nat, za = .int .i64 (at' : Nat) ∧ Hid (at' < X.length ∧ (X.getD at' (0, 0, 0)).1 ≤ 128 * (b : Int)) ∧ wr = wo) (fun za _ => (X.length - (intOf za).toNat : Nat))
      case atStart => exact ⟨a0, rfl, haf, rfl⟩
      case round =>
        clear haf
        obtain ⟨a1, rfl, haf, rfl⟩ := hrel
        obtain ⟨c1, c2, c3⟩ := HC.out _ hB.out a1 haf.out.1
        have a3 : ¬ X.length ≤ a1 := by have := haf.out.1; omega
        by_cases hto : (X.getD a1 (0, 0, 0)).2.1 < 128 * (b : Int)
        · have hm := HI.out.more haf.out.1 (p := 128 * (b : Int)) (by omega) hto
          replace hm : Hid (a1 + 1 < X.length ∧ (X.getD (a1 + 1) (0, 0, 0)).1 ≤ 128 * (b : Int)) := hm
          have hd : decide ((X.getD a1 (0, 0, 0)).2.1 < 128 * (b : Int)) = true := decide_eq_true hto
          clear hto
          generalize X.getD a1 (0, 0, 0) = r at *
          go_wp2_with fail
          refine ⟨⟨a1 + 1, ?x1, hm, trivial⟩, ?x2⟩
          case x1 => go_num
          case x2 => simp [intOf]; omega
        · have hd : decide ((X.getD a1 (0, 0, 0)).2.1 < 128 * (b : Int)) = false := decide_eq_false hto
          have HA : Hid (∀ z, z = a1 → z < X.length ∧ (X.getD z (0, 0, 0)).1 ≤ 128 * (b : Int)) := fun z hz => by subst hz; exact haf.out
          clear hto c1 c3
          generalize X.getD a1 (0, 0, 0) = r at *
          go_wp2_with fail
          rw [← hREST.out]
          obtain ⟨A1, A2⟩ := HA.out a1 rfl
          clear hd c2 haf hREST
          by_cases hyes : 0 < b ∧ (X.getD a1 (0, 0, 0)).1 ≤ 128 * (b : Int) - 128 ∧ 128 * (b : Int) + 127 ≤ (X.getD a1 (0, 0, 0)).2.1
          · refine rp_ahead F X w1 rg ro rc HC HI _ _ _ b a1 _ _ us A1 HBL.out hR hB hyes.1 hyes.2.1 hyes.2.2 (fun a' w' vi' hat hR2 hB2 => ?p1) ⟨rfl, rfl, rfl, rfl, rfl, rfl, rfl, rfl, trivial⟩
            case p1 =>
              replace hR2 : Hid (Rp w' w1.heap.size vi' vu us (plcs F (b + 1)) (unl F (b + 1))) := hR2
              replace hB2 : Hid (Below w1.heap.size w1 w') := hB2
              clear hR hB hyes HC HI hpl hbr hul HPK
              obtain ⟨f, rfl, h4, h5, h6, h7, h8, -⟩ := hat.lit
              change Exit.inBlock 1 _ _ ⟨#[f 0, f 1, f 2, f 3, f 4, f 5, f 6, f 7, f 8, f 9, f 10, f 11, f 12, f 13, f 14, f 15, f 16, f 17, f 18, f 19, f 20, f 21, f 22, f 23, f 24, f 25, f 26, f 27, f 28, f 29, f 30, f 31, f 32, f 33, f 34, f 35, f 36, f 37, f 38, f 39, f 40, f 41, f 42, f 43, f 44, f 45, f 46, f 47, f 48, f 49, f 50, f 51, f 52, f 53, f 54, f 55, f 56, f 57, f 58, f 59, f 60, f 61, f 62, f 63, f 64, f 65, f 66, f 67, f 68, f 69, f 70, f 71, f 72, f 73, f 74, f 75, f 76, f 77, f 78, f 79, f 80, f 81, f 82, f 83, f 84, f 85, f 86, f 87, f 88, f 89, f 90, f 91, f 92, f 93, f 94, f 95, f 96, f 97, f 98, f 99, f 100, f 101, f 102, f 103, f 104, f 105, f 106, f 107, f 108, f 109, f 110, f 111, f 112, f 113, f 114, f 115, f 116, f 117, f 118, f 119, f 120, f 121, f 122, f 123, f 124, f 125, f 126, f 127, f 128, f 129, f 130, f 131, f 132, f 133, f 134, f 135, f 136, f 137, f 138, f 139, f 140, f 141, f 142, f 143, f 144, f 145, f 146, f 147, f 148, f 149, f 150, f 151, f 152, f 153, f 154, f 155, f 156, f 157, f 158, f 159, f 160, f 161, f 162, f 163, f 164, f 165, f 166, f 167, f 168, f 169, f 170, f 171, f 172, f 173, f 174], []⟩ _
              simp only at h4 h5 h6 h7 h8
              simp only [h4, h5, h6, h7, h8]
              clear h4 h5 h6 h7 h8
              go_wp2
              refine Handed.intro (8704 - (b + 1)) (by have := HBL.out; omega) (HJ.out _ _ _ ⟨b + 1, a1, us, _, _, by have := HBL.out; omega, rfl, ?_, ⟨A1, by omega⟩, hR2.out, hB2.out⟩)
              rw [show ((b + 1 : Nat) : Int) = (b : Int) + 1 by omega]
              exact ⟨rfl, rfl, rfl, rfl, rfl, rfl, rfl, trivial⟩
          · refine rp_not F X w1 rg ro rc HC HI _ _ _ b a1 _ _ us A1 HBL.out hR hB hyes (fun a' hat => ?p2) ⟨rfl, rfl, rfl, rfl, rfl, rfl, rfl, rfl, trivial⟩
            case p2 =>
              refine rp_block F X w1 rg ro rc HC HI _ _ _ b a1 _ _ us A1 HBL.out hR hB A2 (fun a2 w2 vb g hat2 ho2 hg1 hg2 hb2 => ?p3) hat
              have hb2' : Below w1.heap.size w1 w2 := hB.out.trans (hb2.mono hB.out.size)
              have hR2 := hR.out.below hb2
              refine rp_find F X w1 rg ro rc _ _ _ b a1 _ _ vb us HBL.out hR2 hb2' ho2 (fun a3 w3 n hat3 hf3 hb3 => ?p4) hat2
              have hb3' : Below w1.heap.size w1 w3 := hb2'.trans (hb3.mono hb2'.size)
              refine rp_put F X w1 rg ro rc _ _ _ b a1 _ _ vb us HBL.out (hR2.below hb3) hb3' (owns_below ho2 hb3) n hf3 ?p5 (fun a' w' vu' vi' us' hat hR4 hB4 => ?p6) hat3
              case p5 =>
                intro c
                rw [hg1] at c
                rcases ownB hR.out.i with q | ⟨gi, q, -, q2, -⟩
                · rw [q] at c; cases c
                · rw [q] at c; cases c; omega
              case p6 =>
                replace hR4 : Hid (Rp w' w1.heap.size vi' vu' us' (plcs F (b + 1)) (unl F (b + 1))) := hR4
                replace hB4 : Hid (Below w1.heap.size w1 w') := hB4
                clear hR hB hyes HC HI hpl hbr hul HPK hR2 hb2' hb3' ho2 hb2 hb3 hf3 hat2 hat3 hg1 hg2
                obtain ⟨f, rfl, h4, h5, h6, h7, h8, -⟩ := hat.lit
                change Exit.inBlock 1 _ _ ⟨#[f 0, f 1, f 2, f 3, f 4, f 5, f 6, f 7, f 8, f 9, f 10, f 11, f 12, f 13, f 14, f 15, f 16, f 17, f 18, f 19, f 20, f 21, f 22, f 23, f 24, f 25, f 26, f 27, f 28, f 29, f 30, f 31, f 32, f 33, f 34, f 35, f 36, f 37, f 38, f 39, f 40, f 41, f 42, f 43, f 44, f 45, f 46, f 47, f 48, f 49, f 50, f 51, f 52, f 53, f 54, f 55, f 56, f 57, f 58, f 59, f 60, f 61, f 62, f 63, f 64, f 65, f 66, f 67, f 68, f 69, f 70, f 71, f 72, f 73, f 74, f 75, f 76, f 77, f 78, f 79, f 80, f 81, f 82, f 83, f 84, f 85, f 86, f 87, f 88, f 89, f 90, f 91, f 92, f 93, f 94, f 95, f 96, f 97, f 98, f 99, f 100, f 101, f 102, f 103, f 104, f 105, f 106, f 107, f 108, f 109, f 110, f 111, f 112, f 113, f 114, f 115, f 116, f 117, f 118, f 119, f 120, f 121, f 122, f 123, f 124, f 125, f 126, f 127, f 128, f 129, f 130, f 131, f 132, f 133, f 134, f 135, f 136, f 137, f 138, f 139, f 140, f 141, f 142, f 143, f 144, f 145, f 146, f 147, f 148, f 149, f 150, f 151, f 152, f 153, f 154, f 155, f 156, f 157, f 158, f 159, f 160, f 161, f 162, f 163, f 164, f 165, f 166, f 167, f 168, f 169, f 170, f 171, f 172, f 173, f 174], []⟩ _
                simp only at h4 h5 h6 h7 h8
                simp only [h4, h5, h6, h7, h8]
                clear h4 h5 h6 h7 h8
                go_wp2
                refine Handed.intro (8704 - (b + 1)) (by have := HBL.out; omega) (HJ.out _ _ _ ⟨b + 1, a1, us', _, _, by have := HBL.out; omega, rfl, ?_, ⟨A1, by omega⟩, hR4.out, hB4.out⟩)
                rw [show ((b + 1 : Nat) : Int) = (b : Int) + 1 by omega]
                exact ⟨rfl, rfl, rfl, rfl, rfl, rfl, rfl, trivial⟩
    · have hbb : b = 8704 := by omega
      subst hbb
      clear hb hbl haf HC HI HJ hK1
      obtain ⟨f, rfl, h4, h5, h6, h7, h8, -⟩ := ha.lit
      change Code.wp _ _ _ ⟨#[f 0, f 1, f 2, f 3, f 4, f 5, f 6, f 7, f 8, f 9, f 10, f 11, f 12, f 13, f 14, f 15, f 16, f 17, f 18, f 19, f 20, f 21, f 22, f 23, f 24, f 25, f 26, f 27, f 28, f 29, f 30, f 31, f 32, f 33, f 34, f 35, f 36, f 37, f 38, f 39, f 40, f 41, f 42, f 43, f 44, f 45, f 46, f 47, f 48, f 49, f 50, f 51, f 52, f 53, f 54, f 55, f 56, f 57, f 58, f 59, f 60, f 61, f 62, f 63, f 64, f 65, f 66, f 67, f 68, f 69, f 70, f 71, f 72, f 73, f 74, f 75, f 76, f 77, f 78, f 79, f 80, f 81, f 82, f 83, f 84, f 85, f 86, f 87, f 88, f 89, f 90, f 91, f 92, f 93, f 94, f 95, f 96, f 97, f 98, f 99, f 100, f 101, f 102, f 103, f 104, f 105, f 106, f 107, f 108, f 109, f 110, f 111, f 112, f 113, f 114, f 115, f 116, f 117, f 118, f 119, f 120, f 121, f 122, f 123, f 124, f 125, f 126, f 127, f 128, f 129, f 130, f 131, f 132, f 133, f 134, f 135, f 136, f 137, f 138, f 139, f 140, f 141, f 142, f 143, f 144, f 145, f 146, f 147, f 148, f 149, f 150, f 151, f 152, f 153, f 154, f 155, f 156, f 157, f 158, f 159, f 160, f 161, f 162, f 163, f 164, f 165, f 166, f 167, f 168, f 169, f 170, f 171, f 172, f 173, f 174], []⟩ _
      simp only at h4 h5 h6 h7 h8
      simp only [h4, h5, h6, h7, h8]
      clear h4 h5 h6 h7 h8
      go_wp2_with fail
      rw [← hEND.out]
      refine rp_text F w1 _ _ _ _ _ us hR hB hpl hbr (fun a' w' hat hb' => ?p9) ⟨rfl, rfl, rfl, rfl, trivial⟩
      case p9 =>
        replace hb' : Hid (Below w.heap.size w w') := B1.out.trans (hb'.mono B1.out.size)
        rw [HPK.out] at hat
        obtain ⟨f, rfl, h2, h3, -⟩ := hat.lit
        simp only at h2 h3
        refine bodyPost_ret (v := .tuple #[.string (strOfNums PKL), .int .i64 ((unl F 8704).length : Nat)]) ?r1 rfl ⟨rfl, hb'.out⟩
        case r1 => simp [results, Try.results22, go_sem, h2, h3]
end Go.Proofs.Ytookbgmolggohaa

/-
  The contracts of the document's stands and First: the first piece of a text. Condition: the text is not empty.
-/
import Derived.Test.YtabofadjnbpjkabDoorBeg
namespace Go.Proofs.YtabofadjnbpjkabDoor
open Go.RowKit Go.Lib
theorem ret_two {k : Nat} {st : Nat} {v : Value} (h : k = st) : Ending.returned (.tuple #[.int .i64 (k : Int), v]) = .returned (.tuple #[.int .i64 (st : Int), v]) := by rw [h]
theorem bK_byt (s : ByteArray) (k : Nat) (h1 : 1 ≤ k) (h3 : k ≤ 3) : bK (byt s 1) (byt s 2) (byt s 3) k = byt s k := by
  unfold bK
  match k, h1, h3 with
  | 1, _, _ => rfl
  | 2, _, _ => rfl
  | 3, _, _ => rfl
set_option maxRecDepth 100000 in
set_option maxHeartbeats 1000000 in
theorem stands_any (s : ByteArray) (w : World) (hs : s.size ≤ 140737488351232) (h1 : 1 ≤ s.size) :
    Calls Tryd.prog 60 #[.string s] w fun e w' => e = .returned (.tuple #[.int .i64 (stN s.size (byt s 0) (byt s 1) (byt s 2) (byt s 3)), .int .i64 (szN (byt s 0))]) ∧ w' = w := by
  have hb0 := byt_eq s 0 (by omega)
  have hz0 : (0 : Int) < (s.size : Int) := by omega
  have hl0 := byt_lt s 0
  have hst := st_le s.size (byt s 0) (byt s 1) (byt s 2) (byt s 3) h1
  have key := begins_any (byt s 0) w hl0
  have h4 : szN (byt s 0) ≤ 4 := by rcases sz_cases (byt s 0) with ⟨_, e⟩ | ⟨_, _, e⟩ | ⟨_, _, e⟩ | ⟨_, _, e⟩ | ⟨_, e⟩ <;> omega
  by_cases h2 : szN (byt s 0) < 2
  · have e : stN s.size (byt s 0) (byt s 1) (byt s 2) (byt s 3) = 1 := by simp [stN, h2]
    rw [e]
    obtain ⟨z, hz⟩ : ∃ z, szN (byt s 0) = z := ⟨_, rfl⟩
    obtain ⟨lo, hlo⟩ : ∃ z, loR (byt s 0) = z := ⟨_, rfl⟩
    obtain ⟨hi, hhi⟩ : ∃ z, hiR (byt s 0) = z := ⟨_, rfl⟩
    rw [hz, hlo, hhi] at key
    rw [hz] at h2 ⊢
    have h2i : (z : Int) < 2 := by omega
    clear e hst hz hlo hhi
    go_enter Tryd.func60, Tryd.ntmps60
    go_wp2_with (go_at_call 49; refine key.mono ?_; rintro e w' ⟨rfl, rfl⟩)
    go_ret2
    exact ⟨rfl, rfl⟩
  · have step := fun k => st_step s.size (byt s 0) (byt s 1) (byt s 2) (byt s 3) k (by omega)
    have elo : loR (byt s 0) = loN (byt s 0) := by simp [loR, h2]
    have ehi : hiR (byt s 0) = hiN (byt s 0) := by simp [hiR, h2]
    rw [elo, ehi] at key
    have hLb : loN (byt s 0) < 256 ∧ hiN (byt s 0) < 256 := by unfold loN hiN; constructor <;> (repeat' split) <;> omega
    have hloK : ∀ k, k ≠ 1 → loK (byt s 0) k = 128 := fun k h => by simp [loK, h]
    have hhiK : ∀ k, k ≠ 1 → hiK (byt s 0) k = 191 := fun k h => by simp [hiK, h]
    have hlo1 : loK (byt s 0) 1 = loN (byt s 0) := rfl
    have hhi1 : hiK (byt s 0) 1 = hiN (byt s 0) := rfl
    obtain ⟨st, hst0⟩ : ∃ st, stN s.size (byt s 0) (byt s 1) (byt s 2) (byt s 3) = st := ⟨_, rfl⟩
    obtain ⟨sz, hsz0⟩ : ∃ sz, szN (byt s 0) = sz := ⟨_, rfl⟩
    obtain ⟨lo, hlo0⟩ : ∃ z, loN (byt s 0) = z := ⟨_, rfl⟩
    obtain ⟨hi, hhi0⟩ : ∃ z, hiN (byt s 0) = z := ⟨_, rfl⟩
    simp only [hst0, hsz0] at step
    rw [hst0] at hst ⊢
    rw [hsz0, hlo0, hhi0] at key
    rw [hsz0] at h2 h4 ⊢
    rw [hlo0, hhi0] at hLb
    rw [hlo0] at hlo1
    rw [hhi0] at hhi1
    have STEP : Hid (∀ k, 1 ≤ k → k ≤ st → (k < st ↔ (k < sz ∧ k < s.size ∧ loK (byt s 0) k ≤ bK (byt s 1) (byt s 2) (byt s 3) k ∧ bK (byt s 1) (byt s 2) (byt s 3) k ≤ hiK (byt s 0) k))) := step
    have HLO : Hid ((∀ k, k ≠ 1 → loK (byt s 0) k = 128) ∧ (∀ k, k ≠ 1 → hiK (byt s 0) k = 191) ∧ loK (byt s 0) 1 = lo ∧ hiK (byt s 0) 1 = hi) := ⟨hloK, hhiK, hlo1, hhi1⟩
    have h2i : ¬ (sz : Int) < 2 := by omega
    clear step hloK hhiK hlo1 hhi1 elo ehi hst0 hlo0 hhi0
    go_enter Tryd.func60, Tryd.ntmps60
    go_wp2_with (go_at_call 49; refine key.mono ?_; rintro e w' ⟨rfl, rfl⟩)
    go_loop [5, 6, 7] (fun l h i => ∃ k x y : Nat, i = .int .i64 k ∧ 1 ≤ k ∧ k ≤ st ∧ l = .int .u8 x ∧ h = .int .u8 y ∧ x < 256 ∧ y < 256 ∧ (k = 1 → x = lo ∧ y = hi)) (fun _ _ i => st - (RowKit.intOf i).toNat)
    case atStart => exact ⟨1, lo, hi, rfl, by omega, by omega, rfl, rfl, hLb.1, hLb.2, fun _ => ⟨rfl, rfl⟩⟩
    case round =>
      obtain ⟨k, x, y, rfl, hk, hk', rfl, rfl, hx, hy, h1xy⟩ := hrel
      have hstep := STEP.out k hk hk'
      by_cases hc : k < sz ∧ k < s.size
      · obtain ⟨hc1, hc2⟩ := hc
        have hk3 : k ≤ 3 := by omega
        rw [bK_byt s k hk hk3] at hstep
        have hbk := byt_eq s k hc2
        have hlk := byt_lt s k
        have d1 : (k : Int) < (sz : Int) := by omega
        have d2 : (k : Int) < (s.size : Int) := by omega
        have e1 : decide ((k : Int) < (sz : Int)) = true := by simp; omega
        obtain ⟨b, hb⟩ : ∃ b, byt s k = b := ⟨_, rfl⟩
        rw [hb] at hstep hbk hlk
        by_cases hk1 : k = 1
        · obtain ⟨ex, ey⟩ := h1xy hk1
          rw [hk1, HLO.out.2.2.1, HLO.out.2.2.2] at hstep
          rw [← ex, ← ey] at hstep
          have d3 : ¬ (1 : Int) < (k : Int) := by omega
          clear ex ey h1xy hb
          by_cases c1 : b < x
          · have t1 : decide ((b : Int) < (x : Int)) = true := by simp; omega
            have hend : k = st := by omega
            have HE : Hid (k = st) := hend
            clear hstep hend hk1 STEP HLO
            go_wp2
            go_ret2
            exact ⟨ret_two HE.out, rfl⟩
          · have t1 : decide ((b : Int) < (x : Int)) = false := by simp; omega
            by_cases c2 : y < b
            · have t2 : (y : Int) < (b : Int) := by omega
              have hend : k = st := by omega
              have HE : Hid (k = st) := hend
              clear hstep hend hk1 STEP HLO
              go_wp2
              go_ret2
              exact ⟨ret_two HE.out, rfl⟩
            · have t2 : ¬ (y : Int) < (b : Int) := by omega
              have hlt : k < st := by omega
              clear hstep hk1 STEP HLO
              go_wp2
              go_round
              case rel => exact ⟨k + 1, x, y, by go_num, by omega, by omega, rfl, rfl, hx, hy, fun h => by omega⟩
              case measure => simp [RowKit.intOf]; omega
        · have d3 : (1 : Int) < (k : Int) := by omega
          rw [HLO.out.1 k hk1, HLO.out.2.1 k hk1] at hstep
          clear h1xy hb
          by_cases c1 : b < 128
          · have t1 : decide ((b : Int) < 128) = true := by simp; omega
            have hend : k = st := by omega
            have HE : Hid (k = st) := hend
            clear hstep hend hk1 STEP HLO
            go_wp2
            go_ret2
            exact ⟨ret_two HE.out, rfl⟩
          · have t1 : decide ((b : Int) < 128) = false := by simp; omega
            by_cases c2 : 191 < b
            · have t2 : (191 : Int) < (b : Int) := by omega
              have hend : k = st := by omega
              have HE : Hid (k = st) := hend
              clear hstep hend hk1 STEP HLO
              go_wp2
              go_ret2
              exact ⟨ret_two HE.out, rfl⟩
            · have t2 : ¬ (191 : Int) < (b : Int) := by omega
              have hlt : k < st := by omega
              clear hstep hk1 STEP HLO
              go_wp2
              go_round
              case rel => exact ⟨k + 1, 128, 191, by go_num, by omega, by omega, rfl, rfl, by omega, by omega, fun h => by omega⟩
              case measure => simp [RowKit.intOf]; omega
      · have hend : k = st := by
          have : ¬ k < st := fun h => hc ⟨(hstep.1 h).1, (hstep.1 h).2.1⟩
          omega
        have HE : Hid (k = st) := hend
        clear hstep hend STEP HLO
        by_cases hc1 : k < sz
        · have d1 : decide ((k : Int) < (sz : Int)) = true := by simp; omega
          have d2 : ¬ (k : Int) < (s.size : Int) := by omega
          go_wp2
          go_ret2
          exact ⟨ret_two HE.out, rfl⟩
        · have d1 : decide ((k : Int) < (sz : Int)) = false := by simp; omega
          go_wp2
          go_ret2
          exact ⟨ret_two HE.out, rfl⟩
end Go.Proofs.YtabofadjnbpjkabDoor

/-
  A code point that a field says: the document's answer.
-/
import Derived.Test.YtcjlplaepnpopaaDoorPt
import Derived.LoopN
import Derived.OwnWalk
import Derived.WalkSmall
import Derived.BigQuiet
import Derived.Deep.QuietTactic
namespace Go.Proofs.YtcjlplaepnpopaaDoor
open Go.RowKit
theorem all16 (k : Nat) (h : k < 16) : k = 0 ∨ k = 1 ∨ k = 2 ∨ k = 3 ∨ k = 4 ∨ k = 5 ∨ k = 6 ∨ k = 7 ∨ k = 8 ∨ k = 9 ∨ k = 10 ∨ k = 11 ∨ k = 12 ∨ k = 13 ∨ k = 14 ∨ k = 15 := by omega
theorem low16 (k : Nat) (h : k < 16) (h' : k < (⟨#[48, 49, 50, 51, 52, 53, 54, 55, 56, 57, 97, 98, 99, 100, 101, 102]⟩ : ByteArray).size) : ((⟨#[48, 49, 50, 51, 52, 53, 54, 55, 56, 57, 97, 98, 99, 100, 101, 102]⟩ : ByteArray)[k]'h').toNat = lowC k := by
  rcases all16 k h with rfl | rfl | rfl | rfl | rfl | rfl | rfl | rfl | rfl | rfl | rfl | rfl | rfl | rfl | rfl | rfl <;> rfl
theorem upp16 (k : Nat) (h : k < 16) (h' : k < (⟨#[48, 49, 50, 51, 52, 53, 54, 55, 56, 57, 65, 66, 67, 68, 69, 70]⟩ : ByteArray).size) : ((⟨#[48, 49, 50, 51, 52, 53, 54, 55, 56, 57, 65, 66, 67, 68, 69, 70]⟩ : ByteArray)[k]'h').toNat = uppC k := by
  rcases all16 k h with rfl | rfl | rfl | rfl | rfl | rfl | rfl | rfl | rfl | rfl | rfl | rfl | rfl | rfl | rfl | rfl <;> rfl
/-- What the inner loop has found. -/
def fdD (Y k : Nat) : Int := if hx Y < k then (hx Y : Int) else -1
theorem fdD_zero (Y : Nat) : fdD Y 0 = -1 := by unfold fdD; rw [if_neg (by omega)]
theorem fdD_hit {Y k : Nat} (h : hx Y = k) : fdD Y (k + 1) = k := by unfold fdD; rw [if_pos (by omega), h]
theorem fdD_miss {Y k : Nat} (h : hx Y ≠ k) : fdD Y (k + 1) = fdD Y k := by
  unfold fdD
  by_cases c : hx Y < k
  · rw [if_pos c, if_pos (by omega)]
  · rw [if_neg c, if_neg (by omega)]
set_option maxRecDepth 100000 in
set_option maxHeartbeats 4000000 in
theorem rpoint_any (s : ByteArray) (w : World) : Calls Tryd.prog 6 #[.string s] w fun e w' => e = ptA (ptN s) ∧ Below w.heap.size w w' := by
  by_cases h4 : s.size < 4
  · have c1 : decide (s.size < 4) = true := decide_eq_true h4
    have HX : Hid (ptA (ptN s) = .returned (.tuple #[.int .i32 0, .int .i64 90])) := by show _ = _; rw [ptN_size (by omega)]; rfl
    go_enter Tryd.func6, Tryd.ntmps6
    go_wp2
    exact bodyPost_ret (v := .tuple #[.int .i32 0, .int .i64 90]) (by simp [results, Tryd.results6, go_sem]) rfl ⟨HX.out.symm, Below.refl _ _⟩
  · have c1 : decide (s.size < 4) = false := decide_eq_false h4
    by_cases h6 : 6 < s.size
    · have c2 : decide (6 < s.size) = true := decide_eq_true h6
      have HX : Hid (ptA (ptN s) = .returned (.tuple #[.int .i32 0, .int .i64 90])) := by show _ = _; rw [ptN_size (by omega)]; rfl
      go_enter Tryd.func6, Tryd.ntmps6
      go_wp2
      exact bodyPost_ret (v := .tuple #[.int .i32 0, .int .i64 90]) (by simp [results, Tryd.results6, go_sem]) rfl ⟨HX.out.symm, Below.refl _ _⟩
    · have c2 : decide (6 < s.size) = false := decide_eq_false h6
      have HS : Hid (4 ≤ s.size ∧ s.size ≤ 6) := ⟨by omega, by omega⟩
      have b1 : (4 : Int) ≤ (s.size : Int) := by omega
      have b2 : (s.size : Int) ≤ 6 := by omega
      go_enter Tryd.func6, Tryd.ntmps6
      go_wp2
      clear c1 c2 b1 b2
      go_loopw [4, 5] (fun n x wr => Hid (Below w.heap.size w wr) ∧ ∃ i : Nat, x = .int .i64 (i : Int) ∧ i ≤ s.size ∧ Hid (Digs s 16 i) ∧ n = .int .i32 (val s 16 i : Nat)) (fun _ x _ => s.size - (RowKit.intOf x).toNat)
      case atStart => exact ⟨Below.refl _ _, 0, rfl, Nat.zero_le _, fun j hj => by omega, rfl⟩
      case round =>
        obtain ⟨HB0, i, rfl, hi, hD, hn⟩ := hrel
        obtain ⟨wo, hwo⟩ : ∃ wo, wr = wo := ⟨_, rfl⟩
        rw [hwo] at HB0 ⊢
        clear hwo
        have hv : val s 16 i < 16777216 := Nat.lt_of_lt_of_le (val_lt s 16 i hD.out) (by
          have : i ≤ 6 := by omega
          calc 16 ^ i ≤ 16 ^ 6 := Nat.pow_le_pow_right (by decide) this
            _ = 16777216 := by decide)
        by_cases c : i < s.size
        · have c0 : (i : Int) < (s.size : Int) := by omega
          have c1 : decide ((i : Int) < (s.size : Int)) = true := decide_eq_true c0
          have q0 : (s[i]'c).toNat = byt s i := byt_eq s i c
          have hvs : val s 16 (i + 1) = val s 16 i * 16 + hx (byt s i) := rfl
          have hDs : hx (byt s i) < 16 → Digs s 16 (i + 1) := fun h => hD.out.succ h
          have hDn : ¬ hx (byt s i) < 16 → ptN s = none := fun h => ptN_digs fun q => h (q i c)
          have hY := byt_lt s i
          have i9 : (i : Int) ≤ 9007199254740992 := by omega
          obtain ⟨Y, eY⟩ : ∃ Y, byt s i = Y := ⟨_, rfl⟩
          rw [eY] at q0 hvs hDs hDn hY
          obtain ⟨V, eV⟩ : ∃ V, val s 16 i = V := ⟨_, rfl⟩
          rw [eV] at hvs hv hn
          subst hn
          have HG : Hid (hx Y < 16 → Digs s 16 (i + 1) ∧ val s 16 (i + 1) = V * 16 + hx Y) := fun h => ⟨hDs h, hvs⟩
          have HB : Hid (¬ hx Y < 16 → ptA (ptN s) = .returned (.tuple #[.int .i32 0, .int .i64 90])) := fun h => by rw [hDn h]; rfl
          clear hvs hDs hDn eY eV hD
          go_wp2
          go_loopw [6, 7] (fun d x wr' => Hid (Below w.heap.size w wr') ∧ ∃ k : Nat, x = .int .i32 (k : Int) ∧ k ≤ 16 ∧ d = .int .i32 (fdD Y k)) (fun _ x _ => 16 - (RowKit.intOf x).toNat)
          case atStart => exact ⟨HB0, 0, rfl, by omega, by rw [fdD_zero]⟩
          case round =>
            obtain ⟨HB1, k, rfl, hk, hd⟩ := hrel
            obtain ⟨wi, hwi⟩ : ∃ wi, wr = wi := ⟨_, rfl⟩
            rw [hwi] at HB1 ⊢
            clear hwi
            by_cases hlt : k < 16
            · have hl16 : (k : Int) < 16 := by omega
              have q1 := low16 k hlt
              have q2 := upp16 k hlt
              have hL := fun e : lowC k = Y => (hx_low k (by omega)).symm.trans (congrArg hx e)
              have hU := fun e : uppC k = Y => (hx_upp k (by omega)).symm.trans (congrArg hx e)
              have hI := hx_is Y k (by omega)
              have w1 : IntKind.i32.wrap ((k : Int) + 1) = (k : Int) + 1 := IntWalk.i32_in _ (by omega)
              obtain ⟨L, eL⟩ : ∃ L, lowC k = L := ⟨_, rfl⟩
              obtain ⟨U, eU⟩ : ∃ U, uppC k = U := ⟨_, rfl⟩
              rw [eL] at q1 hL hI
              rw [eU] at q2 hU hI
              by_cases he : hx Y = k
              · have HD : Hid (fdD Y (k + 1) = k) := fdD_hit he
                by_cases h1 : Y = L
                · have e1 : ((L : Int) == (Y : Int)) = true := by simp; omega
                  clear hL hU hI eL eU he h1
                  go_wp2
                  go_quiet (fail)
                  go_wp2
                  refine ⟨⟨below_drewN HB1.out _, k + 1, by simp, by omega, by rw [HD.out]⟩, ?_⟩
                  simp [RowKit.intOf]; omega
                · have h2 : Y = U := (hI he).resolve_left h1
                  have e1 : ((L : Int) == (Y : Int)) = false := beq_false_of_ne (by omega)
                  have e2 : ((U : Int) == (Y : Int)) = true := by simp; omega
                  clear hL hU hI eL eU he h1 h2
                  go_wp2
                  go_quiet (fail)
                  go_wp2
                  refine ⟨⟨below_drewN HB1.out _, k + 1, by simp, by omega, by rw [HD.out]⟩, ?_⟩
                  simp [RowKit.intOf]; omega
              · have e1 : ((L : Int) == (Y : Int)) = false := beq_false_of_ne (fun h => he (hL (by omega)).symm)
                have e2 : ((U : Int) == (Y : Int)) = false := beq_false_of_ne (fun h => he (hU (by omega)).symm)
                have HD : Hid (fdD Y (k + 1) = fdD Y k) := fdD_miss he
                obtain ⟨D, eD⟩ : ∃ D, fdD Y k = D := ⟨_, rfl⟩
                rw [eD] at hd HD
                subst hd
                clear hL hU hI eL eU he eD
                go_wp2
                go_quiet (fail)
                go_wp2
                refine ⟨⟨below_drewN HB1.out _, k + 1, by simp, by omega, by rw [HD.out]⟩, ?_⟩
                simp [RowKit.intOf]; omega
            · obtain rfl : k = 16 := by omega
              clear hk hlt
              by_cases hh : hx Y < 16
              · obtain ⟨g1, g2⟩ := HG.out hh
                have hdd : fdD Y 16 = (hx Y : Int) := by unfold fdD; rw [if_pos hh]
                obtain ⟨X, eX⟩ : ∃ X, hx Y = X := ⟨_, rfl⟩
                rw [hdd, eX] at hd
                rw [eX] at hh g2
                subst hd
                have d1 : decide ((X : Int) < 0) = false := decide_eq_false (by omega)
                have w1 : IntKind.i32.wrap (16 * (V : Int)) = 16 * V := IntWalk.i32_in _ (by omega)
                have w2 : IntKind.i32.wrap (16 * (V : Int) + X) = 16 * V + X := IntWalk.i32_in _ (by omega)
                have HN : Hid (Digs s 16 (i + 1) ∧ (val s 16 (i + 1) : Int) = 16 * V + X) := ⟨g1, by omega⟩
                clear g1 g2 hdd eX HB HG
                go_wp2
                refine ⟨⟨HB1, i + 1, by simp, by omega, HN.out.1, by rw [HN.out.2]⟩, ?_⟩
                simp [RowKit.intOf]; omega
              · have hdd : fdD Y 16 = -1 := by unfold fdD; rw [if_neg hh]
                have HX : Hid (ptA (ptN s) = .returned (.tuple #[.int .i32 0, .int .i64 90])) := HB.out hh
                rw [hdd] at hd
                subst hd
                clear hdd HB HG hh
                go_wp2
                exact bodyPost_ret (v := .tuple #[.int .i32 0, .int .i64 90]) (by simp [results, Tryd.results6, go_sem]) rfl ⟨HX.out.symm, HB1.out⟩
        · obtain rfl : i = s.size := by omega
          have c1 : decide ((s.size : Int) < (s.size : Int)) = false := by simp
          have hYes : val s 16 s.size ≤ 1114111 → ptN s = some (val s 16 s.size) := fun h => ptN_yes HS.out hD.out h
          have hNo : 1114111 < val s 16 s.size → ptN s = none := fun h => ptN_big h
          obtain ⟨V, eV⟩ : ∃ V, val s 16 s.size = V := ⟨_, rfl⟩
          rw [eV] at hYes hNo hv hn
          subst hn
          by_cases hb : 1114111 < V
          · have c3 : decide (1114111 < V) = true := decide_eq_true hb
            have HX : Hid (ptA (ptN s) = .returned (.tuple #[.int .i32 0, .int .i64 90])) := by show _ = _; rw [hNo hb]; rfl
            clear hYes hNo eV hD
            go_wp2
            exact bodyPost_ret (v := .tuple #[.int .i32 0, .int .i64 90]) (by simp [results, Tryd.results6, go_sem]) rfl ⟨HX.out.symm, HB0.out⟩
          · have c3 : decide (1114111 < V) = false := decide_eq_false hb
            have HX : Hid (ptA (ptN s) = .returned (.tuple #[.int .i32 V, .int .i64 0])) := by show _ = _; rw [hYes (by omega)]; rfl
            clear hYes hNo eV hD
            go_wp2
            exact bodyPost_ret (v := .tuple #[.int .i32 (V : Int), .int .i64 0]) (by simp [results, Tryd.results6, go_sem]) rfl ⟨HX.out.symm, HB0.out⟩
end Go.Proofs.YtcjlplaepnpopaaDoor

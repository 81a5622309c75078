/-
  A whole number that a field says: the document's answer.
-/
import Derived.Test.YtcjlplaepnpopaaDoorWl
import Derived.Lib.SlicesS
import Derived.OwnWalk
import Derived.WalkSmall
import Derived.BigQuiet
import Derived.Deep.QuietTactic
namespace Go.Proofs.YtcjlplaepnpopaaDoor
open Go.RowKit
theorem hx_ten (Y : Nat) : hx Y < 10 ↔ 48 ≤ Y ∧ Y ≤ 57 := by
  unfold hx
  by_cases c : 48 ≤ Y ∧ Y ≤ 57
  · rw [if_pos c]; omega
  · rw [if_neg c]
    split
    · omega
    · split <;> omega
theorem hx_dec {Y : Nat} (h : 48 ≤ Y ∧ Y ≤ 57) : hx Y = Y - 48 := by unfold hx; rw [if_pos h]
/-- What comes of a text of digits: the loop and what stands behind it. -/
theorem whole_ne {s T : ByteArray} (h : T.size + 1 = s.size) : (T.toList == s.toList) = false := by
  rw [Lib.bytes_beq_false_iff]
  intro e
  rw [e] at h
  omega
set_option maxRecDepth 100000 in
set_option maxHeartbeats 4000000 in
theorem rwhole_neg (s T : ByteArray) (R : Option Int) (w : World) (h0 : 0 < s.size) (hY : byt s 0 = 45) (hT : T = s.extract 1 s.size) (hsz : Hid (¬ (1 ≤ T.size ∧ T.size ≤ 9) → whA R = .returned (.tuple #[.int .i64 0, .int .i64 92]))) (hdg : Hid (¬ Digs T 10 T.size → whA R = .returned (.tuple #[.int .i64 0, .int .i64 92]))) (hys : Hid (1 ≤ T.size ∧ T.size ≤ 9 → Digs T 10 T.size → R = some (-(val T 10 T.size : Int)))) : Calls Tryd.prog 12 #[.string s] w fun e w' => e = whA R ∧ w' = w := by
  have q0 : (s[0]'h0).toNat = 45 := (byt_eq s 0 h0).trans hY
  have g0 : (0 : Int) < (s.size : Int) := by omega
  have hsT : T.size + 1 = s.size := by rw [hT, ByteArray.size_extract]; omega
  have ne := whole_ne hsT
  have g1 : (1 : Int) ≤ (s.size : Int) := by omega
  have hT' := hT.symm
  clear hT hY
  by_cases h1 : T.size < 1
  · have c1 : (T.size : Int) < 1 := by omega
    have HX : Hid (whA R = .returned (.tuple #[.int .i64 0, .int .i64 92])) := hsz.out (by omega)
    clear h1
    go_enter Tryd.func12, Tryd.ntmps12
    go_wp2
    exact bodyPost_ret (v := .tuple #[.int .i64 0, .int .i64 92]) (by simp [results, Tryd.results12, go_sem]) rfl ⟨HX.out.symm, rfl⟩
  · by_cases h2 : 9 < T.size
    · have c1 : (9 : Int) < (T.size : Int) := by omega
      have HX : Hid (whA R = .returned (.tuple #[.int .i64 0, .int .i64 92])) := hsz.out (by omega)
      clear h1 h2
      go_enter Tryd.func12, Tryd.ntmps12
      go_wp2
      exact bodyPost_ret (v := .tuple #[.int .i64 0, .int .i64 92]) (by simp [results, Tryd.results12, go_sem]) rfl ⟨HX.out.symm, rfl⟩
    · have b1 : (1 : Int) ≤ (T.size : Int) := by omega
      have b2 : (T.size : Int) ≤ 9 := by omega
      have hz1 : 1 ≤ T.size := by omega
      have hz2 : T.size ≤ 9 := by omega
      go_enter Tryd.func12, Tryd.ntmps12
      go_wp2
      clear h1 h2
      go_loopw [5, 6] (fun n x wr => wr = w ∧ ∃ i : Nat, x = .int .i64 (i : Int) ∧ i ≤ T.size ∧ Hid (Digs T 10 i) ∧ n = .int .i64 (val T 10 i : Nat)) (fun _ x _ => T.size - (RowKit.intOf x).toNat)
      case atStart => exact ⟨rfl, 0, rfl, Nat.zero_le _, fun j hj => by omega, rfl⟩
      case round =>
        obtain ⟨rfl, i, rfl, hi, hD, hn⟩ := hrel
        have hv : val T 10 i < 1000000000 := val9 i (by omega) hD.out
        by_cases c : i < T.size
        · have c0 : (i : Int) < (T.size : Int) := by omega
          have c1 : decide ((i : Int) < (T.size : Int)) = true := decide_eq_true c0
          have q0 : (T[i]'c).toNat = byt T i := byt_eq T i c
          have hvs : val T 10 (i + 1) = val T 10 i * 10 + hx (byt T i) := rfl
          have hDs : hx (byt T i) < 10 → Digs T 10 (i + 1) := fun h => hD.out.succ h
          have hDn : ¬ hx (byt T i) < 10 → whA R = .returned (.tuple #[.int .i64 0, .int .i64 92]) := fun h => hdg.out fun q => h (q i c)
          have hY := byt_lt T i
          have i9 : (i : Int) ≤ 9007199254740992 := by omega
          obtain ⟨Y, eY⟩ : ∃ Y, byt T i = Y := ⟨_, rfl⟩
          rw [eY] at q0 hvs hDs hDn hY
          obtain ⟨V, eV⟩ : ∃ V, val T 10 i = V := ⟨_, rfl⟩
          rw [eV] at hvs hv hn
          subst hn
          by_cases d1 : Y < 48
          · have e1 : decide (Y < 48) = true := decide_eq_true d1
            have HX : Hid (whA R = .returned (.tuple #[.int .i64 0, .int .i64 92])) := hDn (by rw [hx_ten]; omega)
            clear hvs hDs hDn eY eV hD
            go_wp2
            exact bodyPost_ret (v := .tuple #[.int .i64 0, .int .i64 92]) (by simp [results, Tryd.results12, go_sem]) rfl ⟨HX.out.symm, rfl⟩
          · have e1 : decide (Y < 48) = false := decide_eq_false d1
            by_cases d2 : 57 < Y
            · have e2 : decide (57 < Y) = true := decide_eq_true d2
              have HX : Hid (whA R = .returned (.tuple #[.int .i64 0, .int .i64 92])) := hDn (by rw [hx_ten]; omega)
              clear hvs hDs hDn eY eV hD
              go_wp2
              exact bodyPost_ret (v := .tuple #[.int .i64 0, .int .i64 92]) (by simp [results, Tryd.results12, go_sem]) rfl ⟨HX.out.symm, rfl⟩
            · have e2 : decide (57 < Y) = false := decide_eq_false d2
              have hd : hx Y = Y - 48 := hx_dec (by omega)
              obtain ⟨X, rfl⟩ : ∃ X, Y = 48 + X := ⟨Y - 48, by omega⟩
              have hX : X ≤ 9 := by omega
              have w1 : IntKind.u8.wrap (((48 + X : Nat) : Int) - 48) = X := by rw [show ((48 + X : Nat) : Int) - 48 = X by omega]; exact IntWalk.u8_in _ (by omega)
              have w1' : IntKind.u8.wrap (48 + (X : Int) - 48) = X := by rw [show 48 + (X : Int) - 48 = X by omega]; exact IntWalk.u8_in _ (by omega)
              have w2 : IntKind.i64.wrap (X : Int) = X := IntWalk.i64_in _ (by omega)
              have w3 : IntKind.i64.wrap (10 * (V : Int)) = 10 * V := IntWalk.i64_in _ (by omega)
              have w4 : IntKind.i64.wrap (10 * (V : Int) + X) = 10 * V + X := IntWalk.i64_in _ (by omega)
              have HN : Hid (Digs T 10 (i + 1) ∧ (val T 10 (i + 1) : Int) = 10 * V + X) := ⟨hDs (by omega), by omega⟩
              clear hvs hDs hDn eY eV hD hd
              go_wp2
              refine ⟨⟨by first | exact trivial | rfl, i + 1, by simp, by omega, HN.out.1, by rw [HN.out.2]⟩, ?_⟩
              simp [RowKit.intOf]; omega
        · obtain rfl : i = T.size := by omega
          have c1 : decide ((T.size : Int) < (T.size : Int)) = false := by simp
          have hX := hys.out ⟨hz1, hz2⟩ hD.out
          obtain ⟨V, eV⟩ : ∃ V, val T 10 T.size = V := ⟨_, rfl⟩
          rw [eV] at hX hv hn
          subst hn
          have HX : Hid (whA R = .returned (.tuple #[.int .i64 (-(V : Int)), .int .i64 0])) := by show _ = _; rw [hX]; rfl
          have w2 : IntKind.i64.wrap (-(V : Int)) = -V := IntWalk.i64_in _ (by omega)
          clear hX eV hD
          go_wp2
          exact bodyPost_ret (v := .tuple #[.int .i64 (-(V : Int)), .int .i64 0]) (by simp [results, Tryd.results12, go_sem]) rfl ⟨HX.out.symm, rfl⟩
set_option maxRecDepth 100000 in
set_option maxHeartbeats 4000000 in
theorem rwhole_pos (s : ByteArray) (R : Option Int) (w : World) (hY : ¬ (0 < s.size ∧ byt s 0 = 45)) (hsz : Hid (¬ (1 ≤ s.size ∧ s.size ≤ 9) → whA R = .returned (.tuple #[.int .i64 0, .int .i64 92]))) (hdg : Hid (¬ Digs s 10 s.size → whA R = .returned (.tuple #[.int .i64 0, .int .i64 92]))) (hys : Hid (1 ≤ s.size ∧ s.size ≤ 9 → Digs s 10 s.size → R = some ((val s 10 s.size : Int)))) : Calls Tryd.prog 12 #[.string s] w fun e w' => e = whA R ∧ w' = w := by
  by_cases h0 : 0 < s.size
  · have q0 : (s[0]'h0).toNat = byt s 0 := byt_eq s 0 h0
    have g0 : (0 : Int) < (s.size : Int) := by omega
    have e0 : ((byt s 0 : Int) == 45) = false := beq_false_of_ne (by omega)
    by_cases h1 : s.size < 1
    · have c1 : (s.size : Int) < 1 := by omega
      have HX : Hid (whA R = .returned (.tuple #[.int .i64 0, .int .i64 92])) := hsz.out (by omega)
      clear h1
      go_enter Tryd.func12, Tryd.ntmps12
      go_wp2
      exact bodyPost_ret (v := .tuple #[.int .i64 0, .int .i64 92]) (by simp [results, Tryd.results12, go_sem]) rfl ⟨HX.out.symm, rfl⟩
    · by_cases h2 : 9 < s.size
      · have c1 : (9 : Int) < (s.size : Int) := by omega
        have HX : Hid (whA R = .returned (.tuple #[.int .i64 0, .int .i64 92])) := hsz.out (by omega)
        clear h1 h2
        go_enter Tryd.func12, Tryd.ntmps12
        go_wp2
        exact bodyPost_ret (v := .tuple #[.int .i64 0, .int .i64 92]) (by simp [results, Tryd.results12, go_sem]) rfl ⟨HX.out.symm, rfl⟩
      · have b1 : (1 : Int) ≤ (s.size : Int) := by omega
        have b2 : (s.size : Int) ≤ 9 := by omega
        have hz1 : 1 ≤ s.size := by omega
        have hz2 : s.size ≤ 9 := by omega
        go_enter Tryd.func12, Tryd.ntmps12
        go_wp2
        clear h1 h2
        go_loopw [5, 6] (fun n x wr => wr = w ∧ ∃ i : Nat, x = .int .i64 (i : Int) ∧ i ≤ s.size ∧ Hid (Digs s 10 i) ∧ n = .int .i64 (val s 10 i : Nat)) (fun _ x _ => s.size - (RowKit.intOf x).toNat)
        case atStart => exact ⟨rfl, 0, rfl, Nat.zero_le _, fun j hj => by omega, rfl⟩
        case round =>
          obtain ⟨rfl, i, rfl, hi, hD, hn⟩ := hrel
          have hv : val s 10 i < 1000000000 := val9 i (by omega) hD.out
          by_cases c : i < s.size
          · have c0 : (i : Int) < (s.size : Int) := by omega
            have c1 : decide ((i : Int) < (s.size : Int)) = true := decide_eq_true c0
            have q0 : (s[i]'c).toNat = byt s i := byt_eq s i c
            have hvs : val s 10 (i + 1) = val s 10 i * 10 + hx (byt s i) := rfl
            have hDs : hx (byt s i) < 10 → Digs s 10 (i + 1) := fun h => hD.out.succ h
            have hDn : ¬ hx (byt s i) < 10 → whA R = .returned (.tuple #[.int .i64 0, .int .i64 92]) := fun h => hdg.out fun q => h (q i c)
            have hY := byt_lt s i
            have i9 : (i : Int) ≤ 9007199254740992 := by omega
            obtain ⟨Y, eY⟩ : ∃ Y, byt s i = Y := ⟨_, rfl⟩
            rw [eY] at q0 hvs hDs hDn hY
            obtain ⟨V, eV⟩ : ∃ V, val s 10 i = V := ⟨_, rfl⟩
            rw [eV] at hvs hv hn
            subst hn
            by_cases d1 : Y < 48
            · have e1 : decide (Y < 48) = true := decide_eq_true d1
              have HX : Hid (whA R = .returned (.tuple #[.int .i64 0, .int .i64 92])) := hDn (by rw [hx_ten]; omega)
              clear hvs hDs hDn eY eV hD
              go_wp2
              exact bodyPost_ret (v := .tuple #[.int .i64 0, .int .i64 92]) (by simp [results, Tryd.results12, go_sem]) rfl ⟨HX.out.symm, rfl⟩
            · have e1 : decide (Y < 48) = false := decide_eq_false d1
              by_cases d2 : 57 < Y
              · have e2 : decide (57 < Y) = true := decide_eq_true d2
                have HX : Hid (whA R = .returned (.tuple #[.int .i64 0, .int .i64 92])) := hDn (by rw [hx_ten]; omega)
                clear hvs hDs hDn eY eV hD
                go_wp2
                exact bodyPost_ret (v := .tuple #[.int .i64 0, .int .i64 92]) (by simp [results, Tryd.results12, go_sem]) rfl ⟨HX.out.symm, rfl⟩
              · have e2 : decide (57 < Y) = false := decide_eq_false d2
                have hd : hx Y = Y - 48 := hx_dec (by omega)
                obtain ⟨X, rfl⟩ : ∃ X, Y = 48 + X := ⟨Y - 48, by omega⟩
                have hX : X ≤ 9 := by omega
                have w1 : IntKind.u8.wrap (((48 + X : Nat) : Int) - 48) = X := by rw [show ((48 + X : Nat) : Int) - 48 = X by omega]; exact IntWalk.u8_in _ (by omega)
                have w1' : IntKind.u8.wrap (48 + (X : Int) - 48) = X := by rw [show 48 + (X : Int) - 48 = X by omega]; exact IntWalk.u8_in _ (by omega)
                have w2 : IntKind.i64.wrap (X : Int) = X := IntWalk.i64_in _ (by omega)
                have w3 : IntKind.i64.wrap (10 * (V : Int)) = 10 * V := IntWalk.i64_in _ (by omega)
                have w4 : IntKind.i64.wrap (10 * (V : Int) + X) = 10 * V + X := IntWalk.i64_in _ (by omega)
                have HN : Hid (Digs s 10 (i + 1) ∧ (val s 10 (i + 1) : Int) = 10 * V + X) := ⟨hDs (by omega), by omega⟩
                clear hvs hDs hDn eY eV hD hd
                go_wp2
                refine ⟨⟨by first | exact trivial | rfl, i + 1, by simp, by omega, HN.out.1, by rw [HN.out.2]⟩, ?_⟩
                simp [RowKit.intOf]; omega
          · obtain rfl : i = s.size := by omega
            have c1 : decide ((s.size : Int) < (s.size : Int)) = false := by simp
            have hX := hys.out ⟨hz1, hz2⟩ hD.out
            obtain ⟨V, eV⟩ : ∃ V, val s 10 s.size = V := ⟨_, rfl⟩
            rw [eV] at hX hv hn
            subst hn
            have HX : Hid (whA R = .returned (.tuple #[.int .i64 (V : Int), .int .i64 0])) := by show _ = _; rw [hX]; rfl
            clear hX eV hD
            go_wp2
            exact bodyPost_ret (v := .tuple #[.int .i64 (V : Int), .int .i64 0]) (by simp [results, Tryd.results12, go_sem]) rfl ⟨HX.out.symm, rfl⟩
  · have g0 : ¬ (0 : Int) < (s.size : Int) := by omega
    have c1 : (s.size : Int) < 1 := by omega
    have c2 : decide ((0 : Int) < (s.size : Int)) = false := decide_eq_false g0
    have HX : Hid (whA R = .returned (.tuple #[.int .i64 0, .int .i64 92])) := hsz.out (by omega)
    go_enter Tryd.func12, Tryd.ntmps12
    go_wp2
    exact bodyPost_ret (v := .tuple #[.int .i64 0, .int .i64 92]) (by simp [results, Tryd.results12, go_sem]) rfl ⟨HX.out.symm, rfl⟩
theorem rwhole_any (s : ByteArray) (w : World) : Calls Tryd.prog 12 #[.string s] w fun e w' => e = whA (whN s) ∧ w' = w := by
  have hsz : ¬ (1 ≤ (whT s).size ∧ (whT s).size ≤ 9) → whA (whN s) = .returned (.tuple #[.int .i64 0, .int .i64 92]) := fun h => by rw [whN_size h]; rfl
  have hdg : ¬ Digs (whT s) 10 (whT s).size → whA (whN s) = .returned (.tuple #[.int .i64 0, .int .i64 92]) := fun h => by rw [whN_digs h]; rfl
  have hys := @whN_yes s
  cases hn : neB s with
  | true =>
    have hq : 0 < s.size ∧ byt s 0 = 45 := by unfold neB at hn; simpa using hn
    have hT : whT s = s.extract 1 s.size := by unfold whT; rw [if_pos hn]
    exact rwhole_neg s (whT s) (whN s) w hq.1 hq.2 hT hsz hdg fun h h2 => by rw [hys h h2, if_pos hn]
  | false =>
    have hq : ¬ (0 < s.size ∧ byt s 0 = 45) := fun q => by unfold neB at hn; simp [q.1, q.2] at hn
    have hT : whT s = s := by unfold whT; rw [if_neg (by rw [hn]; simp)]
    rw [hT] at hsz hdg hys
    exact rwhole_pos s (whN s) w hq hsz hdg fun h h2 => by rw [hys h h2, if_neg (by rw [hn]; simp)]
end Go.Proofs.YtcjlplaepnpopaaDoor

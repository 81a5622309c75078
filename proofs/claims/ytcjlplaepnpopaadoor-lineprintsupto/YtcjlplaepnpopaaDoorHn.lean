/-
  The document's Tell.
-/
import Derived.Test.YtcjlplaepnpopaaDoorHm
import Derived.LoopN
import Derived.IntWalk
import Derived.OwnWalk
import Derived.WalkSmall
import Derived.BigQuiet
import Derived.Deep.QuietTactic
import Derived.KernelRfl
namespace Go.Proofs.YtcjlplaepnpopaaDoor
open Go.RowKit
set_option maxRecDepth 100000 in
set_option maxHeartbeats 1000000 in
theorem rtell_any (v : Value) (zs : List Int) (w : World) (hv : Rds .i32 w v zs) (hL : zs.length ≤ 2000000) :
    Calls Tryd.prog 18 #[v] w fun e w' => e = tlA zs ∧ w' = w := by
  obtain ⟨a, c, rfl, hc⟩ := hv
  have HD : Hid (∀ j, j < zs.length → ∃ g off, a = some ⟨g, off, none⟩ ∧ w.cell? ⟨g, off + j, none⟩ = some (.int .i32 (zs.getD j 0))) := fun j hj => by
    obtain ⟨g, off, rfl, hd⟩ := hc (by omega)
    exact ⟨g, off, rfl, hd j hj⟩
  obtain ⟨N, eN⟩ : ∃ N, zs.length = N := ⟨_, rfl⟩
  have HN : Hid (zs.length = N) := eN
  rw [eN] at hL HD ⊢
  clear hc eN
  have e3 : (0 : Int) ≤ (N : Int) := by omega
  go_enter Tryd.func18, Tryd.ntmps18
  go_wp2
  go_loopw [4, 5] (fun o x wr => wr = w ∧ ∃ k : Nat, x = .int .i64 (k : Int) ∧ k ≤ N ∧ o = .string (tl zs k) ∧ Hid (okK zs k = true)) (fun _ x _ => N - (RowKit.intOf x).toNat)
  case atStart => exact ⟨rfl, 0, rfl, Nat.zero_le _, rfl, rfl⟩
  case round =>
    obtain ⟨rfl, k, rfl, hk, ho, hA⟩ := hrel
    have hjs : (tl zs k).size ≤ 16000000 := by have := tl_size zs k hA.out; omega
    by_cases d : k < N
    · have d0 : (k : Int) < (N : Int) := by omega
      have d1 : decide ((k : Int) < (N : Int)) = true := decide_eq_true d0
      have d2 : (0 : Int) ≤ (k : Int) := by omega
      obtain ⟨g, off, rfl, y2⟩ := HD.out k d
      have HNo : Hid (okP (zs.getD k 0) = false → tlA zs = .returned (.tuple #[.string ⟨#[]⟩, .int .i64 90])) := fun h => tlA_no (okK_no h _ (by have := HN.out; omega))
      have HYes : Hid (okP (zs.getD k 0) = true → okK zs (k + 1) = true) := fun h => by rw [okK, hA.out, h]; rfl
      have HJ : Hid (tl zs (k + 1) = (if 0 < k then tl zs k ++ ⟨#[32]⟩ else tl zs k) ++ hxT (zs.getD k 0).toNat) := rfl
      obtain ⟨z, eZ⟩ : ∃ z, zs.getD k 0 = z := ⟨_, rfl⟩
      rw [eZ] at y2 HNo HYes HJ
      obtain ⟨J, eJ⟩ : ∃ J, tl zs k = J := ⟨_, rfl⟩
      rw [eJ] at HJ hjs ho
      subst ho
      clear eZ eJ
      by_cases q1 : z < 0
      · have HR : Hid (tlA zs = .returned (.tuple #[.string ⟨#[]⟩, .int .i64 90])) := HNo.out (by unfold okP; rw [decide_eq_false (by omega)]; rfl)
        have q2 : decide (z < 0) = true := decide_eq_true q1
        clear HNo HYes HJ
        go_wp2
        exact bodyPost_ret (v := .tuple #[.string ⟨#[]⟩, .int .i64 90]) (by simp [results, Tryd.results18, go_sem]) rfl ⟨by rw [HR.out], rfl⟩
      · by_cases q3 : 1114111 < z
        · have HR : Hid (tlA zs = .returned (.tuple #[.string ⟨#[]⟩, .int .i64 90])) := HNo.out (by unfold okP; rw [decide_eq_false (show ¬ z ≤ 1114111 by omega), Bool.and_false])
          have q2 : decide (z < 0) = false := decide_eq_false q1
          have q4 : decide (1114111 < z) = true := decide_eq_true q3
          clear HNo HYes HJ
          go_wp2
          exact bodyPost_ret (v := .tuple #[.string ⟨#[]⟩, .int .i64 90]) (by simp [results, Tryd.results18, go_sem]) rfl ⟨by rw [HR.out], rfl⟩
        · obtain ⟨p, rfl⟩ : ∃ p : Nat, z = (p : Int) := ⟨z.toNat, by omega⟩
          have HR : Hid (okK zs (k + 1) = true) := HYes.out (by unfold okP; rw [decide_eq_true (show (0 : Int) ≤ p by omega), decide_eq_true (show (p : Int) ≤ 1114111 by omega)]; rfl)
          have hpt : ((p : Int)).toNat = p := by omega
          rw [hpt] at HJ
          have q2 : decide ((p : Int) < 0) = false := decide_eq_false (by omega)
          have q4 : decide (1114111 < (p : Int)) = false := decide_eq_false (by omega)
          have k34 := fun w => hex_any p w (by omega)
          have hxs := hxT_size p (by omega)
          obtain ⟨X, eX⟩ : ∃ X, hxT p = X := ⟨_, rfl⟩
          rw [eX] at HJ hxs
          simp only [eX] at k34
          clear HNo HYes hpt eX
          by_cases z0 : 0 < k
          · have z1 : (0 : Int) < (k : Int) := by omega
            have HJ2 : Hid (tl zs (k + 1) = (J ++ ⟨#[32]⟩) ++ X) := by unfold Hid; rw [HJ.out, if_pos z0]
            clear HJ
            go_wp2_with (go_at_call 34; refine (k34 _).mono ?_; rintro e w' ⟨rfl, hw⟩; rw [hw])
            refine ⟨⟨trivial, k + 1, by simp, by omega, by rw [HJ2.out], HR⟩, ?_⟩
            simp [RowKit.intOf] <;> omega
          · obtain rfl : k = 0 := by omega
            rw [Nat.add_zero] at y2
            have HJ2 : Hid (tl zs (0 + 1) = J ++ X) := by unfold Hid; rw [HJ.out, if_neg z0]
            clear HJ
            go_wp2_with (go_at_call 34; refine (k34 _).mono ?_; rintro e w' ⟨rfl, hw⟩; rw [hw])
            refine ⟨⟨trivial, 0 + 1, by simp, by omega, by rw [HJ2.out], HR⟩, ?_⟩
            simp [RowKit.intOf] <;> omega
    · obtain rfl : N = k := by omega
      have d1 : decide ((N : Int) < (N : Int)) = false := by simp
      have HZ : Hid (tlA zs = .returned (.tuple #[.string (tl zs N), .int .i64 0])) := by
        have h := hA.out
        unfold Hid
        rw [tlA_yes (by rw [HN.out]; exact h), HN.out]
      obtain ⟨J, eJ⟩ : ∃ J, tl zs N = J := ⟨_, rfl⟩
      rw [eJ] at HZ ho
      subst ho
      clear d hA eJ
      go_wp2
      exact bodyPost_ret (v := .tuple #[.string J, .int .i64 0]) (by simp [results, Tryd.results18, go_sem]) rfl ⟨by rw [HZ.out], rfl⟩
end Go.Proofs.YtcjlplaepnpopaaDoor

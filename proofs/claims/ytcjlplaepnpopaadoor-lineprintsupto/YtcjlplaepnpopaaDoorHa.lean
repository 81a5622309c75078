/-
  The document's has: whether a text has one of some bytes.
-/
import Derived.Test.YtcjlplaepnpopaaDoorPt
import Derived.Test.YtcjlplaepnpopaaDoorRp
import Derived.LoopN
import Derived.OwnWalk
import Derived.WalkSmall
import Derived.BigQuiet
import Derived.Deep.QuietTactic
namespace Go.Proofs.YtcjlplaepnpopaaDoor
open Go.RowKit
/-- Whether one of the first k bytes of a text is this one; whether one of the first i bytes of a text is among those of another. -/
def hasK (o : ByteArray) (c : Nat) : Nat → Bool
  | 0 => false
  | k + 1 => hasK o c k || byt o k == c
def hasI (s o : ByteArray) : Nat → Bool
  | 0 => false
  | i + 1 => hasI s o i || hasK o (byt s i) o.size
def hasB (s o : ByteArray) : Bool := hasI s o s.size
theorem hasK_yes {o : ByteArray} {c : Nat} : ∀ {n k : Nat}, k < n → byt o k = c → hasK o c n = true
  | 0, _, h, _ => by omega
  | n + 1, k, h, e => by
    rw [hasK]
    by_cases q : k = n
    · subst q; simp [e]
    · rw [hasK_yes (show k < n by omega) e]; rfl
theorem hasI_yes {s o : ByteArray} : ∀ {n i : Nat}, i < n → hasK o (byt s i) o.size = true → hasI s o n = true
  | 0, _, h, _ => by omega
  | n + 1, i, h, e => by
    rw [hasI]
    by_cases q : i = n
    · subst q; simp [e]
    · rw [hasI_yes (show i < n by omega) e]; rfl
theorem drew_ex {w W : World} (h : ∃ m, W = w.drewN m) (n : Nat) : ∃ m, W.drewN n = w.drewN m := by
  obtain ⟨m, rfl⟩ := h
  exact ⟨m + n, World.drewN_drewN _ _ _⟩
set_option maxRecDepth 100000 in
set_option maxHeartbeats 1000000 in
theorem has_any (s o : ByteArray) (w : World) (hs : s.size ≤ 140737488351232) (ho : o.size ≤ 140737488351232) : Calls Tryd.prog 28 #[.string s, .string o] w fun e w' => e = .returned (.bool (hasB s o)) ∧ ∃ m, w' = w.drewN m := by
  go_enter Tryd.func28, Tryd.ntmps28
  go_wp2
  go_loopw [5] (fun x wr => Hid (∃ m, wr = w.drewN m) ∧ ∃ i : Nat, x = .int .i64 (i : Int) ∧ i ≤ s.size ∧ Hid (hasI s o i = false)) (fun x _ => s.size - (RowKit.intOf x).toNat)
  case atStart => exact ⟨⟨0, rfl⟩, 0, rfl, Nat.zero_le _, rfl⟩
  case round =>
    obtain ⟨HB0, i, rfl, hi, hI⟩ := hrel
    obtain ⟨wo, hwo⟩ : ∃ wo, wr = wo := ⟨_, rfl⟩
    rw [hwo] at HB0 ⊢
    clear hwo
    by_cases c : i < s.size
    · have c0 : (i : Int) < (s.size : Int) := by omega
      have c1 : decide ((i : Int) < (s.size : Int)) = true := decide_eq_true c0
      have q0 : (s[i]'c).toNat = byt s i := byt_eq s i c
      have HY : Hid (∀ k, k < o.size → byt o k = byt s i → hasB s o = true) := fun k hk e => hasI_yes c (hasK_yes hk e)
      have HN : Hid (hasK o (byt s i) o.size = false → hasI s o (i + 1) = false) := fun e => by rw [hasI, hI.out, e]; rfl
      obtain ⟨Y, eY⟩ : ∃ Y, byt s i = Y := ⟨_, rfl⟩
      rw [eY] at q0 HY HN
      clear hI eY
      go_wp2
      go_loopw [6] (fun x wr' => Hid (∃ m, wr' = w.drewN m) ∧ ∃ k : Nat, x = .int .i64 (k : Int) ∧ k ≤ o.size ∧ Hid (hasK o Y k = false)) (fun x _ => o.size - (RowKit.intOf x).toNat)
      case atStart => exact ⟨HB0, 0, rfl, Nat.zero_le _, rfl⟩
      case round =>
        obtain ⟨HB1, k, rfl, hk, hK⟩ := hrel
        obtain ⟨wi, hwi⟩ : ∃ wi, wr = wi := ⟨_, rfl⟩
        rw [hwi] at HB1 ⊢
        clear hwi
        by_cases d : k < o.size
        · have d0 : (k : Int) < (o.size : Int) := by omega
          have d1 : decide ((k : Int) < (o.size : Int)) = true := decide_eq_true d0
          have q1 : (o[k]'d).toNat = byt o k := byt_eq o k d
          have HZ : Hid (hasK o Y (k + 1) = (byt o k == Y)) := by unfold Hid; rw [hasK, hK.out, Bool.false_or]
          have HX : Hid (byt o k = Y → hasB s o = true) := HY.out k d
          obtain ⟨Z, eZ⟩ : ∃ Z, byt o k = Z := ⟨_, rfl⟩
          rw [eZ] at q1 HZ HX
          clear hK eZ
          by_cases e : Z = Y
          · have e1 : ((Y : Int) == (Z : Int)) = true := by rw [e]; simp
            have HR : Hid (hasB s o = true) := HX.out e
            clear HX HZ e
            go_wp2
            go_quiet (fail)
            go_wp2
            exact bodyPost_ret (v := .bool true) (by simp [results, Tryd.results28, go_sem]) rfl ⟨by rw [HR.out], drew_ex HB1.out _⟩
          · have e1 : ((Y : Int) == (Z : Int)) = false := beq_false_of_ne (by omega)
            have HR : Hid (hasK o Y (k + 1) = false) := by unfold Hid; rw [HZ.out]; exact beq_false_of_ne e
            clear HX HZ
            go_wp2
            go_quiet (fail)
            go_wp2
            refine ⟨⟨drew_ex HB1.out _, k + 1, by simp, by omega, HR⟩, ?_⟩
            simp [RowKit.intOf]; omega
        · obtain rfl : k = o.size := by omega
          have d1 : decide ((o.size : Int) < (o.size : Int)) = false := by simp
          have HR : Hid (hasI s o (i + 1) = false) := HN.out hK.out
          go_wp2
          refine ⟨⟨HB1, i + 1, by simp, by omega, HR⟩, ?_⟩
          simp [RowKit.intOf]; omega
    · obtain rfl : i = s.size := by omega
      have c1 : decide ((s.size : Int) < (s.size : Int)) = false := by simp
      have HR : Hid (hasB s o = false) := hI
      go_wp2
      exact bodyPost_ret (v := .bool false) (by simp [results, Tryd.results28, go_sem]) rfl ⟨by rw [HR.out], HB0.out⟩
end Go.Proofs.YtcjlplaepnpopaaDoor

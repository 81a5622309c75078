/-
  The walk of the law ScalarCompares: it returns true and turns nothing that was there. Conditions: the three texts have at most about a million bytes each; the library's two tables hold what their text lays.
-/
import Derived.Test.YtabofadjnbpjkacDoorVg
import Derived.Test.YtabofadjnbpjkacDoorFu
import Derived.Test.YtabofadjnbpjkacDoorVal
namespace Go.Proofs.YtabofadjnbpjkacDoor
open Go.RowKit Go.Lib
theorem un1_fu (r : Int) (l : List Int) (hv : Lib.validRune r = true) : fu (un1 r ++ l) = r :: fu l := by
  have hr : (0 ≤ r ∧ r < 55296) ∨ (57343 < r ∧ r ≤ 1114111) := by simpa [Lib.validRune] using hv
  unfold un1
  split
  · exact fu_plain _ _ (by omega)
  · show fu ((55296 + (r - 65536) / 1024) :: (56320 + (r - 65536) % 1024) :: l) = _
    rw [fu_pair _ _ _ (by omega) (by omega) (by omega) (by omega)]
    congr 1
    omega
theorem fu_uns : ∀ zs : List Int, (∀ r ∈ zs, Lib.validRune r = true) → fu (uns zs) = zs
  | [], _ => rfl
  | z :: l, h => by
    have e : uns (z :: l) = un1 z ++ uns l := rfl
    rw [e, un1_fu z _ (h z (by simp)), fu_uns l (fun r hr => h r (by simp [hr]))]
theorem unT_nums (a b : ByteArray) : unT a = unT b ↔ nums a = nums b := by
  constructor
  · intro h
    have h2 := congrArg fu h
    unfold unT at h2
    rw [fu_uns _ (nums_valid a), fu_uns _ (nums_valid b)] at h2
    exact h2
  · intro h; unfold unT; rw [h]
theorem clean_nums (a b : ByteArray) : runesBytes (nums a) = runesBytes (nums b) ↔ nums a = nums b := by
  constructor
  · intro h
    have h2 := congrArg nums h
    rw [(clean_twice a).1, (clean_twice b).1] at h2
    exact h2
  · intro h; rw [h]
theorem cmp_clean (a b : ByteArray) : cmpL (unT a) (unT b) = 0 ↔ runesBytes (nums a) = runesBytes (nums b) := by
  rw [cmpL_zero, unT_nums, clean_nums]
theorem list_inj (a b : ByteArray) (h : a ≠ b) : ¬ a.toList = b.toList := by
  rw [ByteArray.toList_eq, ByteArray.toList_eq]
  intro e
  apply h
  cases a; cases b
  congr 1
  exact Array.toList_inj.1 e
theorem list_beq (a b : ByteArray) (h : a ≠ b) : (a.toList == b.toList) = false := beq_false_of_ne (list_inj a b h)
set_option maxRecDepth 100000 in
set_option maxHeartbeats 4000000 in
theorem lawC (a b c : ByteArray) (w : World) (ha : a.size ≤ 1048576) (hb : b.size ≤ 1048576) (hc : c.size ≤ 1048576) (hT : Utf8Tabs 0 1 w) (hg : 2 ≤ w.heap.size) :
    Calls Tryd.prog 3 #[.string a, .string b, .string c] w fun e w' => e = .returned (.bool true) ∧ Below w.heap.size w w' := by
  have TB : Hid (∀ W, Below w.heap.size w W → Utf8Tabs 0 1 W) := fun W hb => tabs_below hT (by omega) hb
  have GB : Hid (∀ W, Below w.heap.size w W → 2 ≤ W.heap.size) := fun W hb => Nat.le_trans hg hb.size
  have KA := awake_any w hT hg
  have KE := fun W hW => esc_any a W ha (TB.out W hW) (GB.out W hW)
  have KR := fun W => resc_any a W ha
  have K1 := fun W hW => cmp_any a b W (by omega) (by omega) (TB.out W hW) (GB.out W hW)
  have K2 := fun W hW => cmp_any b c W (by omega) (by omega) (TB.out W hW) (GB.out W hW)
  have K3 := fun W hW => cmp_any a c W (by omega) (by omega) (TB.out W hW) (GB.out W hW)
  have K4 := fun W => rcmp_any a b W (by omega) (by omega)
  have K5 := fun W hW => cmp_any b a W (by omega) (by omega) (TB.out W hW) (GB.out W hW)
  have K6 := fun W hW => clean_any a W (by omega) (TB.out W hW) (GB.out W hW)
  have K7 := fun W hW => clean_any b W (by omega) (TB.out W hW) (GB.out W hW)
  rw [cmpL_neg (unT a) (unT b)] at K5
  have hrx := cmpL_range (unT a) (unT b)
  have hry := cmpL_range (unT b) (unT c)
  have htr := cmpL_trans (unT a) (unT b) (unT c)
  have hcl := cmp_clean a b
  obtain ⟨S, hS⟩ : ∃ S, strOfNums (escL (nums a)) = S := ⟨_, rfl⟩
  obtain ⟨x, hx⟩ : ∃ x, cmpL (unT a) (unT b) = x := ⟨_, rfl⟩
  obtain ⟨y, hy⟩ : ∃ y, cmpL (unT b) (unT c) = y := ⟨_, rfl⟩
  obtain ⟨z, hz⟩ : ∃ z, cmpL (unT a) (unT c) = z := ⟨_, rfl⟩
  obtain ⟨X, hX⟩ : ∃ X, runesBytes (nums a) = X := ⟨_, rfl⟩
  obtain ⟨Y, hY⟩ : ∃ Y, runesBytes (nums b) = Y := ⟨_, rfl⟩
  simp only [hS] at KE KR
  simp only [hx] at K1 K4 K5 hrx htr hcl
  simp only [hy] at K2 hry htr
  simp only [hz] at K3 htr
  simp only [hX] at K6 hcl
  simp only [hY] at K7 hcl
  have HTR : Hid (x = y → z = x) := htr
  have HCL : Hid (x = 0 ↔ X = Y) := hcl
  have x1 : -1 ≤ x := by omega
  have x2 : x ≤ 1 := by omega
  clear hS hx hy hz hX hY hrx hry htr hcl hT
  have FIN : ∀ (q : Bool), True := fun _ => trivial
  clear FIN
  by_cases h0 : x = 0
  · have hXY := HCL.out.1 h0
    subst hXY
    subst h0
    by_cases h1 : 0 = y
    · have hzz := HTR.out h1
      subst hzz
      subst h1
      go_enter Tryd.func3, Tryd.ntmps3
      go_wp2_with (go_at_call 5; refine KA.mono ?_)
      first | rintro e w1 rfl b1 | rintro e w1 ⟨rfl, b1⟩
      have B1 : Hid (Below w.heap.size w w1) := b1
      clear b1
      go_wp2_with (go_at_call 6; refine (KE _ B1.out).mono ?_)
      first | rintro e w2 rfl b2 | rintro e w2 ⟨rfl, b2⟩
      have B2 : Hid (Below w.heap.size w w2) := B1.out.trans (b2.mono B1.out.size)
      clear b2
      go_wp2_with (go_at_call 7; refine (KR _).mono ?_)
      first | rintro e w3 rfl b3 | rintro e w3 ⟨rfl, b3⟩
      have B3 : Hid (Below w.heap.size w w3) := B2.out.trans (b3.mono B2.out.size)
      clear b3
      go_wp2_with (go_at_call_of 8 (Value.string a); refine (K1 _ B3.out).mono ?_)
      first | rintro e w4 rfl b4 | rintro e w4 ⟨rfl, b4⟩
      have B4 : Hid (Below w.heap.size w w4) := B3.out.trans (b4.mono B3.out.size)
      clear b4
      go_wp2_with (go_at_call_of 8 (Value.string b); refine (K2 _ B4.out).mono ?_)
      first | rintro e w5 rfl b5 | rintro e w5 ⟨rfl, b5⟩
      have B5 : Hid (Below w.heap.size w w5) := B4.out.trans (b5.mono B4.out.size)
      clear b5
      go_wp2_with (go_at_call_of 8 (Value.string a); refine (K3 _ B5.out).mono ?_)
      first | rintro e w6 rfl b6 | rintro e w6 ⟨rfl, b6⟩
      have B6 : Hid (Below w.heap.size w w6) := B5.out.trans (b6.mono B5.out.size)
      clear b6
      go_wp2_with (go_at_call 9; refine (K4 _).mono ?_)
      first | rintro e w7 rfl b7 | rintro e w7 ⟨rfl, b7⟩
      have B7 : Hid (Below w.heap.size w w7) := B6.out.trans (b7.mono B6.out.size)
      clear b7
      go_wp2_with (go_at_call_of 8 (Value.string b); refine (K5 _ B7.out).mono ?_)
      first | rintro e w8 rfl b8 | rintro e w8 ⟨rfl, b8⟩
      have B8 : Hid (Below w.heap.size w w8) := B7.out.trans (b8.mono B7.out.size)
      clear b8
      go_wp2_with (go_at_call_of 10 (Value.string a); refine (K6 _ B8.out).mono ?_)
      first | rintro e w9 rfl b9 | rintro e w9 ⟨rfl, b9⟩
      have B9 : Hid (Below w.heap.size w w9) := B8.out.trans (b9.mono B8.out.size)
      clear b9
      go_wp2_with (go_at_call_of 10 (Value.string b); refine (K7 _ B9.out).mono ?_)
      first | rintro e w10 rfl b10 | rintro e w10 ⟨rfl, b10⟩
      have B10 : Hid (Below w.heap.size w w10) := B9.out.trans (b10.mono B9.out.size)
      clear b10
      go_wp2
      go_ret
      exact ⟨rfl, B10.out⟩
    · have h1b : ((0 : Int) == y) = false := beq_false_of_ne h1
      go_enter Tryd.func3, Tryd.ntmps3
      go_wp2_with (go_at_call 5; refine KA.mono ?_)
      first | rintro e w1 rfl b1 | rintro e w1 ⟨rfl, b1⟩
      have B1 : Hid (Below w.heap.size w w1) := b1
      clear b1
      go_wp2_with (go_at_call 6; refine (KE _ B1.out).mono ?_)
      first | rintro e w2 rfl b2 | rintro e w2 ⟨rfl, b2⟩
      have B2 : Hid (Below w.heap.size w w2) := B1.out.trans (b2.mono B1.out.size)
      clear b2
      go_wp2_with (go_at_call 7; refine (KR _).mono ?_)
      first | rintro e w3 rfl b3 | rintro e w3 ⟨rfl, b3⟩
      have B3 : Hid (Below w.heap.size w w3) := B2.out.trans (b3.mono B2.out.size)
      clear b3
      go_wp2_with (go_at_call_of 8 (Value.string a); refine (K1 _ B3.out).mono ?_)
      first | rintro e w4 rfl b4 | rintro e w4 ⟨rfl, b4⟩
      have B4 : Hid (Below w.heap.size w w4) := B3.out.trans (b4.mono B3.out.size)
      clear b4
      go_wp2_with (go_at_call_of 8 (Value.string b); refine (K2 _ B4.out).mono ?_)
      first | rintro e w5 rfl b5 | rintro e w5 ⟨rfl, b5⟩
      have B5 : Hid (Below w.heap.size w w5) := B4.out.trans (b5.mono B4.out.size)
      clear b5
      go_wp2_with (go_at_call_of 8 (Value.string a); refine (K3 _ B5.out).mono ?_)
      first | rintro e w6 rfl b6 | rintro e w6 ⟨rfl, b6⟩
      have B6 : Hid (Below w.heap.size w w6) := B5.out.trans (b6.mono B5.out.size)
      clear b6
      go_wp2_with (go_at_call 9; refine (K4 _).mono ?_)
      first | rintro e w7 rfl b7 | rintro e w7 ⟨rfl, b7⟩
      have B7 : Hid (Below w.heap.size w w7) := B6.out.trans (b7.mono B6.out.size)
      clear b7
      go_wp2_with (go_at_call_of 8 (Value.string b); refine (K5 _ B7.out).mono ?_)
      first | rintro e w8 rfl b8 | rintro e w8 ⟨rfl, b8⟩
      have B8 : Hid (Below w.heap.size w w8) := B7.out.trans (b8.mono B7.out.size)
      clear b8
      go_wp2_with (go_at_call_of 10 (Value.string a); refine (K6 _ B8.out).mono ?_)
      first | rintro e w9 rfl b9 | rintro e w9 ⟨rfl, b9⟩
      have B9 : Hid (Below w.heap.size w w9) := B8.out.trans (b9.mono B8.out.size)
      clear b9
      go_wp2_with (go_at_call_of 10 (Value.string b); refine (K7 _ B9.out).mono ?_)
      first | rintro e w10 rfl b10 | rintro e w10 ⟨rfl, b10⟩
      have B10 : Hid (Below w.heap.size w w10) := B9.out.trans (b10.mono B9.out.size)
      clear b10
      go_wp2
      go_ret
      exact ⟨rfl, B10.out⟩
  · have hXY : X ≠ Y := fun e => h0 (HCL.out.2 e)
    have l1 := list_inj X Y hXY
    have l2 := list_beq X Y hXY
    have h0b : (x == 0) = false := beq_false_of_ne h0
    by_cases h1 : x = y
    · have hzz := HTR.out h1
      subst hzz
      subst h1
      go_enter Tryd.func3, Tryd.ntmps3
      go_wp2_with (go_at_call 5; refine KA.mono ?_)
      first | rintro e w1 rfl b1 | rintro e w1 ⟨rfl, b1⟩
      have B1 : Hid (Below w.heap.size w w1) := b1
      clear b1
      go_wp2_with (go_at_call 6; refine (KE _ B1.out).mono ?_)
      first | rintro e w2 rfl b2 | rintro e w2 ⟨rfl, b2⟩
      have B2 : Hid (Below w.heap.size w w2) := B1.out.trans (b2.mono B1.out.size)
      clear b2
      go_wp2_with (go_at_call 7; refine (KR _).mono ?_)
      first | rintro e w3 rfl b3 | rintro e w3 ⟨rfl, b3⟩
      have B3 : Hid (Below w.heap.size w w3) := B2.out.trans (b3.mono B2.out.size)
      clear b3
      go_wp2_with (go_at_call_of 8 (Value.string a); refine (K1 _ B3.out).mono ?_)
      first | rintro e w4 rfl b4 | rintro e w4 ⟨rfl, b4⟩
      have B4 : Hid (Below w.heap.size w w4) := B3.out.trans (b4.mono B3.out.size)
      clear b4
      go_wp2_with (go_at_call_of 8 (Value.string b); refine (K2 _ B4.out).mono ?_)
      first | rintro e w5 rfl b5 | rintro e w5 ⟨rfl, b5⟩
      have B5 : Hid (Below w.heap.size w w5) := B4.out.trans (b5.mono B4.out.size)
      clear b5
      go_wp2_with (go_at_call_of 8 (Value.string a); refine (K3 _ B5.out).mono ?_)
      first | rintro e w6 rfl b6 | rintro e w6 ⟨rfl, b6⟩
      have B6 : Hid (Below w.heap.size w w6) := B5.out.trans (b6.mono B5.out.size)
      clear b6
      go_wp2_with (go_at_call 9; refine (K4 _).mono ?_)
      first | rintro e w7 rfl b7 | rintro e w7 ⟨rfl, b7⟩
      have B7 : Hid (Below w.heap.size w w7) := B6.out.trans (b7.mono B6.out.size)
      clear b7
      go_wp2_with (go_at_call_of 8 (Value.string b); refine (K5 _ B7.out).mono ?_)
      first | rintro e w8 rfl b8 | rintro e w8 ⟨rfl, b8⟩
      have B8 : Hid (Below w.heap.size w w8) := B7.out.trans (b8.mono B7.out.size)
      clear b8
      go_wp2_with (go_at_call_of 10 (Value.string a); refine (K6 _ B8.out).mono ?_)
      first | rintro e w9 rfl b9 | rintro e w9 ⟨rfl, b9⟩
      have B9 : Hid (Below w.heap.size w w9) := B8.out.trans (b9.mono B8.out.size)
      clear b9
      go_wp2_with (go_at_call_of 10 (Value.string b); refine (K7 _ B9.out).mono ?_)
      first | rintro e w10 rfl b10 | rintro e w10 ⟨rfl, b10⟩
      have B10 : Hid (Below w.heap.size w w10) := B9.out.trans (b10.mono B9.out.size)
      clear b10
      go_wp2
      go_ret
      exact ⟨rfl, B10.out⟩
    · have h1b : (x == y) = false := beq_false_of_ne h1
      go_enter Tryd.func3, Tryd.ntmps3
      go_wp2_with (go_at_call 5; refine KA.mono ?_)
      first | rintro e w1 rfl b1 | rintro e w1 ⟨rfl, b1⟩
      have B1 : Hid (Below w.heap.size w w1) := b1
      clear b1
      go_wp2_with (go_at_call 6; refine (KE _ B1.out).mono ?_)
      first | rintro e w2 rfl b2 | rintro e w2 ⟨rfl, b2⟩
      have B2 : Hid (Below w.heap.size w w2) := B1.out.trans (b2.mono B1.out.size)
      clear b2
      go_wp2_with (go_at_call 7; refine (KR _).mono ?_)
      first | rintro e w3 rfl b3 | rintro e w3 ⟨rfl, b3⟩
      have B3 : Hid (Below w.heap.size w w3) := B2.out.trans (b3.mono B2.out.size)
      clear b3
      go_wp2_with (go_at_call_of 8 (Value.string a); refine (K1 _ B3.out).mono ?_)
      first | rintro e w4 rfl b4 | rintro e w4 ⟨rfl, b4⟩
      have B4 : Hid (Below w.heap.size w w4) := B3.out.trans (b4.mono B3.out.size)
      clear b4
      go_wp2_with (go_at_call_of 8 (Value.string b); refine (K2 _ B4.out).mono ?_)
      first | rintro e w5 rfl b5 | rintro e w5 ⟨rfl, b5⟩
      have B5 : Hid (Below w.heap.size w w5) := B4.out.trans (b5.mono B4.out.size)
      clear b5
      go_wp2_with (go_at_call_of 8 (Value.string a); refine (K3 _ B5.out).mono ?_)
      first | rintro e w6 rfl b6 | rintro e w6 ⟨rfl, b6⟩
      have B6 : Hid (Below w.heap.size w w6) := B5.out.trans (b6.mono B5.out.size)
      clear b6
      go_wp2_with (go_at_call 9; refine (K4 _).mono ?_)
      first | rintro e w7 rfl b7 | rintro e w7 ⟨rfl, b7⟩
      have B7 : Hid (Below w.heap.size w w7) := B6.out.trans (b7.mono B6.out.size)
      clear b7
      go_wp2_with (go_at_call_of 8 (Value.string b); refine (K5 _ B7.out).mono ?_)
      first | rintro e w8 rfl b8 | rintro e w8 ⟨rfl, b8⟩
      have B8 : Hid (Below w.heap.size w w8) := B7.out.trans (b8.mono B7.out.size)
      clear b8
      go_wp2_with (go_at_call_of 10 (Value.string a); refine (K6 _ B8.out).mono ?_)
      first | rintro e w9 rfl b9 | rintro e w9 ⟨rfl, b9⟩
      have B9 : Hid (Below w.heap.size w w9) := B8.out.trans (b9.mono B8.out.size)
      clear b9
      go_wp2_with (go_at_call_of 10 (Value.string b); refine (K7 _ B9.out).mono ?_)
      first | rintro e w10 rfl b10 | rintro e w10 ⟨rfl, b10⟩
      have B10 : Hid (Below w.heap.size w w10) := B9.out.trans (b10.mono B9.out.size)
      clear b10
      go_wp2
      go_ret
      exact ⟨rfl, B10.out⟩
end Go.Proofs.YtabofadjnbpjkacDoor

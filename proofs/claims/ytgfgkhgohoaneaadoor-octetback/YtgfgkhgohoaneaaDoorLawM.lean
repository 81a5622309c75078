/-
  The walk of the law OctetNumbers: it returns true and turns nothing that was there. Conditions: the text is no longer than one that comes in can be; the numbers have 64 bits; the library's tables hold what their texts lay.
-/
import Derived.Test.YtgfgkhgohoaneaaDoorFu
import Derived.Test.YtgfgkhgohoaneaaDoorNc
import Derived.Test.YtgfgkhgohoaneaaDoorHex
namespace Go.Proofs.YtgfgkhgohoaneaaDoor
open Go.RowKit
theorem awake_any (w : World) : Calls Tryd.prog 9 #[] w fun e w' => e = .returned (.bool true) ∧ w' = w := by
  go_enter Tryd.func9, Tryd.ntmps9
  go_wp2
  go_ret
  exact ⟨rfl, rfl⟩
theorem prA_form (n : Nat) (B : Int) : ∃ R c, prA n B = .tuple #[.string R, .int .i64 c] := by
  unfold prA; split
  · exact ⟨_, _, rfl⟩
  · exact ⟨_, _, rfl⟩
set_option maxRecDepth 100000 in
set_option maxHeartbeats 4000000 in
theorem lawM (s : ByteArray) (B : Int) (n : Nat) (w : World) (hs : s.size ≤ 9223372036854775807) (hn : n ≤ 18446744073709551615) (htab : Lib.TabIs Tryd.prog w "internal/strconv.uint64pow10" .u64 Lib.pow10Tab) (hT : Tz w) (hg : 2 < w.heap.size) :
    Calls Tryd.prog 3 #[.string s, .int .i64 B, .int .u64 n] w fun e w' => e = .returned (.bool true) ∧ Below w.heap.size w w' := by
  have k5 := number_any s B w hs
  have k6 := rnumber_any s B w hs
  have k7 := print_all n B w hn htab hT hg
  have k8 := fun w => rprint_all n B w hn
  obtain ⟨R, c, hR⟩ := prA_form n B
  rw [hR] at k7
  rw [hR] at k8
  have hx : n % 256 < 256 := Nat.mod_lt _ (by omega)
  obtain ⟨x, hxx⟩ : ∃ x, n % 256 = x := ⟨_, rfl⟩
  rw [hxx] at hx
  have hx1 : (n : Int).tmod 256 = (x : Int) := by rw [Int.tmod_eq_emod_of_nonneg (by omega)]; omega
  have hx2 : (n : Int) % 256 = (x : Int) := by omega
  have hx3 : IntKind.u8.wrap (x : Int) = (x : Int) := IntWalk.u8_in _ (by omega)
  have k10 := fun w => digit_any x B w hx
  have k11 := fun w => rdigit_any x B w hx
  have k12 := fun w => hex_any x w hx
  have k13 := fun w => rhex_any x w hx
  have k9 := fun w => awake_any w
  obtain ⟨D, hD⟩ : ∃ D, digA x B = D := ⟨_, rfl⟩
  rw [hD] at k10 k11
  obtain ⟨H, hH⟩ : ∃ H, hexB x = H := ⟨_, rfl⟩
  rw [hH] at k12 k13
  clear htab hT hR hxx hD hH
  go_enter Tryd.func3, Tryd.ntmps3
  go_wp2_with (go_at_call 5; refine k5.mono ?_)
  rintro e w1 ⟨n1, i1, e1, rfl, h1, rfl⟩
  go_wp2_with (go_at_call 6; refine k6.mono ?_)
  rintro e w1 ⟨n2, i2, e2, rfl, h2, rfl⟩
  obtain ⟨rfl, rfl, rfl⟩ := h1.one h2
  clear h1 h2 k5 k6
  go_wp2_with (go_at_call 7; refine k7.mono ?_)
  rintro e w2 ⟨rfl, b2⟩
  have B2 : Hid (Below w1.heap.size w1 w2) := b2
  clear b2 k7
  go_wp2_with (first | (go_at_call 8; refine (k8 _).mono ?_; rintro e w' ⟨rfl, rfl⟩) | (go_at_call 9; refine (k9 _).mono ?_; rintro e w' ⟨rfl, rfl⟩) | (go_at_call 10; refine (k10 _).mono ?_; rintro e w' ⟨rfl, rfl⟩) | (go_at_call 11; refine (k11 _).mono ?_; rintro e w' ⟨rfl, rfl⟩))
  refine (k12 _).mono ?_
  rintro e w3 ⟨rfl, b3⟩
  have B3 : Hid (Below w1.heap.size w1 w3) := B2.out.trans (b3.mono B2.out.size)
  clear b3 B2
  go_wp2_with (go_at_call 13; refine (k13 _).mono ?_)
  rintro e w4 ⟨rfl, b4⟩
  have B4 : Hid (Below w1.heap.size w1 w4) := B3.out.trans (b4.mono B3.out.size)
  clear b4 B3
  go_wp2
  go_ret
  exact ⟨rfl, B4.out⟩
end Go.Proofs.YtgfgkhgohoaneaaDoor

/-
  The walk of the law PercentForms: it returns true and turns nothing that was there. Condition: the text is no longer than 2^44 bytes.
-/
import Derived.Test.YtoliiccmfmgmlaaDoorRg
namespace Go.Proofs.YtoliiccmfmgmlaaDoor
open Go.RowKit
set_option maxRecDepth 100000 in
set_option maxHeartbeats 4000000 in
theorem lawF (s : ByteArray) (w : World) (hs : s.size ≤ 17592186044416) : Calls Tryd.prog 3 #[.string s] w fun e w' => e = .returned (.bool true) ∧ Below w.heap.size w w' := by
  have k0 := fun w => awake_any w
  have k6 := fun w => form_any s w (by omega)
  have k7 := fun w => rform_any s w (by omega)
  rw [form_same s s.size] at k7
  have k8 := fun w => formDecode_any s w (by omega)
  have k9 := fun w => rformDecode_any s w hs
  have he : encT fS s s.size = encB fS s := rfl
  rw [he] at k7
  obtain ⟨F, hF⟩ : ∃ F, sw 32 43 (encB fS s) = F := ⟨_, rfl⟩
  rw [hF] at k6 k7
  obtain ⟨D, hD⟩ : ∃ D, decB (sw 43 32 s) = D := ⟨_, rfl⟩
  rw [hD] at k8 k9
  clear hF hD he
  go_enter Tryd.func3, Tryd.ntmps3
  go_wp2_with (go_at_call 5; refine (k0 _).mono ?_)
  first | rintro e w1 ⟨rfl, b1⟩ | rintro e w1 rfl b1
  have B1 : Hid (Below w.heap.size w w1) := b1
  clear b1
  go_wp2_with (go_at_call 6; refine (k6 _).mono ?_)
  first | rintro e w2 ⟨rfl, b2⟩ | rintro e w2 rfl b2
  have B2 : Hid (Below w.heap.size w w2) := B1.out.trans (b2.mono B1.out.size)
  clear b2 B1
  go_wp2_with (go_at_call 7; refine (k7 _).mono ?_)
  first | rintro e w3 ⟨rfl, b3⟩ | rintro e w3 rfl b3
  have B3 : Hid (Below w.heap.size w w3) := B2.out.trans (b3.mono B2.out.size)
  clear b3 B2
  go_wp2_with (go_at_call 8; refine (k8 _).mono ?_)
  first | rintro e w4 ⟨rfl, b4⟩ | rintro e w4 rfl b4
  have B4 : Hid (Below w.heap.size w w4) := B3.out.trans (b4.mono B3.out.size)
  clear b4 B3
  go_wp2_with (go_at_call 9; refine (k9 _).mono ?_)
  first | rintro e w5 ⟨rfl, b5⟩ | rintro e w5 rfl b5
  have B5 : Hid (Below w.heap.size w w5) := B4.out.trans (b5.mono B4.out.size)
  clear b5 B4
  go_wp2
  go_ret
  exact ⟨rfl, B5.out⟩
end Go.Proofs.YtoliiccmfmgmlaaDoor

/-
  The walk of the law ScalarUnitFeeds: it returns true and turns nothing that was there. Conditions: each list of lists has together at most about a million units; the library's two tables hold what their text lays.
-/
import Derived.Test.YtabofadjnbpjkacDoorUh
import Derived.Test.YtabofadjnbpjkacDoorVal
namespace Go.Proofs.YtabofadjnbpjkacDoor
open Go.RowKit Go.Lib
set_option maxRecDepth 100000 in
set_option maxHeartbeats 4000000 in
theorem lawG (one two : List (List Int)) (v1 v2 : Value) (w : World) (h1 : URows w v1 one) (h2 : URows w v2 two) (u1 : ∀ z ∈ one.flatten, 0 ≤ z ∧ z < 65536) (u2 : ∀ z ∈ two.flatten, 0 ≤ z ∧ z < 65536) (n1 : one.length ≤ 1048576) (n2 : two.length ≤ 1048576) (t1 : one.flatten.length ≤ 1048576) (t2 : two.flatten.length ≤ 1048576) (hT : Utf8Tabs 0 1 w) (hg : 2 ≤ w.heap.size) :
    Calls Tryd.prog 4 #[v1, v2] w fun e w' => e = .returned (.bool true) ∧ Below w.heap.size w w' := by
  have H1 : Hid (URows w v1 one) := h1
  have H2 : Hid (URows w v2 two) := h2
  have U1 : Hid (∀ z ∈ one.flatten, 0 ≤ z ∧ z < 65536) := u1
  have U2 : Hid (∀ z ∈ two.flatten, 0 ≤ z ∧ z < 65536) := u2
  have TB : Hid (∀ W, Below w.heap.size w W → Utf8Tabs 0 1 W) := fun W hb => tabs_below hT (by omega) hb
  have B0 : Hid (Below w.heap.size w (w.alloc (.cells #[.int .u16 0] 67))) := (Below.refl _ w).alloc (Nat.le_refl _) _
  have KA := awake_any (w.alloc (.cells #[.int .u16 0] 67)) (TB.out _ B0.out) (by simp; omega)
  have d0 : Hid (Boxed (w.alloc (.cells #[.int .u16 0] 67)) w.heap.size 67 (.int .u16 0)) := Boxed.new _ _ _
  clear h1 h2 u1 u2 hT
  go_enter Tryd.func4, Tryd.ntmps4
  go_wp2_with (first | (go_at_call 11; refine (newUnit_any _).mono ?_; rintro e w' ⟨rfl, rfl⟩) | (go_at_call 5; refine KA.mono ?_))
  first | rintro e w1 rfl b1 | rintro e w1 ⟨rfl, b1⟩
  have B1 : Hid (Below w.heap.size w w1) := B0.out.trans (b1.mono (by simp))
  have d1 := boxed_below d0.out b1
  have k1 := fed_any one v1 w.heap.size w w1 H1.out U1.out t1 n1 B1.out (Nat.le_refl _) d1
  clear b1 d1 B0 d0 KA
  go_wp2_with (go_at_call 12; refine k1.mono ?_)
  first | rintro e w2 rfl d2 B2 | rintro e w2 ⟨rfl, d2, B2⟩
  have k2 := fed_any two v2 w.heap.size w w2 H2.out U2.out t2 n2 B2 (Nat.le_refl _) d2
  clear k1 d2 B2
  go_wp2_with (go_at_call 12; refine k2.mono ?_)
  first | rintro e w3 rfl d3 B3 | rintro e w3 ⟨rfl, d3, B3⟩
  have HB : Hid (Below w.heap.size w w3) := B3
  clear k2 d3 B3
  go_wp2_with (first | (go_at_call 13; refine (held_nil _).mono ?_; rintro e w' ⟨rfl, rfl⟩) | (go_at_call 14; refine (feed_nil _ _).mono ?_; rintro e w' ⟨rfl, rfl⟩) | (go_at_call 15; refine (end_nil _).mono ?_; rintro e w' ⟨rfl, rfl⟩))
  go_ret
  exact ⟨rfl, HB.out.alloc HB.out.size _⟩
end Go.Proofs.YtabofadjnbpjkacDoor

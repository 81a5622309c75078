/-
  The law StageBuilds: a table that was built stands for its rows. Conditions: the numbers fit; the lists take no more bytes than there are.
-/
import Derived.Test.YtookbgmolggohaaSt
namespace Go.Proofs.Ytookbgmolggohaa
open Go.RowKit
set_option maxRecDepth 100000 in
set_option maxHeartbeats 1000000 in
theorem law_builds (L : List Rw) (A : List Int) (v va : Value) (n : Int) (w : World) (hr : Rd3 .i32 w v L) (hf : fit3 L) (hl : L.length ≤ 8796093022208) (ha : Rd1 w va A) (hfa : fit1 A) (hlA : A.length ≤ 35184372088832) : Calls Try.prog 3 #[v, va, .int .i64 n] w fun e w' => e = .returned (.bool true) ∧ Below w.heap.size w w' := by
  by_cases h : (chk L).2 = 0
  · have K1 : Hid (Calls Try.prog 9 #[v] w fun e w' => ∃ T vr, e = .returned (.tuple #[.pointer (some ⟨T, 0, none⟩), vr, .bool true, .bool true]) ∧ Rd3 .i64 w' vr L ∧ TabAt w' T (lk L) ∧ Below w.heap.size w w') := built_good L v w hr hf hl h
    obtain ⟨hl2, hok, -⟩ := chk_ok h
    have HOK : Hid (okF 0 L) := hok
    have HFA : Hid (fit1 A) := hfa
    replace ha : Hid (Rd1 w va A) := ha
    clear hr h hok hf hfa
    go_enter Try.func3, Try.ntmps3
    go_wp2_with (go_at_call 9; refine K1.out.mono ?_)
    first | rintro e w1 T vr rfl r1 t1 b1 | rintro e w1 ⟨T, vr, rfl, r1, t1, b1⟩
    replace r1 : Hid (Rd3 .i64 w1 vr L) := r1
    replace t1 : Hid (TabAt w1 T (lk L)) := t1
    replace b1 : Hid (Below w.heap.size w w1) := b1
    clear K1
    go_wp2_with (go_at_call 10; refine (awake_any _).mono ?_)
    intro e w2 hq
    first | (obtain ⟨rfl, b2⟩ : _ ∧ _ := hq) | (subst hq; intro b2)
    have B2 : Hid (Below w.heap.size w w2) := b1.out.trans (b2.mono b1.out.size)
    have KS : Hid (Calls Try.prog 11 #[.pointer (some ⟨T, 0, none⟩), vr, va, .int .i64 n] w2 fun e w' => e = .returned (.bool true) ∧ Below w2.heap.size w2 w') := stands_any L A _ vr va n w2 (.inr ⟨T, rfl, t1.out.below b2⟩) ⟨_, rfl⟩ (r1.out.below b2) (ha.out.below B2.out) HFA.out hlA HOK.out (by omega)
    clear b1 b2 r1 t1 ha HFA HOK
    go_wp2_with (go_at_call 11; refine KS.out.mono ?_)
    intro e w3 hq
    first | (obtain ⟨rfl, b3⟩ : _ ∧ _ := hq) | (subst hq; intro b3)
    have B3 : Hid (Below w.heap.size w w3) := B2.out.trans (b3.mono B2.out.size)
    clear b3 KS B2
    go_wp2
    go_ret
    exact ⟨rfl, B3.out⟩
  · have K1 : Hid (Calls Try.prog 9 #[v] w fun e w' => ∃ vr, e = .returned (.tuple #[.pointer none, vr, .bool false, .bool true]) ∧ Rd3 .i64 w' vr L ∧ Below w.heap.size w w') := built_bad L v w hr hf hl h
    clear hr h ha hf hfa
    go_enter Try.func3, Try.ntmps3
    go_wp2_with (go_at_call 9; refine K1.out.mono ?_)
    first | rintro e w1 vr rfl r1 b1 | rintro e w1 ⟨vr, rfl, r1, b1⟩
    replace b1 : Hid (Below w.heap.size w w1) := b1
    clear K1 r1
    go_wp2_with (go_at_call 10; refine (awake_any _).mono ?_)
    intro e w2 hq
    first | (obtain ⟨rfl, b2⟩ : _ ∧ _ := hq) | (subst hq; intro b2)
    have B2 : Hid (Below w.heap.size w w2) := b1.out.trans (b2.mono b1.out.size)
    clear b2 b1
    go_wp2
    go_ret
    exact ⟨rfl, B2.out⟩
end Go.Proofs.Ytookbgmolggohaa

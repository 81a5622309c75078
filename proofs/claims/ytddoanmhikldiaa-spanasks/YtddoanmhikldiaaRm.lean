/-
  The contract of the document's Make. Conditions: the list takes no more bytes than there are.
-/
import Derived.Test.YtddoanmhikldiaaPq
namespace Go.Proofs.Ytddoanmhikldiaa
open Go.RowKit
theorem owns_low {w : World} {b b' e size n : Nat} {v : Value} {xs : List Value} (h : w.ownsRow b e size v n xs) (hb : b' ≤ b) : w.ownsRow b' e size v n xs := by
  obtain ⟨h1, h2 | ⟨g, cap, cur, h3, h4, h5⟩⟩ := h
  · exact ⟨h1, .inl h2⟩
  · exact ⟨h1, .inr ⟨g, cap, cur, h3, Nat.le_trans hb h4, h5⟩⟩
theorem has_may {L : List Sn} (h : ∀ s ∈ L, mayB s = true) (p : Int) : (decide (0 ≤ p) && decide (p < 1114112) && hasB L p) = hasB L p := by
  cases hq : hasB L p
  · simp
  · obtain ⟨s, hs, h1, h2⟩ := has_iff.1 hq
    have := may_iff.1 (h s hs)
    rw [decide_eq_true (show 0 ≤ p by omega), decide_eq_true (show p < 1114112 by omega)]
    rfl
set_option maxRecDepth 100000 in
set_option maxHeartbeats 1000000 in
theorem rmake_any (L : List Sn) (v : Value) (w : World) (hr : RdS w v L) (hl : L.length ≤ 35184372088832) : Calls Try.prog 9 #[v] w fun e w' => ∃ v' X i er, e = .returned (.tuple #[v', .int .i64 i, .int .i64 er]) ∧ w'.ownsRow w.heap.size 58 2 v' X.length (celS X) ∧ MakeP L X i er ∧ Below w.heap.size w w' := by
  have HR : Hid (RdS w v L) := hr
  obtain ⟨a, c, rfl, hlc, hc⟩ := hr
  by_cases c1 : 65536 < L.length
  · have h1 : ((L.length : Nat) : Int) > 65536 := by omega
    go_enter Try.func9, Try.ntmps9
    go_wp2
    go_ret3
    exact ⟨_, [], _, _, rfl, own_none _ _ 58 (Nat.le_refl _), .inl ⟨c1, rfl, rfl, rfl⟩, (Below.refl _ _).alloc (Nat.le_refl _) _⟩
  · have h1 : ((L.length : Nat) : Int) ≤ 65536 := by omega
    have hle : L.length ≤ 65536 := by omega
    have HC : Hid _ := hc
    clear hc c1
    go_enter Try.func9, Try.ntmps9
    go_wp2_with fail
    go_loopw [5] (fun y wr => ∃ k : Nat, k ≤ L.length ∧ y = .int .i64 (k : Nat) ∧ Hid (∀ j, j < k → mayB (L.getD j (0, 0)) = true) ∧ Hid (Below w.heap.size w wr)) (fun y _ => (L.length - (intOf y).toNat : Nat))
    case atStart => exact ⟨0, Nat.zero_le _, rfl, fun j hj => by omega, Below.refl _ _⟩
    case round =>
      obtain ⟨k, hk, rfl, hM, hB⟩ := hrel
      by_cases hkl : k < L.length
      · obtain ⟨g, off, rfl, hd⟩ := HC.out (by omega)
        obtain ⟨d1, d2⟩ := hd k hkl
        have kl : (k : Int) < (L.length : Int) := by omega
        have g1 := World.block_lt_of_cell? w _ d1
        have e1 := (hB.out.cell (p := ⟨g, off + k * 2, none⟩) (by simpa using g1)).trans d1
        have e2 := (hB.out.cell (p := ⟨g, off + k * 2 + 1, none⟩) (by simpa using g1)).trans d2
        clear d1 d2 hd g1 HC
        have hS : Hid (∀ b, mayB (L.getD k (0, 0)) = b → (b = true → ∀ j, j < k + 1 → mayB (L.getD j (0, 0)) = true) ∧ (b = false → mayB (L.getD k (0, 0)) = false)) := by
          rintro b rfl
          refine ⟨fun h j hj => ?_, fun h => h⟩
          by_cases c : j = k
          · rw [c]; exact h
          · exact hM.out j (by omega)
        generalize hgs : L.getD k (0, 0) = s at e1 e2
        have HG : Hid (L.getD k (0, 0) = s) := hgs
        clear hgs
        obtain ⟨x, y⟩ := s
        have hbsz := hB.out.size
        go_wp2_with fail
        refine (rmay_any x y _).mono ?_
        rintro e w1 ⟨rfl, B1⟩
        have B2 : Hid (Below w.heap.size w w1) := hB.out.trans (B1.mono hbsz)
        clear B1 e1 e2
        cases hm : mayB (x, y)
        · have HF : Hid (mayB (L.getD k (0, 0)) = false) := (hS.out _ rfl).2 (by rw [HG.out]; exact hm)
          have hb2 := B2.out.size
          go_wp2
          go_ret3
          exact ⟨_, [], _, _, rfl, own_none _ _ 58 hb2, .inr (.inl ⟨hle, k, hkl, HF.out, hM.out, rfl, rfl, rfl⟩), B2.out.alloc hb2 _⟩
        · have HT : Hid (∀ j, j < k + 1 → mayB (L.getD j (0, 0)) = true) := (hS.out _ rfl).1 (by rw [HG.out]; exact hm)
          go_wp2
          refine ⟨⟨k + 1, by omega, by go_num, HT.out, B2.out⟩, by simp [intOf]; omega⟩
      · have hkk : k = L.length := by omega
        subst hkk
        have hbs := hB.out.size
        have bW : Hid (Below w.heap.size w (wr.alloc (.cells #[] 58))) := hB.out.alloc hbs _
        go_wp2_with fail
        refine (put_any L [] _ _ 0 _ (.inl rfl) (HR.out.below bW.out) (RdS.of_owns (b := wr.heap.size) (e := 58) (own_none wr _ 58 (Nat.le_refl _))) (all_may hM.out) (fun s hs => by cases hs) (by omega) (by simp)).mono ?_
        rintro e w1 ⟨v', X, rfl, O1, hS, hH, _, B1⟩
        have O2 : Hid (w1.ownsRow w.heap.size 57 2 v' X.length (celS X) ∨ w1.ownsRow w.heap.size 58 2 v' X.length (celS X)) := .inr (owns_low O1 bW.out.size)
        have B2 : Hid (Below w.heap.size w w1) := bW.out.trans (B1.mono bW.out.size)
        have HS : Hid (isS 0 X = true) := hS
        have HH : Hid (∀ p, hasB X p = hasB L p) := fun p => by
          rw [hH p]
          show (decide (0 ≤ p) && decide (p < 1114112) && (hasB L p || hasB [] p)) = _
          rw [has_nil, Bool.or_false, has_may (all_may hM.out)]
        have O3 : Hid (w1.ownsRow w.heap.size 58 2 v' X.length (celS X)) := owns_low O1 bW.out.size
        clear O1 B1 hS hH O2
        go_wp2
        go_ret3
        exact ⟨v', X, _, _, rfl, O3.out, .inr (.inr ⟨hle, hM.out, HS.out, HH.out, rfl, rfl⟩), B2.out⟩
end Go.Proofs.Ytddoanmhikldiaa

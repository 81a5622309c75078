/-
  The contracts of Make and awake: the set of spans, or the first one that may not be. Conditions: the numbers fit; the list takes no more bytes than there are.
-/
import Derived.Test.YtddoanmhikldiabMe
namespace Go.Proofs.Ytddoanmhikldiab
open Go.RowKit
/-- What Make answers. -/
def MakeP (L X : List Sn) (i er : Int) : Prop :=
  (65536 < L.length ∧ X = [] ∧ i = 65536 ∧ er = 71) ∨
  (L.length ≤ 65536 ∧ ∃ k : Nat, k < L.length ∧ mayB (L.getD k (0, 0)) = false ∧ (∀ j, j < k → mayB (L.getD j (0, 0)) = true) ∧ X = [] ∧ i = k ∧ er = 70) ∨
  (L.length ≤ 65536 ∧ (∀ j, j < L.length → mayB (L.getD j (0, 0)) = true) ∧ isS 0 X = true ∧ (∀ p, hasB X p = hasB L p) ∧ i = 0 ∧ er = 0)
theorem makeP_uniq {L X X' : List Sn} {i i' er er' : Int} (h : MakeP L X i er) (h' : MakeP L X' i' er') : X = X' ∧ i = i' ∧ er = er' := by
  rcases h with ⟨a, rfl, rfl, rfl⟩ | ⟨a, k, h1, h2, h3, rfl, rfl, rfl⟩ | ⟨a, h1, h2, h3, rfl, rfl⟩ <;> rcases h' with ⟨a', rfl, rfl, rfl⟩ | ⟨a', k', h1', h2', h3', rfl, rfl, rfl⟩ | ⟨a', h1', h2', h3', rfl, rfl⟩
  · exact ⟨rfl, rfl, rfl⟩
  · omega
  · omega
  · omega
  · have : k = k' := by
      rcases Nat.lt_trichotomy k k' with c | c | c
      · rw [h3' k c] at h2; cases h2
      · exact c
      · rw [h3 k' c] at h2'; cases h2'
    subst this
    exact ⟨rfl, rfl, rfl⟩
  · rw [h1' k h1] at h2; cases h2
  · omega
  · rw [h1 k' h1'] at h2'; cases h2'
  · exact ⟨uniq h2 h2' (fun p => by rw [h3, h3']), rfl, rfl⟩
theorem all_may {L : List Sn} (h : ∀ j, j < L.length → mayB (L.getD j (0, 0)) = true) : ∀ s ∈ L, mayB s = true := by
  intro s hs
  obtain ⟨j, hj, rfl⟩ := List.getElem_of_mem hs
  have := h j hj
  simpa [List.getD, List.getElem?_eq_getElem hj] using this
set_option maxRecDepth 100000 in
set_option maxHeartbeats 1000000 in
theorem make_any (L : List Sn) (v : Value) (w : World) (hr : RdS w v L) (hl : L.length ≤ 35184372088832) : Calls Try.prog 14 #[v] w fun e w' => ∃ v' X i er, e = .returned (.tuple #[v', .int .i64 i, .int .i64 er]) ∧ w'.ownsRow w.heap.size 41 2 v' X.length (celS X) ∧ MakeP L X i er ∧ Below w.heap.size w w' := by
  have HR : Hid (RdS w v L) := hr
  obtain ⟨a, c, rfl, hlc, hc⟩ := hr
  by_cases c1 : 65536 < L.length
  · have h1 : ((L.length : Nat) : Int) > 65536 := by omega
    go_enter Try.func14, Try.ntmps14
    go_wp2
    go_ret3
    exact ⟨_, [], _, _, rfl, World.ownsRow_nil _ _ _ _, .inl ⟨c1, rfl, rfl, rfl⟩, Below.refl _ _⟩
  · have h1 : ((L.length : Nat) : Int) ≤ 65536 := by omega
    have hle : L.length ≤ 65536 := by omega
    have HC : Hid _ := hc
    clear hc c1
    go_enter Try.func14, Try.ntmps14
    go_wp2_with fail
    go_loopw [5, 12] (fun _ y wr => ∃ k : Nat, k ≤ L.length ∧ y = .int .i64 (k : Nat) ∧ Hid (∀ j, j < k → mayB (L.getD j (0, 0)) = true) ∧ Hid (Below w.heap.size w wr)) (fun _ y _ => (L.length - (intOf y).toNat : Nat))
    case atStart => exact ⟨0, Nat.zero_le _, rfl, fun j hj => by omega, Below.refl _ _⟩
    case round =>
      obtain ⟨k, hk, rfl, hM, hB⟩ := hrel
      by_cases hkl : k < L.length
      · obtain ⟨g, off, rfl, hd⟩ := HC.out (by omega)
        obtain ⟨d1, d2⟩ := hd k hkl
        have kl : (k : Int) < (L.length : Int) := by omega
        have g1 := World.block_lt_of_cell? w _ d1
        have e1 := (hB.out.cell (p := ⟨g, off + k * 2, none⟩) (by simpa using g1)).trans d1
        have e2 := (hB.out.cell (p := ⟨g, off + k * 2 + 1, none⟩) (by simpa using g1)).trans d2
        clear d1 d2 hd g1 HC
        have hS : Hid (∀ b, mayB (L.getD k (0, 0)) = b → (b = true → ∀ j, j < k + 1 → mayB (L.getD j (0, 0)) = true) ∧ (b = false → mayB (L.getD k (0, 0)) = false)) := by
          rintro b rfl
          refine ⟨fun h j hj => ?_, fun h => h⟩
          by_cases c : j = k
          · rw [c]; exact h
          · exact hM.out j (by omega)
        generalize hgs : L.getD k (0, 0) = s at e1 e2
        have HG : Hid (L.getD k (0, 0) = s) := hgs
        clear hgs
        obtain ⟨x, y⟩ := s
        go_wp2_with fail
        refine (may_any x y _).mono ?_
        rintro e w1 ⟨rfl, B1⟩
        have B2 : Hid (Below w.heap.size w w1) := below_box hB.out B1
        clear B1 e1 e2
        cases hm : mayB (x, y)
        · have HF : Hid (mayB (L.getD k (0, 0)) = false) := (hS.out _ rfl).2 (by rw [HG.out]; exact hm)
          go_wp2
          go_ret3
          exact ⟨_, [], _, _, rfl, World.ownsRow_nil _ _ _ _, .inr (.inl ⟨hle, k, hkl, HF.out, hM.out, rfl, rfl, rfl⟩), B2.out⟩
        · have HT : Hid (∀ j, j < k + 1 → mayB (L.getD j (0, 0)) = true) := (hS.out _ rfl).1 (by rw [HG.out]; exact hm)
          go_wp2
          refine ⟨⟨k + 1, by omega, by go_num, HT.out, B2.out⟩, by simp [intOf]; omega⟩
      · have hkk : k = L.length := by omega
        subst hkk
        go_wp2_with fail
        refine (merged_any L _ wr (HR.out.below hB.out) hle (all_may hM.out)).mono ?_
        rintro e w1 ⟨v', X, rfl, O1, hS, hH, hlX, B1⟩
        have O2 : Hid (w1.ownsRow wr.heap.size 41 2 v' X.length (celS X)) := O1
        have B2 : Hid (Below w.heap.size w w1) := hB.out.trans (B1.mono hB.out.size)
        have HS : Hid (isS 0 X = true) := hS
        have HH : Hid (∀ p, hasB X p = hasB L p) := hH
        have hbs := hB.out.size
        clear O1 B1 hS hH
        go_wp2
        go_ret3
        refine ⟨v', X, _, _, rfl, ?_, .inr (.inr ⟨hle, hM.out, HS.out, HH.out, rfl, rfl⟩), B2.out⟩
        obtain ⟨h1, h2 | ⟨g, cap, cur, h3, h4, h5⟩⟩ := O2.out
        · exact ⟨h1, .inl h2⟩
        · exact ⟨h1, .inr ⟨g, cap, cur, h3, Nat.le_trans hbs h4, h5⟩⟩
theorem one_set {X : List Sn} {i er : Int} (h : MakeP [(1, 2)] X i er) : X = [(1, 2)] ∧ i = 0 ∧ er = 0 :=
  makeP_uniq h (.inr (.inr ⟨by decide, fun j hj => by simp at hj; subst hj; decide, by decide, fun p => rfl, rfl, rfl⟩))
set_option maxRecDepth 100000 in
set_option maxHeartbeats 1000000 in
theorem awake_any (w : World) : Calls Try.prog 6 #[] w fun e w' => e = .returned (.bool true) ∧ Below w.heap.size w w' := by
  have HR : Hid (RdS (w.alloc (.cells #[.int .i32 1, .int .i32 2] 41)) (.slice (some ⟨w.heap.size, 0, none⟩) 1 1) [(1, 2)]) := by
    refine ⟨_, _, rfl, Nat.le_refl _, fun _ => ⟨_, _, rfl, fun j hj => ?_⟩⟩
    have : j = 0 := by simpa using hj
    subst this
    exact box2 w 1 2 41
  go_enter Try.func6, Try.ntmps6
  go_wp2_with fail
  refine (make_any [(1, 2)] _ _ HR.out (by decide)).mono ?_
  rintro e w1 ⟨v', X, i, er, rfl, O1, hP, B1⟩
  obtain ⟨rfl, rfl, rfl⟩ := one_set hP
  obtain ⟨a, c, rfl, _, _⟩ := owns_slice O1
  have B2 : Hid (Below w.heap.size w w1) := below_box (Below.refl _ _) B1
  clear B1 O1 hP
  go_wp2
  go_ret
  exact ⟨rfl, B2.out⟩
end Go.Proofs.Ytddoanmhikldiab

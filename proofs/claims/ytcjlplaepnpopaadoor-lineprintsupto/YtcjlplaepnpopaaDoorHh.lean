/-
  mayBePrinted: whether what is printed would be read as the same line.
-/
import Derived.Test.YtcjlplaepnpopaaDoorHg
import Derived.LoopN
import Derived.OwnWalk
import Derived.WalkSmall
import Derived.BigQuiet
import Derived.Deep.QuietTactic
import Derived.KernelRfl
namespace Go.Proofs.YtcjlplaepnpopaaDoor
open Go.RowKit
/-- A slice that reads as these texts. -/
def RdT (w : World) (v : Value) (L : List ByteArray) : Prop :=
  ∃ a c, v = .slice a L.length c ∧ L.length ≤ c ∧ (0 < L.length → ∃ g off, a = some ⟨g, off, none⟩ ∧ ∀ j, j < L.length → w.cell? ⟨g, off + j, none⟩ = some (.string (L.getD j ⟨#[]⟩)))
theorem RdT.below {w w' : World} {v : Value} {L : List ByteArray} (h : RdT w v L) (hb : Below w.heap.size w w') : RdT w' v L := by
  obtain ⟨a, c, rfl, hle, hc⟩ := h
  refine ⟨a, c, rfl, hle, fun hp => ?_⟩
  obtain ⟨g, off, rfl, hd⟩ := hc hp
  refine ⟨g, off, rfl, fun j hj => ?_⟩
  have := World.block_lt_of_cell? w _ (hd j hj)
  exact (hb.cell (p := ⟨g, off + j, none⟩) (by simpa using this)).trans (hd j hj)
def none4 : ByteArray := ⟨#[10, 13, 59, 35]⟩
def none2 : ByteArray := ⟨#[10, 13]⟩
theorem asc4 : Asc none4 := fun j hj => by
  have hj : j < 4 := hj
  have : j = 0 ∨ j = 1 ∨ j = 2 ∨ j = 3 := by omega
  rcases this with rfl | rfl | rfl | rfl <;> decide
theorem asc2 : Asc none2 := fun j hj => by
  have hj : j < 2 := hj
  have : j = 0 ∨ j = 1 := by omega
  rcases this with rfl | rfl <;> decide
/-- Whether the first k fields may be printed; whether a line may be. -/
def allK (L : List ByteArray) : Nat → Bool
  | 0 => true
  | k + 1 => allK L k && lwB (L.getD k ⟨#[]⟩) none4
def emL1 (L : List ByteArray) : Bool := decide (L.length = 0) || (decide (L.length = 1) && decide ((L.getD 0 ⟨#[]⟩).size = 0))
def mayB (L : List ByteArray) (note : ByteArray) : Bool := !emL1 L && (allK L L.length && lwB note none2)
theorem allK_no {L : List ByteArray} {k : Nat} (h : lwB (L.getD k ⟨#[]⟩) none4 = false) : ∀ n, k < n → allK L n = false
  | 0, q => by omega
  | n + 1, q => by
    rw [allK]
    by_cases e : k = n
    · subst e; rw [h, Bool.and_false]
    · rw [allK_no h n (by omega), Bool.false_and]
set_option maxRecDepth 100000 in
set_option maxHeartbeats 1000000 in
theorem mayBe_any (num : Int) (v : Value) (L : List ByteArray) (note : ByteArray) (w : World) (hv : RdT w v L) (hL : L.length < 4294967281) (hs : ∀ x ∈ L, x.size < 4294967281) (hn : note.size < 4294967281) :
    Calls Tryd.prog 26 #[.agg #[.int .i64 num, v, .string note]] w fun e w' => e = .returned (.bool (mayB L note)) ∧ Hid (Below w.heap.size w w') := by
  obtain ⟨a, c, rfl, hle, hc⟩ := hv
  have hB1 : Hid (Below w.heap.size w (w.alloc (.cells #[.int .i64 num, .slice a L.length c, .string note] 46))) := (Below.refl _ _).alloc (Nat.le_refl _) _
  by_cases h0 : L.length = 0
  · have HR : Hid (mayB L note = false) := by unfold Hid mayB emL1; rw [decide_eq_true h0]; rfl
    rw [h0] at hB1 ⊢
    go_enter Tryd.func26, Tryd.ntmps26
    go_wp2
    exact bodyPost_ret (v := .bool false) (by simp [results, Tryd.results26, go_sem]) rfl ⟨by rw [HR.out], hB1⟩
  · obtain ⟨g, off, rfl, hd⟩ := hc (by omega)
    have hg : g < w.heap.size := by simpa using World.block_lt_of_cell? w _ (hd 0 (by omega))
    have HD : Hid (∀ j, j < L.length → w.cell? ⟨g, off + j, none⟩ = some (.string (L.getD j ⟨#[]⟩))) := hd
    have HS : Hid (∀ x ∈ L, x.size < 4294967281) := hs
    have y0 := hd 0 (by omega)
    rw [Nat.add_zero] at y0
    have y0' : (w.alloc (.cells #[.int .i64 num, .slice (some ⟨g, off, none⟩) L.length c, .string note] 46)).cell? ⟨g, off, none⟩ = some (.string (L.getD 0 ⟨#[]⟩)) := by
      rw [← y0]
      exact hB1.out.cell (p := ⟨g, off, none⟩) hg
    by_cases h1 : L.length = 1 ∧ (L.getD 0 ⟨#[]⟩).size = 0
    · have HR : Hid (mayB L note = false) := by unfold Hid mayB emL1; rw [decide_eq_true h1.1, decide_eq_true h1.2]; simp
      obtain ⟨X, eX⟩ : ∃ X, L.getD 0 ⟨#[]⟩ = X := ⟨_, rfl⟩
      rw [eX] at y0' h1
      have e1 := toList_nil X
      have e2 := empty_is X
      rw [decide_eq_true h1.2] at e1 e2
      rw [h1.1] at hB1 y0' hle ⊢
      clear hd hs hc y0
      go_enter Tryd.func26, Tryd.ntmps26
      go_wp2
      exact bodyPost_ret (v := .bool false) (by simp [results, Tryd.results26, go_sem]) rfl ⟨by rw [HR.out], hB1⟩
    · have HM : Hid (emL1 L = false) := by
        unfold Hid emL1
        rw [Bool.or_eq_false_iff, Bool.and_eq_false_iff, decide_eq_false_iff_not, decide_eq_false_iff_not, decide_eq_false_iff_not]
        exact ⟨h0, by by_cases q : L.length = 1
                      · exact .inr fun h => h1 ⟨q, h⟩
                      · exact .inl q⟩
      obtain ⟨N, eN⟩ : ∃ N, L.length = N := ⟨_, rfl⟩
      have HN : Hid (L.length = N) := eN
      rw [eN] at hB1 y0' hle hL h0 h1 ⊢
      have HB1 : Hid (Below w.heap.size w (w.alloc (.cells #[.int .i64 num, .slice (some ⟨g, off, none⟩) N c, .string note] 46))) := hB1
      clear hd hs hc y0 eN hB1
      by_cases h2 : N = 1
      · have hX : ¬ (L.getD 0 ⟨#[]⟩).size = 0 := fun h => h1 ⟨h2, h⟩
        obtain ⟨X0, eX⟩ : ∃ X, L.getD 0 ⟨#[]⟩ = X := ⟨_, rfl⟩
        rw [eX] at y0' hX
        have e1 := toList_nil X0
        have e2 := empty_is X0
        rw [decide_eq_false hX] at e1 e2
        subst h2
        clear h1 eX hX h0
        go_enter Tryd.func26, Tryd.ntmps26
        go_wp2
        clear y0' e1 e2
        go_loopw [4, 25] (fun _ x wr => ∃ k : Nat, x = .int .i64 (k : Int) ∧ k ≤ 1 ∧ Hid (allK L k = true) ∧ Hid (Below (w.heap.size + 1) (w.alloc (.cells #[.int .i64 num, .slice (some ⟨g, off, none⟩) 1 c, .string note] 46)) wr)) (fun _ x _ => 1 - (RowKit.intOf x).toNat)
        case atStart => exact ⟨0, rfl, Nat.zero_le _, rfl, Below.refl _ _⟩
        case round =>
          obtain ⟨k, rfl, hk, hA, hB⟩ := hrel
          have kB : Hid (∀ w2, Below wr.heap.size wr w2 → Below w.heap.size w w2) := fun w2 h => HB1.out.trans (hB.out.mono (by omega) |>.trans (h.mono (by have h3 := hB.out.size; have h4 : (w.alloc (.cells #[.int .i64 num, .slice (some ⟨g, off, none⟩) 1 c, .string note] 46)).heap.size = w.heap.size + 1 := World.size_alloc _ _; omega)))
          by_cases d : k < 1
          · have d0 : (k : Int) < 1 := by omega
            have d1 : decide ((k : Int) < 1) = true := decide_eq_true d0
            have d2 : (0 : Int) ≤ (k : Int) := by omega
            have hkL : k < L.length := by have := HN.out; omega
            have y1 := HD.out k hkL
            have y2 : wr.cell? ⟨g, off + k, none⟩ = some (.string (L.getD k ⟨#[]⟩)) := by
              rw [← y1]
              exact (hB.out.cell (p := ⟨g, off + k, none⟩) (by show g < _; omega)).trans (HB1.out.cell (p := ⟨g, off + k, none⟩) hg)
            have hx : (L.getD k ⟨#[]⟩).size < 4294967281 := HS.out _ (by rw [List.getD, List.getElem?_eq_getElem hkL]; exact List.getElem_mem _)
            have k42 : ∀ w, Calls Tryd.prog 42 #[.string (L.getD k ⟨#[]⟩), .string ⟨#[10, 13, 59, 35]⟩] w fun e w' => e = .returned (.bool (lwB (L.getD k ⟨#[]⟩) none4)) ∧ Hid (Below w.heap.size w w') := fun w => leftWhole_any _ none4 w hx (by decide) (by decide) asc4
            have HNo : Hid (lwB (L.getD k ⟨#[]⟩) none4 = false → mayB L note = false) := fun h => by unfold mayB; rw [allK_no h _ hkL]; simp
            have HYes : Hid (lwB (L.getD k ⟨#[]⟩) none4 = true → allK L (k + 1) = true) := fun h => by rw [allK, hA.out, h]; rfl
            obtain ⟨X, eX⟩ : ∃ X, L.getD k ⟨#[]⟩ = X := ⟨_, rfl⟩
            rw [eX] at y2 HNo HYes
            simp only [eX] at k42
            clear y1 hx eX hkL
            cases q : lwB X none4 with
            | false =>
              have HR : Hid (mayB L note = false) := HNo.out q
              simp only [q] at k42
              clear HNo HYes q
              go_wp2_with (go_at_call 42; refine (k42 _).mono ?_)
              rintro e w2 ⟨rfl, hb⟩
              have HB2 : Hid (Below w.heap.size w w2) := kB.out w2 hb.out
              clear k42 hb
              go_wp2
              exact bodyPost_ret (v := .bool false) (by simp [results, Tryd.results26, go_sem]) rfl ⟨by rw [HR.out], HB2⟩
            | true =>
              have HR : Hid (allK L (k + 1) = true) := HYes.out q
              simp only [q] at k42
              clear HNo HYes q
              go_wp2_with (go_at_call 42; refine (k42 _).mono ?_)
              rintro e w2 ⟨rfl, hb⟩
              have HB2 : Hid (Below (w.heap.size + 1) (w.alloc (.cells #[.int .i64 num, .slice (some ⟨g, off, none⟩) 1 c, .string note] 46)) w2) := hB.out.trans (hb.out.mono (by have h3 := hB.out.size; have h4 : (w.alloc (.cells #[.int .i64 num, .slice (some ⟨g, off, none⟩) 1 c, .string note] 46)).heap.size = w.heap.size + 1 := World.size_alloc _ _; omega))
              clear k42 hb
              go_wp2
              refine ⟨⟨k + 1, by simp, by omega, HR, HB2⟩, ?_⟩
              simp [RowKit.intOf]; omega
          · obtain rfl : k = 1 := by omega
            have d1 : decide (1 < 1) = false := by simp
            have y3 : wr.cell? ⟨w.heap.size, 2, none⟩ = some (.string note) := (hB.out.cell (p := ⟨w.heap.size, 2, none⟩) (by simp)).trans (by simp)
            have k42 : ∀ w, Calls Tryd.prog 42 #[.string note, .string ⟨#[10, 13]⟩] w fun e w' => e = .returned (.bool (lwB note none2)) ∧ Hid (Below w.heap.size w w') := fun w => leftWhole_any _ none2 w hn (by decide) (by decide) asc2
            have HR : Hid (mayB L note = lwB note none2) := by
              unfold Hid mayB
              rw [HM.out, HN.out, hA.out]
              rfl
            go_wp2_with (go_at_call 42; refine (k42 _).mono ?_)
            rintro e w2 ⟨rfl, hb⟩
            have HB2 : Hid (Below w.heap.size w w2) := kB.out w2 hb.out
            clear k42 hb
            go_wp2
            exact bodyPost_ret (v := .bool (lwB note none2)) (by simp [results, Tryd.results26, go_sem]) rfl ⟨by rw [HR.out], HB2⟩
      · have e1 : ((N : Int) == 0) = false := beq_false_of_ne (by omega)
        have e2 : ((N : Int) == 1) = false := beq_false_of_ne (by omega)
        have e3 : (0 : Int) ≤ (N : Int) := by omega
        clear h1 y0'
        go_enter Tryd.func26, Tryd.ntmps26
        go_wp2
        clear e1 e2
        go_loopw [4, 25] (fun _ x wr => ∃ k : Nat, x = .int .i64 (k : Int) ∧ k ≤ N ∧ Hid (allK L k = true) ∧ Hid (Below (w.heap.size + 1) (w.alloc (.cells #[.int .i64 num, .slice (some ⟨g, off, none⟩) N c, .string note] 46)) wr)) (fun _ x _ => N - (RowKit.intOf x).toNat)
        case atStart => exact ⟨0, rfl, Nat.zero_le _, rfl, Below.refl _ _⟩
        case round =>
          obtain ⟨k, rfl, hk, hA, hB⟩ := hrel
          have kB : Hid (∀ w2, Below wr.heap.size wr w2 → Below w.heap.size w w2) := fun w2 h => HB1.out.trans (hB.out.mono (by omega) |>.trans (h.mono (by have h3 := hB.out.size; have h4 : (w.alloc (.cells #[.int .i64 num, .slice (some ⟨g, off, none⟩) N c, .string note] 46)).heap.size = w.heap.size + 1 := World.size_alloc _ _; omega)))
          by_cases d : k < N
          · have d0 : (k : Int) < (N : Int) := by omega
            have d1 : decide ((k : Int) < (N : Int)) = true := decide_eq_true d0
            have d2 : (0 : Int) ≤ (k : Int) := by omega
            have hkL : k < L.length := by have := HN.out; omega
            have y1 := HD.out k hkL
            have y2 : wr.cell? ⟨g, off + k, none⟩ = some (.string (L.getD k ⟨#[]⟩)) := by
              rw [← y1]
              exact (hB.out.cell (p := ⟨g, off + k, none⟩) (by show g < _; omega)).trans (HB1.out.cell (p := ⟨g, off + k, none⟩) hg)
            have hx : (L.getD k ⟨#[]⟩).size < 4294967281 := HS.out _ (by rw [List.getD, List.getElem?_eq_getElem hkL]; exact List.getElem_mem _)
            have k42 : ∀ w, Calls Tryd.prog 42 #[.string (L.getD k ⟨#[]⟩), .string ⟨#[10, 13, 59, 35]⟩] w fun e w' => e = .returned (.bool (lwB (L.getD k ⟨#[]⟩) none4)) ∧ Hid (Below w.heap.size w w') := fun w => leftWhole_any _ none4 w hx (by decide) (by decide) asc4
            have HNo : Hid (lwB (L.getD k ⟨#[]⟩) none4 = false → mayB L note = false) := fun h => by unfold mayB; rw [allK_no h _ hkL]; simp
            have HYes : Hid (lwB (L.getD k ⟨#[]⟩) none4 = true → allK L (k + 1) = true) := fun h => by rw [allK, hA.out, h]; rfl
            obtain ⟨X, eX⟩ : ∃ X, L.getD k ⟨#[]⟩ = X := ⟨_, rfl⟩
            rw [eX] at y2 HNo HYes
            simp only [eX] at k42
            clear y1 hx eX hkL
            cases q : lwB X none4 with
            | false =>
              have HR : Hid (mayB L note = false) := HNo.out q
              simp only [q] at k42
              clear HNo HYes q
              go_wp2_with (go_at_call 42; refine (k42 _).mono ?_)
              rintro e w2 ⟨rfl, hb⟩
              have HB2 : Hid (Below w.heap.size w w2) := kB.out w2 hb.out
              clear k42 hb
              go_wp2
              exact bodyPost_ret (v := .bool false) (by simp [results, Tryd.results26, go_sem]) rfl ⟨by rw [HR.out], HB2⟩
            | true =>
              have HR : Hid (allK L (k + 1) = true) := HYes.out q
              simp only [q] at k42
              clear HNo HYes q
              go_wp2_with (go_at_call 42; refine (k42 _).mono ?_)
              rintro e w2 ⟨rfl, hb⟩
              have HB2 : Hid (Below (w.heap.size + 1) (w.alloc (.cells #[.int .i64 num, .slice (some ⟨g, off, none⟩) N c, .string note] 46)) w2) := hB.out.trans (hb.out.mono (by have h3 := hB.out.size; have h4 : (w.alloc (.cells #[.int .i64 num, .slice (some ⟨g, off, none⟩) N c, .string note] 46)).heap.size = w.heap.size + 1 := World.size_alloc _ _; omega))
              clear k42 hb
              go_wp2
              refine ⟨⟨k + 1, by simp, by omega, HR, HB2⟩, ?_⟩
              simp [RowKit.intOf]; omega
          · obtain rfl : N = k := by omega
            clear d
            have d1 : decide ((N : Int) < (N : Int)) = false := by simp
            have y3 : wr.cell? ⟨w.heap.size, 2, none⟩ = some (.string note) := (hB.out.cell (p := ⟨w.heap.size, 2, none⟩) (by simp)).trans (by simp)
            have k42 : ∀ w, Calls Tryd.prog 42 #[.string note, .string ⟨#[10, 13]⟩] w fun e w' => e = .returned (.bool (lwB note none2)) ∧ Hid (Below w.heap.size w w') := fun w => leftWhole_any _ none2 w hn (by decide) (by decide) asc2
            have HR : Hid (mayB L note = lwB note none2) := by
              unfold Hid mayB
              rw [HM.out, HN.out, hA.out]
              rfl
            go_wp2_with (go_at_call 42; refine (k42 _).mono ?_)
            rintro e w2 ⟨rfl, hb⟩
            have HB2 : Hid (Below w.heap.size w w2) := kB.out w2 hb.out
            clear k42 hb
            go_wp2
            exact bodyPost_ret (v := .bool (lwB note none2)) (by simp [results, Tryd.results26, go_sem]) rfl ⟨by rw [HR.out], HB2⟩
end Go.Proofs.YtcjlplaepnpopaaDoor

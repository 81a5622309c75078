/-
  A span that a field says: the document's answer.
-/
import Derived.Test.YtcjlplaepnpopaaDoorRp
import Derived.Lib.SlicesS
import Derived.OwnWalk
import Derived.WalkSmall
import Derived.BigQuiet
import Derived.Deep.QuietTactic
namespace Go.Proofs.YtcjlplaepnpopaaDoor
open Go.RowKit
/-- Two dots stand at i, and what stands ahead of them and behind them are code points, the first no greater. -/
def Good (s : ByteArray) (i a b : Nat) : Prop := i + 1 < s.size ∧ byt s i = 46 ∧ byt s (i + 1) = 46 ∧ ptN (s.extract 0 i) = some a ∧ ptN (s.extract (i + 2) s.size) = some b ∧ a ≤ b
theorem two_at (s : ByteArray) (i : Nat) (h : i + 1 < s.size) : s.extract i (i + 2) = ⟨#[UInt8.ofNat (byt s i), UInt8.ofNat (byt s (i + 1))]⟩ := by
  apply ByteArray.ext
  rw [ByteArray.data_extract]
  have hl : i + 1 < s.data.size := h
  apply Array.ext
  · rw [Array.size_extract]; show min (i + 2) s.data.size - i = 2; omega
  · intro j h1 h2
    have h3 : j < 2 := h2
    rw [Array.getElem_extract]
    rcases Nat.lt_or_ge j 1 with q | q
    · obtain rfl : j = 0 := by omega
      show s.data[i + 0] = UInt8.ofNat (byt s i)
      rw [← byt_eq s i (by omega), UInt8.ofNat_toNat]
      rfl
    · obtain rfl : j = 1 := by omega
      show s.data[i + 1] = UInt8.ofNat (byt s (i + 1))
      rw [← byt_eq s (i + 1) h, UInt8.ofNat_toNat]
      rfl
theorem of_46 {Y : Nat} (h : Y < 256) : (UInt8.ofNat Y == 46) = decide (Y = 46) := by
  by_cases c : Y = 46
  · subst c; rfl
  · rw [decide_eq_false c]
    apply beq_false_of_ne
    intro e
    apply c
    have := congrArg UInt8.toNat e
    rw [UInt8.toNat_ofNat_of_lt' h] at this
    exact this
/-- What the document's Range answers. -/
def RgIs (s : ByteArray) (e : Ending) : Prop :=
  (∃ p : Nat, ptN s = some p ∧ e = .returned (.tuple #[.int .i32 p, .int .i32 p, .int .i64 0])) ∨
  (ptN s = none ∧ ∃ i a b : Nat, Good s i a b ∧ e = .returned (.tuple #[.int .i32 a, .int .i32 b, .int .i64 0])) ∨
  (ptN s = none ∧ (∀ i a b, ¬ Good s i a b) ∧ e = .returned (.tuple #[.int .i32 0, .int .i32 0, .int .i64 91]))
set_option maxRecDepth 100000 in
set_option maxHeartbeats 8000000 in
theorem rrange_any (s : ByteArray) (w : World) (hs : s.size ≤ 4611686018427387904) : Calls Tryd.prog 8 #[.string s] w fun e w' => RgIs s e ∧ Below w.heap.size w w' := by
  have k6 := rpoint_any s w
  cases hp : ptN s with
  | some p =>
    rw [hp] at k6
    have HX : Hid (RgIs s (.returned (.tuple #[.int .i32 p, .int .i32 p, .int .i64 0]))) := .inl ⟨p, hp, rfl⟩
    simp only [ptA] at k6
    clear hp
    go_enter Tryd.func8, Tryd.ntmps8
    go_wp2_with (go_at_call 6; refine k6.mono ?_)
    rintro e w' ⟨rfl, hb⟩
    have HB : Hid (Below w.heap.size w w') := hb
    clear hb k6
    go_wp2
    exact bodyPost_ret (v := .tuple #[.int .i32 (p : Int), .int .i32 (p : Int), .int .i64 0]) (by simp [results, Tryd.results8, go_sem]) rfl ⟨HX.out, HB.out⟩
  | none =>
    rw [hp] at k6
    simp only [ptA] at k6
    have HP : Hid (ptN s = none) := hp
    clear hp
    go_enter Tryd.func8, Tryd.ntmps8
    go_wp2_with (go_at_call 6; refine k6.mono ?_)
    rintro e w' ⟨rfl, hb⟩
    have HB : Hid (Below w.heap.size w w') := hb
    clear hb k6
    go_wp2
    obtain ⟨wa, hwa⟩ : ∃ wa, w' = wa := ⟨_, rfl⟩
    rw [hwa] at HB ⊢
    clear hwa
    go_loopw [7] (fun x wr => Hid (Below w.heap.size w wr) ∧ ∃ i : Nat, x = .int .i64 (i : Int) ∧ i ≤ s.size ∧ Hid (∀ j a b, j < i → ¬ Good s j a b)) (fun x _ => s.size - (RowKit.intOf x).toNat)
    case atStart => exact ⟨HB, 0, rfl, Nat.zero_le _, fun j a b h => by omega⟩
    case round =>
      obtain ⟨HB0, i, rfl, hi, hG⟩ := hrel
      obtain ⟨wo, hwo⟩ : ∃ wo, wr = wo := ⟨_, rfl⟩
      rw [hwo] at HB0 ⊢
      clear hwo HB
      by_cases c : i + 1 < s.size
      · have c0 : (i : Int) + 1 < (s.size : Int) := by omega
        have i9 : (i : Int) ≤ 4611686018427387904 := by omega
        have c2 : (i : Int) + 2 ≤ (s.size : Int) := by omega
        have c3 : (i : Int) ≤ (s.size : Int) := by omega
        have c4 : (i : Int) ≤ (i : Int) + 2 := by omega
        have c5 : (0 : Int) ≤ (i : Int) := by omega
        have c6 : (0 : Int) ≤ (i : Int) + 2 := by omega
        have t2 : ((i : Int) + 2).toNat = i + 2 := by omega
        have e1 := two_at s i c
        have hY := of_46 (byt_lt s i)
        have hZ := of_46 (byt_lt s (i + 1))
        have hgd : ∀ a b, Good s i a b ↔ (byt s i = 46 ∧ byt s (i + 1) = 46 ∧ ptN (s.extract 0 i) = some a ∧ ptN (s.extract (i + 2) s.size) = some b ∧ a ≤ b) := fun a b => ⟨fun h => h.2, fun h => ⟨c, h⟩⟩
        obtain ⟨Y, eY⟩ : ∃ Y, byt s i = Y := ⟨_, rfl⟩
        obtain ⟨Z, eZ⟩ : ∃ Z, byt s (i + 1) = Z := ⟨_, rfl⟩
        rw [eY] at e1 hY
        rw [eZ] at e1 hZ
        simp only [eY, eZ] at hgd
        have kA := fun w => rpoint_any (s.extract 0 i) w
        have kB := fun w => rpoint_any (s.extract (i + 2) s.size) w
        have hno : (∀ a b, ¬ Good s i a b) → ∀ j a b, j < i + 1 → ¬ Good s j a b := fun h j a b hj => by
          by_cases e : j = i
          · subst e; exact h a b
          · exact hG.out j a b (by omega)
        clear eY eZ
        by_cases cd : Y = 46 ∧ Z = 46
        · obtain ⟨rfl, rfl⟩ := cd
          obtain ⟨A, eA⟩ : ∃ A, ptN (s.extract 0 i) = A := ⟨_, rfl⟩
          obtain ⟨B, eB⟩ : ∃ B, ptN (s.extract (i + 2) s.size) = B := ⟨_, rfl⟩
          simp only [eA] at kA hgd
          simp only [eB] at kB hgd
          have HGD : Hid (∀ a b, Good s i a b ↔ (A = some a ∧ B = some b ∧ a ≤ b)) := fun a b => by rw [hgd]; simp
          have HNO : Hid ((∀ a b, ¬ Good s i a b) → ∀ j a b, j < i + 1 → ¬ Good s j a b) := hno
          clear hgd hno eA eB hY hZ
          go_wp2_with (go_at_call 6; refine (kA _).mono ?_)
          intro e2 w2 hq
          obtain ⟨he2, hb2⟩ := hq
          have HB2 : Hid (Below w.heap.size w w2) := HB0.out.trans (hb2.mono HB0.out.size)
          clear hb2 kA
          cases A with
          | none =>
            rw [ptA] at he2
            subst he2
            go_wp2_with (go_at_call 6; refine (kB _).mono ?_)
            intro e3 w3 hq
            obtain ⟨he3, hb3⟩ := hq
            have HB3 : Hid (Below w.heap.size w w3) := HB2.out.trans (hb3.mono HB2.out.size)
            have HN : Hid (∀ j a b, j < i + 1 → ¬ Good s j a b) := HNO.out fun a b h => by rw [HGD.out] at h; cases h.1
            clear hb3 kB HNO HGD
            cases B with
            | none =>
              rw [ptA] at he3
              subst he3
              go_wp2
              refine ⟨⟨HB3, i + 1, by simp, by omega, HN⟩, ?_⟩
              simp [RowKit.intOf]; omega
            | some b =>
              rw [ptA] at he3
              subst he3
              go_wp2
              refine ⟨⟨HB3, i + 1, by simp, by omega, HN⟩, ?_⟩
              simp [RowKit.intOf]; omega
          | some a =>
            rw [ptA] at he2
            subst he2
            go_wp2_with (go_at_call 6; refine (kB _).mono ?_)
            intro e3 w3 hq
            obtain ⟨he3, hb3⟩ := hq
            have HB3 : Hid (Below w.heap.size w w3) := HB2.out.trans (hb3.mono HB2.out.size)
            clear hb3 kB
            cases B with
            | none =>
              rw [ptA] at he3
              subst he3
              have HN : Hid (∀ j a b, j < i + 1 → ¬ Good s j a b) := HNO.out fun a b h => by rw [HGD.out] at h; cases h.2.1
              clear HNO HGD
              go_wp2
              refine ⟨⟨HB3, i + 1, by simp, by omega, HN⟩, ?_⟩
              simp [RowKit.intOf]; omega
            | some b =>
              rw [ptA] at he3
              subst he3
              by_cases hab : a ≤ b
              · have d1 : decide (a ≤ b) = true := decide_eq_true hab
                have d2 : (a : Int) ≤ (b : Int) := by omega
                have HX : Hid (RgIs s (.returned (.tuple #[.int .i32 a, .int .i32 b, .int .i64 0]))) := .inr (.inl ⟨HP.out, i, a, b, (HGD.out a b).2 ⟨rfl, rfl, hab⟩, rfl⟩)
                clear HNO HGD
                go_wp2
                exact bodyPost_ret (v := .tuple #[.int .i32 (a : Int), .int .i32 (b : Int), .int .i64 0]) (by simp [results, Tryd.results8, go_sem]) rfl ⟨HX.out, HB3.out⟩
              · have d1 : decide (a ≤ b) = false := decide_eq_false hab
                have d2 : ¬ (a : Int) ≤ (b : Int) := by omega
                have HN : Hid (∀ j a b, j < i + 1 → ¬ Good s j a b) := HNO.out fun x y h => by
                  rw [HGD.out] at h
                  obtain ⟨h1, h2, h3⟩ := h
                  cases h1; cases h2
                  exact hab h3
                clear HNO HGD
                go_wp2
                refine ⟨⟨HB3, i + 1, by simp, by omega, HN⟩, ?_⟩
                simp [RowKit.intOf]; omega
        · have HN : Hid (∀ j a b, j < i + 1 → ¬ Good s j a b) := hno fun a b h => by rw [hgd] at h; exact cd ⟨h.1, h.2.1⟩
          have e2 : (decide (Y = 46) && decide (Z = 46)) = false := by simpa using fun h => fun h2 => cd ⟨h, h2⟩
          clear hgd hno kA kB cd
          go_wp2
          refine ⟨⟨HB0, i + 1, by simp, by omega, HN⟩, ?_⟩
          simp [RowKit.intOf]; omega
      · have c0 : ¬ (i : Int) + 1 < (s.size : Int) := by omega
        have c1 : decide ((i : Int) + 1 < (s.size : Int)) = false := decide_eq_false c0
        have i9 : (i : Int) ≤ 4611686018427387904 := by omega
        have HX : Hid (RgIs s (.returned (.tuple #[.int .i32 0, .int .i32 0, .int .i64 91]))) := .inr (.inr ⟨HP.out, fun j a b h => by
          by_cases e : j < i
          · exact hG.out j a b e h
          · have := h.1; omega, rfl⟩)
        go_wp2
        exact bodyPost_ret (v := .tuple #[.int .i32 0, .int .i32 0, .int .i64 91]) (by simp [results, Tryd.results8, go_sem]) rfl ⟨HX.out, HB0.out⟩
end Go.Proofs.YtcjlplaepnpopaaDoor

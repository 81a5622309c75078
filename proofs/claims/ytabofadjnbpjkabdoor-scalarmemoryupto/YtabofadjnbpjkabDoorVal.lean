/-
  The contracts of Scalar, Width, firstWrong, Encode and NewDecoder, of the document's Scalar and Width, and of the statements' awake. Conditions: those of Decode.
-/
import Derived.Test.YtabofadjnbpjkabDoorDec
import Derived.Laws.Cover4
namespace Go.Proofs.YtabofadjnbpjkabDoor
open Go.RowKit Go.Lib
theorem ret_int {k : IntKind} {a b : Int} (h : a = b) : Ending.returned (.int k a) = .returned (.int k b) := by rw [h]
theorem scalar_any (r : Int) (w : World) : Calls Tryd.prog 11 #[.int .i32 r] w fun e w' => e = .returned (.bool (Lib.validRune r)) ∧ w' = w := by
  obtain ⟨q, hq⟩ : ∃ q, Lib.validRune r = q := ⟨_, rfl⟩
  have key := Tryd.utf8_ValidRune r w
  rw [hq] at key ⊢
  clear hq
  go_enter Tryd.func11, Tryd.ntmps11
  go_wp2_with (go_at_call 32; refine key.mono ?_; rintro e w' ⟨rfl, rfl⟩)
  go_ret
  exact ⟨rfl, rfl⟩
/-- In how many bytes a scalar value is written; 0: it is none. -/
def widthZ (r : Int) : Int := if Lib.validRune r = true then (if r < 128 then 1 else if r < 2048 then 2 else if r < 65536 then 3 else 4) else 0
set_option maxHeartbeats 400000 in
theorem width_any (r : Int) (w : World) : Calls Tryd.prog 15 #[.int .i32 r] w fun e w' => e = .returned (.int .i64 (widthZ r)) ∧ w' = w := by
  have k1 := scalar_any r w
  have k2 := Tryd.utf8_RuneLen r w
  cases hv : Lib.validRune r
  · have e : widthZ r = 0 := by simp [widthZ, hv]
    rw [hv] at k1
    rw [e]
    go_enter Tryd.func15, Tryd.ntmps15
    go_wp2_with (go_at_call 11; refine k1.mono ?_; rintro e w' ⟨rfl, rfl⟩)
    go_ret
    exact ⟨rfl, rfl⟩
  · have e : widthZ r = runeLen r := by
      simp [Lib.validRune] at hv
      unfold widthZ runeLen
      rw [if_pos (by simp [Lib.validRune]; omega)]
      repeat' split
      all_goals omega
    rw [hv] at k1
    rw [e]
    obtain ⟨q, hq⟩ : ∃ q, runeLen r = q := ⟨_, rfl⟩
    rw [hq] at k2 ⊢
    clear hq e
    go_enter Tryd.func15, Tryd.ntmps15
    go_wp2_with (first | (go_at_call 11; refine k1.mono ?_; rintro e w' ⟨rfl, rfl⟩) | (go_at_call 34; refine k2.mono ?_; rintro e w' ⟨rfl, rfl⟩))
    go_ret
    exact ⟨rfl, rfl⟩
/-- The place of the first number that is no scalar value, from a place on; -1: all are. -/
def badFrom : List Int → Nat → Int
  | [], _ => -1
  | r :: l, i => if Lib.validRune r = true then badFrom l (i + 1) else i
theorem badFrom_drop (zs : List Int) (k : Nat) (h : k < zs.length) : badFrom (zs.drop k) k = if Lib.validRune (zs.getD k 0) = true then badFrom (zs.drop (k + 1)) (k + 1) else k := by
  rw [List.drop_eq_getElem_cons h]
  simp [badFrom, List.getD, List.getElem?_eq_getElem h]
set_option maxHeartbeats 400000 in
theorem firstWrong_any (zs : List Int) (g off c : Nat) (w : World) (hz : zs.length ≤ 140737488355328) (hc : ∀ j, j < zs.length → w.cell? ⟨g, off + j, none⟩ = some (.int .i32 (zs.getD j 0))) :
    Calls Tryd.prog 33 #[.slice (some ⟨g, off, none⟩) zs.length c] w fun e w' => e = .returned (.int .i64 (badFrom zs 0)) ∧ w' = w := by
  have HC : Hid (∀ j, j < zs.length → w.cell? ⟨g, off + j, none⟩ = some (.int .i32 (zs.getD j 0))) := hc
  clear hc
  go_enter Tryd.func33, Tryd.ntmps33
  go_wp2_with fail
  go_loop [7] (fun i => ∃ k : Nat, k ≤ zs.length ∧ i = .int .i64 k ∧ badFrom zs 0 = badFrom (zs.drop k) k) (fun i => zs.length - (RowKit.intOf i).toNat)
  case atStart => exact ⟨0, by omega, rfl, by simp⟩
  case round =>
    obtain ⟨k, hk, rfl, hb⟩ := hrel
    by_cases hlt : k < zs.length
    · have hcell := HC.out k hlt
      rw [badFrom_drop zs k hlt] at hb
      obtain ⟨r, hr⟩ : ∃ r, zs.getD k 0 = r := ⟨_, rfl⟩
      rw [hr] at hcell hb
      have key := scalar_any r w
      cases hv : Lib.validRune r
      · rw [hv] at key hb
        simp only [Bool.false_eq_true, if_false] at hb
        have HB : Hid (badFrom zs 0 = k) := hb
        clear hb hr hv
        go_wp2_with (go_at_call 11; refine key.mono ?_; rintro e w' ⟨rfl, rfl⟩)
        go_ret
        exact ⟨ret_int HB.out.symm, rfl⟩
      · rw [hv] at key hb
        simp only [if_true] at hb
        have HB : Hid (badFrom zs 0 = badFrom (zs.drop (k + 1)) (k + 1)) := hb
        clear hb hr hv
        go_wp2_with (go_at_call 11; refine key.mono ?_; rintro e w' ⟨rfl, rfl⟩)
        exact ⟨⟨k + 1, by omega, by go_num, HB.out⟩, by simp [RowKit.intOf]; omega⟩
    · have : zs.drop k = [] := List.drop_eq_nil_of_le (by omega)
      rw [this] at hb
      have HB : Hid (badFrom zs 0 = -1) := hb
      clear hb
      go_wp2
      go_ret
      exact ⟨ret_int HB.out.symm, rfl⟩
theorem all_valid : ∀ (zs : List Int) (i : Nat), badFrom zs i = -1 ↔ ∀ r ∈ zs, Lib.validRune r = true
  | [], i => by simp [badFrom]
  | r :: l, i => by
    unfold badFrom
    by_cases h : Lib.validRune r = true
    · rw [if_pos h, all_valid l (i + 1)]; simp [h]
    · rw [if_neg h]; simp [h]
theorem badFrom_nonneg (zs : List Int) (i : Nat) : badFrom zs i = -1 ∨ (i : Int) ≤ badFrom zs i ∧ badFrom zs i < i + zs.length := by
  induction zs generalizing i with
  | nil => exact .inl rfl
  | cons r l ih =>
    unfold badFrom
    split
    · rcases ih (i + 1) with h | h
      · exact .inl h
      · refine .inr ?_; simp at h ⊢; omega
    · refine .inr ?_; simp; omega
set_option maxHeartbeats 400000 in
theorem encode_right (zs : List Int) (g off c : Nat) (w : World) (hz : zs.length ≤ 140737488355328) (hc : ∀ j, j < zs.length → w.cell? ⟨g, off + j, none⟩ = some (.int .i32 (zs.getD j 0))) (hv : badFrom zs 0 = -1) :
    Calls Tryd.prog 12 #[.slice (some ⟨g, off, none⟩) zs.length c] w fun e w' => e = .returned (.tuple #[.string (runesBytes zs), .int .i64 0, .int .i64 0]) ∧ w' = w := by
  have key := firstWrong_any zs g off c w hz hc
  rw [hv] at key
  have hcv := run_convert_runes (P := Tryd.prog) w 23 9 21 ⟨g, off, none⟩ zs.length c zs (Nat.le_refl _) Tryd.underlying23 Tryd.underlying21 Tryd.underlying9 (fun j hj => by
    have hadd : (⟨g, off, none⟩ : Addr).add j = ⟨g, off + j, none⟩ := by unfold Addr.add; split <;> simp_all
    rw [hadd]; exact hc j hj)
  rw [List.take_length] at hcv
  clear hv hc
  go_enter Tryd.func12, Tryd.ntmps12
  go_wp2_with (go_at_call 33; refine key.mono ?_; rintro e w' ⟨rfl, rfl⟩)
  go_ret3
  exact ⟨rfl, rfl⟩
theorem newDecoder_any (w : World) : Calls Tryd.prog 16 #[] w fun e w' => e = .returned (.pointer (some ⟨w.heap.size, 0, none⟩)) ∧ w' = w.alloc (.cells #[.string ByteArray.empty] 67) := by
  go_enter Tryd.func16, Tryd.ntmps16
  go_wp2
  go_ret
  exact ⟨rfl, rfl⟩
/-- The text of awake. -/
def awakeS : ByteArray := ⟨#[97, 226, 130]⟩
theorem awake_poss : poss awakeS = [0, 1] := by decide
theorem awake_runes : runesC awakeS [0, 1] = [.int .i32 97, .int .i32 65533] := by
  unfold runesC
  have h0 : pRu awakeS 0 = 97 := by decide
  have h1 : pRu awakeS 1 = 65533 := by decide
  simp [h0, h1]
theorem euro : runesBytes [8364] = ⟨#[226, 130, 172]⟩ := by decide
theorem ownsRow_blk {W : World} {base n : Nat} {e : TypeId} {v : Value} {xs : List Value} (h : W.ownsRow base e 1 v (n + 1) xs) : ∃ g cap cur, v = .slice (some ⟨g, 0, none⟩) (n + 1) cap ∧ base ≤ g ∧ W.heap[g]? = some (.cells cur e (0, 0)) ∧ ∀ j, j < n + 1 → cur[j]? = xs[j]? := by
  obtain ⟨hl, h | ⟨g, cap, cur, rfl, hb, hg, hn, hc, hz, ht⟩⟩ := h
  · omega
  · refine ⟨g, cap, cur, rfl, hb, hg, fun j hj => ?_⟩
    rw [← ht, List.getElem?_take_of_lt (by omega), Array.getElem?_toList]
set_option maxRecDepth 100000 in
set_option maxHeartbeats 1000000 in
theorem awake_any (w : World) (hT : Utf8Tabs 0 1 w) (hg : 2 ≤ w.heap.size) : Calls Tryd.prog 9 #[] w fun e w' => e = .returned (.bool true) ∧ Below w.heap.size w w' := by
  have key := decode_any awakeS w (by decide) hT hg
  rw [awake_poss, awake_runes] at key
  go_enter Tryd.func9, Tryd.ntmps9
  go_wp2_with fail
  refine key.mono ?_
  rintro e w1 ⟨v, rfl, hown, hb⟩
  obtain ⟨g, cap, cur, rfl, hge, hgb, hcur⟩ := ownsRow_blk hown
  have c0 : w1.cell? ⟨g, 0, none⟩ = some (.int .i32 97) := by simpa [World.cell?, hgb] using hcur 0 (by simp)
  have c1 : w1.cell? ⟨g, 1, none⟩ = some (.int .i32 65533) := by simpa [World.cell?, hgb] using hcur 1 (by simp)
  have hgl : g < w1.heap.size := (Array.getElem?_eq_some_iff.1 hgb).1
  have HB : Hid (Below w.heap.size w w1) := hb
  have k2 := encode_right [8364] w1.heap.size 0 1 (w1.alloc (.cells #[.int .i32 8364] 21)) (by decide) (fun j hj => by
    have : j = 0 := by simp at hj; omega
    subst this
    simp [World.cell?_alloc_at]) (by decide)
  rw [euro] at k2
  clear key hown hgb hcur hb
  go_wp2_with fail
  refine k2.mono ?_
  rintro e w2 ⟨rfl, rfl⟩
  go_wp2_with (go_at_call 16; refine (newDecoder_any _).mono ?_; rintro e w' ⟨rfl, rfl⟩)
  go_ret
  exact ⟨rfl, (HB.out.alloc HB.out.size _).alloc (by have := HB.out.size; simp; omega) _⟩
end Go.Proofs.YtabofadjnbpjkabDoor

/-
  IndexRune of a code point that no ASCII text has.
-/
import Derived.Test.YtcjlplaepnpopaaDoorHd
import Derived.Lib.DecodeN
import Derived.LoopN
import Derived.OwnWalk
import Derived.WalkSmall
import Derived.BigQuiet
import Derived.Deep.QuietTactic
import Derived.KernelRfl
import Derived.Laws.RangeAny
import Derived.Scope
import Derived.Deep.RegionWith
namespace Go.Proofs.YtcjlplaepnpopaaDoor
open Go.RowKit
theorem decodeN_ascii (n b0 b1 b2 b3 : Nat) (hn : 1 ≤ n) : (b0 < 128 → Lib.decodeN n b0 b1 b2 b3 = (b0, 1)) ∧ (128 ≤ b0 → 128 ≤ (Lib.decodeN n b0 b1 b2 b3).1 ∧ (Lib.decodeN n b0 b1 b2 b3).1 ≤ 1114111 ∧ ¬ (55296 ≤ (Lib.decodeN n b0 b1 b2 b3).1 ∧ (Lib.decodeN n b0 b1 b2 b3).1 < 57344) ∧ 1 ≤ (Lib.decodeN n b0 b1 b2 b3).2 ∧ (Lib.decodeN n b0 b1 b2 b3).2 ≤ n ∧ (Lib.decodeN n b0 b1 b2 b3).2 ≤ 4 ∧ (1 < (Lib.decodeN n b0 b1 b2 b3).2 → 128 ≤ b1) ∧ (2 < (Lib.decodeN n b0 b1 b2 b3).2 → 128 ≤ b2) ∧ (3 < (Lib.decodeN n b0 b1 b2 b3).2 → 128 ≤ b3)) := by
  constructor
  · intro h
    unfold Lib.decodeN
    rw [if_pos h]
  · intro h
    unfold Lib.decodeN
    repeat' split
    all_goals refine ⟨?_, ?_, ?_, ?_, ?_, ?_, ?_, ?_, ?_⟩
    all_goals (try intros)
    all_goals (try dsimp only at *)
    all_goals omega
theorem dec_any (s : ByteArray) (k : Nat) (h : k < s.size) : (byt s k < 128 ∧ Utf8.decode s k = (byt s k, 1)) ∨ ∃ r z, Utf8.decode s k = (r, z) ∧ 128 ≤ r ∧ r ≤ 1114111 ∧ ¬ (55296 ≤ r ∧ r < 57344) ∧ 1 ≤ z ∧ k + z ≤ s.size ∧ ∀ j, k ≤ j → j < k + z → 128 ≤ byt s j := by
  have e : Utf8.decode s k = Lib.decodeN (s.size - k) (byt s k) (byt s (k + 1)) (byt s (k + 2)) (byt s (k + 3)) := Lib.decode_at s k
  obtain ⟨h1, h2⟩ := decodeN_ascii (s.size - k) (byt s k) (byt s (k + 1)) (byt s (k + 2)) (byt s (k + 3)) (by omega)
  rw [← e] at h1 h2
  obtain ⟨⟨r, z⟩, hr⟩ : ∃ q, Utf8.decode s k = q := ⟨_, rfl⟩
  rw [hr] at h1 h2 ⊢
  clear e hr
  by_cases c : byt s k < 128
  · exact .inl ⟨c, h1 c⟩
  · refine .inr ?_
    obtain ⟨a1, a2, a3, a4, a5, a6, a7, a8, a9⟩ := h2 (by omega)
    dsimp only at a1 a2 a3 a4 a5 a6 a7 a8 a9
    refine ⟨_, _, rfl, a1, a2, a3, a4, by omega, fun j j1 j2 => ?_⟩
    have : j = k ∨ j = k + 1 ∨ j = k + 2 ∨ j = k + 3 := by omega
    rcases this with rfl | rfl | rfl | rfl
    · omega
    · exact a7 (by omega)
    · exact a8 (by omega)
    · exact a9 (by omega)
/-- The bytes of a code point that takes several. -/
theorem enc_high (r : Nat) (h : 128 ≤ r) (h2 : r ≤ 1114111) (h3 : ¬ (55296 ≤ r ∧ r < 57344)) : 2 ≤ (Utf8.encode (r : Int)).size ∧ (Utf8.encode (r : Int)).size ≤ 4 ∧ ∀ j, j < (Utf8.encode (r : Int)).size → 128 ≤ byt (Utf8.encode (r : Int)) j := by
  have hv : Utf8.valid (r : Int) = true := by
    unfold Utf8.valid
    simp only [Bool.or_eq_true, Bool.and_eq_true, decide_eq_true_eq]
    omega
  have hb : ∀ n, 128 ≤ n → n < 256 → 128 ≤ (UInt8.ofNat n).toNat := fun n a b => by rw [UInt8.toNat_ofNat_of_lt' b]; exact a
  have hn : ((r : Int)).toNat = r := by omega
  unfold Utf8.encode
  simp only [hv, if_true, hn]
  repeat' split
  · omega
  · refine ⟨Nat.le_refl 2, (by omega : 2 ≤ 4), fun j hj => ?_⟩
    have hj : j < 2 := hj
    have : j = 0 ∨ j = 1 := by omega
    rcases this with rfl | rfl
    · exact hb _ (by omega) (by omega)
    · exact hb _ (by omega) (by omega)
  · refine ⟨(by omega : 2 ≤ 3), (by omega : 3 ≤ 4), fun j hj => ?_⟩
    have hj : j < 3 := hj
    have : j = 0 ∨ j = 1 ∨ j = 2 := by omega
    rcases this with rfl | rfl | rfl
    · exact hb _ (by omega) (by omega)
    · exact hb _ (by omega) (by omega)
    · exact hb _ (by omega) (by omega)
  · refine ⟨(by omega : 2 ≤ 4), Nat.le_refl 4, fun j hj => ?_⟩
    have hj : j < 4 := hj
    have : j = 0 ∨ j = 1 ∨ j = 2 ∨ j = 3 := by omega
    rcases this with rfl | rfl | rfl | rfl
    · exact hb _ (by omega) (by omega)
    · exact hb _ (by omega) (by omega)
    · exact hb _ (by omega) (by omega)
    · exact hb _ (by omega) (by omega)
/-- A text of ASCII. -/
def Asc (o : ByteArray) : Prop := ∀ j, j < o.size → byt o j < 128
set_option maxRecDepth 100000 in
set_option maxHeartbeats 1000000 in
theorem idxRune_err (o : ByteArray) (w : World) (hA : Asc o) : Calls Tryd.prog 75 #[.string o, .int .i32 65533] w fun e w' => e = .returned (.int .i64 (-1)) ∧ Below w.heap.size w w' := by
  have HA : Hid (Asc o) := hA
  clear hA
  go_enter Tryd.func75, Tryd.ntmps75
  go_wp2
  go_loopw [5, 6] (fun _ _ wr => ∃ i : Nat, i ≤ o.size ∧ wr = w.iter o i) (fun _ _ wr => o.size - wr.iterPos w.heap.size)
  case atStart => exact ⟨0, Nat.zero_le _, rfl⟩
  case round =>
    obtain ⟨i, hi, rfl⟩ := hrel
    by_cases c : i < o.size
    · have hnx := fun ty => run_next_ascii (P := Tryd.prog) w o i ty c (by rw [byt_eq]; exact HA.out i c)
      rw [byt_eq] at hnx
      have hY := HA.out i c
      obtain ⟨Y, eY⟩ : ∃ Y, byt o i = Y := ⟨_, rfl⟩
      rw [eY] at hnx hY
      have e1 : ((Y : Int) == 65533) = false := beq_false_of_ne (by omega)
      clear eY
      go_wp2
      refine ⟨⟨i + 1, by omega, rfl⟩, ?_⟩
      simp
      omega
    · have hnx := fun ty => run_next_end (P := Tryd.prog) w o i ty c
      go_wp2
      exact bodyPost_ret (v := .int .i64 (-1)) (by simp [results, Tryd.results75, go_sem]) rfl ⟨rfl, (Below.refl _ _).alloc (Nat.le_refl _) _⟩
theorem idxB_none : ∀ (l : List UInt8) (c : UInt8), (∀ x ∈ l, x ≠ c) → Lib.indexByte l c = -1
  | [], _, _ => rfl
  | b :: l, c, h => by
    have h1 : (b == c) = false := beq_false_of_ne (h b (by simp))
    have h2 := idxB_none l c fun x hx => h x (by simp [hx])
    rw [Lib.indexByte, h1, h2]
    rfl
theorem asc_byte {o : ByteArray} (hA : Asc o) (a : Nat) {c : UInt8} (hc : 128 ≤ c.toNat) : Lib.indexByte (o.extract a o.size).data.toList c = -1 := by
  refine idxB_none _ _ fun x hx e => ?_
  subst e
  obtain ⟨j, hj, e⟩ := List.getElem_of_mem hx
  have hz : j < (o.extract a o.size).size := by
    rw [Array.length_toList] at hj
    exact hj
  have h1 : ((o.extract a o.size)[j]'hz).toNat = x.toNat := by rw [← e]; rfl
  rw [byt_eq, byt_tail] at h1
  rw [ByteArray.size_extract] at hz
  have := hA (a + j) (by omega)
  omega
set_option maxRecDepth 4000000 in
set_option maxHeartbeats 1000000 in
theorem idxRune_high (o : ByteArray) (r : Nat) (w : World) (ho : o.size ≤ 1000) (hA : Asc o) (h1 : 128 ≤ r) (h2 : r ≤ 1114111) (h3 : ¬ (55296 ≤ r ∧ r < 57344)) (h4 : r ≠ 65533) : Calls Tryd.prog 75 #[.string o, .int .i32 (r : Int)] w fun e w' => e = .returned (.int .i64 (-1)) ∧ Below w.heap.size w w' := by
  obtain ⟨g1, g2, g3⟩ := enc_high r h1 h2 h3
  have kv := Tryd.utf8_ValidRune (r : Int) w
  have hv : Lib.validRune (r : Int) = true := by
    unfold Lib.validRune
    simp
    omega
  rw [hv] at kv
  have d1 : decide ((r : Int) < 128) = false := decide_eq_false (by omega)
  have d2 : ((r : Int) == 65533) = false := beq_false_of_ne (by omega)
  have d3 : (0 : Int) ≤ (r : Int) := by omega
  clear hv h1 h2 h3 h4
  go_enter Tryd.func75, Tryd.ntmps75
  go_wp2_with (go_at_call 90; refine kv.mono ?_; rintro e w' ⟨rfl, hw⟩; rw [hw])
  clear kv hw w'
  refine wp_scope_straight ?_
  obtain ⟨E, hE⟩ : ∃ E, Utf8.encode (r : Int) = E := ⟨_, rfl⟩
  rw [hE] at g1 g2 g3
  have HG : Hid (∀ j, j < E.size → 128 ≤ byt E j) := g3
  have HA : Hid (Asc o) := hA
  clear g3 hA
  have hN : E.size = 2 ∨ E.size = 3 ∨ E.size = 4 := by omega
  rcases hN with hN | hN | hN
  · go_wp2
    go_loopw [9, 10, 11, 12] (fun x _ _ _ wr => wr = w ∧ x = .int .i64 1) (fun _ _ _ _ _ => 0)
    case atStart => exact ⟨rfl, rfl⟩
    case round =>
      obtain ⟨rfl, rfl⟩ := hrel
      by_cases c : 1 < o.size
      · have c1 : (1 : Int) < (o.size : Int) := by omega
        have q0 : (o[1]'c).toNat = byt o 1 := byt_eq o _ c
        have c3 : 1 < E.size := by omega
        have q1 : (E[1]'c3).toNat = byt E 1 := byt_eq E _ c3
        have c8 : (2 : Int) ≤ (o.size : Int) := by omega
        have c9 : 2 ≤ o.size := by omega
        have w1 : IntKind.i64.wrap (2 : Int) = 2 := IntWalk.i64_in _ (by omega)
        have hY := HA.out _ c
        have hZ := HG.out _ c3
        have hb := byt_lt E 1
        have k89 := fun w' => Tryd.strings_IndexByte (o.extract 2 o.size) ((E[1]'c3).toNat : Int) w'
        have ka := asc_byte HA.out 2 (c := ((E[1]'c3).toNat : Int).toNat.toUInt8) (by rw [q1]; simp [UInt8.toNat_ofNat_of_lt' hb]; exact hZ)
        simp only [ka] at k89
        clear ka
        obtain ⟨Y, eY⟩ : ∃ Y, byt o 1 = Y := ⟨_, rfl⟩
        obtain ⟨Z, eZ⟩ : ∃ Z, byt E 1 = Z := ⟨_, rfl⟩
        rw [eY] at q0 hY
        rw [eZ] at q1 hZ hb
        simp only [q1] at k89
        have e1 : ((Y : Int) == (Z : Int)) = false := beq_false_of_ne (by omega)
        have e2 : ((Y : Int) != (Z : Int)) = true := by simp; omega
        clear eY eZ
        go_wp2
        refine wp_scope_straight ?_
        go_wp2
        go_quiet (fail)
        go_wp2
        go_quiet (first | (go_at_call 89; refine (k89 _).mono ?_; rintro e w' ⟨rfl, rfl⟩; exact ⟨rfl, _, rfl⟩))
        go_wp2
        change bodyPost Tryd.prog Tryd.f75 (fun e w' => e = .returned (.int .i64 (-1)) ∧ Below wr.heap.size wr w') Exit.ret _ _
        exact bodyPost_ret (v := .int .i64 (-1)) (by simp [results, Tryd.results75, go_sem]) rfl ⟨rfl, below_drewN (Below.refl _ _) _⟩
      · have c1 : ¬ (1 : Int) < (o.size : Int) := by omega
        go_wp2
        exact bodyPost_ret (v := .int .i64 (-1)) (by simp [results, Tryd.results75, go_sem]) rfl ⟨rfl, Below.refl _ _⟩
  · go_wp2
    go_loopw [9, 10, 11, 12] (fun x _ _ _ wr => wr = w ∧ x = .int .i64 2) (fun _ _ _ _ _ => 0)
    case atStart => exact ⟨rfl, rfl⟩
    case round =>
      obtain ⟨rfl, rfl⟩ := hrel
      by_cases c : 2 < o.size
      · have c1 : (2 : Int) < (o.size : Int) := by omega
        have q0 : (o[2]'c).toNat = byt o 2 := byt_eq o _ c
        have c3 : 2 < E.size := by omega
        have q1 : (E[2]'c3).toNat = byt E 2 := byt_eq E _ c3
        have c8 : (3 : Int) ≤ (o.size : Int) := by omega
        have c9 : 3 ≤ o.size := by omega
        have w1 : IntKind.i64.wrap (3 : Int) = 3 := IntWalk.i64_in _ (by omega)
        have hY := HA.out _ c
        have hZ := HG.out _ c3
        have hb := byt_lt E 2
        have k89 := fun w' => Tryd.strings_IndexByte (o.extract 3 o.size) ((E[2]'c3).toNat : Int) w'
        have ka := asc_byte HA.out 3 (c := ((E[2]'c3).toNat : Int).toNat.toUInt8) (by rw [q1]; simp [UInt8.toNat_ofNat_of_lt' hb]; exact hZ)
        simp only [ka] at k89
        clear ka
        obtain ⟨Y, eY⟩ : ∃ Y, byt o 2 = Y := ⟨_, rfl⟩
        obtain ⟨Z, eZ⟩ : ∃ Z, byt E 2 = Z := ⟨_, rfl⟩
        rw [eY] at q0 hY
        rw [eZ] at q1 hZ hb
        simp only [q1] at k89
        have e1 : ((Y : Int) == (Z : Int)) = false := beq_false_of_ne (by omega)
        have e2 : ((Y : Int) != (Z : Int)) = true := by simp; omega
        clear eY eZ
        go_wp2
        refine wp_scope_straight ?_
        go_wp2
        go_quiet (fail)
        go_wp2
        go_quiet (first | (go_at_call 89; refine (k89 _).mono ?_; rintro e w' ⟨rfl, rfl⟩; exact ⟨rfl, _, rfl⟩))
        go_wp2
        change bodyPost Tryd.prog Tryd.f75 (fun e w' => e = .returned (.int .i64 (-1)) ∧ Below wr.heap.size wr w') Exit.ret _ _
        exact bodyPost_ret (v := .int .i64 (-1)) (by simp [results, Tryd.results75, go_sem]) rfl ⟨rfl, below_drewN (Below.refl _ _) _⟩
      · have c1 : ¬ (2 : Int) < (o.size : Int) := by omega
        go_wp2
        exact bodyPost_ret (v := .int .i64 (-1)) (by simp [results, Tryd.results75, go_sem]) rfl ⟨rfl, Below.refl _ _⟩
  · go_wp2
    go_loopw [9, 10, 11, 12] (fun x _ _ _ wr => wr = w ∧ x = .int .i64 3) (fun _ _ _ _ _ => 0)
    case atStart => exact ⟨rfl, rfl⟩
    case round =>
      obtain ⟨rfl, rfl⟩ := hrel
      by_cases c : 3 < o.size
      · have c1 : (3 : Int) < (o.size : Int) := by omega
        have q0 : (o[3]'c).toNat = byt o 3 := byt_eq o _ c
        have c3 : 3 < E.size := by omega
        have q1 : (E[3]'c3).toNat = byt E 3 := byt_eq E _ c3
        have c8 : (4 : Int) ≤ (o.size : Int) := by omega
        have c9 : 4 ≤ o.size := by omega
        have w1 : IntKind.i64.wrap (4 : Int) = 4 := IntWalk.i64_in _ (by omega)
        have hY := HA.out _ c
        have hZ := HG.out _ c3
        have hb := byt_lt E 3
        have k89 := fun w' => Tryd.strings_IndexByte (o.extract 4 o.size) ((E[3]'c3).toNat : Int) w'
        have ka := asc_byte HA.out 4 (c := ((E[3]'c3).toNat : Int).toNat.toUInt8) (by rw [q1]; simp [UInt8.toNat_ofNat_of_lt' hb]; exact hZ)
        simp only [ka] at k89
        clear ka
        obtain ⟨Y, eY⟩ : ∃ Y, byt o 3 = Y := ⟨_, rfl⟩
        obtain ⟨Z, eZ⟩ : ∃ Z, byt E 3 = Z := ⟨_, rfl⟩
        rw [eY] at q0 hY
        rw [eZ] at q1 hZ hb
        simp only [q1] at k89
        have e1 : ((Y : Int) == (Z : Int)) = false := beq_false_of_ne (by omega)
        have e2 : ((Y : Int) != (Z : Int)) = true := by simp; omega
        clear eY eZ
        go_wp2
        refine wp_scope_straight ?_
        go_wp2
        go_quiet (fail)
        go_wp2
        go_quiet (first | (go_at_call 89; refine (k89 _).mono ?_; rintro e w' ⟨rfl, rfl⟩; exact ⟨rfl, _, rfl⟩))
        go_wp2
        change bodyPost Tryd.prog Tryd.f75 (fun e w' => e = .returned (.int .i64 (-1)) ∧ Below wr.heap.size wr w') Exit.ret _ _
        exact bodyPost_ret (v := .int .i64 (-1)) (by simp [results, Tryd.results75, go_sem]) rfl ⟨rfl, below_drewN (Below.refl _ _) _⟩
      · have c1 : ¬ (3 : Int) < (o.size : Int) := by omega
        go_wp2
        exact bodyPost_ret (v := .int .i64 (-1)) (by simp [results, Tryd.results75, go_sem]) rfl ⟨rfl, Below.refl _ _⟩
end Go.Proofs.YtcjlplaepnpopaaDoor

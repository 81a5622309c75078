/-
  A number's digits to the base 16, as the library's formatBits tells them. Condition: the table of trailing noughts holds what its text lays.
-/
import Derived.Test.YtcjlplaepnpopaaDoorDg
import Derived.Test.YtcjlplaepnpopaaDoorRow
import Derived.Test.YtcjlplaepnpopaaDoorCel
import Derived.Lib.Strings
import Derived.KernelRfl
import Derived.Laws.BytesArg
import Derived.Laws.BitsAllLaws
import Derived.WalkSmall
namespace Go.Proofs.YtcjlplaepnpopaaDoor
open Go.RowKit
/-- The digits of a number, the greatest first. -/
def dgs (b n : Nat) : List Nat := if _h : 2 ≤ b ∧ b ≤ n then dgs b (n / b) ++ [n % b] else [n]
termination_by n
decreasing_by exact Nat.div_lt_self (by omega) (by omega)
theorem dgs_small (b n : Nat) (h : n < b) : dgs b n = [n] := by rw [dgs, dif_neg (by omega)]
theorem dgs_big (b n : Nat) (hb : 2 ≤ b) (h : b ≤ n) : dgs b n = dgs b (n / b) ++ [n % b] := by rw [dgs, dif_pos ⟨hb, h⟩]
/-- Digits as a text. -/
def chs (l : List Nat) : ByteArray := ⟨(l.map fun d => UInt8.ofNat (lowC d)).toArray⟩
theorem chs_app (a c : List Nat) : chs (a ++ c) = chs a ++ chs c := by
  apply ByteArray.ext
  simp [chs]
theorem chs_size (l : List Nat) : (chs l).size = l.length := by simp [chs, ByteArray.size]
theorem low_cut (k : Nat) (h : k < 36) : (⟨#[48, 49, 50, 51, 52, 53, 54, 55, 56, 57, 97, 98, 99, 100, 101, 102, 103, 104, 105, 106, 107, 108, 109, 110, 111, 112, 113, 114, 115, 116, 117, 118, 119, 120, 121, 122]⟩ : ByteArray).extract k (k + 1) = chs [k] := by
  rcases all36 k h with rfl | rfl | rfl | rfl | rfl | rfl | rfl | rfl | rfl | rfl | rfl | rfl | rfl | rfl | rfl | rfl | rfl | rfl | rfl | rfl | rfl | rfl | rfl | rfl | rfl | rfl | rfl | rfl | rfl | rfl | rfl | rfl | rfl | rfl | rfl | rfl <;> rfl
/-- Where the loop stands: the digits so far; they are no more than 63. -/
def PrIn (b n m : Nat) (O : List Nat) : Prop := dgs b n = dgs b m ++ O ∧ (O = [] ∨ 1 ≤ m) ∧ m * 2 ^ O.length ≤ n ∧ n ≤ 18446744073709551615
theorem PrIn.len {b n m : Nat} {O : List Nat} (h : PrIn b n m O) : O.length ≤ 63 := by
  obtain ⟨_, h1, h2, h3⟩ := h
  rcases h1 with rfl | h1
  · simp
  · by_cases q : O.length ≤ 63
    · exact q
    · have : 2 ^ 64 ≤ 2 ^ O.length := Nat.pow_le_pow_right (by omega) (by omega)
      have h4 : 2 ^ O.length ≤ m * 2 ^ O.length := Nat.le_mul_of_pos_left _ h1
      omega
theorem PrIn.next {b n m : Nat} {O : List Nat} (h : PrIn b n m O) (hb : 2 ≤ b) (hm : b ≤ m) : PrIn b n (m / b) (m % b :: O) := by
  obtain ⟨h0, h1, h2, h3⟩ := h
  refine ⟨?_, .inr (Nat.div_pos hm (by omega)), ?_, h3⟩
  · rw [h0, dgs_big b m hb hm, List.append_assoc]; rfl
  · have q1 : m / b * b ≤ m := Nat.div_mul_le_self m b
    have q2 : m / b * 2 ≤ m / b * b := Nat.mul_le_mul_left _ hb
    rw [List.length_cons, Nat.pow_succ, Nat.mul_comm (2 ^ O.length) 2, ← Nat.mul_assoc]
    exact Nat.le_trans (Nat.mul_le_mul_right _ (Nat.le_trans q2 q1)) h2
theorem PrIn.first (b n : Nat) (hn : n ≤ 18446744073709551615) : PrIn b n n [] := ⟨by simp, .inl rfl, by simp, hn⟩
theorem PrIn.last {b n m : Nat} {O : List Nat} (h : PrIn b n m O) (hm : m < b) : dgs b n = m :: O := by rw [h.1, dgs_small b m hm]; rfl
/-- The bases that are powers of two. -/
def pw (b : Nat) : Bool := b == 2 || b == 4 || b == 8 || b == 16 || b == 32
theorem pw_bits : ∀ b : Nat, b < 37 → 2 ≤ b → (bits BinOp.and IntKind.i64 (b : Int) ((b : Int) - 1) == 0) = pw b := by decide +kernel
theorem pow_any (b : Nat) (w : World) (hb1 : 2 ≤ b) (hb2 : b ≤ 36) : Calls Tryd.prog 96 #[.int .i64 b] w fun e w' => e = .returned (.bool (pw b)) ∧ w' = w := by
  have h := pw_bits b (by omega) hb1
  obtain ⟨P, hP⟩ : ∃ P, pw b = P := ⟨_, rfl⟩
  rw [hP] at h ⊢
  go_enter Tryd.func96, Tryd.ntmps96
  go_wp2
  go_ret
  exact ⟨rfl, rfl⟩
theorem info135 : (Tryd.prog.info? 135).map (fun i => (i.zero, i.size)) = some (some (.agg (rowOf .u8 65 fun _ => 0)), 65) := by kernel_rfl
/-- The row's cells, the digits so far at its end. -/
def cls (O : List Nat) (j : Nat) : Int := if 65 - O.length ≤ j then (lowC (O.getD (j - (65 - O.length)) 0) : Int) else 0
theorem cls_next (O : List Nat) (d J : Nat) (hJ : J + 1 + O.length = 65) (j : Nat) (hj : j < 65) : (if j = J then (lowC d : Int) else cls O j) = cls (d :: O) j := by
  unfold cls
  rw [List.length_cons]
  by_cases e : j = J
  · rw [if_pos e, if_pos (by omega), show j - (65 - (O.length + 1)) = 0 by omega]; rfl
  · rw [if_neg e]
    by_cases c : 65 - O.length ≤ j
    · rw [if_pos c, if_pos (by omega), show j - (65 - (O.length + 1)) = (j - (65 - O.length)) + 1 by omega]; rfl
    · rw [if_neg c, if_neg (by omega)]
theorem chs_nums (l : List Nat) : strOfNums (l.map fun d => ((lowC d : Nat) : Int)) = chs l := by
  apply ByteArray.ext
  simp [strOfNums, chs]
theorem cls_conv (W : World) (B J : Nat) (O : List Nat) (hJ : J + O.length = 65) (h : Cel .u8 W B 65 (cls O)) : (convert 76 9 (.slice (some ⟨B, J, none⟩) (65 - J) (65 - J))).run Tryd.prog W = .ok (.string (chs O)) W := by
  have := run_convert_bytes_arg (P := Tryd.prog) W 76 5 Tryd.underlying76 Tryd.underlying5 B J (65 - J) (65 - J) (O.map fun d => ((lowC d : Nat) : Int)) (by simp; omega) (fun i hi => by
    rw [(h (J + i) (by omega)).1]
    unfold cls
    rw [if_pos (by omega), show J + i - (65 - O.length) = i by omega]
    have hi' : i < O.length := by omega
    simp [List.getD, List.getElem?_eq_getElem hi']) 9 Tryd.underlying9
  rw [chs_nums] at this
  exact this
theorem slice135 (B J : Nat) (hJ : J < 65) (W : World) : (Instr.sliceAt 135 (.pointer (some ⟨B, 0, none⟩)) (some (.int .i64 (J : Nat))) none none).run Tryd.prog W = .ok (.slice (some ⟨B, J, none⟩) (65 - J) (65 - J)) W := by
  have hal : Tryd.prog.arrayLen 135 = 65 := by kernel_rfl
  rw [run_sliceAt_array_l W 135 ⟨B, 0, none⟩ (by simp [Program.arrayLen, Program.elem, Tryd.underlying135]) .i64 (J : Nat) (by omega) (by rw [hal]; omega), hal]
  go_simp
  omega
/-- What the table of trailing noughts holds, as far as it is read. -/
def Tz (w : World) : Prop := w.cell? ⟨5, 1, none⟩ = some (.int .u8 1) ∧ w.cell? ⟨5, 3, none⟩ = some (.int .u8 2) ∧ w.cell? ⟨5, 7, none⟩ = some (.int .u8 3) ∧ w.cell? ⟨5, 15, none⟩ = some (.int .u8 4) ∧ w.cell? ⟨5, 31, none⟩ = some (.int .u8 5)
theorem Tz.below {w w' : World} (h : Tz w) (hg : 5 < w.heap.size) (hb : Below w.heap.size w w') : Tz w' := by
  obtain ⟨h1, h2, h3, h4, h5⟩ := h
  exact ⟨(hb.cell (p := ⟨5, _, none⟩) hg).trans h1, (hb.cell (p := ⟨5, _, none⟩) hg).trans h2, (hb.cell (p := ⟨5, _, none⟩) hg).trans h3, (hb.cell (p := ⟨5, _, none⟩) hg).trans h4, (hb.cell (p := ⟨5, _, none⟩) hg).trans h5⟩
set_option maxHeartbeats 1000000 in
theorem tz16 (w : World) (h : Tz w) : Calls Tryd.prog 97 #[.int .u64 16] w fun e w' => e = .returned (.int .i64 4) ∧ w' = w := by
  obtain ⟨h1, h2, h3, h4, h5⟩ := h
  have k : Calls Tryd.prog 100 #[.int .u64 16] w fun e w' => e = .returned (.int .i64 4) ∧ w' = w := by
    have q : bits BinOp.and IntKind.u64 16 (IntKind.u64.wrap (-16)) = 16 := by decide +kernel
    have q2 : IntKind.u64.wrap 4573923408821661840 = 4573923408821661840 := by decide +kernel
    go_enter Tryd.func100, Tryd.ntmps100
    go_wp2
    go_ret
    exact ⟨rfl, rfl⟩
  go_enter Tryd.func97, Tryd.ntmps97
  go_wp2_with (go_at_call 100; refine k.mono ?_; rintro e w' ⟨rfl, rfl⟩)
  go_ret
  exact ⟨rfl, rfl⟩
set_option maxRecDepth 100000 in
set_option maxHeartbeats 4000000 in
theorem fbits16 (n : Nat) (w : World) (hn : n ≤ 18446744073709551615) (hT : Tz w) (hg : 5 < w.heap.size) : Calls Tryd.prog 88 #[.slice none 0 0, .int .u64 n, .int .i64 16, .bool false, .bool false] w fun e w' => e = .returned (.tuple #[.slice none 0 0, .string (chs (dgs 16 n))]) ∧ Below w.heap.size w w' := by
  obtain ⟨hz135, hi135⟩ := zero_of_info info135
  clear hi135
  have kp : ∀ w, Calls Tryd.prog 96 #[.int .i64 16] w fun e w' => e = .returned (.bool true) ∧ w' = w := fun w => pow_any 16 w (by omega) (by omega)
  have kt := tz16 (w.alloc (.cells (rowOf .u8 65 fun _ => 0) 135)) (hT.below hg ((Below.refl _ _).alloc (Nat.le_refl _) _))
  clear hT
  go_enter Tryd.func88, Tryd.ntmps88
  go_wp2_with (first | (go_at_call 96; refine (kp _).mono ?_; rintro e w' ⟨rfl, rfl⟩) | (go_at_call 97; refine kt.mono ?_; rintro e w' ⟨rfl, rfl⟩))
  go_loopw [1, 13] (fun u i wr => ∃ (m : Nat) (O : List Nat) (I : Nat), u = .int .u64 m ∧ i = .int .i64 I ∧ I + O.length = 65 ∧ m ≤ 18446744073709551615 ∧ Hid (PrIn 16 n m O ∧ Cel .u8 wr w.heap.size 65 (cls O) ∧ Below w.heap.size w wr)) (fun u _ _ => (RowKit.intOf u).toNat)
  case atStart =>
    refine ⟨n, [], 65, rfl, rfl, rfl, hn, PrIn.first 16 n hn, ?_, (Below.refl _ _).alloc (Nat.le_refl _) _⟩
    exact (Cel.new w _ 135 fun j hj => (rowOf_get .u8 65 (fun _ => 0) j hj)).congr fun j hj => by unfold cls; rw [if_neg (by simp; omega)]
  case round =>
    obtain ⟨m, O, I, rfl, rfl, hI, hm, HI⟩ := hrel
    obtain ⟨hP, hC, hB⟩ := HI.out
    have hl := hP.len
    obtain ⟨J, rfl⟩ : ∃ J, I = J + 1 := ⟨I - 1, by omega⟩
    obtain ⟨hc, hf⟩ := hC J (by omega)
    have hzw : w.heap.size < wr.heap.size := hC.lt (by omega)
    have hJi : (J : Int) < 65 := by omega
    by_cases hge : 16 ≤ m
    · have hgei : (16 : Int) ≤ (m : Int) := by omega
      have hdl : m % 16 < 16 := Nat.mod_lt _ (by omega)
      have hat := low_at (m % 16) (by omega)
      have hN := hP.next (by omega) hge
      have hlt : m / 16 < m := Nat.div_lt_self (by omega) (by omega)
      have hset := (hC.set J (lowC (m % 16))).congr (cls_next O (m % 16) J hI)
      have hbs : Below w.heap.size w (wr.setCell ⟨w.heap.size, J, none⟩ (.int .u8 (lowC (m % 16)))) := hB.setCell (by simp) _
      have HN : Hid (PrIn 16 n (m / 16) (m % 16 :: O) ∧ Cel .u8 (wr.setCell ⟨w.heap.size, J, none⟩ (.int .u8 (lowC (m % 16)))) w.heap.size 65 (cls (m % 16 :: O)) ∧ Below w.heap.size w (wr.setCell ⟨w.heap.size, J, none⟩ (.int .u8 (lowC (m % 16))))) := ⟨hN, hset, hbs⟩
      clear hset hbs hN hP hC hB HI
      have hdv : m / 16 * 16 + m % 16 = m := by rw [Nat.mul_comm]; exact Nat.div_add_mod m 16
      have hand := u64_and_nat m 15 (by omega) (by omega)
      rw [show m &&& 15 = m % 16 from Nat.and_two_pow_sub_one_eq_mod m 4] at hand
      obtain ⟨d, hd⟩ : ∃ d, m % 16 = d := ⟨_, rfl⟩
      obtain ⟨q, hq⟩ : ∃ q, m / 16 = q := ⟨_, rfl⟩
      rw [hd] at hat HN hdl hdv hand
      rw [hq] at HN hlt hdv
      have hand' : bits BinOp.and IntKind.u64 (m : Int) 15 = (d : Int) := hand
      have hq1 : (m : Int) / 16 = (q : Int) := by omega
      have hq2 : (m : Int) / 2 ^ 4 = (q : Int) := by omega
      have hdi : (d : Int) < 36 := by omega
      obtain ⟨L, hL⟩ : ∃ L, lowC d = L := ⟨_, rfl⟩
      rw [hL] at hat HN
      clear hd hq hL hdl
      go_wp2
      exact ⟨⟨q, d :: O, J, by first | rfl | simp, by first | rfl | simp | go_num, by simp; omega, by omega, HN⟩, by simp [RowKit.intOf]; omega⟩
    · have hgei : ¬ (16 : Int) ≤ (m : Int) := by omega
      have hat := low_at m (by omega)
      have hlast := hP.last (by omega)
      have hset := (hC.set J (lowC m)).congr (cls_next O m J hI)
      have hbs : Below w.heap.size w (wr.setCell ⟨w.heap.size, J, none⟩ (.int .u8 (lowC m))) := hB.setCell (by simp) _
      have hcv := cls_conv (wr.setCell ⟨w.heap.size, J, none⟩ (.int .u8 (lowC m))) w.heap.size J (m :: O) (by simp; omega) hset
      have hsl := slice135 w.heap.size J (by omega)
      have hmi : (m : Int) < 36 := by omega
      have HB : Hid (Below w.heap.size w (wr.setCell ⟨w.heap.size, J, none⟩ (.int .u8 (lowC m)))) := hbs
      have HL : Hid (dgs 16 n = m :: O) := hlast
      rw [← hlast] at hcv
      obtain ⟨L, hL⟩ : ∃ L, lowC m = L := ⟨_, rfl⟩
      rw [hL] at hat HB hcv
      obtain ⟨R, hR⟩ : ∃ R, chs (dgs 16 n) = R := ⟨_, rfl⟩
      rw [hR] at hcv
      have HR : Hid (chs (dgs 16 n) = R) := hR
      clear hset hbs hP hC hB HI hL hlast hR
      go_wp2
      exact bodyPost_ret (v := .tuple #[.slice none 0 0, .string R]) (by simp [results, Tryd.results88, go_sem]) rfl ⟨by rw [HR.out], HB.out⟩
end Go.Proofs.YtcjlplaepnpopaaDoor

/-
  The contract of strconv's formatBits: a number's digits to any base but 10, without a sign. Conditions: the number has 64 bits; the table of trailing noughts holds what its text lays.
-/
import Derived.Test.YtgfgkhgohoaneaaDoorPr
import Derived.Test.YtgfgkhgohoaneaaDoorRow
import Derived.Test.YtgfgkhgohoaneaaDoorCel
import Derived.KernelRfl
import Derived.Laws.BytesArg
import Derived.Laws.BitsAllLaws
import Derived.WalkSmall
namespace Go.Proofs.YtgfgkhgohoaneaaDoor
open Go.RowKit
/-- The bases that are powers of two. -/
def pw (b : Nat) : Bool := b == 2 || b == 4 || b == 8 || b == 16 || b == 32
theorem pw_bits : ∀ b : Nat, b < 37 → 2 ≤ b → (bits BinOp.and IntKind.i64 (b : Int) ((b : Int) - 1) == 0) = pw b := by decide +kernel
theorem pow_any (b : Nat) (w : World) (hb1 : 2 ≤ b) (hb2 : b ≤ 36) : Calls Tryd.prog 33 #[.int .i64 b] w fun e w' => e = .returned (.bool (pw b)) ∧ w' = w := by
  have h := pw_bits b (by omega) hb1
  obtain ⟨P, hP⟩ : ∃ P, pw b = P := ⟨_, rfl⟩
  rw [hP] at h ⊢
  go_enter Tryd.func33, Tryd.ntmps33
  go_wp2
  go_ret
  exact ⟨rfl, rfl⟩
theorem info57 : (Tryd.prog.info? 57).map (fun i => (i.zero, i.size)) = some (some (.agg (rowOf .u8 65 fun _ => 0)), 65) := by kernel_rfl
/-- The row's cells, the digits so far at its end. -/
def cls (O : List Nat) (j : Nat) : Int := if 65 - O.length ≤ j then (lowC (O.getD (j - (65 - O.length)) 0) : Int) else 0
theorem cls_next (O : List Nat) (d J : Nat) (hJ : J + 1 + O.length = 65) (j : Nat) (hj : j < 65) : (if j = J then (lowC d : Int) else cls O j) = cls (d :: O) j := by
  unfold cls
  rw [List.length_cons]
  by_cases e : j = J
  · rw [if_pos e, if_pos (by omega), show j - (65 - (O.length + 1)) = 0 by omega]; rfl
  · rw [if_neg e]
    by_cases c : 65 - O.length ≤ j
    · rw [if_pos c, if_pos (by omega), show j - (65 - (O.length + 1)) = (j - (65 - O.length)) + 1 by omega]; rfl
    · rw [if_neg c, if_neg (by omega)]
theorem chs_nums (l : List Nat) : strOfNums (l.map fun d => ((lowC d : Nat) : Int)) = chs l := by
  apply ByteArray.ext
  simp [strOfNums, chs]
theorem cls_conv (W : World) (B J : Nat) (O : List Nat) (hJ : J + O.length = 65) (h : Cel .u8 W B 65 (cls O)) : (convert 45 9 (.slice (some ⟨B, J, none⟩) (65 - J) (65 - J))).run Tryd.prog W = .ok (.string (chs O)) W := by
  have := run_convert_bytes_arg (P := Tryd.prog) W 45 5 Tryd.underlying45 Tryd.underlying5 B J (65 - J) (65 - J) (O.map fun d => ((lowC d : Nat) : Int)) (by simp; omega) (fun i hi => by
    rw [(h (J + i) (by omega)).1]
    unfold cls
    rw [if_pos (by omega), show J + i - (65 - O.length) = i by omega]
    have hi' : i < O.length := by omega
    simp [List.getD, List.getElem?_eq_getElem hi']) 9 Tryd.underlying9
  rw [chs_nums] at this
  exact this
theorem slice57 (B J : Nat) (hJ : J < 65) (W : World) : (Instr.sliceAt 57 (.pointer (some ⟨B, 0, none⟩)) (some (.int .i64 (J : Nat))) none none).run Tryd.prog W = .ok (.slice (some ⟨B, J, none⟩) (65 - J) (65 - J)) W := by
  have hal : Tryd.prog.arrayLen 57 = 65 := by kernel_rfl
  rw [run_sliceAt_array_l W 57 ⟨B, 0, none⟩ (by simp [Program.arrayLen, Program.elem, Tryd.underlying57]) .i64 (J : Nat) (by omega) (by rw [hal]; omega), hal]
  go_simp
  omega
/-- What the table of trailing noughts holds, as far as it is read. -/
def Tz (w : World) : Prop := w.cell? ⟨2, 1, none⟩ = some (.int .u8 1) ∧ w.cell? ⟨2, 3, none⟩ = some (.int .u8 2) ∧ w.cell? ⟨2, 7, none⟩ = some (.int .u8 3) ∧ w.cell? ⟨2, 15, none⟩ = some (.int .u8 4) ∧ w.cell? ⟨2, 31, none⟩ = some (.int .u8 5)
theorem Tz.below {w w' : World} (h : Tz w) (hg : 2 < w.heap.size) (hb : Below w.heap.size w w') : Tz w' := by
  obtain ⟨h1, h2, h3, h4, h5⟩ := h
  exact ⟨(hb.cell (p := ⟨2, _, none⟩) hg).trans h1, (hb.cell (p := ⟨2, _, none⟩) hg).trans h2, (hb.cell (p := ⟨2, _, none⟩) hg).trans h3, (hb.cell (p := ⟨2, _, none⟩) hg).trans h4, (hb.cell (p := ⟨2, _, none⟩) hg).trans h5⟩
set_option maxHeartbeats 1000000 in
theorem tz2 (w : World) (h : Tz w) : Calls Tryd.prog 34 #[.int .u64 2] w fun e w' => e = .returned (.int .i64 1) ∧ w' = w := by
  obtain ⟨h1, h2, h3, h4, h5⟩ := h
  have k : Calls Tryd.prog 36 #[.int .u64 2] w fun e w' => e = .returned (.int .i64 1) ∧ w' = w := by
    have q : bits BinOp.and IntKind.u64 2 (IntKind.u64.wrap (-2)) = 2 := by decide +kernel
    have q2 : IntKind.u64.wrap 571740426102707730 = 571740426102707730 := by decide +kernel
    go_enter Tryd.func36, Tryd.ntmps36
    go_wp2
    go_ret
    exact ⟨rfl, rfl⟩
  go_enter Tryd.func34, Tryd.ntmps34
  go_wp2_with (go_at_call 36; refine k.mono ?_; rintro e w' ⟨rfl, rfl⟩)
  go_ret
  exact ⟨rfl, rfl⟩
set_option maxHeartbeats 1000000 in
theorem tz4 (w : World) (h : Tz w) : Calls Tryd.prog 34 #[.int .u64 4] w fun e w' => e = .returned (.int .i64 2) ∧ w' = w := by
  obtain ⟨h1, h2, h3, h4, h5⟩ := h
  have k : Calls Tryd.prog 36 #[.int .u64 4] w fun e w' => e = .returned (.int .i64 2) ∧ w' = w := by
    have q : bits BinOp.and IntKind.u64 4 (IntKind.u64.wrap (-4)) = 4 := by decide +kernel
    have q2 : IntKind.u64.wrap 1143480852205415460 = 1143480852205415460 := by decide +kernel
    go_enter Tryd.func36, Tryd.ntmps36
    go_wp2
    go_ret
    exact ⟨rfl, rfl⟩
  go_enter Tryd.func34, Tryd.ntmps34
  go_wp2_with (go_at_call 36; refine k.mono ?_; rintro e w' ⟨rfl, rfl⟩)
  go_ret
  exact ⟨rfl, rfl⟩
set_option maxHeartbeats 1000000 in
theorem tz8 (w : World) (h : Tz w) : Calls Tryd.prog 34 #[.int .u64 8] w fun e w' => e = .returned (.int .i64 3) ∧ w' = w := by
  obtain ⟨h1, h2, h3, h4, h5⟩ := h
  have k : Calls Tryd.prog 36 #[.int .u64 8] w fun e w' => e = .returned (.int .i64 3) ∧ w' = w := by
    have q : bits BinOp.and IntKind.u64 8 (IntKind.u64.wrap (-8)) = 8 := by decide +kernel
    have q2 : IntKind.u64.wrap 2286961704410830920 = 2286961704410830920 := by decide +kernel
    go_enter Tryd.func36, Tryd.ntmps36
    go_wp2
    go_ret
    exact ⟨rfl, rfl⟩
  go_enter Tryd.func34, Tryd.ntmps34
  go_wp2_with (go_at_call 36; refine k.mono ?_; rintro e w' ⟨rfl, rfl⟩)
  go_ret
  exact ⟨rfl, rfl⟩
set_option maxHeartbeats 1000000 in
theorem tz16 (w : World) (h : Tz w) : Calls Tryd.prog 34 #[.int .u64 16] w fun e w' => e = .returned (.int .i64 4) ∧ w' = w := by
  obtain ⟨h1, h2, h3, h4, h5⟩ := h
  have k : Calls Tryd.prog 36 #[.int .u64 16] w fun e w' => e = .returned (.int .i64 4) ∧ w' = w := by
    have q : bits BinOp.and IntKind.u64 16 (IntKind.u64.wrap (-16)) = 16 := by decide +kernel
    have q2 : IntKind.u64.wrap 4573923408821661840 = 4573923408821661840 := by decide +kernel
    go_enter Tryd.func36, Tryd.ntmps36
    go_wp2
    go_ret
    exact ⟨rfl, rfl⟩
  go_enter Tryd.func34, Tryd.ntmps34
  go_wp2_with (go_at_call 36; refine k.mono ?_; rintro e w' ⟨rfl, rfl⟩)
  go_ret
  exact ⟨rfl, rfl⟩
set_option maxHeartbeats 1000000 in
theorem tz32 (w : World) (h : Tz w) : Calls Tryd.prog 34 #[.int .u64 32] w fun e w' => e = .returned (.int .i64 5) ∧ w' = w := by
  obtain ⟨h1, h2, h3, h4, h5⟩ := h
  have k : Calls Tryd.prog 36 #[.int .u64 32] w fun e w' => e = .returned (.int .i64 5) ∧ w' = w := by
    have q : bits BinOp.and IntKind.u64 32 (IntKind.u64.wrap (-32)) = 32 := by decide +kernel
    have q2 : IntKind.u64.wrap 9147846817643323680 = 9147846817643323680 := by decide +kernel
    go_enter Tryd.func36, Tryd.ntmps36
    go_wp2
    go_ret
    exact ⟨rfl, rfl⟩
  go_enter Tryd.func34, Tryd.ntmps34
  go_wp2_with (go_at_call 36; refine k.mono ?_; rintro e w' ⟨rfl, rfl⟩)
  go_ret
  exact ⟨rfl, rfl⟩
attribute [local go_sem] rowOf_size
set_option maxRecDepth 100000 in
set_option maxHeartbeats 4000000 in
theorem fbits_gen (n b : Nat) (w : World) (hn : n ≤ 18446744073709551615) (hb1 : 2 ≤ b) (hb2 : b ≤ 36) (h10 : b ≠ 10) (hpw : pw b = false) : Calls Tryd.prog 29 #[.slice none 0 0, .int .u64 n, .int .i64 b, .bool false, .bool false] w fun e w' => e = .returned (.tuple #[.slice none 0 0, .string (chs (dgs b n))]) ∧ Below w.heap.size w w' := by
  have g1 : decide ((b : Int) < 2) = false := decide_eq_false (by omega)
  have g2 : decide ((36 : Int) < (b : Int)) = false := decide_eq_false (by omega)
  have g3 : ((b : Int) == 10) = false := beq_eq_false_iff_ne.2 (by omega)
  have hbz : ((b : Int) == 0) = false := beq_eq_false_iff_ne.2 (by omega)
  obtain ⟨hz57, hi57⟩ := zero_of_info info57
  clear hi57
  have kp := fun w => pow_any b w hb1 hb2
  rw [hpw] at kp
  go_enter Tryd.func29, Tryd.ntmps29
  go_wp2_with (go_at_call 33; refine (kp _).mono ?_; rintro e w' ⟨rfl, rfl⟩)
  go_loopw [1, 13] (fun u i wr => ∃ (m : Nat) (O : List Nat) (I : Nat), u = .int .u64 m ∧ i = .int .i64 I ∧ I + O.length = 65 ∧ m ≤ 18446744073709551615 ∧ Hid (PrIn b n m O ∧ Cel .u8 wr w.heap.size 65 (cls O) ∧ Below w.heap.size w wr)) (fun u _ _ => (RowKit.intOf u).toNat)
  case atStart =>
    refine ⟨n, [], 65, rfl, rfl, rfl, hn, PrIn.first b n hn, ?_, (Below.refl _ _).alloc (Nat.le_refl _) _⟩
    exact (Cel.new w _ 57 fun j hj => (rowOf_get .u8 65 (fun _ => 0) j hj)).congr fun j hj => by unfold cls; rw [if_neg (by simp; omega)]
  case round =>
    obtain ⟨m, O, I, rfl, rfl, hI, hm, HI⟩ := hrel
    obtain ⟨hP, hC, hB⟩ := HI.out
    have hl := hP.len
    obtain ⟨J, rfl⟩ : ∃ J, I = J + 1 := ⟨I - 1, by omega⟩
    obtain ⟨hc, hf⟩ := hC J (by omega)
    have hzw : w.heap.size < wr.heap.size := hC.lt (by omega)
    have hJi : (J : Int) < 65 := by omega
    by_cases hge : b ≤ m
    · have hgei : (b : Int) ≤ (m : Int) := by omega
      have hdl : m % b < b := Nat.mod_lt _ (by omega)
      have hat := low_at (m % b) (by omega)
      have hN := hP.next (by omega) hge
      have hlt : m / b < m := Nat.div_lt_self (by omega) (by omega)
      have hset := (hC.set J (lowC (m % b))).congr (cls_next O (m % b) J hI)
      have hbs : Below w.heap.size w (wr.setCell ⟨w.heap.size, J, none⟩ (.int .u8 (lowC (m % b)))) := hB.setCell (by simp) _
      have HN : Hid (PrIn b n (m / b) (m % b :: O) ∧ Cel .u8 (wr.setCell ⟨w.heap.size, J, none⟩ (.int .u8 (lowC (m % b)))) w.heap.size 65 (cls (m % b :: O)) ∧ Below w.heap.size w (wr.setCell ⟨w.heap.size, J, none⟩ (.int .u8 (lowC (m % b))))) := ⟨hN, hset, hbs⟩
      clear hset hbs hN hP hC hB HI
      have hdv : m / b * b + m % b = m := by rw [Nat.mul_comm]; exact Nat.div_add_mod m b
      obtain ⟨d, hd⟩ : ∃ d, m % b = d := ⟨_, rfl⟩
      obtain ⟨q, hq⟩ : ∃ q, m / b = q := ⟨_, rfl⟩
      rw [hd] at hat HN hdl hdv
      rw [hq] at HN hlt hdv
      have hq1 : (m : Int) / (b : Int) = (q : Int) := by rw [← hq]; rfl
      obtain ⟨p, hp⟩ : ∃ p, q * b = p := ⟨_, rfl⟩
      rw [hp] at hdv
      have hp1 : (q : Int) * (b : Int) = (p : Int) := by rw [← hp]; simp
      have hsub : (m : Int) - (p : Int) = (d : Int) := by omega
      have hdi : (d : Int) < 36 := by omega
      obtain ⟨L, hL⟩ : ∃ L, lowC d = L := ⟨_, rfl⟩
      rw [hL] at hat HN
      clear hd hq hL hdl hp
      go_wp2
      exact ⟨⟨q, d :: O, J, by first | rfl | simp, by first | rfl | simp | go_num, by simp; omega, by omega, HN⟩, by simp [RowKit.intOf]; omega⟩
    · have hgei : ¬ (b : Int) ≤ (m : Int) := by omega
      have hat := low_at m (by omega)
      have hlast := hP.last (by omega)
      have hset := (hC.set J (lowC m)).congr (cls_next O m J hI)
      have hbs : Below w.heap.size w (wr.setCell ⟨w.heap.size, J, none⟩ (.int .u8 (lowC m))) := hB.setCell (by simp) _
      have hcv := cls_conv (wr.setCell ⟨w.heap.size, J, none⟩ (.int .u8 (lowC m))) w.heap.size J (m :: O) (by simp; omega) hset
      have hsl := slice57 w.heap.size J (by omega)
      have hmi : (m : Int) < 36 := by omega
      have HB : Hid (Below w.heap.size w (wr.setCell ⟨w.heap.size, J, none⟩ (.int .u8 (lowC m)))) := hbs
      have HL : Hid (dgs b n = m :: O) := hlast
      rw [← hlast] at hcv
      obtain ⟨L, hL⟩ : ∃ L, lowC m = L := ⟨_, rfl⟩
      rw [hL] at hat HB hcv
      obtain ⟨R, hR⟩ : ∃ R, chs (dgs b n) = R := ⟨_, rfl⟩
      rw [hR] at hcv
      have HR : Hid (chs (dgs b n) = R) := hR
      clear hset hbs hP hC hB HI hL hlast hR
      go_wp2
      exact bodyPost_ret (v := .tuple #[.slice none 0 0, .string R]) (by simp [results, Tryd.results29, go_sem]) rfl ⟨by rw [HR.out], HB.out⟩
set_option maxRecDepth 100000 in
set_option maxHeartbeats 4000000 in
theorem fbits2 (n : Nat) (w : World) (hn : n ≤ 18446744073709551615) (hT : Tz w) (hg : 2 < w.heap.size) : Calls Tryd.prog 29 #[.slice none 0 0, .int .u64 n, .int .i64 2, .bool false, .bool false] w fun e w' => e = .returned (.tuple #[.slice none 0 0, .string (chs (dgs 2 n))]) ∧ Below w.heap.size w w' := by
  obtain ⟨hz57, hi57⟩ := zero_of_info info57
  clear hi57
  have kp : ∀ w, Calls Tryd.prog 33 #[.int .i64 2] w fun e w' => e = .returned (.bool true) ∧ w' = w := fun w => pow_any 2 w (by omega) (by omega)
  have kt := tz2 (w.alloc (.cells (rowOf .u8 65 fun _ => 0) 57)) (hT.below hg ((Below.refl _ _).alloc (Nat.le_refl _) _))
  clear hT
  go_enter Tryd.func29, Tryd.ntmps29
  go_wp2_with (first | (go_at_call 33; refine (kp _).mono ?_; rintro e w' ⟨rfl, rfl⟩) | (go_at_call 34; refine kt.mono ?_; rintro e w' ⟨rfl, rfl⟩))
  go_loopw [1, 13] (fun u i wr => ∃ (m : Nat) (O : List Nat) (I : Nat), u = .int .u64 m ∧ i = .int .i64 I ∧ I + O.length = 65 ∧ m ≤ 18446744073709551615 ∧ Hid (PrIn 2 n m O ∧ Cel .u8 wr w.heap.size 65 (cls O) ∧ Below w.heap.size w wr)) (fun u _ _ => (RowKit.intOf u).toNat)
  case atStart =>
    refine ⟨n, [], 65, rfl, rfl, rfl, hn, PrIn.first 2 n hn, ?_, (Below.refl _ _).alloc (Nat.le_refl _) _⟩
    exact (Cel.new w _ 57 fun j hj => (rowOf_get .u8 65 (fun _ => 0) j hj)).congr fun j hj => by unfold cls; rw [if_neg (by simp; omega)]
  case round =>
    obtain ⟨m, O, I, rfl, rfl, hI, hm, HI⟩ := hrel
    obtain ⟨hP, hC, hB⟩ := HI.out
    have hl := hP.len
    obtain ⟨J, rfl⟩ : ∃ J, I = J + 1 := ⟨I - 1, by omega⟩
    obtain ⟨hc, hf⟩ := hC J (by omega)
    have hzw : w.heap.size < wr.heap.size := hC.lt (by omega)
    have hJi : (J : Int) < 65 := by omega
    by_cases hge : 2 ≤ m
    · have hgei : (2 : Int) ≤ (m : Int) := by omega
      have hdl : m % 2 < 2 := Nat.mod_lt _ (by omega)
      have hat := low_at (m % 2) (by omega)
      have hN := hP.next (by omega) hge
      have hlt : m / 2 < m := Nat.div_lt_self (by omega) (by omega)
      have hset := (hC.set J (lowC (m % 2))).congr (cls_next O (m % 2) J hI)
      have hbs : Below w.heap.size w (wr.setCell ⟨w.heap.size, J, none⟩ (.int .u8 (lowC (m % 2)))) := hB.setCell (by simp) _
      have HN : Hid (PrIn 2 n (m / 2) (m % 2 :: O) ∧ Cel .u8 (wr.setCell ⟨w.heap.size, J, none⟩ (.int .u8 (lowC (m % 2)))) w.heap.size 65 (cls (m % 2 :: O)) ∧ Below w.heap.size w (wr.setCell ⟨w.heap.size, J, none⟩ (.int .u8 (lowC (m % 2))))) := ⟨hN, hset, hbs⟩
      clear hset hbs hN hP hC hB HI
      have hdv : m / 2 * 2 + m % 2 = m := by rw [Nat.mul_comm]; exact Nat.div_add_mod m 2
      have hand := u64_and_nat m 1 (by omega) (by omega)
      rw [show m &&& 1 = m % 2 from Nat.and_two_pow_sub_one_eq_mod m 1] at hand
      obtain ⟨d, hd⟩ : ∃ d, m % 2 = d := ⟨_, rfl⟩
      obtain ⟨q, hq⟩ : ∃ q, m / 2 = q := ⟨_, rfl⟩
      rw [hd] at hat HN hdl hdv hand
      rw [hq] at HN hlt hdv
      have hand' : bits BinOp.and IntKind.u64 (m : Int) 1 = (d : Int) := hand
      have hq1 : (m : Int) / 2 = (q : Int) := by omega
      have hq2 : (m : Int) / 2 ^ 1 = (q : Int) := by omega
      have hdi : (d : Int) < 36 := by omega
      obtain ⟨L, hL⟩ : ∃ L, lowC d = L := ⟨_, rfl⟩
      rw [hL] at hat HN
      clear hd hq hL hdl
      go_wp2
      exact ⟨⟨q, d :: O, J, by first | rfl | simp, by first | rfl | simp | go_num, by simp; omega, by omega, HN⟩, by simp [RowKit.intOf]; omega⟩
    · have hgei : ¬ (2 : Int) ≤ (m : Int) := by omega
      have hat := low_at m (by omega)
      have hlast := hP.last (by omega)
      have hset := (hC.set J (lowC m)).congr (cls_next O m J hI)
      have hbs : Below w.heap.size w (wr.setCell ⟨w.heap.size, J, none⟩ (.int .u8 (lowC m))) := hB.setCell (by simp) _
      have hcv := cls_conv (wr.setCell ⟨w.heap.size, J, none⟩ (.int .u8 (lowC m))) w.heap.size J (m :: O) (by simp; omega) hset
      have hsl := slice57 w.heap.size J (by omega)
      have hmi : (m : Int) < 36 := by omega
      have HB : Hid (Below w.heap.size w (wr.setCell ⟨w.heap.size, J, none⟩ (.int .u8 (lowC m)))) := hbs
      have HL : Hid (dgs 2 n = m :: O) := hlast
      rw [← hlast] at hcv
      obtain ⟨L, hL⟩ : ∃ L, lowC m = L := ⟨_, rfl⟩
      rw [hL] at hat HB hcv
      obtain ⟨R, hR⟩ : ∃ R, chs (dgs 2 n) = R := ⟨_, rfl⟩
      rw [hR] at hcv
      have HR : Hid (chs (dgs 2 n) = R) := hR
      clear hset hbs hP hC hB HI hL hlast hR
      go_wp2
      exact bodyPost_ret (v := .tuple #[.slice none 0 0, .string R]) (by simp [results, Tryd.results29, go_sem]) rfl ⟨by rw [HR.out], HB.out⟩
set_option maxRecDepth 100000 in
set_option maxHeartbeats 4000000 in
theorem fbits4 (n : Nat) (w : World) (hn : n ≤ 18446744073709551615) (hT : Tz w) (hg : 2 < w.heap.size) : Calls Tryd.prog 29 #[.slice none 0 0, .int .u64 n, .int .i64 4, .bool false, .bool false] w fun e w' => e = .returned (.tuple #[.slice none 0 0, .string (chs (dgs 4 n))]) ∧ Below w.heap.size w w' := by
  obtain ⟨hz57, hi57⟩ := zero_of_info info57
  clear hi57
  have kp : ∀ w, Calls Tryd.prog 33 #[.int .i64 4] w fun e w' => e = .returned (.bool true) ∧ w' = w := fun w => pow_any 4 w (by omega) (by omega)
  have kt := tz4 (w.alloc (.cells (rowOf .u8 65 fun _ => 0) 57)) (hT.below hg ((Below.refl _ _).alloc (Nat.le_refl _) _))
  clear hT
  go_enter Tryd.func29, Tryd.ntmps29
  go_wp2_with (first | (go_at_call 33; refine (kp _).mono ?_; rintro e w' ⟨rfl, rfl⟩) | (go_at_call 34; refine kt.mono ?_; rintro e w' ⟨rfl, rfl⟩))
  go_loopw [1, 13] (fun u i wr => ∃ (m : Nat) (O : List Nat) (I : Nat), u = .int .u64 m ∧ i = .int .i64 I ∧ I + O.length = 65 ∧ m ≤ 18446744073709551615 ∧ Hid (PrIn 4 n m O ∧ Cel .u8 wr w.heap.size 65 (cls O) ∧ Below w.heap.size w wr)) (fun u _ _ => (RowKit.intOf u).toNat)
  case atStart =>
    refine ⟨n, [], 65, rfl, rfl, rfl, hn, PrIn.first 4 n hn, ?_, (Below.refl _ _).alloc (Nat.le_refl _) _⟩
    exact (Cel.new w _ 57 fun j hj => (rowOf_get .u8 65 (fun _ => 0) j hj)).congr fun j hj => by unfold cls; rw [if_neg (by simp; omega)]
  case round =>
    obtain ⟨m, O, I, rfl, rfl, hI, hm, HI⟩ := hrel
    obtain ⟨hP, hC, hB⟩ := HI.out
    have hl := hP.len
    obtain ⟨J, rfl⟩ : ∃ J, I = J + 1 := ⟨I - 1, by omega⟩
    obtain ⟨hc, hf⟩ := hC J (by omega)
    have hzw : w.heap.size < wr.heap.size := hC.lt (by omega)
    have hJi : (J : Int) < 65 := by omega
    by_cases hge : 4 ≤ m
    · have hgei : (4 : Int) ≤ (m : Int) := by omega
      have hdl : m % 4 < 4 := Nat.mod_lt _ (by omega)
      have hat := low_at (m % 4) (by omega)
      have hN := hP.next (by omega) hge
      have hlt : m / 4 < m := Nat.div_lt_self (by omega) (by omega)
      have hset := (hC.set J (lowC (m % 4))).congr (cls_next O (m % 4) J hI)
      have hbs : Below w.heap.size w (wr.setCell ⟨w.heap.size, J, none⟩ (.int .u8 (lowC (m % 4)))) := hB.setCell (by simp) _
      have HN : Hid (PrIn 4 n (m / 4) (m % 4 :: O) ∧ Cel .u8 (wr.setCell ⟨w.heap.size, J, none⟩ (.int .u8 (lowC (m % 4)))) w.heap.size 65 (cls (m % 4 :: O)) ∧ Below w.heap.size w (wr.setCell ⟨w.heap.size, J, none⟩ (.int .u8 (lowC (m % 4))))) := ⟨hN, hset, hbs⟩
      clear hset hbs hN hP hC hB HI
      have hdv : m / 4 * 4 + m % 4 = m := by rw [Nat.mul_comm]; exact Nat.div_add_mod m 4
      have hand := u64_and_nat m 3 (by omega) (by omega)
      rw [show m &&& 3 = m % 4 from Nat.and_two_pow_sub_one_eq_mod m 2] at hand
      obtain ⟨d, hd⟩ : ∃ d, m % 4 = d := ⟨_, rfl⟩
      obtain ⟨q, hq⟩ : ∃ q, m / 4 = q := ⟨_, rfl⟩
      rw [hd] at hat HN hdl hdv hand
      rw [hq] at HN hlt hdv
      have hand' : bits BinOp.and IntKind.u64 (m : Int) 3 = (d : Int) := hand
      have hq1 : (m : Int) / 4 = (q : Int) := by omega
      have hq2 : (m : Int) / 2 ^ 2 = (q : Int) := by omega
      have hdi : (d : Int) < 36 := by omega
      obtain ⟨L, hL⟩ : ∃ L, lowC d = L := ⟨_, rfl⟩
      rw [hL] at hat HN
      clear hd hq hL hdl
      go_wp2
      exact ⟨⟨q, d :: O, J, by first | rfl | simp, by first | rfl | simp | go_num, by simp; omega, by omega, HN⟩, by simp [RowKit.intOf]; omega⟩
    · have hgei : ¬ (4 : Int) ≤ (m : Int) := by omega
      have hat := low_at m (by omega)
      have hlast := hP.last (by omega)
      have hset := (hC.set J (lowC m)).congr (cls_next O m J hI)
      have hbs : Below w.heap.size w (wr.setCell ⟨w.heap.size, J, none⟩ (.int .u8 (lowC m))) := hB.setCell (by simp) _
      have hcv := cls_conv (wr.setCell ⟨w.heap.size, J, none⟩ (.int .u8 (lowC m))) w.heap.size J (m :: O) (by simp; omega) hset
      have hsl := slice57 w.heap.size J (by omega)
      have hmi : (m : Int) < 36 := by omega
      have HB : Hid (Below w.heap.size w (wr.setCell ⟨w.heap.size, J, none⟩ (.int .u8 (lowC m)))) := hbs
      have HL : Hid (dgs 4 n = m :: O) := hlast
      rw [← hlast] at hcv
      obtain ⟨L, hL⟩ : ∃ L, lowC m = L := ⟨_, rfl⟩
      rw [hL] at hat HB hcv
      obtain ⟨R, hR⟩ : ∃ R, chs (dgs 4 n) = R := ⟨_, rfl⟩
      rw [hR] at hcv
      have HR : Hid (chs (dgs 4 n) = R) := hR
      clear hset hbs hP hC hB HI hL hlast hR
      go_wp2
      exact bodyPost_ret (v := .tuple #[.slice none 0 0, .string R]) (by simp [results, Tryd.results29, go_sem]) rfl ⟨by rw [HR.out], HB.out⟩
set_option maxRecDepth 100000 in
set_option maxHeartbeats 4000000 in
theorem fbits8 (n : Nat) (w : World) (hn : n ≤ 18446744073709551615) (hT : Tz w) (hg : 2 < w.heap.size) : Calls Tryd.prog 29 #[.slice none 0 0, .int .u64 n, .int .i64 8, .bool false, .bool false] w fun e w' => e = .returned (.tuple #[.slice none 0 0, .string (chs (dgs 8 n))]) ∧ Below w.heap.size w w' := by
  obtain ⟨hz57, hi57⟩ := zero_of_info info57
  clear hi57
  have kp : ∀ w, Calls Tryd.prog 33 #[.int .i64 8] w fun e w' => e = .returned (.bool true) ∧ w' = w := fun w => pow_any 8 w (by omega) (by omega)
  have kt := tz8 (w.alloc (.cells (rowOf .u8 65 fun _ => 0) 57)) (hT.below hg ((Below.refl _ _).alloc (Nat.le_refl _) _))
  clear hT
  go_enter Tryd.func29, Tryd.ntmps29
  go_wp2_with (first | (go_at_call 33; refine (kp _).mono ?_; rintro e w' ⟨rfl, rfl⟩) | (go_at_call 34; refine kt.mono ?_; rintro e w' ⟨rfl, rfl⟩))
  go_loopw [1, 13] (fun u i wr => ∃ (m : Nat) (O : List Nat) (I : Nat), u = .int .u64 m ∧ i = .int .i64 I ∧ I + O.length = 65 ∧ m ≤ 18446744073709551615 ∧ Hid (PrIn 8 n m O ∧ Cel .u8 wr w.heap.size 65 (cls O) ∧ Below w.heap.size w wr)) (fun u _ _ => (RowKit.intOf u).toNat)
  case atStart =>
    refine ⟨n, [], 65, rfl, rfl, rfl, hn, PrIn.first 8 n hn, ?_, (Below.refl _ _).alloc (Nat.le_refl _) _⟩
    exact (Cel.new w _ 57 fun j hj => (rowOf_get .u8 65 (fun _ => 0) j hj)).congr fun j hj => by unfold cls; rw [if_neg (by simp; omega)]
  case round =>
    obtain ⟨m, O, I, rfl, rfl, hI, hm, HI⟩ := hrel
    obtain ⟨hP, hC, hB⟩ := HI.out
    have hl := hP.len
    obtain ⟨J, rfl⟩ : ∃ J, I = J + 1 := ⟨I - 1, by omega⟩
    obtain ⟨hc, hf⟩ := hC J (by omega)
    have hzw : w.heap.size < wr.heap.size := hC.lt (by omega)
    have hJi : (J : Int) < 65 := by omega
    by_cases hge : 8 ≤ m
    · have hgei : (8 : Int) ≤ (m : Int) := by omega
      have hdl : m % 8 < 8 := Nat.mod_lt _ (by omega)
      have hat := low_at (m % 8) (by omega)
      have hN := hP.next (by omega) hge
      have hlt : m / 8 < m := Nat.div_lt_self (by omega) (by omega)
      have hset := (hC.set J (lowC (m % 8))).congr (cls_next O (m % 8) J hI)
      have hbs : Below w.heap.size w (wr.setCell ⟨w.heap.size, J, none⟩ (.int .u8 (lowC (m % 8)))) := hB.setCell (by simp) _
      have HN : Hid (PrIn 8 n (m / 8) (m % 8 :: O) ∧ Cel .u8 (wr.setCell ⟨w.heap.size, J, none⟩ (.int .u8 (lowC (m % 8)))) w.heap.size 65 (cls (m % 8 :: O)) ∧ Below w.heap.size w (wr.setCell ⟨w.heap.size, J, none⟩ (.int .u8 (lowC (m % 8))))) := ⟨hN, hset, hbs⟩
      clear hset hbs hN hP hC hB HI
      have hdv : m / 8 * 8 + m % 8 = m := by rw [Nat.mul_comm]; exact Nat.div_add_mod m 8
      have hand := u64_and_nat m 7 (by omega) (by omega)
      rw [show m &&& 7 = m % 8 from Nat.and_two_pow_sub_one_eq_mod m 3] at hand
      obtain ⟨d, hd⟩ : ∃ d, m % 8 = d := ⟨_, rfl⟩
      obtain ⟨q, hq⟩ : ∃ q, m / 8 = q := ⟨_, rfl⟩
      rw [hd] at hat HN hdl hdv hand
      rw [hq] at HN hlt hdv
      have hand' : bits BinOp.and IntKind.u64 (m : Int) 7 = (d : Int) := hand
      have hq1 : (m : Int) / 8 = (q : Int) := by omega
      have hq2 : (m : Int) / 2 ^ 3 = (q : Int) := by omega
      have hdi : (d : Int) < 36 := by omega
      obtain ⟨L, hL⟩ : ∃ L, lowC d = L := ⟨_, rfl⟩
      rw [hL] at hat HN
      clear hd hq hL hdl
      go_wp2
      exact ⟨⟨q, d :: O, J, by first | rfl | simp, by first | rfl | simp | go_num, by simp; omega, by omega, HN⟩, by simp [RowKit.intOf]; omega⟩
    · have hgei : ¬ (8 : Int) ≤ (m : Int) := by omega
      have hat := low_at m (by omega)
      have hlast := hP.last (by omega)
      have hset := (hC.set J (lowC m)).congr (cls_next O m J hI)
      have hbs : Below w.heap.size w (wr.setCell ⟨w.heap.size, J, none⟩ (.int .u8 (lowC m))) := hB.setCell (by simp) _
      have hcv := cls_conv (wr.setCell ⟨w.heap.size, J, none⟩ (.int .u8 (lowC m))) w.heap.size J (m :: O) (by simp; omega) hset
      have hsl := slice57 w.heap.size J (by omega)
      have hmi : (m : Int) < 36 := by omega
      have HB : Hid (Below w.heap.size w (wr.setCell ⟨w.heap.size, J, none⟩ (.int .u8 (lowC m)))) := hbs
      have HL : Hid (dgs 8 n = m :: O) := hlast
      rw [← hlast] at hcv
      obtain ⟨L, hL⟩ : ∃ L, lowC m = L := ⟨_, rfl⟩
      rw [hL] at hat HB hcv
      obtain ⟨R, hR⟩ : ∃ R, chs (dgs 8 n) = R := ⟨_, rfl⟩
      rw [hR] at hcv
      have HR : Hid (chs (dgs 8 n) = R) := hR
      clear hset hbs hP hC hB HI hL hlast hR
      go_wp2
      exact bodyPost_ret (v := .tuple #[.slice none 0 0, .string R]) (by simp [results, Tryd.results29, go_sem]) rfl ⟨by rw [HR.out], HB.out⟩
set_option maxRecDepth 100000 in
set_option maxHeartbeats 4000000 in
theorem fbits16 (n : Nat) (w : World) (hn : n ≤ 18446744073709551615) (hT : Tz w) (hg : 2 < w.heap.size) : Calls Tryd.prog 29 #[.slice none 0 0, .int .u64 n, .int .i64 16, .bool false, .bool false] w fun e w' => e = .returned (.tuple #[.slice none 0 0, .string (chs (dgs 16 n))]) ∧ Below w.heap.size w w' := by
  obtain ⟨hz57, hi57⟩ := zero_of_info info57
  clear hi57
  have kp : ∀ w, Calls Tryd.prog 33 #[.int .i64 16] w fun e w' => e = .returned (.bool true) ∧ w' = w := fun w => pow_any 16 w (by omega) (by omega)
  have kt := tz16 (w.alloc (.cells (rowOf .u8 65 fun _ => 0) 57)) (hT.below hg ((Below.refl _ _).alloc (Nat.le_refl _) _))
  clear hT
  go_enter Tryd.func29, Tryd.ntmps29
  go_wp2_with (first | (go_at_call 33; refine (kp _).mono ?_; rintro e w' ⟨rfl, rfl⟩) | (go_at_call 34; refine kt.mono ?_; rintro e w' ⟨rfl, rfl⟩))
  go_loopw [1, 13] (fun u i wr => ∃ (m : Nat) (O : List Nat) (I : Nat), u = .int .u64 m ∧ i = .int .i64 I ∧ I + O.length = 65 ∧ m ≤ 18446744073709551615 ∧ Hid (PrIn 16 n m O ∧ Cel .u8 wr w.heap.size 65 (cls O) ∧ Below w.heap.size w wr)) (fun u _ _ => (RowKit.intOf u).toNat)
  case atStart =>
    refine ⟨n, [], 65, rfl, rfl, rfl, hn, PrIn.first 16 n hn, ?_, (Below.refl _ _).alloc (Nat.le_refl _) _⟩
    exact (Cel.new w _ 57 fun j hj => (rowOf_get .u8 65 (fun _ => 0) j hj)).congr fun j hj => by unfold cls; rw [if_neg (by simp; omega)]
  case round =>
    obtain ⟨m, O, I, rfl, rfl, hI, hm, HI⟩ := hrel
    obtain ⟨hP, hC, hB⟩ := HI.out
    have hl := hP.len
    obtain ⟨J, rfl⟩ : ∃ J, I = J + 1 := ⟨I - 1, by omega⟩
    obtain ⟨hc, hf⟩ := hC J (by omega)
    have hzw : w.heap.size < wr.heap.size := hC.lt (by omega)
    have hJi : (J : Int) < 65 := by omega
    by_cases hge : 16 ≤ m
    · have hgei : (16 : Int) ≤ (m : Int) := by omega
      have hdl : m % 16 < 16 := Nat.mod_lt _ (by omega)
      have hat := low_at (m % 16) (by omega)
      have hN := hP.next (by omega) hge
      have hlt : m / 16 < m := Nat.div_lt_self (by omega) (by omega)
      have hset := (hC.set J (lowC (m % 16))).congr (cls_next O (m % 16) J hI)
      have hbs : Below w.heap.size w (wr.setCell ⟨w.heap.size, J, none⟩ (.int .u8 (lowC (m % 16)))) := hB.setCell (by simp) _
      have HN : Hid (PrIn 16 n (m / 16) (m % 16 :: O) ∧ Cel .u8 (wr.setCell ⟨w.heap.size, J, none⟩ (.int .u8 (lowC (m % 16)))) w.heap.size 65 (cls (m % 16 :: O)) ∧ Below w.heap.size w (wr.setCell ⟨w.heap.size, J, none⟩ (.int .u8 (lowC (m % 16))))) := ⟨hN, hset, hbs⟩
      clear hset hbs hN hP hC hB HI
      have hdv : m / 16 * 16 + m % 16 = m := by rw [Nat.mul_comm]; exact Nat.div_add_mod m 16
      have hand := u64_and_nat m 15 (by omega) (by omega)
      rw [show m &&& 15 = m % 16 from Nat.and_two_pow_sub_one_eq_mod m 4] at hand
      obtain ⟨d, hd⟩ : ∃ d, m % 16 = d := ⟨_, rfl⟩
      obtain ⟨q, hq⟩ : ∃ q, m / 16 = q := ⟨_, rfl⟩
      rw [hd] at hat HN hdl hdv hand
      rw [hq] at HN hlt hdv
      have hand' : bits BinOp.and IntKind.u64 (m : Int) 15 = (d : Int) := hand
      have hq1 : (m : Int) / 16 = (q : Int) := by omega
      have hq2 : (m : Int) / 2 ^ 4 = (q : Int) := by omega
      have hdi : (d : Int) < 36 := by omega
      obtain ⟨L, hL⟩ : ∃ L, lowC d = L := ⟨_, rfl⟩
      rw [hL] at hat HN
      clear hd hq hL hdl
      go_wp2
      exact ⟨⟨q, d :: O, J, by first | rfl | simp, by first | rfl | simp | go_num, by simp; omega, by omega, HN⟩, by simp [RowKit.intOf]; omega⟩
    · have hgei : ¬ (16 : Int) ≤ (m : Int) := by omega
      have hat := low_at m (by omega)
      have hlast := hP.last (by omega)
      have hset := (hC.set J (lowC m)).congr (cls_next O m J hI)
      have hbs : Below w.heap.size w (wr.setCell ⟨w.heap.size, J, none⟩ (.int .u8 (lowC m))) := hB.setCell (by simp) _
      have hcv := cls_conv (wr.setCell ⟨w.heap.size, J, none⟩ (.int .u8 (lowC m))) w.heap.size J (m :: O) (by simp; omega) hset
      have hsl := slice57 w.heap.size J (by omega)
      have hmi : (m : Int) < 36 := by omega
      have HB : Hid (Below w.heap.size w (wr.setCell ⟨w.heap.size, J, none⟩ (.int .u8 (lowC m)))) := hbs
      have HL : Hid (dgs 16 n = m :: O) := hlast
      rw [← hlast] at hcv
      obtain ⟨L, hL⟩ : ∃ L, lowC m = L := ⟨_, rfl⟩
      rw [hL] at hat HB hcv
      obtain ⟨R, hR⟩ : ∃ R, chs (dgs 16 n) = R := ⟨_, rfl⟩
      rw [hR] at hcv
      have HR : Hid (chs (dgs 16 n) = R) := hR
      clear hset hbs hP hC hB HI hL hlast hR
      go_wp2
      exact bodyPost_ret (v := .tuple #[.slice none 0 0, .string R]) (by simp [results, Tryd.results29, go_sem]) rfl ⟨by rw [HR.out], HB.out⟩
set_option maxRecDepth 100000 in
set_option maxHeartbeats 4000000 in
theorem fbits32 (n : Nat) (w : World) (hn : n ≤ 18446744073709551615) (hT : Tz w) (hg : 2 < w.heap.size) : Calls Tryd.prog 29 #[.slice none 0 0, .int .u64 n, .int .i64 32, .bool false, .bool false] w fun e w' => e = .returned (.tuple #[.slice none 0 0, .string (chs (dgs 32 n))]) ∧ Below w.heap.size w w' := by
  obtain ⟨hz57, hi57⟩ := zero_of_info info57
  clear hi57
  have kp : ∀ w, Calls Tryd.prog 33 #[.int .i64 32] w fun e w' => e = .returned (.bool true) ∧ w' = w := fun w => pow_any 32 w (by omega) (by omega)
  have kt := tz32 (w.alloc (.cells (rowOf .u8 65 fun _ => 0) 57)) (hT.below hg ((Below.refl _ _).alloc (Nat.le_refl _) _))
  clear hT
  go_enter Tryd.func29, Tryd.ntmps29
  go_wp2_with (first | (go_at_call 33; refine (kp _).mono ?_; rintro e w' ⟨rfl, rfl⟩) | (go_at_call 34; refine kt.mono ?_; rintro e w' ⟨rfl, rfl⟩))
  go_loopw [1, 13] (fun u i wr => ∃ (m : Nat) (O : List Nat) (I : Nat), u = .int .u64 m ∧ i = .int .i64 I ∧ I + O.length = 65 ∧ m ≤ 18446744073709551615 ∧ Hid (PrIn 32 n m O ∧ Cel .u8 wr w.heap.size 65 (cls O) ∧ Below w.heap.size w wr)) (fun u _ _ => (RowKit.intOf u).toNat)
  case atStart =>
    refine ⟨n, [], 65, rfl, rfl, rfl, hn, PrIn.first 32 n hn, ?_, (Below.refl _ _).alloc (Nat.le_refl _) _⟩
    exact (Cel.new w _ 57 fun j hj => (rowOf_get .u8 65 (fun _ => 0) j hj)).congr fun j hj => by unfold cls; rw [if_neg (by simp; omega)]
  case round =>
    obtain ⟨m, O, I, rfl, rfl, hI, hm, HI⟩ := hrel
    obtain ⟨hP, hC, hB⟩ := HI.out
    have hl := hP.len
    obtain ⟨J, rfl⟩ : ∃ J, I = J + 1 := ⟨I - 1, by omega⟩
    obtain ⟨hc, hf⟩ := hC J (by omega)
    have hzw : w.heap.size < wr.heap.size := hC.lt (by omega)
    have hJi : (J : Int) < 65 := by omega
    by_cases hge : 32 ≤ m
    · have hgei : (32 : Int) ≤ (m : Int) := by omega
      have hdl : m % 32 < 32 := Nat.mod_lt _ (by omega)
      have hat := low_at (m % 32) (by omega)
      have hN := hP.next (by omega) hge
      have hlt : m / 32 < m := Nat.div_lt_self (by omega) (by omega)
      have hset := (hC.set J (lowC (m % 32))).congr (cls_next O (m % 32) J hI)
      have hbs : Below w.heap.size w (wr.setCell ⟨w.heap.size, J, none⟩ (.int .u8 (lowC (m % 32)))) := hB.setCell (by simp) _
      have HN : Hid (PrIn 32 n (m / 32) (m % 32 :: O) ∧ Cel .u8 (wr.setCell ⟨w.heap.size, J, none⟩ (.int .u8 (lowC (m % 32)))) w.heap.size 65 (cls (m % 32 :: O)) ∧ Below w.heap.size w (wr.setCell ⟨w.heap.size, J, none⟩ (.int .u8 (lowC (m % 32))))) := ⟨hN, hset, hbs⟩
      clear hset hbs hN hP hC hB HI
      have hdv : m / 32 * 32 + m % 32 = m := by rw [Nat.mul_comm]; exact Nat.div_add_mod m 32
      have hand := u64_and_nat m 31 (by omega) (by omega)
      rw [show m &&& 31 = m % 32 from Nat.and_two_pow_sub_one_eq_mod m 5] at hand
      obtain ⟨d, hd⟩ : ∃ d, m % 32 = d := ⟨_, rfl⟩
      obtain ⟨q, hq⟩ : ∃ q, m / 32 = q := ⟨_, rfl⟩
      rw [hd] at hat HN hdl hdv hand
      rw [hq] at HN hlt hdv
      have hand' : bits BinOp.and IntKind.u64 (m : Int) 31 = (d : Int) := hand
      have hq1 : (m : Int) / 32 = (q : Int) := by omega
      have hq2 : (m : Int) / 2 ^ 5 = (q : Int) := by omega
      have hdi : (d : Int) < 36 := by omega
      obtain ⟨L, hL⟩ : ∃ L, lowC d = L := ⟨_, rfl⟩
      rw [hL] at hat HN
      clear hd hq hL hdl
      go_wp2
      exact ⟨⟨q, d :: O, J, by first | rfl | simp, by first | rfl | simp | go_num, by simp; omega, by omega, HN⟩, by simp [RowKit.intOf]; omega⟩
    · have hgei : ¬ (32 : Int) ≤ (m : Int) := by omega
      have hat := low_at m (by omega)
      have hlast := hP.last (by omega)
      have hset := (hC.set J (lowC m)).congr (cls_next O m J hI)
      have hbs : Below w.heap.size w (wr.setCell ⟨w.heap.size, J, none⟩ (.int .u8 (lowC m))) := hB.setCell (by simp) _
      have hcv := cls_conv (wr.setCell ⟨w.heap.size, J, none⟩ (.int .u8 (lowC m))) w.heap.size J (m :: O) (by simp; omega) hset
      have hsl := slice57 w.heap.size J (by omega)
      have hmi : (m : Int) < 36 := by omega
      have HB : Hid (Below w.heap.size w (wr.setCell ⟨w.heap.size, J, none⟩ (.int .u8 (lowC m)))) := hbs
      have HL : Hid (dgs 32 n = m :: O) := hlast
      rw [← hlast] at hcv
      obtain ⟨L, hL⟩ : ∃ L, lowC m = L := ⟨_, rfl⟩
      rw [hL] at hat HB hcv
      obtain ⟨R, hR⟩ : ∃ R, chs (dgs 32 n) = R := ⟨_, rfl⟩
      rw [hR] at hcv
      have HR : Hid (chs (dgs 32 n) = R) := hR
      clear hset hbs hP hC hB HI hL hlast hR
      go_wp2
      exact bodyPost_ret (v := .tuple #[.slice none 0 0, .string R]) (by simp [results, Tryd.results29, go_sem]) rfl ⟨by rw [HR.out], HB.out⟩
end Go.Proofs.YtgfgkhgohoaneaaDoor

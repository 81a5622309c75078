/-
  The contract of Unpack for any text: its table, or none. Condition: the text takes no more bytes than one that comes in can.
-/
import Derived.Test.YtookbgmolggohaaUh
import Derived.Lib.ConvBytes
import Derived.Laws.AppendOwn
namespace Go.Proofs.Ytookbgmolggohaa
open Go.RowKit
theorem number_big (s : ByteArray) (w : World) (h : 2 ≤ s.size) : Calls Try.prog 46 #[.string s, .int .i64 0] w fun e w' => e = .returned (.int .i64 (numB s 0 : Nat)) ∧ Below w.heap.size w w' := by
  have q0 : (s[0]'(by omega)).toNat = byt s 0 := byt_eq s 0 (by omega)
  have q1 : (s[1]'(by omega)).toNat = byt s 1 := byt_eq s 1 (by omega)
  have l0 := byt_lt s 0
  have l1 := byt_lt s 1
  have HR : Hid ((numB s 0 : Int) = ((256 * byt s 0 + byt s 1 : Nat) : Int)) := rfl
  generalize byt s 0 = b0 at *
  generalize byt s 1 = b1 at *
  have ho := or8 b0 b1 l0 l1
  have i0 : (0 : Int) < (s.size : Int) := by omega
  have i1 : (1 : Int) < (s.size : Int) := by omega
  go_enter Try.func46, Try.ntmps46
  go_wp2
  go_region
  go_wp2
  go_ret
  exact ⟨by rw [HR.out]; rfl, (Below.refl _ _).drew⟩
/-- The place of a block in a text; what the text says of a code point. -/
def pS (s : ByteArray) (i : Nat) : Nat := numB s (2 * (1 + i))
def FS (s : ByteArray) (p : Int) : Int := if 0 ≤ p then ((numB s (2 * (8705 + 128 * pS s (p.toNat / 128) + p.toNat % 128)) : Nat) : Int) else 0
theorem FS_rng (s : ByteArray) : ∀ p, 0 ≤ FS s p ∧ FS s p ≤ 65535 := fun p => by
  unfold FS
  split
  · have := numB_lt s (2 * (8705 + 128 * pS s (p.toNat / 128) + p.toNat % 128)); omega
  · omega
theorem FS_blk (s : ByteArray) (i : Nat) : blk (FS s) i = blkS s (8705 + 128 * pS s i) := by
  funext j
  unfold blk blkS
  by_cases c : j < 128
  · rw [if_pos c, if_pos c]
    unfold FS
    have e1 : (128 * (i : Int) + (j : Int)).toNat = 128 * i + j := by omega
    have e2 : (128 * i + j) / 128 = i := by omega
    have e3 : (128 * i + j) % 128 = j := by omega
    rw [if_pos (by omega), e1, e2, e3]
  · rw [if_neg c, if_neg c]
def VS (s : ByteArray) (U : Nat) : List (Nat → Int) := (List.range U).map fun u => blkS s (8705 + 128 * u)
theorem VS_at (s : ByteArray) {U u : Nat} (h : u < U) : (VS s U)[u]? = some (blkS s (8705 + 128 * u)) := by simp [VS, h]
/-- A text that is a table's. -/
def Packed (s : ByteArray) : Prop := s.size = 17410 + 256 * numB s 0 ∧ (∀ i, i < 8704 → pS s i < numB s 0) ∧ pkT (FS s) = s
theorem bytes_inj' {a b : ByteArray} (h : a.toList = b.toList) : a = b := by
  rw [ByteArray.toList_eq, ByteArray.toList_eq] at h
  cases a; cases b; simpa using h
set_option maxRecDepth 100000 in
set_option maxHeartbeats 8000000 in
theorem unpack_mid (S : ByteArray) (U : Nat) (w : World) (hU : U = numB S 0) (hs : S.size = 17410 + 256 * U) : Calls Try.prog 25 #[.string S] w fun e w' => (∃ T, e = .returned (.tuple #[.pointer (some ⟨T, 0, none⟩), .int .i64 0]) ∧ TabAt w' T (FS S) ∧ Packed S ∧ Below w.heap.size w w') ∨ (e = .returned (.tuple #[.pointer none, .int .i64 82]) ∧ ¬ Packed S ∧ Below w.heap.size w w') := by
  obtain ⟨i0, hi, hz0, hz1, hz2⟩ := info_parts info72
  have hul : U ≤ 65535 := by have := numB_lt S 0; omega
  have hF := FS_rng S
  have K0 : Hid (∀ W, Calls Try.prog 46 #[.string S, .int .i64 0] W fun e w' => e = .returned (.int .i64 (U : Nat)) ∧ Below W.heap.size W w') := fun W => by
    have := number_big S W (by omega)
    rw [← hU] at this
    exact this
  have K1 : Hid (∀ W (i : Nat), i < 8704 → Calls Try.prog 46 #[.string S, .int .i64 (1 + (i : Int))] W fun e w' => e = .returned (.int .i64 (pS S i : Nat)) ∧ Below W.heap.size W w') := fun W i hi => number_at S (1 + i) W (by omega) (by omega)
  have KB : Hid (∀ W (u : Nat) f, (VS S U)[u]? = some f → Calls Try.prog 47 #[.string S, .int .i64 (8705 + 128 * (u : Int))] W fun e w' => e = .returned (.agg (rowOf .u16 128 f)) ∧ Below W.heap.size W w') := fun W u f hu => by
    have hlu : u < U := by have := (List.getElem?_eq_some_iff.1 hu).1; simpa [VS] using this
    have := block_at S (8705 + 128 * u) W (by omega) (by omega)
    rw [VS_at S hlu] at hu
    cases hu
    exact this
  have KP : Hid (∀ W T, TabAt W T (FS S) → Calls Try.prog 23 #[.pointer (some ⟨T, 0, none⟩)] W fun e w' => e = .returned (.string (pkT (FS S))) ∧ Below W.heap.size W w') := fun W T h1 => pack_any _ _ W (.inr ⟨T, rfl, h1⟩) hF
  have HG : Hid (∀ u, u < U → ∃ f, (VS S U)[u]? = some f) := fun u hu => ⟨_, VS_at S hu⟩
  have HP : Hid (∀ i, i < 8704 → pS S i < U → (VS S U)[pS S i]? = some (blk (FS S) i)) := fun i _ h => by rw [VS_at S h, FS_blk]
  have HQ : Hid (∀ i, i < 8704 → ¬ pS S i < U → ¬ Packed S) := fun i hi h c => h (by rw [hU]; exact c.2.1 i hi)
  have HZ : Hid ((∀ i, i < 8704 → pS S i < U) → pkT (FS S) = S → Packed S) := fun h1 h2 => ⟨by rw [← hU]; exact hs, fun i hi => by rw [← hU]; exact h1 i hi, h2⟩
  have HY : Hid (pkT (FS S) ≠ S → ¬ Packed S) := fun h c => h c.2.2
  have HF : Hid (∀ p, 0 ≤ FS S p ∧ FS S p ≤ 65535) := hF
  have hs2 : (S.size : Int) = 17410 + 256 * (U : Int) := by omega
  have hq : ((17410 + 256 * (U : Int)) != 2 * (8705 + 128 * (U : Int))) = false := by simp; omega
  have hd : decide ((17410 + 256 * (U : Int)) < 17410) = false := decide_eq_false (by omega)
  clear hF hU
  go_enter Try.func25, Try.ntmps25
  go_wp2_with (go_at_call 46; refine (K0.out _).mono ?_)
  rintro e w1 ⟨rfl, b1⟩
  clear K0
  have B1 : Hid (Below w.heap.size w w1) := b1
  clear b1
  go_wp2_with (refine wpList_make_full _ rfl _ _ 74 rfl w1.heap.size 72 i0 _ 128 Try.underlying74 hi hz0 hz1 _ _ _ _ U rfl rfl rfl rfl (by rw [hz2]; omega) (by unfold maxLen; omega) (Nat.le_refl _) ?_)
  intro w2 o2 g2
  have L2 : Hid (Bl w2 w1.heap.size U 0 (VS S U)) := by
    refine ⟨fun j hj => ⟨?_, ?_⟩, fun i f hi => by omega⟩
    · rw [Nat.zero_add, o2.cellAt j hj, List.getElem?_eq_getElem (by rw [o2.1]; exact hj)]
      rfl
    · rw [Nat.zero_add]; exact o2.frozenAt j
  have B2 : Hid (Below w.heap.size w w2) := B1.out.grown g2 B1.out.size (fun k hk => by cases hk)
  have G2 : Hid (w1.heap.size < w2.heap.size ∧ w.heap.size ≤ w1.heap.size) := ⟨(o2.lt _ rfl).2, B1.out.size⟩
  clear o2 g2 B1 hi hz0 hz1 hz2
  generalize w1.heap.size = g at *
  go_wp2_with fail
  go_loopw [25] (fun z wr => ∃ k : Nat, k ≤ U ∧ z = .int .i64 (k : Nat) ∧ Hid (Bl wr g U k (VS S U)) ∧ Hid (Below w.heap.size w wr) ∧ Hid (g < wr.heap.size)) (fun y _ => (U - (intOf y).toNat : Nat))
  case atStart => exact ⟨0, by omega, rfl, L2, B2, G2.out.1⟩
  case round =>
    obtain ⟨k, hk, rfl, hL, hB, hG⟩ := hrel
    clear L2 B2
    by_cases hkl : k < U
    · have jl : (k : Int) < (U : Int) := by omega
      obtain ⟨f, hf⟩ := HG.out k hkl
      have KB2 : Hid (∀ W, Calls Try.prog 47 #[.string S, .int .i64 (8705 + 128 * (k : Int))] W fun e w' => e = .returned (.agg (rowOf .u16 128 f)) ∧ Below W.heap.size W w') := fun W => KB.out W k f hf
      have L3 : Hid (∀ w2, Below wr.heap.size wr w2 → Bl (w2.setCells g (k * 128) (rowOf .u16 128 f).toList) g U (k + 1) (VS S U) ∧ w2.there g (k * 128) (rowOf .u16 128 f).size) := fun w2 hb => by
        have h1 := hL.out.same (hb.block g hG.out)
        refine ⟨h1.put hkl hf, ?_⟩
        rw [rowOf_size]
        exact h1.there hkl
      have hi : Hid ((Try.prog.info? 72).map (·.size) = some (rowOf .u16 128 f).size) := by rw [Hid, rowOf_size]; kernel_rfl
      have h1c : Hid ((rowOf .u16 128 f).all (·.oneCell') = true) := rowOf_one _ _ _
      clear hL hf KB K1 KP HG HP HF
      generalize rowOf .u16 128 f = X at *
      go_wp2_with (go_at_call 47; refine (KB2.out _).mono ?_)
      rintro e w3 ⟨rfl, b3⟩
      obtain ⟨L4, T4⟩ := L3.out w3 b3
      have B4 : Hid (Below w.heap.size w w3) := hB.out.trans (b3.mono hB.out.size)
      have G4 : Hid (g < w3.heap.size) := Nat.lt_of_lt_of_le hG.out b3.size
      replace L4 : Hid (Bl (w3.setCells g (k * 128) X.toList) g U (k + 1) (VS S U)) := L4
      replace T4 : Hid (w3.there g (k * 128) X.size) := T4
      clear L3 b3 hB hG KB2
      go_wp2_with (refine wpList_store_mid rfl 72 _ _ rfl g (k * 128) X rfl rfl T4.out hi.out h1c.out ?_)
      refine ⟨⟨k + 1, ?q1, ?q2, L4, ?q3, ?q4⟩, ?q5⟩
      case q1 => omega
      case q2 => go_num
      case q3 => exact below_setCells (Nat.le_trans G2.out.2 (Nat.le_refl _)) _ _ _ B4.out
      case q4 => exact Nat.lt_of_lt_of_le G4.out (below_setCells (B := 0) (Nat.zero_le _) _ _ _ (Below.refl _ _)).size
      case q5 => simp [intOf]; omega
    · obtain rfl : U = k := by omega
      clear KB HG G2 hk hkl
      go_wp2_with (go_at_call 48; refine (maker_new _).mono ?_)
      rintro e w4 ⟨rfl, rfl⟩
      have hM := maker_mk wr
      have B4 : Hid (Below wr.heap.size wr (((wr.alloc (.cells #[.slice none 0 0, .slice none 0 0] 76)).alloc (.map #[] 0)).alloc (.cells #[.pointer (some ⟨wr.heap.size, 0, none⟩), .map (some (wr.heap.size + 1))] 100))) := (((Below.refl _ wr).alloc (Nat.le_refl _) _).alloc (by simp) _).alloc (by simp; omega) _
      generalize ((wr.alloc (.cells #[.slice none 0 0, .slice none 0 0] 76)).alloc (.map #[] 0)).alloc (.cells #[.pointer (some ⟨wr.heap.size, 0, none⟩), .map (some (wr.heap.size + 1))] 100) = w4 at *
      have L5 : Hid (Bl w4 g U U (VS S U)) := hL.out.same (B4.out.block g hG.out)
      have B5 : Hid (Below w.heap.size w w4) := hB.out.trans (B4.out.mono hB.out.size)
      have N5 : Hid (w.heap.size ≤ wr.heap.size) := hB.out.size
      replace hM : Hid _ := hM
      clear B4 hL hB
      generalize wr.heap.size = N at *
      go_wp2_with fail
      go_loopw [38] (fun z wx => ∃ i : Nat, i ≤ 8704 ∧ z = .int .i64 (i : Nat) ∧ Hid (∀ k, k < i → pS S k < U) ∧ Hid (Bl wx g U U (VS S U)) ∧ Hid (Below w.heap.size w wx) ∧ Hid (∃ pv uv, Mk wx N (N + 2) N (N + 1) pv uv (unl (FS S) i) (plcs (FS S) i))) (fun y _ => (8704 - (intOf y).toNat : Nat))
      case atStart => exact ⟨0, by omega, rfl, fun k hk => by omega, L5, B5, ⟨_, _, hM.out⟩⟩
      case round =>
        clear L5 B5 hM
        obtain ⟨i, hi, rfl, hA, hL, hB, hM⟩ := hrel
        by_cases hil : i < 8704
        · have jl : (i : Int) < 8704 := by omega
          have K3 : Hid (∀ W, Calls Try.prog 46 #[.string S, .int .i64 (1 + (i : Int))] W fun e w' => e = .returned (.int .i64 (pS S i : Nat)) ∧ Below W.heap.size W w') := fun W => K1.out W i hil
          by_cases hp2 : pS S i < U
          · skip
            have hp1 := HP.out i hil hp2
            have hA2 : Hid (∀ k, k < i + 1 → pS S k < U) := fun k hk => by
              by_cases c : k = i
              · subst c; exact hp2
              · exact hA.out k (by omega)
            have hge : decide ((U : Int) ≤ ((pS S i : Nat) : Int)) = false := decide_eq_false (by omega)
            have hp3 : ¬ U ≤ pS S i := by omega
            have hp4 : ((pS S i : Nat) : Int) < (U : Int) := by omega
            have LD : Hid (∀ w2, Below wr.heap.size wr w2 → (loadVar 72 ⟨g, pS S i * 128, none⟩).run Try.prog w2 = .ok (.agg (rowOf .u16 128 (blk (FS S) i))) w2 ∧ Bl w2 g U U (VS S U)) := fun w2 hb => by
              have h1 := hL.out.same (hb.block g (by obtain ⟨pv, uv, m⟩ := hM.out; exact Nat.lt_of_lt_of_le hG.out m.size))
              exact ⟨h1.load hp2 hp1, h1⟩
            have KA : Hid (∀ W, Below wr.heap.size wr W → Calls Try.prog 49 #[.pointer (some ⟨N + 2, 0, none⟩), .agg (rowOf .u16 128 (blk (FS S) i))] W fun e w' => e = .returned (.tuple #[]) ∧ Below N W w' ∧ ∃ pv' uv', Mk w' N (N + 2) N (N + 1) pv' uv' (unl (FS S) (i + 1)) (plcs (FS S) (i + 1))) := fun W hb => by
              obtain ⟨pv, uv, m⟩ := hM.out
              exact add_any N (N + 2) N (N + 1) pv uv (FS S) i W (m.below hb) HF.out hil
            clear hp1 hp2 hL hM K1 KP HP HF HQ HZ HY hA
            generalize rowOf .u16 128 (blk (FS S) i) = X at *
            obtain ⟨p, hpe⟩ : ∃ p, pS S i = p := ⟨_, rfl⟩
            rw [hpe] at K3 hge hp3 hp4 LD
            clear hpe
            go_wp2_with (go_at_call 46; refine (K3.out _).mono ?_)
            rintro e w6 ⟨rfl, b6⟩
            obtain ⟨l6, L6⟩ := LD.out w6 b6
            replace l6 : Hid _ := l6
            replace L6 : Hid (Bl w6 g U U (VS S U)) := L6
            have KA6 : Hid (Calls Try.prog 49 #[.pointer (some ⟨N + 2, 0, none⟩), .agg X] w6 fun e w' => e = .returned (.tuple #[]) ∧ Below N w6 w' ∧ ∃ pv' uv', Mk w' N (N + 2) N (N + 1) pv' uv' (unl (FS S) (i + 1)) (plcs (FS S) (i + 1))) := KA.out w6 b6
            have B6 : Hid (Below w.heap.size w w6) := hB.out.trans (b6.mono hB.out.size)
            clear LD KA b6 hB K3
            go_wp2_with (refine wpList_load_run rfl 72 _ rfl ⟨g, p * 128, none⟩ rfl _ l6.out ?_)
            refine (KA6.out).mono ?_
            rintro e w7 ⟨rfl, b7, m7⟩
            have L7 : Hid (Bl w7 g U U (VS S U)) := L6.out.same (b7.block g hG.out)
            have B7 : Hid (Below w.heap.size w w7) := B6.out.trans (b7.mono N5.out)
            replace m7 : Hid _ := m7
            clear b7 L6 B6 l6 KA6
            go_wp2_with fail
            refine ⟨⟨i + 1, ?r1, ?r2, hA2, L7, B7, m7.out⟩, ?r3⟩
            case r1 => omega
            case r2 => go_num
            case r3 => simp [intOf]; omega
          · have hge : decide ((U : Int) ≤ ((pS S i : Nat) : Int)) = true := decide_eq_true (by omega)
            have hp3 : U ≤ pS S i := by omega
            have HN : Hid (¬ Packed S) := HQ.out i hil hp2
            clear hL hM K1 KP HP HF HQ HZ HY hA hp2
            obtain ⟨p, hpe⟩ : ∃ p, pS S i = p := ⟨_, rfl⟩
            rw [hpe] at K3 hge hp3
            clear hpe
            go_wp2_with (go_at_call 46; refine (K3.out _).mono ?_)
            rintro e w6 ⟨rfl, b6⟩
            have B6 : Hid (Below w.heap.size w w6) := hB.out.trans (b6.mono hB.out.size)
            clear b6 hB K3
            go_wp2
            refine bodyPost_ret (v := .tuple #[.pointer none, .int .i64 82]) ?_ rfl (.inr ⟨rfl, HN.out, B6.out⟩)
            simp [results, Try.results25, go_sem]
        · obtain rfl : i = 8704 := by omega
          have t5 : Hid (TabAt wr N (FS S)) := by obtain ⟨pv, uv, m⟩ := hM.out; exact m.tab
          have m5 : Hid (wr.heap[N + 2]? = some (.cells #[.pointer (some ⟨N, 0, none⟩), .map (some (N + 1))] 100 (0, 0))) := by obtain ⟨pv, uv, m⟩ := hM.out; exact m.m
          obtain ⟨m0, -⟩ := tab_cells m5.out
          have KP5 : Hid (Calls Try.prog 23 #[.pointer (some ⟨N, 0, none⟩)] wr fun e w' => e = .returned (.string (pkT (FS S))) ∧ Below wr.heap.size wr w') := KP.out wr N t5.out
          have HA : Hid (∀ i, i < 8704 → pS S i < U) := hA.out
          have HB9 : Hid (Below w.heap.size w wr) := hB
          by_cases hq5 : pkT (FS S) = S
          · have HPK : Hid (Packed S) := HZ.out HA.out hq5
            rw [hq5] at KP5
            clear hM hL K1 KP HP HF HQ HZ HY hA hq5 hB
            go_wp2_with (go_at_call 23; refine (KP5.out).mono ?_)
            rintro e w7 ⟨rfl, b7⟩
            have t7 : Hid (TabAt w7 N (FS S)) := t5.out.below b7
            have B7 : Hid (Below w.heap.size w w7) := HB9.out.trans (b7.mono HB9.out.size)
            obtain ⟨m7, -⟩ := tab_cells (((b7.block _ (Array.getElem?_eq_some_iff.1 m5.out).1)).trans m5.out)
            clear b7 t5 m5 m0 KP5 HB9
            go_wp2
            refine bodyPost_ret (v := .tuple #[.pointer (some ⟨N, 0, none⟩), .int .i64 0]) ?_ rfl (.inl ⟨N, rfl, t7.out, HPK.out, B7.out⟩)
            simp [results, Try.results25, go_sem]
          · have HPK : Hid (¬ Packed S) := HY.out hq5
            have hne : ((pkT (FS S)).toList == S.toList) = false := beq_false_of_ne fun c => hq5 (bytes_inj' c)
            clear hM hL K1 KP HP HF HQ HZ HY hA hq5 hB
            generalize pkT (FS S) = PP at *
            go_wp2_with (go_at_call 23; refine (KP5.out).mono ?_)
            rintro e w7 ⟨rfl, b7⟩
            have B7 : Hid (Below w.heap.size w w7) := HB9.out.trans (b7.mono HB9.out.size)
            clear b7 t5 m5 m0 KP5 HB9
            go_wp2
            refine bodyPost_ret (v := .tuple #[.pointer none, .int .i64 82]) ?_ rfl (.inr ⟨rfl, HPK.out, B7.out⟩)
            simp [results, Try.results25, go_sem]
theorem unpack_any (S : ByteArray) (w : World) : Calls Try.prog 25 #[.string S] w fun e w' => (∃ T, e = .returned (.tuple #[.pointer (some ⟨T, 0, none⟩), .int .i64 0]) ∧ TabAt w' T (FS S) ∧ Packed S ∧ Below w.heap.size w w') ∨ (e = .returned (.tuple #[.pointer none, .int .i64 82]) ∧ ¬ Packed S ∧ Below w.heap.size w w') := by
  by_cases h1 : S.size < 17410
  · have d : decide ((S.size : Int) < 17410) = true := decide_eq_true (by omega)
    have HN : Hid (¬ Packed S) := fun c => by have := c.1; omega
    clear h1
    go_enter Try.func25, Try.ntmps25
    go_wp2
    refine bodyPost_ret (v := .tuple #[.pointer none, .int .i64 82]) ?_ rfl (.inr ⟨rfl, HN.out, Below.refl _ _⟩)
    simp [results, Try.results25, go_sem]
  · by_cases h2 : S.size = 17410 + 256 * numB S 0
    · exact unpack_mid S (numB S 0) w rfl h2
    · obtain ⟨i0, hi, hz0, hz1, hz2⟩ := info_parts info72
      have d : decide ((S.size : Int) < 17410) = false := decide_eq_false (by omega)
      have HN : Hid (¬ Packed S) := fun c => h2 c.1
      obtain ⟨U, hU⟩ : ∃ U, numB S 0 = U := ⟨_, rfl⟩
      have hul : U ≤ 65535 := by have := numB_lt S 0; omega
      have hq : ((S.size : Int) != 2 * (8705 + 128 * (U : Int))) = true := by simp; omega
      have K0 : Hid (∀ W, Calls Try.prog 46 #[.string S, .int .i64 0] W fun e w' => e = .returned (.int .i64 (U : Nat)) ∧ Below W.heap.size W w') := fun W => by
        have := number_big S W (by omega)
        rw [hU] at this
        exact this
      clear h1 h2 hU
      go_enter Try.func25, Try.ntmps25
      go_wp2_with (go_at_call 46; refine (K0.out _).mono ?_)
      rintro e w1 ⟨rfl, b1⟩
      have B1 : Hid (Below w.heap.size w w1) := b1
      clear b1 K0
      go_wp2_with (refine wpList_make_full _ rfl _ _ 74 rfl w1.heap.size 72 i0 _ 128 Try.underlying74 hi hz0 hz1 _ _ _ _ U rfl rfl rfl rfl (by rw [hz2]; omega) (by unfold maxLen; omega) (Nat.le_refl _) ?_)
      intro w2 o2 g2
      have B2 : Hid (Below w.heap.size w w2) := B1.out.grown g2 B1.out.size (fun k hk => by cases hk)
      clear o2 g2 B1
      go_wp2
      refine bodyPost_ret (v := .tuple #[.pointer none, .int .i64 82]) ?_ rfl (.inr ⟨rfl, HN.out, B2.out⟩)
      simp [results, Try.results25, go_sem]
theorem two_big (s : ByteArray) (w : World) (h : 2 ≤ s.size) : Calls Try.prog 50 #[.string s, .int .i64 0] w fun e w' => e = .returned (.int .i64 (numB s 0 : Nat)) ∧ Below w.heap.size w w' := by
  have q0 : (s[0]'(by omega)).toNat = byt s 0 := byt_eq s 0 (by omega)
  have q1 : (s[1]'(by omega)).toNat = byt s 1 := byt_eq s 1 (by omega)
  have l0 := byt_lt s 0
  have l1 := byt_lt s 1
  have HR : Hid ((numB s 0 : Int) = 256 * (byt s 0 : Int) + (byt s 1 : Int)) := by
    have e : numB s 0 = 256 * byt s 0 + byt s 1 := rfl
    unfold Hid
    omega
  generalize byt s 0 = b0 at *
  generalize byt s 1 = b1 at *
  have i0 : (0 : Int) < (s.size : Int) := by omega
  have i1 : (1 : Int) < (s.size : Int) := by omega
  go_enter Try.func50, Try.ntmps50
  go_wp2
  go_region
  go_wp2
  go_ret
  exact ⟨by rw [HR.out]; rfl, (Below.refl _ _).drew⟩
/-- The stretches of what is said: their own runs, and those of the ones that are not 0. -/
theorem rn_all {F : Int → Int} {X : List Rw} (hF : ∀ p, 0 ≤ F p ∧ F p ≤ 65535) (h : Rn F 0 X 1114112) : okF 0 X ∧ X.length ≤ 1114112 ∧ runsL X = X ∧ okF 0 (lst X) ∧ (lst X).length ≤ 1114112 ∧ runsL (lst X) = X := by
  have hok : okF 0 X := h.tl.ok hF (by decide)
  have hol : okF 0 (lst X) := okF_filter _ hok
  have hlen : X.length ≤ 1114112 := by have := h.len; omega
  refine ⟨hok, hlen, ?_, hol, (rn_fit hF h).2, ?_⟩
  · refine Rn.uniq ((runs_rn hok).congr fun p h0 h1 => ?_) h
    show over nought X p = F p
    rw [Tl.says p h.tl, if_pos ⟨h0, h1⟩]
  · refine Rn.uniq ((runs_rn hol).congr fun p h0 h1 => ?_) h
    show over nought (lst X) p = F p
    rw [Tl.lst_says p h.tl, if_pos ⟨h0, h1⟩]
theorem add_one (B : Nat) (Y : List Rw) (q z : Int) (hl : Y.length < 9000000) : ∀ W v, W.ownsRow B 33 3 v Y.length (cel3 .i64 Y) → B ≤ W.heap.size → Calls Try.prog 33 #[v, .agg #[.int .i64 q, .int .i64 q, .int .i64 z]] W fun e w' => ∃ v', e = .returned v' ∧ w'.ownsRow B 33 3 v' (addR Y (q, q, z)).length (cel3 .i64 (addR Y (q, q, z))) ∧ Below B W w' := fun W v h1 h2 => by
  refine (addr_any B Y (q, q, z) v W h2 h1 hl).mono ?_
  rintro e w' ⟨v', q1, q2, q3, _⟩
  exact ⟨v', q1, q2, q3⟩
set_option maxRecDepth 100000 in
set_option maxHeartbeats 8000000 in
theorem runpack_mid (S : ByteArray) (U : Nat) (w : World) (hU : U = numB S 0) (hs : S.size = 17410 + 256 * U) : Calls Try.prog 26 #[.string S] w fun e w' => ∃ v b, e = .returned (.tuple #[v, .bool b]) ∧ (b = true ↔ Packed S) ∧ (b = true → ∃ X, Rn (FS S) 0 X 1114112 ∧ Rd3 .i64 w' v (lst X)) ∧ Below w.heap.size w w' := by
  have hul : U ≤ 65535 := by have := numB_lt S 0; omega
  have HFS : Hid (∀ p, 0 ≤ FS S p ∧ FS S p ≤ 65535) := FS_rng S
  have K0 : Hid (∀ W, Calls Try.prog 50 #[.string S, .int .i64 0] W fun e w' => e = .returned (.int .i64 (U : Nat)) ∧ Below W.heap.size W w') := fun W => by
    have := two_big S W (by omega)
    rw [← hU] at this
    exact this
  have K1 : Hid (∀ W (i : Nat), i < 8704 → Calls Try.prog 50 #[.string S, .int .i64 (2 + 2 * (i : Int))] W fun e w' => e = .returned (.int .i64 (pS S i : Nat)) ∧ Below W.heap.size W w') := fun W i hi => by
    have := two_at S (2 * (1 + i)) W (by omega) (by omega)
    rw [show ((2 * (1 + i) : Nat) : Int) = 2 + 2 * (i : Int) by omega] at this
    exact this
  have K2 : Hid (∀ W (b i : Nat), b < 8704 → pS S b < U → i < 128 → Calls Try.prog 50 #[.string S, .int .i64 (17410 + 256 * ((pS S b : Nat) : Int) + 2 * (i : Int))] W fun e w' => e = .returned (.int .i64 (FS S (128 * (b : Int) + (i : Int)))) ∧ Below W.heap.size W w') := fun W b i hb hp hi => by
    have := two_at S (2 * (8705 + 128 * pS S b + i)) W (by omega) (by omega)
    have e : FS S (128 * (b : Int) + (i : Int)) = ((numB S (2 * (8705 + 128 * pS S b + i)) : Nat) : Int) := by
      unfold FS
      have e1 : (128 * (b : Int) + (i : Int)).toNat = 128 * b + i := by omega
      have e2 : (128 * b + i) / 128 = b := by omega
      have e3 : (128 * b + i) % 128 = i := by omega
      rw [if_pos (by omega), e1, e2, e3]
    rw [e]
    rw [show ((2 * (8705 + 128 * pS S b + i) : Nat) : Int) = 17410 + 256 * ((pS S b : Nat) : Int) + 2 * (i : Int) by omega] at this
    exact this
  have HQ : Hid (∀ i, i < 8704 → ¬ pS S i < U → ¬ Packed S) := fun i hi h c => h (by rw [hU]; exact c.2.1 i hi)
  have HZ : Hid ((∀ i, i < 8704 → pS S i < U) → (pkT (FS S) = S ↔ Packed S)) := fun h1 => ⟨fun h2 => ⟨by rw [← hU]; exact hs, fun i hi => by rw [← hU]; exact h1 i hi, h2⟩, fun c => c.2.2⟩
  have hd : decide ((S.size : Int) < 17410) = false := decide_eq_false (by omega)
  have hq : ((S.size : Int) != 17410 + 256 * (U : Int)) = false := by simp; omega
  clear hU hs
  go_enter Try.func26, Try.ntmps26
  go_wp2_with (go_at_call 50; refine (K0.out _).mono ?_)
  first | rintro e w1 rfl b1 | rintro e w1 ⟨rfl, b1⟩
  have O0 : Hid ((w1.alloc (.cells #[] 33)).ownsRow w1.heap.size 33 3 (.slice (some ⟨w1.heap.size, 0, none⟩) 0 0) ([] : List Rw).length (cel3 .i64 [])) := own_none w1 w1.heap.size 33 3 (Nat.le_refl _)
  have B0 : Hid (Below w1.heap.size w1 (w1.alloc (.cells #[] 33))) := (Below.refl _ _).alloc (Nat.le_refl _) _
  have B1 : Hid (Below w.heap.size w w1) := b1
  clear b1
  go_wp2_with fail
  generalize w1.alloc (.cells #[] 33) = W0 at *
  go_loopw [4, 5] (fun v z wr => ∃ (b : Nat) (X : List Rw), b ≤ 8704 ∧ z = .int .i64 (b : Nat) ∧ Hid (Rn (FS S) 0 X (128 * (b : Int))) ∧ Hid (∀ k, k < b → pS S k < U) ∧ Hid (wr.ownsRow w1.heap.size 33 3 v X.length (cel3 .i64 X)) ∧ Hid (Below w1.heap.size w1 wr)) (fun _ z _ => (8704 - (intOf z).toNat : Nat))
  case atStart => exact ⟨0, [], by omega, rfl, (rfl : (0 : Int) = 128 * ((0 : Nat) : Int)), fun k hk => by omega, O0, B0⟩
  case round =>
    clear O0 B0
    obtain ⟨b, X, hb, rfl, hX, hA, hO, hB⟩ := hrel
    by_cases hbl : b < 8704
    · have bl : (b : Int) < 8704 := by omega
      have KA : Hid (∀ W, Calls Try.prog 50 #[.string S, .int .i64 (2 + 2 * (b : Int))] W fun e w' => e = .returned (.int .i64 (pS S b : Nat)) ∧ Below W.heap.size W w') := fun W => K1.out W b hbl
      by_cases hp : pS S b < U
      · have HA2 : Hid (∀ k, k < b + 1 → pS S k < U) := fun k hk => by
          by_cases c : k = b
          · subst c; exact hp
          · exact hA.out k (by omega)
        have KC : Hid (∀ W (i : Nat), i < 128 → Calls Try.prog 50 #[.string S, .int .i64 (17410 + 256 * ((pS S b : Nat) : Int) + 2 * (i : Int))] W fun e w' => e = .returned (.int .i64 (FS S (128 * (b : Int) + (i : Int)))) ∧ Below W.heap.size W w') := fun W i hi => K2.out W b i hbl hp hi
        have hge : ¬ U ≤ pS S b := by omega
        have hpi : ((pS S b : Nat) : Int) ≤ 65535 := by omega
        have HBL : Hid (b < 8704) := hbl
        clear hA hp hb hbl K1 K2 HQ HZ
        obtain ⟨p, hpe⟩ : ∃ p, pS S b = p := ⟨_, rfl⟩
        rw [hpe] at KA KC hge hpi
        clear hpe
        go_wp2_with (go_at_call 50; refine (KA.out _).mono ?_)
        first | rintro e w2 rfl b2 | rintro e w2 ⟨rfl, b2⟩
        have O2 : Hid (w2.ownsRow w1.heap.size 33 3 u4 X.length (cel3 .i64 X)) := owns_below hO.out b2
        have B2 : Hid (Below w1.heap.size w1 w2) := hB.out.trans (b2.mono hB.out.size)
        clear b2 hO hB KA
        go_wp2_with (go_at_call 50; refine (K0.out _).mono ?_)
        first | rintro e w3 rfl b3 | rintro e w3 ⟨rfl, b3⟩
        have O3 : Hid (w3.ownsRow w1.heap.size 33 3 u4 X.length (cel3 .i64 X)) := owns_below O2.out b3
        have B3 : Hid (Below w1.heap.size w1 w3) := B2.out.trans (b3.mono B2.out.size)
        clear b3 O2 B2 K0
        go_wp2_with fail
        go_loopw [4, 7] (fun v z wr => ∃ (i : Nat) (Y : List Rw), i ≤ 128 ∧ z = .int .i64 (i : Nat) ∧ Hid (Rn (FS S) 0 Y (128 * (b : Int) + (i : Int))) ∧ Hid (wr.ownsRow w1.heap.size 33 3 v Y.length (cel3 .i64 Y)) ∧ Hid (Below w1.heap.size w1 wr)) (fun _ z _ => (128 - (intOf z).toNat : Nat))
        case atStart => exact ⟨0, X, by omega, rfl, by rw [show ((0 : Nat) : Int) = 0 from rfl, Int.add_zero]; exact hX, O3, B3⟩
        case round =>
          clear O3 B3 hX
          obtain ⟨i, Y, hi, rfl, hY, hO, hB⟩ := hrel
          by_cases hil : i < 128
          · have il : (i : Int) < 128 := by omega
            have KC2 : Hid (∀ W, Calls Try.prog 50 #[.string S, .int .i64 (17410 + 256 * (p : Int) + 2 * (i : Int))] W fun e w' => e = .returned (.int .i64 (FS S (128 * (b : Int) + (i : Int)))) ∧ Below W.heap.size W w') := fun W => KC.out W i hil
            have HYL : Hid (Y.length < 9000000) := by have := hY.out.len; have := HBL.out; unfold Hid; omega
            have HY2 : Hid (Rn (FS S) 0 (addR Y (128 * (b : Int) + (i : Int), 128 * (b : Int) + (i : Int), FS S (128 * (b : Int) + (i : Int)))) (128 * (b : Int) + ((i + 1 : Nat) : Int))) := by
              have := hY.out.add (x := (128 * (b : Int) + (i : Int), 128 * (b : Int) + (i : Int), FS S (128 * (b : Int) + (i : Int)))) rfl (Int.le_refl _) (fun q h1 h2 => by rw [show q = 128 * (b : Int) + (i : Int) from Int.le_antisymm h2 h1])
              unfold Hid
              rw [show 128 * (b : Int) + ((i + 1 : Nat) : Int) = 128 * (b : Int) + (i : Int) + 1 by omega]
              exact this
            have HI : Hid (i < 128) := hil
            obtain ⟨z, hz⟩ : ∃ z, FS S (128 * (b : Int) + (i : Int)) = z := ⟨_, rfl⟩
            rw [hz] at HY2 KC2
            have KD : Hid (∀ W v, W.ownsRow w1.heap.size 33 3 v Y.length (cel3 .i64 Y) → w1.heap.size ≤ W.heap.size → Calls Try.prog 33 #[v, .agg #[.int .i64 (128 * (b : Int) + (i : Int)), .int .i64 (128 * (b : Int) + (i : Int)), .int .i64 z]] W fun e w' => ∃ v', e = .returned v' ∧ w'.ownsRow w1.heap.size 33 3 v' (addR Y (128 * (b : Int) + (i : Int), 128 * (b : Int) + (i : Int), z)).length (cel3 .i64 (addR Y (128 * (b : Int) + (i : Int), 128 * (b : Int) + (i : Int), z))) ∧ Below w1.heap.size W w') := add_one w1.heap.size Y (128 * (b : Int) + (i : Int)) z HYL.out
            obtain ⟨Z, hZ⟩ : ∃ Z, addR Y (128 * (b : Int) + (i : Int), 128 * (b : Int) + (i : Int), z) = Z := ⟨_, rfl⟩
            rw [hZ] at HY2 KD
            clear hZ hz hY hi hil HYL KC
            go_wp2_with (go_at_call 50; refine (KC2.out _).mono ?_)
            first | rintro e w4 rfl b4 | rintro e w4 ⟨rfl, b4⟩
            have O4 : Hid (w4.ownsRow w1.heap.size 33 3 u4 Y.length (cel3 .i64 Y)) := owns_below hO.out b4
            have B4 : Hid (Below w1.heap.size w1 w4) := hB.out.trans (b4.mono hB.out.size)
            clear b4 hO hB KC2
            go_wp2_with (go_at_call 33; refine (KD.out _ _ O4.out B4.out.size).mono ?_)
            first | rintro e w5 v5 rfl o5 b5 | rintro e w5 ⟨v5, rfl, o5, b5⟩
            have O5 : Hid (w5.ownsRow w1.heap.size 33 3 v5 Z.length (cel3 .i64 Z)) := o5
            have B5 : Hid (Below w1.heap.size w1 w5) := B4.out.trans b5
            clear o5 b5 O4 B4 KD
            go_wp2
            refine ⟨⟨i + 1, Z, ?_, ?_, HY2, O5, B5⟩, ?_⟩
            · have := HI.out; omega
            · go_num
            · have := HI.out; simp [intOf]; omega
          · have hii : i = 128 := by omega
            subst hii
            have HX2 : Hid (Rn (FS S) 0 Y (128 * ((b + 1 : Nat) : Int))) := by
              unfold Hid
              rw [show 128 * ((b + 1 : Nat) : Int) = 128 * (b : Int) + ((128 : Nat) : Int) by omega]
              exact hY.out
            clear hY hi hil
            go_wp2
            refine ⟨⟨b + 1, Y, ?_, ?_, HX2, HA2, hO, hB⟩, ?_⟩
            · have := HBL.out; omega
            · go_num
            · have := HBL.out; simp [intOf]; omega
      · have HN : Hid (¬ Packed S) := HQ.out b hbl hp
        have hge : U ≤ pS S b := by omega
        have hpi : ((pS S b : Nat) : Int) ≤ 65535 := by have := numB_lt S (2 * (1 + b)); unfold pS; omega
        clear hA hp hb hbl K1 K2 HQ HZ hX hO
        obtain ⟨p, hpe⟩ : ∃ p, pS S b = p := ⟨_, rfl⟩
        rw [hpe] at KA hge hpi
        clear hpe
        go_wp2_with (go_at_call 50; refine (KA.out _).mono ?_)
        first | rintro e w2 rfl b2 | rintro e w2 ⟨rfl, b2⟩
        have B2 : Hid (Below w1.heap.size w1 w2) := hB.out.trans (b2.mono hB.out.size)
        clear b2 hB KA
        go_wp2_with (go_at_call 50; refine (K0.out _).mono ?_)
        first | rintro e w3 rfl b3 | rintro e w3 ⟨rfl, b3⟩
        have B3 : Hid (Below w.heap.size w w3) := B1.out.trans ((B2.out.trans (b3.mono B2.out.size)).mono B1.out.size)
        clear b3 B2 K0 B1
        go_wp2
        refine bodyPost_ret (v := .tuple #[.slice none 0 0, .bool false]) ?_ rfl ⟨_, false, rfl, ⟨fun h => Bool.noConfusion h, fun h => absurd h HN.out⟩, fun h => Bool.noConfusion h, B3.out⟩
        simp [results, Try.results26, go_sem]
    · have hbb : b = 8704 := by omega
      subst hbb
      have hX2 : Rn (FS S) 0 X 1114112 := hX.out
      obtain ⟨h1, h2, h3, h4, h5, h6⟩ := rn_all HFS.out hX2
      have KL : Hid (∀ W v, Rd3 .i64 W v X → Calls Try.prog 21 #[v] W fun e w' => ∃ v', e = .returned v' ∧ Rd3 .i64 w' v' (lst X) ∧ Below W.heap.size W w') := fun W v hv => (least_any X v W hv h1 (by omega) (by rw [h3]; omega)).mono fun e w' ⟨v', q1, q2, q3⟩ => ⟨v', q1, by rw [h3] at q2; exact Rd3.of_owns q2, q3⟩
      have KK : Hid (∀ W v, Rd3 .i64 W v (lst X) → Calls Try.prog 22 #[v] W fun e w' => e = .returned (.tuple #[.string (pkT (FS S)), .int .i64 ((unl (FS S) 8704).length : Nat)]) ∧ Below W.heap.size W w') := fun W v hv => rpack_any (FS S) X v W hX2 HFS.out ((runs_any (lst X) v W hv h4 (by omega)).mono fun e w' ⟨v', q1, q2, q3⟩ => ⟨v', q1, by rw [h6] at q2; exact Rd3.of_owns q2, q3⟩)
      have HZ2 : Hid (pkT (FS S) = S ↔ Packed S) := HZ.out hA.out
      have HXX : Hid (Rn (FS S) 0 X 1114112) := hX2
      have R0 : Hid (Rd3 .i64 wr u4 X) := Rd3.of_owns hO.out
      have B2 : Hid (Below w.heap.size w wr) := B1.out.trans (hB.out.mono B1.out.size)
      generalize (unl (FS S) 8704).length = un at *
      clear h1 h2 h3 h4 h5 h6 hX hX2 hA hO hB K0 K1 K2 HQ HZ hb hbl B1
      obtain ⟨P, hP⟩ : ∃ P, pkT (FS S) = P := ⟨_, rfl⟩
      rw [hP] at KK HZ2
      clear hP
      go_wp2_with (go_at_call 21; refine (KL.out _ _ R0.out).mono ?_)
      first | rintro e w4 v4 rfl r4 b4 | rintro e w4 ⟨v4, rfl, r4, b4⟩
      have R1 : Hid (Rd3 .i64 w4 u4 X) := R0.out.below b4
      have R2 : Hid (Rd3 .i64 w4 v4 (lst X)) := r4
      have B3 : Hid (Below w.heap.size w w4) := B2.out.trans (b4.mono B2.out.size)
      clear b4 r4 R0 B2
      go_wp2_with (go_at_call 22; refine (KK.out _ _ R2.out).mono ?_)
      first | rintro e w5 rfl b5 | rintro e w5 ⟨rfl, b5⟩
      have R3 : Hid (Rd3 .i64 w5 u4 X) := R1.out.below b5
      have B4 : Hid (Below w.heap.size w w5) := B3.out.trans (b5.mono B3.out.size)
      clear b5 R1 R2 B3 KK
      go_wp2_with (go_at_call 21; refine (KL.out _ _ R3.out).mono ?_)
      first | rintro e w6 v6 rfl r6 b6 | rintro e w6 ⟨v6, rfl, r6, b6⟩
      have R4 : Hid (Rd3 .i64 w6 v6 (lst X)) := r6
      have B5 : Hid (Below w.heap.size w w6) := B4.out.trans (b6.mono B4.out.size)
      have HE : Hid ((P.toList == S.toList) = true ↔ Packed S) := by
        unfold Hid
        rw [← HZ2.out]
        constructor
        · intro h; exact bytes_inj' (by simpa using h)
        · intro h; rw [h]; simp
      clear b6 r6 R3 B4 KL HZ2
      go_wp2
      refine bodyPost_ret (v := .tuple #[v6, .bool (P.toList == S.toList)]) ?_ rfl ⟨v6, _, rfl, HE.out, fun _ => ⟨X, HXX.out, R4.out⟩, B5.out⟩
      simp [results, Try.results26, go_sem]
theorem runpack_any (S : ByteArray) (w : World) : Calls Try.prog 26 #[.string S] w fun e w' => ∃ v b, e = .returned (.tuple #[v, .bool b]) ∧ (b = true ↔ Packed S) ∧ (b = true → ∃ X, Rn (FS S) 0 X 1114112 ∧ Rd3 .i64 w' v (lst X)) ∧ Below w.heap.size w w' := by
  by_cases h1 : S.size < 17410
  · have d : decide ((S.size : Int) < 17410) = true := decide_eq_true (by omega)
    have HN : Hid (¬ Packed S) := fun c => by have := c.1; omega
    clear h1
    go_enter Try.func26, Try.ntmps26
    go_wp2
    refine bodyPost_ret (v := .tuple #[.slice none 0 0, .bool false]) ?_ rfl ⟨_, false, rfl, ⟨fun h => Bool.noConfusion h, fun h => absurd h HN.out⟩, fun h => Bool.noConfusion h, Below.refl _ _⟩
    simp [results, Try.results26, go_sem]
  · by_cases h2 : S.size = 17410 + 256 * numB S 0
    · exact runpack_mid S (numB S 0) w rfl h2
    · have d : decide ((S.size : Int) < 17410) = false := decide_eq_false (by omega)
      have HN : Hid (¬ Packed S) := fun c => h2 c.1
      obtain ⟨U, hU⟩ : ∃ U, numB S 0 = U := ⟨_, rfl⟩
      have hul : U ≤ 65535 := by have := numB_lt S 0; omega
      have hq : ((S.size : Int) != 17410 + 256 * (U : Int)) = true := by simp; omega
      have K0 : Hid (∀ W, Calls Try.prog 50 #[.string S, .int .i64 0] W fun e w' => e = .returned (.int .i64 (U : Nat)) ∧ Below W.heap.size W w') := fun W => by
        have := two_big S W (by omega)
        rw [hU] at this
        exact this
      clear h1 h2 hU
      go_enter Try.func26, Try.ntmps26
      go_wp2_with (go_at_call 50; refine (K0.out _).mono ?_)
      first | rintro e w1 rfl b1 | rintro e w1 ⟨rfl, b1⟩
      have B1 : Hid (Below w.heap.size w w1) := b1
      clear b1 K0
      go_wp2
      refine bodyPost_ret (v := .tuple #[.slice none 0 0, .bool false]) ?_ rfl ⟨_, false, rfl, ⟨fun h => Bool.noConfusion h, fun h => absurd h HN.out⟩, fun h => Bool.noConfusion h, B1.out⟩
      simp [results, Try.results26, go_sem]
theorem wpList_cv2 {P : Program} {ops : Array Oper} {rest : List Oper} {o : Oper} {a : Act} {w w' : World} {Q : Exit → Act → World → Prop} (hgd : o.guard = none) (src dst : TypeId) (x : Operand) (ho : o.op = .convert src dst x) (v : Value) (hx : a.eval x = v) (u : Value) (hr : (convert src dst v).run P w = .ok u w')
    (h : wpList P ops Q rest (a.put o.dst u) w') : wpList P ops Q (o :: rest) a w :=
  wpList_plain hgd fun K hK => by
    unfold Oper.wp execOp
    simp only [ho, hx, Sem.run_bind, Sem.run_pure, Result.andThen_ok, hr]
    exact hK _ _ h
/-- A list that reads as numbers of a kind. -/
def RdZ (kd : IntKind) (w : World) (v : Value) (n : Nat) : Prop := ∃ a c, v = .slice a n c ∧ n ≤ maxLen ∧ (0 < n → ∃ g off, a = some ⟨g, off, none⟩ ∧ ∀ j, j < n → ∃ z : Int, w.cell? ⟨g, off + j, none⟩ = some (.int kd z))
/-- A block of bytes that may be written. -/
def Cb (w : World) (g N : Nat) (f : Nat → Int) : Prop := ∀ j, j < N → w.cell? ⟨g, j, none⟩ = some (.int .u8 (f j)) ∧ w.frozen? ⟨g, j, none⟩ = false
theorem Cb.set {w : World} {g N k : Nat} {f : Nat → Int} {z : Int} (h : Cb w g N f) (hk : k < N) : Cb (w.setCell ⟨g, k, none⟩ (.int .u8 z)) g N (fun j => if j = k then z else f j) := fun j hj => by
  refine ⟨?_, (World.frozen?_setCell _ _ _ _).trans (h j hj).2⟩
  by_cases c : j = k
  · subst c
    show _ = some (Value.int .u8 (if j = j then z else f j))
    rw [World.cell?_setCell_same _ _ _ (h j hj).1, if_pos rfl]
  · show _ = some (Value.int .u8 (if j = k then z else f j))
    rw [World.cell?_setCell_other _ _ _ _ (by intro e; simp only [Addr.mk.injEq] at e; omega), if_neg c]
    exact (h j hj).1
theorem Cb.new (w : World) (s : ByteArray) : ∃ f, Cb (Lib.bytesWorld w 5 s) w.heap.size s.size f := by
  refine ⟨fun j => ((s.data.toList.getD j 0).toNat : Int), fun j hj => ⟨Lib.bytesWorld_cell w 5 s j hj, ?_⟩⟩
  have h := Lib.bytesWorld_at_new w 5 s
  have hz : s.size ≤ (Lib.bytesCells w 5 s).size := by
    unfold Lib.bytesCells
    simp
  simp [World.frozen?, h]
  omega
theorem bw_below (w : World) (s : ByteArray) : Below w.heap.size w (Lib.bytesWorld w 5 s) :=
  ⟨rfl, rfl, rfl, by rw [Lib.bytesWorld_size]; omega, fun k hk => Lib.bytesWorld_at_old w 5 s k hk⟩
noncomputable def body7 : Code := Try.f7.body.getD .skip
set_option maxRecDepth 100000 in
set_option maxHeartbeats 8000000 in
theorem unp_end (S : ByteArray) (Q : Exit → Act → World → Prop) (a : Act) (w w5 : World) (hB : Hid (Below w.heap.size w w5))
    (hK : Hid (∀ a' w', At 131 [(4, .bool true)] a' → Below w.heap.size w w' → Q .ret a' w'))
    (ha : At 131 [(14, .string S)] a) : Code.wp Try.prog (sq 9 body7) Q a w5 := by
  have K5 : Hid (∀ W, Calls Try.prog 25 #[.string S] W fun e w' => (∃ T, e = .returned (.tuple #[.pointer (some ⟨T, 0, none⟩), .int .i64 0]) ∧ TabAt w' T (FS S) ∧ Packed S ∧ Below W.heap.size W w') ∨ (e = .returned (.tuple #[.pointer none, .int .i64 82]) ∧ ¬ Packed S ∧ Below W.heap.size W w')) := fun W => unpack_any S W
  have K6 : Hid (∀ W, Calls Try.prog 26 #[.string S] W fun e w' => ∃ v b, e = .returned (.tuple #[v, .bool b]) ∧ (b = true ↔ Packed S) ∧ (b = true → ∃ X, Rn (FS S) 0 X 1114112 ∧ Rd3 .i64 w' v (lst X)) ∧ Below W.heap.size W w') := fun W => runpack_any S W
  have KR : Hid (∀ W T, TabAt W T (FS S) → Calls Try.prog 20 #[.pointer (some ⟨T, 0, none⟩)] W fun e W' => ∃ v ys, e = .returned v ∧ Rn (FS S) 0 ys 1114112 ∧ Rd3 .i32 W' v (lst ys) ∧ Below W.heap.size W W') := fun W T h => (rows_any _ (FS S) W (.inr ⟨T, rfl, h⟩) (FS_rng S)).mono fun e w' ⟨v, ys, q1, q2, q3, q4⟩ => ⟨v, ys, q1, q2, Rd3.of_owns q3, q4⟩
  have KS : Hid (∀ W v v' X Y, Rn (FS S) 0 X 1114112 → Rn (FS S) 0 Y 1114112 → Rd3 .i32 W v (lst X) → Rd3 .i64 W v' (lst Y) → Calls Try.prog 17 #[v, v'] W fun e w' => e = .returned (.bool true) ∧ Below W.heap.size W w') := fun W v v' X Y h1 h2 h3 h4 => by
    obtain rfl := Rn.uniq h1 h2
    have q := rn_all (FS_rng S) h1
    exact rows_same _ v v' W h3 h4 ((rn_fit (FS_rng S) h1).1) (by have := q.2.2.2.2.1; omega)
  have KP : Hid (∀ W T, Packed S → TabAt W T (FS S) → Calls Try.prog 23 #[.pointer (some ⟨T, 0, none⟩)] W fun e w' => e = .returned (.string S) ∧ Below W.heap.size W w') := fun W T hp h => by
    have := pack_any _ _ W (.inr ⟨T, rfl, h⟩) (FS_rng S)
    rwa [hp.2.2] at this
  obtain ⟨f, rfl, h14, -⟩ := ha.lit
  change Code.wp _ _ _ ⟨#[f 0, f 1, f 2, f 3, f 4, f 5, f 6, f 7, f 8, f 9, f 10, f 11, f 12, f 13, f 14, f 15, f 16, f 17, f 18, f 19, f 20, f 21, f 22, f 23, f 24, f 25, f 26, f 27, f 28, f 29, f 30, f 31, f 32, f 33, f 34, f 35, f 36, f 37, f 38, f 39, f 40, f 41, f 42, f 43, f 44, f 45, f 46, f 47, f 48, f 49, f 50, f 51, f 52, f 53, f 54, f 55, f 56, f 57, f 58, f 59, f 60, f 61, f 62, f 63, f 64, f 65, f 66, f 67, f 68, f 69, f 70, f 71, f 72, f 73, f 74, f 75, f 76, f 77, f 78, f 79, f 80, f 81, f 82, f 83, f 84, f 85, f 86, f 87, f 88, f 89, f 90, f 91, f 92, f 93, f 94, f 95, f 96, f 97, f 98, f 99, f 100, f 101, f 102, f 103, f 104, f 105, f 106, f 107, f 108, f 109, f 110, f 111, f 112, f 113, f 114, f 115, f 116, f 117, f 118, f 119, f 120, f 121, f 122, f 123, f 124, f 125, f 126, f 127, f 128, f 129, f 130], []⟩ _
  simp only at h14
  simp only [h14]
  clear h14
  conv => arg 2; whnf
  go_wp2_with (go_at_call 25; refine (K5.out _).mono ?_)
  rintro e w6 (⟨T, rfl, tt, hp, bb⟩ | ⟨rfl, hp, bb⟩)
  · replace hB : Hid (Below w.heap.size w w6) := hB.out.trans (bb.mono hB.out.size)
    have TT : Hid (TabAt w6 T (FS S)) := tt
    have HP : Hid (Packed S) := hp
    clear tt hp bb K5
    go_wp2_with (go_at_call 26; refine (K6.out _).mono ?_)
    rintro e w7 ⟨v, b, rfl, hb, hx, bb⟩
    obtain rfl : b = true := hb.2 HP.out
    obtain ⟨X, xx, rr⟩ := hx rfl
    replace hB : Hid (Below w.heap.size w w7) := hB.out.trans (bb.mono hB.out.size)
    replace TT : Hid (TabAt w7 T (FS S)) := TT.out.below bb
    have XX : Hid (Rn (FS S) 0 X 1114112) := xx
    have RR : Hid (Rd3 .i64 w7 v (lst X)) := rr
    clear xx rr hb hx bb K6
    go_wp2_with (go_at_call 20; refine (KR.out _ _ TT.out).mono ?_)
    rintro e w8 ⟨v2, ys, rfl, yy, r2, bb⟩
    replace hB : Hid (Below w.heap.size w w8) := hB.out.trans (bb.mono hB.out.size)
    replace TT : Hid (TabAt w8 T (FS S)) := TT.out.below bb
    replace RR : Hid (Rd3 .i64 w8 v (lst X)) := RR.out.below bb
    have YY : Hid (Rn (FS S) 0 ys 1114112) := yy
    have R2 : Hid (Rd3 .i32 w8 v2 (lst ys)) := r2
    clear yy r2 bb KR
    go_wp2_with (go_at_call 17; refine (KS.out _ _ _ _ _ YY.out XX.out R2.out RR.out).mono ?_)
    rintro e w9 ⟨rfl, bb⟩
    replace hB : Hid (Below w.heap.size w w9) := hB.out.trans (bb.mono hB.out.size)
    replace TT : Hid (TabAt w9 T (FS S)) := TT.out.below bb
    clear bb KS RR R2 XX YY
    go_wp2_with (go_at_call 23; refine (KP.out _ _ HP.out TT.out).mono ?_)
    rintro e wa ⟨rfl, bb⟩
    replace hB : Hid (Below w.heap.size w wa) := hB.out.trans (bb.mono hB.out.size)
    clear bb KP TT
    go_wp2
    exact hK.out _ _ ⟨rfl, rfl, rfl, trivial⟩ hB.out
  · replace hB : Hid (Below w.heap.size w w6) := hB.out.trans (bb.mono hB.out.size)
    have HP : Hid (¬ Packed S) := hp
    clear hp bb K5 KR KS KP
    go_wp2_with (go_at_call 26; refine (K6.out _).mono ?_)
    rintro e w7 ⟨v, b, rfl, hb, hx, bb⟩
    obtain rfl : b = false := by
      cases b
      · rfl
      · exact absurd (hb.1 rfl) HP.out
    replace hB : Hid (Below w.heap.size w w7) := hB.out.trans (bb.mono hB.out.size)
    clear hb hx bb K6
    go_wp2
    exact hK.out _ _ ⟨rfl, rfl, rfl, trivial⟩ hB.out
theorem string_cb {wr : World} {g N n cp : Nat} {f : Nat → Int} (h : Cb wr g N f) (hn : n ≤ N) : (convert 55 9 (.slice (some ⟨g, 0, none⟩) n cp)).run Try.prog wr = .ok (.string (strOfNums ((List.range n).map f))) wr := by
  have q := run_convert_bytes_arg (P := Try.prog) wr 55 5 Try.underlying55 under5 g 0 n cp ((List.range n).map f) (by simp) (fun i hi => by
    have hi' : i < n := by simpa using hi
    rw [Nat.zero_add, (h i (by omega)).1]
    simp [List.getD, hi']) 9 Try.underlying9
  exact q
theorem size_ofNums (l : List Int) : (strOfNums l).size = l.length := by simp [strOfNums, ByteArray.size]
set_option maxRecDepth 100000 in
set_option maxHeartbeats 8000000 in
theorem unp_cut (Bh : ByteArray) (cut : Int) (gx g N cp : Nat) (vA vT : Value) (Q : Exit → Act → World → Prop) (a : Act) (w w5 : World) (hc1 : -9223372036854775808 ≤ cut) (hc2 : cut ≤ 9223372036854775807) (hN : N ≤ 10000000) (hcp : N ≤ cp) (hcm : cp ≤ maxLen) (hBh : Bh.size ≤ 140737488351232)
    (HX : Hid (w5.cell? ⟨gx, 0, none⟩ = some vA ∧ w5.cell? ⟨gx, 1, none⟩ = some vT ∧ w5.cell? ⟨gx, 2, none⟩ = some (.string Bh) ∧ w5.cell? ⟨gx, 3, none⟩ = some (.int .i64 cut)))
    (hC : Hid (∃ f, Cb w5 g N f)) (hB : Hid (Below w.heap.size w w5))
    (hK : Hid (∀ a' w', At 131 [(4, .bool true)] a' → Below w.heap.size w w' → Q .ret a' w'))
    (ha : At 131 [(3, .pointer (some ⟨gx, 0, none⟩)), (11, .slice (some ⟨g, 0, none⟩) N cp)] a) : Code.wp Try.prog (sq 7 body7) Q a w5 := by
  obtain ⟨-, -, x2, x3⟩ := HX
  obtain ⟨f, hC⟩ := hC
  have KS : Hid (∀ n c, n ≤ N → ∃ S, (convert 55 9 (.slice (some ⟨g, 0, none⟩) n c)).run Try.prog w5 = .ok (.string S) w5 ∧ S.size = n) := fun n c hn => ⟨_, string_cb hC hn, by rw [size_ofNums]; simp⟩
  have hNi : (N : Int) ≤ 10000000 := by omega
  unfold maxLen at hcm
  have hcpi : (N : Int) ≤ (cp : Int) := by omega
  have hcmi : (cp : Int) ≤ 9223372036854775807 := by omega
  obtain ⟨f, rfl, h3, h11, -⟩ := ha.lit
  change Code.wp _ _ _ ⟨#[f 0, f 1, f 2, f 3, f 4, f 5, f 6, f 7, f 8, f 9, f 10, f 11, f 12, f 13, f 14, f 15, f 16, f 17, f 18, f 19, f 20, f 21, f 22, f 23, f 24, f 25, f 26, f 27, f 28, f 29, f 30, f 31, f 32, f 33, f 34, f 35, f 36, f 37, f 38, f 39, f 40, f 41, f 42, f 43, f 44, f 45, f 46, f 47, f 48, f 49, f 50, f 51, f 52, f 53, f 54, f 55, f 56, f 57, f 58, f 59, f 60, f 61, f 62, f 63, f 64, f 65, f 66, f 67, f 68, f 69, f 70, f 71, f 72, f 73, f 74, f 75, f 76, f 77, f 78, f 79, f 80, f 81, f 82, f 83, f 84, f 85, f 86, f 87, f 88, f 89, f 90, f 91, f 92, f 93, f 94, f 95, f 96, f 97, f 98, f 99, f 100, f 101, f 102, f 103, f 104, f 105, f 106, f 107, f 108, f 109, f 110, f 111, f 112, f 113, f 114, f 115, f 116, f 117, f 118, f 119, f 120, f 121, f 122, f 123, f 124, f 125, f 126, f 127, f 128, f 129, f 130], []⟩ _
  simp only at h3 h11
  simp only [h3, h11]
  clear h3 h11
  change Code.wp _ (Code.seq _ (Code.seq _ (sq 9 body7))) _ _ _
  generalize hEND : sq 9 body7 = END
  replace hEND : Hid (sq 9 body7 = END) := hEND
  have HE : Hid (∀ (S : ByteArray) (a : Act), At 131 [(14, .string S)] a → Code.wp Try.prog END Q a w5) := fun S a ha => by
    rw [← hEND.out]
    exact unp_end S Q a w w5 hB hK ha
  clear hEND hK hC hB
  conv => arg 2; whnf
  by_cases d1 : 0 < cut
  · by_cases d2 : cut ≤ (N : Int)
    · obtain ⟨m, hm⟩ : ∃ m : Nat, (N : Int) - cut = (m : Int) := ⟨((N : Int) - cut).toNat, by omega⟩
      have hw : IntKind.i64.wrap ((N : Int) - cut) = (m : Int) := by
        rw [hm]
        simp [IntKind.wrap, IntKind.bits, IntKind.signed]
        omega
      have hmi : (m : Int) ≤ (cp : Int) := by omega
      have hmn : m ≤ cp := by omega
      obtain ⟨S, es, hS⟩ := KS.out m cp (by omega)
      have ES : Hid _ := es
      have hz : ((S.size + Bh.size : Nat) : Int) ≤ 9223372036854775807 := by omega
      clear es
      go_wp2_with (refine wpList_cv2 rfl 55 9 _ rfl _ rfl _ ES.out ?_)
      exact HE.out _ _ ⟨rfl, rfl, rfl, trivial⟩
    · have d3 : ¬ cut ≤ (N : Int) := d2
      obtain ⟨S, es, hS⟩ := KS.out N cp (Nat.le_refl _)
      have ES : Hid _ := es
      have hz : ((S.size + Bh.size : Nat) : Int) ≤ 9223372036854775807 := by omega
      clear es
      go_wp2_with (refine wpList_cv2 rfl 55 9 _ rfl _ rfl _ ES.out ?_)
      exact HE.out _ _ ⟨rfl, rfl, rfl, trivial⟩
  · have d3 : ¬ 0 < cut := d1
    obtain ⟨S, es, hS⟩ := KS.out N cp (Nat.le_refl _)
    have ES : Hid _ := es
    have hz : ((S.size + Bh.size : Nat) : Int) ≤ 9223372036854775807 := by omega
    clear es
    go_wp2_with (refine wpList_cv2 rfl 55 9 _ rfl _ rfl _ ES.out ?_)
    exact HE.out _ _ ⟨rfl, rfl, rfl, trivial⟩
set_option maxRecDepth 100000 in
set_option maxHeartbeats 8000000 in
theorem unp_tail (P Bh : ByteArray) (cut : Int) (vA vT : Value) (nA nT gx : Nat) (Q : Exit → Act → World → Prop) (a : Act) (w w5 : World) (hc1 : -9223372036854775808 ≤ cut) (hc2 : cut ≤ 9223372036854775807) (hP : P.size ≤ 10000000) (hBh : Bh.size ≤ 140737488351232)
    (hA : ∀ W, Below w5.heap.size w5 W → RdZ .i64 W vA nA) (hT : ∀ W, Below w5.heap.size w5 W → RdZ .u8 W vT nT)
    (hX : w5.heap[gx]? = some (.cells #[vA, vT, .string Bh, .int .i64 cut] 57 (0, 0))) (hB : Hid (Below w.heap.size w w5))
    (hK : Hid (∀ a' w', At 131 [(4, .bool true)] a' → Below w.heap.size w w' → Q .ret a' w'))
    (ha : At 131 [(3, .pointer (some ⟨gx, 0, none⟩)), (9, .string P)] a) : Code.wp Try.prog (sq 5 body7) Q a w5 := by
  have hgx := (Array.getElem?_eq_some_iff.1 hX).1
  have HX : Hid (∀ W, Below w5.heap.size w5 W → W.cell? ⟨gx, 0, none⟩ = some vA ∧ W.cell? ⟨gx, 1, none⟩ = some vT ∧ W.cell? ⟨gx, 2, none⟩ = some (.string Bh) ∧ W.cell? ⟨gx, 3, none⟩ = some (.int .i64 cut)) := fun W hb => by
    have e := (hb.block gx hgx).trans hX
    simp [World.cell?, e]
  have HA : Hid (∀ W, Below w5.heap.size w5 W → RdZ .i64 W vA nA) := hA
  have HT : Hid (∀ W, Below w5.heap.size w5 W → RdZ .u8 W vT nT) := hT
  obtain ⟨pa, ca, rfl, hna, -⟩ := hA w5 (Below.refl _ _)
  obtain ⟨pt, ct, rfl, hnt, -⟩ := hT w5 (Below.refl _ _)
  have KC : Hid ((convert 9 55 (.string P)).run Try.prog w5 = .ok (.slice (some ⟨w5.heap.size, 0, none⟩) P.size (grownCap w5 P.size 0 5)) (Lib.bytesWorld w5 5 P)) := Lib.run_convert_string_bytes w5 9 55 5 P Try.underlying9 Try.underlying55 under5
  have C0 : Hid (∃ f, Cb (Lib.bytesWorld w5 5 P) w5.heap.size P.size f) := Cb.new w5 P
  have B0 : Hid (Below w5.heap.size w5 (Lib.bytesWorld w5 5 P)) := bw_below w5 P
  obtain ⟨x0, x1, x2, x3⟩ := HX.out _ B0.out
  have hcap : P.size ≤ grownCap w5 P.size 0 5 := grownCap_ge _ _ _ _
  have hcam : grownCap w5 P.size 0 5 ≤ maxLen := grownCap_le_maxLen _ _ _ _ (by unfold maxLen; omega)
  unfold maxLen at hna hnt
  have hnai : (nA : Int) ≤ 9223372036854775807 := by omega
  have hnti : (nT : Int) ≤ 9223372036854775807 := by omega
  generalize Lib.bytesWorld w5 5 P = w6 at *
  generalize grownCap w5 P.size 0 5 = cp at *
  obtain ⟨N, hN⟩ : ∃ N, P.size = N := ⟨_, rfl⟩
  rw [hN] at KC C0 hP hcap
  have hNi : (N : Int) ≤ 10000000 := by omega
  clear hA hT hX hN hna hnt
  obtain ⟨f, rfl, h3, h9, -⟩ := ha.lit
  change Code.wp _ _ _ ⟨#[f 0, f 1, f 2, f 3, f 4, f 5, f 6, f 7, f 8, f 9, f 10, f 11, f 12, f 13, f 14, f 15, f 16, f 17, f 18, f 19, f 20, f 21, f 22, f 23, f 24, f 25, f 26, f 27, f 28, f 29, f 30, f 31, f 32, f 33, f 34, f 35, f 36, f 37, f 38, f 39, f 40, f 41, f 42, f 43, f 44, f 45, f 46, f 47, f 48, f 49, f 50, f 51, f 52, f 53, f 54, f 55, f 56, f 57, f 58, f 59, f 60, f 61, f 62, f 63, f 64, f 65, f 66, f 67, f 68, f 69, f 70, f 71, f 72, f 73, f 74, f 75, f 76, f 77, f 78, f 79, f 80, f 81, f 82, f 83, f 84, f 85, f 86, f 87, f 88, f 89, f 90, f 91, f 92, f 93, f 94, f 95, f 96, f 97, f 98, f 99, f 100, f 101, f 102, f 103, f 104, f 105, f 106, f 107, f 108, f 109, f 110, f 111, f 112, f 113, f 114, f 115, f 116, f 117, f 118, f 119, f 120, f 121, f 122, f 123, f 124, f 125, f 126, f 127, f 128, f 129, f 130], []⟩ _
  simp only at h3 h9
  simp only [h3, h9]
  clear h3 h9
  change Code.wp _ (Code.seq _ (Code.seq _ (sq 7 body7))) _ _ _
  generalize hEND : sq 7 body7 = END
  replace hEND : Hid (sq 7 body7 = END) := hEND
  have HE : Hid (∀ (W : World) (a : Act), Below w5.heap.size w5 W → (∃ f, Cb W w5.heap.size N f) → At 131 [(3, .pointer (some ⟨gx, 0, none⟩)), (11, .slice (some ⟨w5.heap.size, 0, none⟩) N cp)] a → Code.wp Try.prog END Q a W) := fun W a hb hf ha => by
    rw [← hEND.out]
    exact unp_cut Bh cut gx w5.heap.size N cp _ _ Q a w W hc1 hc2 hP hcap hcam hBh (HX.out W hb) hf (hB.out.trans (hb.mono hB.out.size)) hK ha
  clear hEND hK hB hc1 hc2 hcam hBh
  conv => arg 2; whnf
  go_wp2_with (refine wpList_cv2 rfl 9 55 _ rfl _ rfl _ KC.out ?_)
  clear KC x0 x1 x2 x3
  go_loopw [44] (fun z wr => ∃ j : Nat, j ≤ nA ∧ z = .int .i64 (j : Nat) ∧ Hid (∃ f, Cb wr w5.heap.size N f) ∧ Hid (Below w5.heap.size w5 wr)) (fun z _ => nA - (intOf z).toNat)
  case atStart => exact ⟨0, Nat.zero_le _, rfl, C0, B0⟩
  case round =>
    clear C0 B0
    obtain ⟨j, hj, rfl, hC, hBx⟩ := hrel
    obtain ⟨x0, x1, x2, x3⟩ := HX.out _ hBx.out
    by_cases hlt : j < nA
    · have hlti : (j : Int) < (nA : Int) := by omega
      have hn1 : ¬ nA ≤ j := by omega
      obtain ⟨pa', ca', e1, -, hq⟩ := HA.out _ hBx.out
      cases e1
      obtain ⟨ga, oa, rfl, hq2⟩ := hq (by omega)
      obtain ⟨z, d0⟩ := hq2 j hlt
      clear hq2
      by_cases hjt : j < nT
      · have hjti : (j : Int) < (nT : Int) := by omega
        have hn2 : ¬ nT ≤ j := by omega
        obtain ⟨pt', ct', e1, -, hq⟩ := HT.out _ hBx.out
        cases e1
        obtain ⟨gt, ot, rfl, hq2⟩ := hq (by omega)
        obtain ⟨y, d1⟩ := hq2 j hjt
        clear hq2
        by_cases hz : 0 ≤ z
        · obtain ⟨k, rfl⟩ : ∃ k : Nat, z = (k : Int) := ⟨z.toNat, by omega⟩
          by_cases hk : k < N
          · have hki : (k : Int) < (N : Int) := by omega
            have hn3 : ¬ N ≤ k := by omega
            obtain ⟨f, hf⟩ := hC
            obtain ⟨d2, d3⟩ := hf k hk
            have C1 : Hid (∃ f, Cb (wr.setCell ⟨w5.heap.size, k, none⟩ (.int .u8 y)) w5.heap.size N f) := ⟨_, hf.set hk⟩
            have B1 : Hid (Below w5.heap.size w5 (wr.setCell ⟨w5.heap.size, k, none⟩ (.int .u8 y))) := hBx.out.setCell (p := ⟨w5.heap.size, k, none⟩) (Nat.le_refl _) _
            clear hf hBx
            go_wp2
            exact ⟨⟨j + 1, by omega, by go_num, C1, B1⟩, by simp [intOf]; omega⟩
          · have hki : ¬ (k : Int) < (N : Int) := by omega
            go_wp2
            exact ⟨⟨j + 1, by omega, by go_num, hC, hBx⟩, by simp [intOf]; omega⟩
        · have hzi : ¬ 0 ≤ z := hz
          go_wp2
          exact ⟨⟨j + 1, by omega, by go_num, hC, hBx⟩, by simp [intOf]; omega⟩
      · have hjti : ¬ (j : Int) < (nT : Int) := by omega
        go_wp2
        exact ⟨⟨j + 1, by omega, by go_num, hC, hBx⟩, by simp [intOf]; omega⟩
    · have hlti : ¬ (j : Int) < (nA : Int) := by omega
      go_wp2
      exact HE.out _ _ hBx.out hC.out ⟨rfl, rfl, rfl, rfl, trivial⟩
theorem RdZ.below {kd : IntKind} {w W : World} {v : Value} {n : Nat} (h : RdZ kd w v n) (hb : Below w.heap.size w W) : RdZ kd W v n := by
  obtain ⟨a, c, rfl, hn, q⟩ := h
  refine ⟨a, c, rfl, hn, fun h0 => ?_⟩
  obtain ⟨g, off, rfl, q2⟩ := q h0
  refine ⟨g, off, rfl, fun j hj => ?_⟩
  obtain ⟨z, hz⟩ := q2 j hj
  exact ⟨z, (World.cell?_of_block (hb.block g (World.block_lt_of_cell? w _ hz))).trans hz⟩
set_option maxRecDepth 100000 in
set_option maxHeartbeats 8000000 in
theorem unp_g (L : List Rw) (v vA vT : Value) (nA nT : Nat) (Bh : ByteArray) (cut : Int) (w : World) (hr : Rd3 .i32 w v L) (hf : fit3 L) (hl : L.length ≤ 8796093022208) (hA : RdZ .i64 w vA nA) (hT : RdZ .u8 w vT nT) (hBh : Bh.size ≤ 140737488351232) (hc1 : -9223372036854775808 ≤ cut) (hc2 : cut ≤ 9223372036854775807) (h : (chk L).2 = 0) : Calls Try.prog 7 #[v, .agg #[vA, vT, .string Bh, .int .i64 cut]] w fun e w' => e = .returned (.bool true) ∧ Below w.heap.size w w' := by
  have K1 : Hid (∀ W, Below w.heap.size w W → Calls Try.prog 9 #[v] W fun e w' => ∃ T vr, e = .returned (.tuple #[.pointer (some ⟨T, 0, none⟩), vr, .bool true, .bool true]) ∧ Rd3 .i64 w' vr L ∧ TabAt w' T (lk L) ∧ Below W.heap.size W w') := fun W hW => built_good L v W (hr.below hW) hf hl h
  obtain ⟨hlL, hok, -⟩ := chk_ok h
  have hrg := lk_range hok
  have KR : Hid (∀ W vr, Rd3 .i64 W vr L → Calls Try.prog 22 #[vr] W fun e w' => e = .returned (.tuple #[.string (pkT (lk L)), .int .i64 ((unl (lk L) 8704).length : Nat)]) ∧ Below W.heap.size W w') := fun W vr h1 => rpack_any (lk L) (runsL L) vr W (runs_rn hok) hrg ((runs_any L vr W h1 hok (by omega)).mono fun e w' ⟨v', q1, q2, q3⟩ => ⟨v', q1, Rd3.of_owns q2, q3⟩)
  have HS : Hid ((pkT (lk L)).size ≤ 10000000) := by
    have q1 := pk_size (lk L)
    have q2 := unl_len (lk L) 8704
    unfold Hid
    omega
  have HA : Hid (∀ W, Below w.heap.size w W → RdZ .i64 W vA nA) := fun W hW => hA.below hW
  have HT : Hid (∀ W, Below w.heap.size w W → RdZ .u8 W vT nT) := fun W hW => hT.below hW
  have HN : Hid (Bh.size ≤ 140737488351232 ∧ -9223372036854775808 ≤ cut ∧ cut ≤ 9223372036854775807) := ⟨hBh, hc1, hc2⟩
  clear hr hf hl h hlL hok hrg hA hT hBh hc1 hc2
  generalize pkT (lk L) = S at *
  generalize (unl (lk L) 8704).length = un at *
  have B : Hid (Below w.heap.size w (w.alloc (.cells #[vA, vT, .string Bh, .int .i64 cut] 57))) := (Below.refl _ _).alloc (Nat.le_refl _) _
  have X : Hid ((w.alloc (.cells #[vA, vT, .string Bh, .int .i64 cut] 57)).heap[w.heap.size]? = some (.cells #[vA, vT, .string Bh, .int .i64 cut] 57 (0, 0))) := by
    show (w.alloc _).heap[w.heap.size]? = _
    simp [World.alloc, -World.alloc_eq]
  go_enter Try.func7, Try.ntmps7
  change Code.wp _ (Code.seq _ (Code.seq _ (Code.seq _ (Code.seq _ (Code.seq _ (sq 5 body7)))))) _ _ _
  generalize hEND : sq 5 body7 = END
  replace hEND : Hid (sq 5 body7 = END) := hEND
  go_wp2_with fail
  generalize w.alloc (.cells #[vA, vT, .string Bh, .int .i64 cut] 57) = w0 at *
  obtain ⟨gx, hgx⟩ : ∃ gx, gx = w.heap.size := ⟨_, rfl⟩
  rw [← hgx] at X
  simp only [← hgx]
  clear hgx
  go_wp2_with (go_at_call 9; refine (K1.out _ B.out).mono ?_)
  first | rintro e w1 T vr rfl rr tt bb | rintro e w1 ⟨T, vr, rfl, rr, tt, bb⟩
  replace X : Hid (w1.heap[gx]? = some (.cells #[vA, vT, .string Bh, .int .i64 cut] 57 (0, 0))) := (bb.block _ (Array.getElem?_eq_some_iff.1 X.out).1).trans X.out
  replace B : Hid (Below w.heap.size w w1) := B.out.trans (bb.mono B.out.size)
  have RR : Hid (Rd3 .i64 w1 vr L) := rr
  clear bb rr tt K1
  go_wp2_with (go_at_call 10; refine (awake_any _).mono ?_)
  first | rintro e w2 rfl bb | rintro e w2 ⟨rfl, bb⟩
  replace X : Hid (w2.heap[gx]? = some (.cells #[vA, vT, .string Bh, .int .i64 cut] 57 (0, 0))) := (bb.block _ (Array.getElem?_eq_some_iff.1 X.out).1).trans X.out
  replace RR : Hid (Rd3 .i64 w2 vr L) := RR.out.below bb
  replace B : Hid (Below w.heap.size w w2) := B.out.trans (bb.mono B.out.size)
  clear bb
  go_wp2_with (go_at_call 22; refine (KR.out _ _ RR.out).mono ?_)
  first | rintro e w3 rfl bb | rintro e w3 ⟨rfl, bb⟩
  replace X : Hid (w3.heap[gx]? = some (.cells #[vA, vT, .string Bh, .int .i64 cut] 57 (0, 0))) := (bb.block _ (Array.getElem?_eq_some_iff.1 X.out).1).trans X.out
  replace RR : Hid (Rd3 .i64 w3 vr L) := RR.out.below bb
  replace B : Hid (Below w.heap.size w w3) := B.out.trans (bb.mono B.out.size)
  clear bb KR
  go_wp2_with fail
  rw [← hEND.out]
  refine unp_tail S Bh cut vA vT nA nT gx _ _ w w3 HN.out.2.1 HN.out.2.2 HS.out HN.out.1 (fun W hb => HA.out W (B.out.trans (hb.mono B.out.size))) (fun W hb => HT.out W (B.out.trans (hb.mono B.out.size))) X.out B ?_ ⟨rfl, rfl, rfl, rfl, trivial⟩
  intro a' w' ha' hb'
  replace hb' : Hid (Below w.heap.size w w') := hb'
  obtain ⟨f, rfl, h4, -⟩ := ha'.lit
  simp only at h4
  refine bodyPost_ret (v := .bool true) ?r1 rfl ⟨rfl, hb'.out⟩
  simp [results, Try.results7, go_sem, h4]
set_option maxRecDepth 100000 in
set_option maxHeartbeats 8000000 in
theorem unp_b (L : List Rw) (v vA vT : Value) (nA nT : Nat) (Bh : ByteArray) (cut : Int) (w : World) (hr : Rd3 .i32 w v L) (hf : fit3 L) (hl : L.length ≤ 8796093022208) (hA : RdZ .i64 w vA nA) (hT : RdZ .u8 w vT nT) (hBh : Bh.size ≤ 140737488351232) (hc1 : -9223372036854775808 ≤ cut) (hc2 : cut ≤ 9223372036854775807) (h : (chk L).2 ≠ 0) : Calls Try.prog 7 #[v, .agg #[vA, vT, .string Bh, .int .i64 cut]] w fun e w' => e = .returned (.bool true) ∧ Below w.heap.size w w' := by
  have K1 : Hid (∀ W, Below w.heap.size w W → Calls Try.prog 9 #[v] W fun e w' => ∃ vr, e = .returned (.tuple #[.pointer none, vr, .bool false, .bool true]) ∧ Rd3 .i64 w' vr L ∧ Below W.heap.size W w') := fun W hW => built_bad L v W (hr.below hW) hf hl h
  have hok : okF 0 ([] : List Rw) := trivial
  have hlL : ([] : List Rw).length ≤ 65536 := by simp
  have hrg := lk_range hok
  have KR : Hid (∀ W vr, Rd3 .i64 W vr ([] : List Rw) → Calls Try.prog 22 #[vr] W fun e w' => e = .returned (.tuple #[.string (pkT (lk ([] : List Rw))), .int .i64 ((unl (lk ([] : List Rw)) 8704).length : Nat)]) ∧ Below W.heap.size W w') := fun W vr h1 => rpack_any (lk ([] : List Rw)) (runsL ([] : List Rw)) vr W (runs_rn hok) hrg ((runs_any ([] : List Rw) vr W h1 hok (by omega)).mono fun e w' ⟨v', q1, q2, q3⟩ => ⟨v', q1, Rd3.of_owns q2, q3⟩)
  have HS : Hid ((pkT (lk ([] : List Rw))).size ≤ 10000000) := by
    have q1 := pk_size (lk ([] : List Rw))
    have q2 := unl_len (lk ([] : List Rw)) 8704
    unfold Hid
    omega
  have HA : Hid (∀ W, Below w.heap.size w W → RdZ .i64 W vA nA) := fun W hW => hA.below hW
  have HT : Hid (∀ W, Below w.heap.size w W → RdZ .u8 W vT nT) := fun W hW => hT.below hW
  have HN : Hid (Bh.size ≤ 140737488351232 ∧ -9223372036854775808 ≤ cut ∧ cut ≤ 9223372036854775807) := ⟨hBh, hc1, hc2⟩
  clear hr hf hl h hlL hok hrg hA hT hBh hc1 hc2
  generalize pkT (lk ([] : List Rw)) = S at *
  generalize (unl (lk ([] : List Rw)) 8704).length = un at *
  have B : Hid (Below w.heap.size w (w.alloc (.cells #[vA, vT, .string Bh, .int .i64 cut] 57))) := (Below.refl _ _).alloc (Nat.le_refl _) _
  have X : Hid ((w.alloc (.cells #[vA, vT, .string Bh, .int .i64 cut] 57)).heap[w.heap.size]? = some (.cells #[vA, vT, .string Bh, .int .i64 cut] 57 (0, 0))) := by
    show (w.alloc _).heap[w.heap.size]? = _
    simp [World.alloc, -World.alloc_eq]
  go_enter Try.func7, Try.ntmps7
  change Code.wp _ (Code.seq _ (Code.seq _ (Code.seq _ (Code.seq _ (Code.seq _ (sq 5 body7)))))) _ _ _
  generalize hEND : sq 5 body7 = END
  replace hEND : Hid (sq 5 body7 = END) := hEND
  go_wp2_with fail
  generalize w.alloc (.cells #[vA, vT, .string Bh, .int .i64 cut] 57) = w0 at *
  obtain ⟨gx, hgx⟩ : ∃ gx, gx = w.heap.size := ⟨_, rfl⟩
  rw [← hgx] at X
  simp only [← hgx]
  clear hgx
  go_wp2_with (go_at_call 9; refine (K1.out _ B.out).mono ?_)
  first | rintro e w1 vr rfl rr bb | rintro e w1 ⟨vr, rfl, rr, bb⟩
  replace X : Hid (w1.heap[gx]? = some (.cells #[vA, vT, .string Bh, .int .i64 cut] 57 (0, 0))) := (bb.block _ (Array.getElem?_eq_some_iff.1 X.out).1).trans X.out
  replace B : Hid (Below w.heap.size w w1) := B.out.trans (bb.mono B.out.size)
  clear bb rr K1
  go_wp2_with (go_at_call 10; refine (awake_any _).mono ?_)
  first | rintro e w2 rfl bb | rintro e w2 ⟨rfl, bb⟩
  replace X : Hid (w2.heap[gx]? = some (.cells #[vA, vT, .string Bh, .int .i64 cut] 57 (0, 0))) := (bb.block _ (Array.getElem?_eq_some_iff.1 X.out).1).trans X.out
  replace B : Hid (Below w.heap.size w w2) := B.out.trans (bb.mono B.out.size)
  clear bb
  go_wp2_with (go_at_call 22; refine (KR.out _ _ ⟨none, 0, rfl, Nat.le_refl _, fun h => by simp at h⟩).mono ?_)
  first | rintro e w3 rfl bb | rintro e w3 ⟨rfl, bb⟩
  replace X : Hid (w3.heap[gx]? = some (.cells #[vA, vT, .string Bh, .int .i64 cut] 57 (0, 0))) := (bb.block _ (Array.getElem?_eq_some_iff.1 X.out).1).trans X.out
  replace B : Hid (Below w.heap.size w w3) := B.out.trans (bb.mono B.out.size)
  clear bb KR
  go_wp2_with fail
  rw [← hEND.out]
  refine unp_tail S Bh cut vA vT nA nT gx _ _ w w3 HN.out.2.1 HN.out.2.2 HS.out HN.out.1 (fun W hb => HA.out W (B.out.trans (hb.mono B.out.size))) (fun W hb => HT.out W (B.out.trans (hb.mono B.out.size))) X.out B ?_ ⟨rfl, rfl, rfl, rfl, trivial⟩
  intro a' w' ha' hb'
  replace hb' : Hid (Below w.heap.size w w') := hb'
  obtain ⟨f, rfl, h4, -⟩ := ha'.lit
  simp only at h4
  refine bodyPost_ret (v := .bool true) ?r1 rfl ⟨rfl, hb'.out⟩
  simp [results, Try.results7, go_sem, h4]
theorem law_unpacks (L : List Rw) (v vA vT : Value) (nA nT : Nat) (Bh : ByteArray) (cut : Int) (w : World) (hr : Rd3 .i32 w v L) (hf : fit3 L) (hl : L.length ≤ 8796093022208) (hA : RdZ .i64 w vA nA) (hT : RdZ .u8 w vT nT) (hBh : Bh.size ≤ 140737488351232) (hc1 : -9223372036854775808 ≤ cut) (hc2 : cut ≤ 9223372036854775807) : Calls Try.prog 7 #[v, .agg #[vA, vT, .string Bh, .int .i64 cut]] w fun e w' => e = .returned (.bool true) ∧ Below w.heap.size w w' := by
  by_cases h : (chk L).2 = 0
  · exact unp_g L v vA vT nA nT Bh cut w hr hf hl hA hT hBh hc1 hc2 h
  · exact unp_b L v vA vT nA nT Bh cut w hr hf hl hA hT hBh hc1 hc2 h
end Go.Proofs.Ytookbgmolggohaa

/-
  The contract of Unpack for a packed text of a table: the table. No condition.
-/
import Derived.Test.YtookbgmolggohaaUc
import Derived.Test.YtookbgmolggohaaLy
import Derived.Deep.MidRow
import Derived.OwnWalk
namespace Go.Proofs.Ytookbgmolggohaa
open Go.RowKit
theorem below_setCells {B b : Nat} {a : World} (hb : B ≤ b) : ∀ (vs : List Value) (o : Nat) (w : World), Below B a w → Below B a (w.setCells b o vs)
  | [], _, _, h => h
  | v :: vs, o, _, h => below_setCells hb vs (o + 1) _ (h.setCell hb v)
/-- A list of n blocks whose first k are told. -/
def Bl (w : World) (g n k : Nat) (U : List (Nat → Int)) : Prop := w.there g 0 (n * 128) ∧ ∀ i f, i < k → U[i]? = some f → w.rangeAt g (i * 128) (rowOf .u16 128 f).toList
theorem Bl.same {w w' : World} {g n k : Nat} {U : List (Nat → Int)} (h : Bl w g n k U) (e : w'.heap[g]? = w.heap[g]?) : Bl w' g n k U :=
  ⟨fun j hj => by rw [World.cell?_of_block (a := ⟨g, 0 + j, none⟩) e, World.frozen?_of_block (a := ⟨g, 0 + j, none⟩) e]; exact h.1 j hj, fun i f hi hf j v hv => by rw [World.cell?_of_block (a := ⟨g, i * 128 + j, none⟩) e]; exact h.2 i f hi hf j v hv⟩
theorem rowOf_list_len (f : Nat → Int) : (rowOf .u16 128 f).toList.length = 128 := by rw [Array.length_toList, rowOf_size]
theorem Bl.there {w : World} {g n k : Nat} {U : List (Nat → Int)} (h : Bl w g n k U) {i : Nat} (hi : i < n) : w.there g (i * 128) 128 := fun j hj => by
  have := h.1 (i * 128 + j) (by omega)
  rw [Nat.zero_add] at this
  exact this
theorem Bl.put {w : World} {g n k : Nat} {U : List (Nat → Int)} (h : Bl w g n k U) (hk : k < n) {f : Nat → Int} (hf : U[k]? = some f) : Bl (w.setCells g (k * 128) (rowOf .u16 128 f).toList) g n (k + 1) U :=
  ⟨World.there_setCells h.1 _ _ _, fun i f' hi hf' => by
    by_cases c : i = k
    · subst c
      rw [hf] at hf'
      cases hf'
      exact World.rangeAt_setCells_same _ _ _ _ (by rw [rowOf_list_len]; exact h.there hk)
    · exact World.rangeAt_setCells_apart (h.2 i f' (by omega) hf') _ _ _ (.inr (.inl (by rw [rowOf_list_len]; omega)))⟩
theorem Bl.load {w : World} {g n k : Nat} {U : List (Nat → Int)} (h : Bl w g n k U) {i : Nat} (hi : i < k) {f : Nat → Int} (hf : U[i]? = some f) : (loadVar 72 ⟨g, i * 128, none⟩).run Try.prog w = .ok (.agg (rowOf .u16 128 f)) w := by
  have := run_loadVar_mid (P := Try.prog) w g (i * 128) 72 _ _ (h.2 i f hi hf) Try.underlying72 rfl (by rw [rowOf_list_len]; kernel_rfl)
  rw [Array.toArray_toList] at this
  exact this
set_option maxRecDepth 100000 in
set_option maxHeartbeats 4000000 in
theorem unpack_good (F : Int → Int) (w : World) (hF : ∀ p, 0 ≤ F p ∧ F p ≤ 65535) : Calls Try.prog 25 #[.string (pkT F)] w fun e w' => ∃ T, e = .returned (.tuple #[.pointer (some ⟨T, 0, none⟩), .int .i64 0]) ∧ TabAt w' T F ∧ Below w.heap.size w w' := by
  obtain ⟨i0, hi, hz0, hz1, hz2⟩ := info_parts info72
  have hs := pk_size F
  have hm := pk_many F
  have hul := unl_len F 8704
  have K0 : Hid (∀ W, Calls Try.prog 46 #[.string (pkT F), .int .i64 0] W fun e w' => e = .returned (.int .i64 ((unl F 8704).length : Nat)) ∧ Below W.heap.size W w') := fun W => by
    have := number_at (pkT F) 0 W (by omega) (by omega)
    rw [Nat.mul_zero, hm] at this
    exact this
  have K1 : Hid (∀ W (i : Nat), i < 8704 → Calls Try.prog 46 #[.string (pkT F), .int .i64 (1 + (i : Int))] W fun e w' => e = .returned (.int .i64 (plc F i : Nat)) ∧ Below W.heap.size W w') := fun W i hi => by
    have := number_at (pkT F) (1 + i) W (by omega) (by omega)
    rw [pk_place F hi] at this
    exact this
  have KB : Hid (∀ W (u : Nat) f, (unl F 8704)[u]? = some f → Calls Try.prog 47 #[.string (pkT F), .int .i64 (8705 + 128 * (u : Int))] W fun e w' => e = .returned (.agg (rowOf .u16 128 f)) ∧ Below W.heap.size W w') := fun W u f hu => by
    have hlu := (List.getElem?_eq_some_iff.1 hu).1
    have := block_at (pkT F) (8705 + 128 * u) W (by omega) (by omega)
    rw [pk_block hF hu] at this
    exact this
  have KP : Hid (∀ W T, TabAt W T F → Calls Try.prog 23 #[.pointer (some ⟨T, 0, none⟩)] W fun e w' => e = .returned (.string (pkT F)) ∧ Below W.heap.size W w') := fun W T h1 => pack_any _ _ W (.inr ⟨T, rfl, h1⟩) hF
  have HG : Hid (∀ u, u < (unl F 8704).length → ∃ f, (unl F 8704)[u]? = some f) := fun u hu => ⟨_, List.getElem?_eq_getElem hu⟩
  have HP : Hid (∀ i, i < 8704 → (unl F 8704)[plc F i]? = some (blk F i) ∧ plc F i < (unl F 8704).length) := fun i hi => ⟨plc_get F hi, plc_lt F hi⟩
  obtain ⟨U, hU⟩ : ∃ U, U = (unl F 8704).length := ⟨_, rfl⟩
  obtain ⟨S, hS⟩ : ∃ S, S = pkT F := ⟨_, rfl⟩
  rw [← hU] at hs hm hul K0 HG HP
  rw [← hS] at hs hm K0 K1 KB KP ⊢
  replace hU : Hid (U = (unl F 8704).length) := hU
  have HF : Hid (∀ p, 0 ≤ F p ∧ F p ≤ 65535) := hF
  have hs2 : (S.size : Int) = 17410 + 256 * (U : Int) := by omega
  have hq : ((17410 + 256 * (U : Int)) != 2 * (8705 + 128 * (U : Int))) = false := by simp; omega
  have hd : decide ((17410 + 256 * (U : Int)) < 17410) = false := decide_eq_false (by omega)
  clear hm hS hF hU
  go_enter Try.func25, Try.ntmps25
  go_wp2_with (go_at_call 46; refine (K0.out _).mono ?_)
  rintro e w1 ⟨rfl, b1⟩
  clear K0
  have B1 : Hid (Below w.heap.size w w1) := b1
  clear b1
  go_wp2_with (refine wpList_make_full _ rfl _ _ 74 rfl w1.heap.size 72 i0 _ 128 Try.underlying74 hi hz0 hz1 _ _ _ _ U rfl rfl rfl rfl (by rw [hz2]; omega) (by unfold maxLen; omega) (Nat.le_refl _) ?_)
  intro w2 o2 g2
  have L2 : Hid (Bl w2 w1.heap.size U 0 (unl F 8704)) := by
    refine ⟨fun j hj => ⟨?_, ?_⟩, fun i f hi => by omega⟩
    · rw [Nat.zero_add, o2.cellAt j hj, List.getElem?_eq_getElem (by rw [o2.1]; exact hj)]
      rfl
    · rw [Nat.zero_add]; exact o2.frozenAt j
  have B2 : Hid (Below w.heap.size w w2) := B1.out.grown g2 B1.out.size (fun k hk => by cases hk)
  have G2 : Hid (w1.heap.size < w2.heap.size ∧ w.heap.size ≤ w1.heap.size) := ⟨(o2.lt _ rfl).2, B1.out.size⟩
  clear o2 g2 B1 hi hz0 hz1 hz2
  generalize w1.heap.size = g at *
  go_wp2_with fail
  go_loopw [25] (fun z wr => ∃ k : Nat, k ≤ U ∧ z = .int .i64 (k : Nat) ∧ Hid (Bl wr g U k (unl F 8704)) ∧ Hid (Below w.heap.size w wr) ∧ Hid (g < wr.heap.size)) (fun y _ => (U - (intOf y).toNat : Nat))
  case atStart => exact ⟨0, by omega, rfl, L2, B2, G2.out.1⟩
  case round =>
    obtain ⟨k, hk, rfl, hL, hB, hG⟩ := hrel
    clear L2 B2
    by_cases hkl : k < U
    · have jl : (k : Int) < (U : Int) := by omega
      obtain ⟨f, hf⟩ := HG.out k hkl
      have KB2 : Hid (∀ W, Calls Try.prog 47 #[.string S, .int .i64 (8705 + 128 * (k : Int))] W fun e w' => e = .returned (.agg (rowOf .u16 128 f)) ∧ Below W.heap.size W w') := fun W => KB.out W k f hf
      have L3 : Hid (∀ w2, Below wr.heap.size wr w2 → Bl (w2.setCells g (k * 128) (rowOf .u16 128 f).toList) g U (k + 1) (unl F 8704) ∧ w2.there g (k * 128) (rowOf .u16 128 f).size) := fun w2 hb => by
        have h1 := hL.out.same (hb.block g hG.out)
        refine ⟨h1.put hkl hf, ?_⟩
        rw [rowOf_size]
        exact h1.there hkl
      have hi : Hid ((Try.prog.info? 72).map (·.size) = some (rowOf .u16 128 f).size) := by rw [Hid, rowOf_size]; kernel_rfl
      have h1c : Hid ((rowOf .u16 128 f).all (·.oneCell') = true) := rowOf_one _ _ _
      clear hL hf KB K1 KP HG HP HF
      generalize rowOf .u16 128 f = X at *
      go_wp2_with (go_at_call 47; refine (KB2.out _).mono ?_)
      rintro e w3 ⟨rfl, b3⟩
      obtain ⟨L4, T4⟩ := L3.out w3 b3
      have B4 : Hid (Below w.heap.size w w3) := hB.out.trans (b3.mono hB.out.size)
      have G4 : Hid (g < w3.heap.size) := Nat.lt_of_lt_of_le hG.out b3.size
      replace L4 : Hid (Bl (w3.setCells g (k * 128) X.toList) g U (k + 1) (unl F 8704)) := L4
      replace T4 : Hid (w3.there g (k * 128) X.size) := T4
      clear L3 b3 hB hG KB2
      go_wp2_with (refine wpList_store_mid rfl 72 _ _ rfl g (k * 128) X rfl rfl T4.out hi.out h1c.out ?_)
      refine ⟨⟨k + 1, ?q1, ?q2, L4, ?q3, ?q4⟩, ?q5⟩
      case q1 => omega
      case q2 => go_num
      case q3 => exact below_setCells (Nat.le_trans G2.out.2 (Nat.le_refl _)) _ _ _ B4.out
      case q4 => exact Nat.lt_of_lt_of_le G4.out (below_setCells (B := 0) (Nat.zero_le _) _ _ _ (Below.refl _ _)).size
      case q5 => simp [intOf]; omega
    · obtain rfl : U = k := by omega
      clear KB HG G2 hk hkl
      go_wp2_with (go_at_call 48; refine (maker_new _).mono ?_)
      rintro e w4 ⟨rfl, rfl⟩
      have hM := maker_mk wr
      have B4 : Hid (Below wr.heap.size wr (((wr.alloc (.cells #[.slice none 0 0, .slice none 0 0] 76)).alloc (.map #[] 0)).alloc (.cells #[.pointer (some ⟨wr.heap.size, 0, none⟩), .map (some (wr.heap.size + 1))] 100))) := (((Below.refl _ wr).alloc (Nat.le_refl _) _).alloc (by simp) _).alloc (by simp; omega) _
      generalize ((wr.alloc (.cells #[.slice none 0 0, .slice none 0 0] 76)).alloc (.map #[] 0)).alloc (.cells #[.pointer (some ⟨wr.heap.size, 0, none⟩), .map (some (wr.heap.size + 1))] 100) = w4 at *
      have L5 : Hid (Bl w4 g U U (unl F 8704)) := hL.out.same (B4.out.block g hG.out)
      have B5 : Hid (Below w.heap.size w w4) := hB.out.trans (B4.out.mono hB.out.size)
      have N5 : Hid (w.heap.size ≤ wr.heap.size) := hB.out.size
      replace hM : Hid _ := hM
      clear B4 hL hB
      generalize wr.heap.size = N at *
      go_wp2_with fail
      go_loopw [38] (fun z wx => ∃ i : Nat, i ≤ 8704 ∧ z = .int .i64 (i : Nat) ∧ Hid (Bl wx g U U (unl F 8704)) ∧ Hid (Below w.heap.size w wx) ∧ Hid (∃ pv uv, Mk wx N (N + 2) N (N + 1) pv uv (unl F i) (plcs F i))) (fun y _ => (8704 - (intOf y).toNat : Nat))
      case atStart => exact ⟨0, by omega, rfl, L5, B5, ⟨_, _, hM.out⟩⟩
      case round =>
        clear L5 B5 hM
        obtain ⟨i, hi, rfl, hL, hB, hM⟩ := hrel
        by_cases hil : i < 8704
        · have jl : (i : Int) < 8704 := by omega
          have K3 : Hid (∀ W, Calls Try.prog 46 #[.string S, .int .i64 (1 + (i : Int))] W fun e w' => e = .returned (.int .i64 (plc F i : Nat)) ∧ Below W.heap.size W w') := fun W => K1.out W i hil
          obtain ⟨hp1, hp2⟩ := HP.out i hil
          have hge : decide ((U : Int) ≤ ((plc F i : Nat) : Int)) = false := decide_eq_false (by omega)
          have hp3 : ¬ U ≤ plc F i := by omega
          have hp4 : ((plc F i : Nat) : Int) < (U : Int) := by omega
          have LD : Hid (∀ w2, Below wr.heap.size wr w2 → (loadVar 72 ⟨g, plc F i * 128, none⟩).run Try.prog w2 = .ok (.agg (rowOf .u16 128 (blk F i))) w2 ∧ Bl w2 g U U (unl F 8704)) := fun w2 hb => by
            have h1 := hL.out.same (hb.block g (by obtain ⟨pv, uv, m⟩ := hM.out; exact Nat.lt_of_lt_of_le hG.out m.size))
            exact ⟨h1.load hp2 hp1, h1⟩
          have KA : Hid (∀ W, Below wr.heap.size wr W → Calls Try.prog 49 #[.pointer (some ⟨N + 2, 0, none⟩), .agg (rowOf .u16 128 (blk F i))] W fun e w' => e = .returned (.tuple #[]) ∧ Below N W w' ∧ ∃ pv' uv', Mk w' N (N + 2) N (N + 1) pv' uv' (unl F (i + 1)) (plcs F (i + 1))) := fun W hb => by
            obtain ⟨pv, uv, m⟩ := hM.out
            exact add_any N (N + 2) N (N + 1) pv uv F i W (m.below hb) HF.out hil
          clear hp1 hp2 hL hM K1 KP HP HF
          generalize rowOf .u16 128 (blk F i) = X at *
          generalize plc F i = p at *
          go_wp2_with (go_at_call 46; refine (K3.out _).mono ?_)
          rintro e w6 ⟨rfl, b6⟩
          obtain ⟨l6, L6⟩ := LD.out w6 b6
          replace l6 : Hid _ := l6
          replace L6 : Hid (Bl w6 g U U (unl F 8704)) := L6
          have KA6 : Hid (Calls Try.prog 49 #[.pointer (some ⟨N + 2, 0, none⟩), .agg X] w6 fun e w' => e = .returned (.tuple #[]) ∧ Below N w6 w' ∧ ∃ pv' uv', Mk w' N (N + 2) N (N + 1) pv' uv' (unl F (i + 1)) (plcs F (i + 1))) := KA.out w6 b6
          have B6 : Hid (Below w.heap.size w w6) := hB.out.trans (b6.mono hB.out.size)
          clear LD KA b6 hB K3
          go_wp2_with (refine wpList_load_run rfl 72 _ rfl ⟨g, p * 128, none⟩ rfl _ l6.out ?_)
          refine (KA6.out).mono ?_
          rintro e w7 ⟨rfl, b7, m7⟩
          have L7 : Hid (Bl w7 g U U (unl F 8704)) := L6.out.same (b7.block g hG.out)
          have B7 : Hid (Below w.heap.size w w7) := B6.out.trans (b7.mono N5.out)
          replace m7 : Hid _ := m7
          clear b7 L6 B6 l6 KA6
          go_wp2_with fail
          refine ⟨⟨i + 1, ?r1, ?r2, L7, B7, m7.out⟩, ?r3⟩
          case r1 => omega
          case r2 => go_num
          case r3 => simp [intOf]; omega
        · obtain rfl : i = 8704 := by omega
          have t5 : Hid (TabAt wr N F) := by obtain ⟨pv, uv, m⟩ := hM.out; exact m.tab
          have m5 : Hid (wr.heap[N + 2]? = some (.cells #[.pointer (some ⟨N, 0, none⟩), .map (some (N + 1))] 100 (0, 0))) := by obtain ⟨pv, uv, m⟩ := hM.out; exact m.m
          obtain ⟨m0, -⟩ := tab_cells m5.out
          have KP5 : Hid (Calls Try.prog 23 #[.pointer (some ⟨N, 0, none⟩)] wr fun e w' => e = .returned (.string S) ∧ Below wr.heap.size wr w') := KP.out wr N t5.out
          clear hM hL K1 KP HP HF
          go_wp2_with (go_at_call 23; refine (KP5.out).mono ?_)
          rintro e w7 ⟨rfl, b7⟩
          have t7 : Hid (TabAt w7 N F) := t5.out.below b7
          have B7 : Hid (Below w.heap.size w w7) := hB.out.trans (b7.mono hB.out.size)
          obtain ⟨m7, -⟩ := tab_cells (((b7.block _ (Array.getElem?_eq_some_iff.1 m5.out).1)).trans m5.out)
          clear b7 t5 m5 m0 KP5 hB
          go_wp2
          go_ret2
          exact ⟨_, rfl, t7.out, B7.out⟩
end Go.Proofs.Ytookbgmolggohaa

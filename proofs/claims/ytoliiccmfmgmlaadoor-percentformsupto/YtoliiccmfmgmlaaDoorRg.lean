/-
  The contract of the document's FormDecode, and that the two Forms answer the same. Condition: the text is no longer than 2^44 bytes.
-/
import Derived.Test.YtoliiccmfmgmlaaDoorRf
namespace Go.Proofs.YtoliiccmfmgmlaaDoor
open Go.RowKit
theorem sw_app (a c : UInt8) (x y : ByteArray) : sw a c (x ++ y) = sw a c x ++ sw a c y := by
  apply ByteArray.ext
  show (x ++ y).data.map (swB a c) = (sw a c x ++ sw a c y).data
  rw [ByteArray.data_append, ByteArray.data_append, Array.map_append]
  rfl
theorem e1_same : ∀ b, b < 256 → (sw 32 43 (e1 fS b)).data = (if b = 32 then (⟨#[43]⟩ : ByteArray) else e1 qS b).data := by decide +kernel
theorem form_same (s : ByteArray) : ∀ k, frT qS s k = sw 32 43 (encT fS s k)
  | 0 => by
    show (⟨#[]⟩ : ByteArray) = sw 32 43 ⟨#[]⟩
    apply ByteArray.ext
    simp [sw]
  | k + 1 => by
    show frT qS s k ++ (if byt s k = 32 then (⟨#[43]⟩ : ByteArray) else e1 qS (byt s k)) = sw 32 43 (encT fS s k ++ e1 fS (byt s k))
    rw [sw_app, form_same s k, ByteArray.ext (e1_same (byt s k) (byt_lt s k))]
/-- What a byte of a form is read as; the first k of them. -/
def un1 (b : Nat) : Nat := if b = 43 then 32 else b
def unT (s : ByteArray) (k : Nat) : List Int := (List.range k).map fun i => ((un1 (byt s i) : Nat) : Int)
theorem unT_len (s : ByteArray) (k : Nat) : (unT s k).length = k := by simp [unT]
theorem unT_succ (s : ByteArray) (k : Nat) : unT s (k + 1) = unT s k ++ [((un1 (byt s k) : Nat) : Int)] := by
  unfold unT; rw [List.range_succ, List.map_append]; rfl
theorem unT_all (s : ByteArray) : strOfNums (unT s s.size) = sw 43 32 s := by
  have hz : (strOfNums (unT s s.size)).size = s.size := by rw [strOfNums_size, unT_len]
  apply ByteArray.ext
  apply Array.ext
  · show (strOfNums (unT s s.size)).size = (sw 43 32 s).size
    rw [hz, sw_size]
  · intro i h1 h2
    have hi : i < s.size := by rw [← hz]; exact h1
    show (strOfNums (unT s s.size)).data[i]'h1 = (sw 43 32 s)[i]'h2
    rw [sw_get 43 32 s i hi]
    have e : (strOfNums (unT s s.size)).data[i]'h1 = UInt8.ofNat (un1 (byt s i)) := by
      simp [strOfNums, unT]
    rw [e, ← byt_eq s i hi]
    unfold un1 swB
    by_cases q : s[i] = 43
    · rw [if_pos q, if_pos (by rw [q]; rfl)]; rfl
    · have h43 : ¬ s[i].toNat = 43 := fun h => q (UInt8.toNat_inj.1 h)
      rw [if_neg q, if_neg h43]
      simp
set_option maxRecDepth 100000 in
set_option maxHeartbeats 4000000 in
theorem rformDecode_any (s : ByteArray) (w : World) (hs : s.size ≤ 17592186044416) : Calls Tryd.prog 9 #[.string s] w fun e w' => e = .returned (.string (decB (sw 43 32 s))) ∧ Below w.heap.size w w' := by
  obtain ⟨i0, hi, hz0, hz1, hz2⟩ := info_parts info5
  have k18 := fun w => rdecode_any (sw 43 32 s) w (by rw [sw_size]; exact hs)
  obtain ⟨D, hD⟩ : ∃ D, decB (sw 43 32 s) = D := ⟨_, rfl⟩
  rw [hD] at k18 ⊢
  clear hD
  go_enter Tryd.func9, Tryd.ntmps9
  go_wp2_with fail
  go_loopw [3, 4] (fun v i wr => ∃ k : Nat, k ≤ s.size ∧ i = .int .i64 k ∧ Hid (wr.ownsRow w.heap.size 5 1 v (unT s k).length ((unT s k).map fun z => Value.int .u8 z) ∧ Below w.heap.size w wr)) (fun _ i _ => s.size - (RowKit.intOf i).toNat)
  case atStart => exact ⟨0, by omega, rfl, own_empty w 5, (Below.refl _ _).alloc (Nat.le_refl _) _⟩
  case round =>
    obtain ⟨k, hk, rfl, HI⟩ := hrel
    by_cases hlt : k < s.size
    · have hb := byt_eq s k hlt
      have hb256 := byt_lt s k
      have hl := unT_len s k
      obtain ⟨b, hbb⟩ : ∃ b, byt s k = b := ⟨_, rfl⟩
      have HS : Hid (unT s (k + 1) = unT s k ++ [((un1 b : Nat) : Int)]) := by
        show _ = _
        rw [unT_succ, hbb]
      rw [hbb] at hb hb256
      have zz := HI.out.2.size
      have HO : Hid (wr.ownsRow w.heap.size 5 1 _ (unT s k).length ((unT s k).map fun z => Value.int .u8 z)) := HI.out.1
      have HW : Hid (Below w.heap.size w wr) := HI.out.2
      clear HI
      have fin : ∀ (z : Int), z = ((un1 b : Nat) : Int) → ∀ v' w2, w2.ownsRow w.heap.size 5 1 v' (k + 1) (((unT s k).map fun z => Value.int .u8 z) ++ [.int .u8 z]) → Below w.heap.size w w2 → Hid (w2.ownsRow w.heap.size 5 1 v' (unT s (k + 1)).length ((unT s (k + 1)).map fun z => Value.int .u8 z) ∧ Below w.heap.size w w2) := fun z hzz v' w2 h1 h2 => by
        refine ⟨?_, h2⟩
        rw [HS.out, List.length_append, List.map_append, hl, ← hzz]
        exact h1
      by_cases e : b = 43
      · have hq : ((b : Int) == 43) = true := by subst e; rfl
        have fin := fin 32 (by unfold un1; rw [if_pos e]; rfl)
        go_wp2_with (at_builtin; refine wpList_append_own _ rfl _ _ 37 rfl w.heap.size 5 i0 (.int .u8 0) 1 1 Tryd.underlying37 hi hz0 hz1 hz2 rfl (by decide) _ _ _ rfl (HO.out.alloc _) ⟨wr.heap.size, 0, none⟩ 1 1 [.int .u8 32] rfl rfl ?d1 ?d2 ?d3 ?d4 ?d5 ?_)
        case d1 =>
          intro j u hj
          match j, hj with
          | 0, hj => simp at hj; subst hj; simp [Addr.add]
        case d2 => intro u hu; simp at hu; subst hu; rfl
        case d3 => unfold maxLen; omega
        case d4 => omega
        case d5 => simp; omega
        intro v' w2 hown' hgrow _
        have H2 := fin v' w2 hown' ((HW.out.alloc zz _).grown hgrow (by simp; omega) (fun j hj => (HO.out.lt j hj).1))
        clear hown' hgrow fin
        go_wp2
        exact ⟨⟨k + 1, by omega, by go_num, H2⟩, by simp [RowKit.intOf]; omega⟩
      · have hq : ((b : Int) == 43) = false := beq_eq_false_iff_ne.2 (by omega)
        have fin := fin b (by unfold un1; rw [if_neg e])
        go_wp2_with (at_builtin; refine wpList_append_own _ rfl _ _ 37 rfl w.heap.size 5 i0 (.int .u8 0) 1 1 Tryd.underlying37 hi hz0 hz1 hz2 rfl (by decide) _ _ _ rfl (HO.out.alloc _) ⟨wr.heap.size, 0, none⟩ 1 1 [.int .u8 (b : Int)] rfl rfl ?d1 ?d2 ?d3 ?d4 ?d5 ?_)
        case d1 =>
          intro j u hj
          match j, hj with
          | 0, hj => simp at hj; subst hj; simp [Addr.add]
        case d2 => intro u hu; simp at hu; subst hu; rfl
        case d3 => unfold maxLen; omega
        case d4 => omega
        case d5 => simp; omega
        intro v' w2 hown' hgrow _
        have H2 := fin v' w2 hown' ((HW.out.alloc zz _).grown hgrow (by simp; omega) (fun j hj => (HO.out.lt j hj).1))
        clear hown' hgrow fin
        go_wp2
        exact ⟨⟨k + 1, by omega, by go_num, H2⟩, by simp [RowKit.intOf]; omega⟩
    · have : k = s.size := by omega
      subst this
      have hcv := string_own (P := Tryd.prog) 37 5 9 HI.out.1 Tryd.underlying37 Tryd.underlying5 Tryd.underlying9
      rw [unT_all] at hcv
      have HW : Hid (Below w.heap.size w wr) := HI.out.2
      clear HI
      go_wp2_with (go_at_call 18; refine (k18 _).mono ?_)
      rintro e w2 ⟨v, rfl, ho, b2⟩
      have B2 : Hid (Below w.heap.size w w2) := HW.out.trans (b2.mono HW.out.size)
      clear b2 ho
      go_wp2
      go_ret
      exact ⟨rfl, B2.out⟩
end Go.Proofs.YtoliiccmfmgmlaaDoor

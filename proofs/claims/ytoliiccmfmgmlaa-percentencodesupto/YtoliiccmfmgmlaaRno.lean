/-
  The contract of the document's Normal: what the parts of a text say, coded by the set and the sign besides. Condition: the text is no longer than a third of what one that comes in can be.
-/
import Derived.Test.YtoliiccmfmgmlaaNo
import Derived.Test.YtoliiccmfmgmlaaRdc
namespace Go.Proofs.Ytoliiccmfmgmlaa
open Go.RowKit
attribute [local go_sem] rowOf_size
/-- What a row of parts becomes. -/
def norL (q : Nat → Bool) (s : ByteArray) (l : List Nat) : ByteArray := l.foldl (fun x k => x ++ e1 q (sy s k)) ⟨#[]⟩
theorem norL_snoc (q : Nat → Bool) (s : ByteArray) (l : List Nat) (k : Nat) : norL q s (l ++ [k]) = norL q s l ++ e1 q (sy s k) := by simp [norL]
theorem norL_size (q : Nat → Bool) (s : ByteArray) : ∀ (n : Nat) (l : List Nat), l.length = n → (norL q s l).size ≤ 3 * n := by
  intro n
  induction n with
  | zero => intro l h; rw [List.eq_nil_of_length_eq_zero h]; show (0 : Nat) ≤ _; omega
  | succ n ih =>
    intro l h
    obtain ⟨l', k, rfl⟩ : ∃ l' k, l = l' ++ [k] := by
      rcases List.eq_nil_or_concat l with e | ⟨l', k, e⟩
      · rw [e] at h; cases h
      · exact ⟨l', k, by rw [e]; simp⟩
    have h1 := ih l' (by simp at h; omega)
    have h2 := e1_size q (sy s k)
    rw [norL_snoc]
    have h3 : (norL q s l' ++ e1 q (sy s k)).size = (norL q s l').size + (e1 q (sy s k)).size := by simp
    omega
theorem byt_dec (s : ByteArray) (j : Nat) (h : j < (poss s).length) : byt (decB s) j = sy s ((poss s)[j]) := by
  have hz : j < (decB s).size := by rw [decB_size]; exact h
  rw [← byt_eq _ _ hz]
  have hl := sy_lt s ((poss s)[j])
  show ((says s (poss s)).toArray[j]'(by simpa [says] using h)).toNat = _
  simp [says]; omega
theorem encT_dec (q : Nat → Bool) (s : ByteArray) : ∀ j, j ≤ (poss s).length → encT q (decB s) j = norL q s ((poss s).take j)
  | 0, _ => by simp [encT, norL]
  | j + 1, h => by
    rw [List.take_succ_eq_append_getElem (by omega), norL_snoc, ← encT_dec q s j (by omega), ← byt_dec s j (by omega)]; rfl
theorem nor_all (q : Nat → Bool) (s : ByteArray) : norL q s (poss s) = encB q (decB s) := by
  unfold encB
  rw [decB_size, encT_dec q s _ (Nat.le_refl _), List.take_length]
/-- What holds at the head of each round. -/
def RnIn (q : Nat → Bool) (f : Nat → Int) (s : ByteArray) (w : World) (k : Nat) (o : Value) (wr : World) : Prop :=
  ∃ pre, poss s = pre ++ posAt s k ∧ pre.length ≤ k ∧ o = .string (norL q s pre) ∧ wr.heap[w.heap.size]? = some (.cells (rowOf .u8 256 f) 38 (0, 0)) ∧ Below w.heap.size w wr
theorem one_string (W : World) (b : Nat) : (convert 49 9 (.slice (some ⟨W.heap.size, 0, none⟩) 1 1)).run Try.prog (W.alloc (.cells #[.int .u8 b] 5)) = .ok (.string ⟨#[UInt8.ofNat b]⟩) (W.alloc (.cells #[.int .u8 b] 5)) := by
  have := run_convert_bytes_arg (P := Try.prog) (W.alloc (.cells #[.int .u8 b] 5)) 49 5 Try.underlying49 Try.underlying5 W.heap.size 0 1 1 [(b : Int)] rfl (fun i hi => by
    match i, hi with
    | 0, _ => simp) 9 Try.underlying9
  exact this
set_option maxRecDepth 100000 in
set_option maxHeartbeats 4000000 in
theorem rnormal_any (p : Nat → Bool) (f : Nat → Int) (hp : ∀ b, b < 256 → (f b == 1) = p b) (s : ByteArray) (w : World) (hs : s.size ≤ 46912496100000) :
    Calls Try.prog 18 #[.string s, .agg (rowOf .u8 256 f)] w fun e w' => e = .returned (.string (encB (withP p) (decB s))) ∧ Below w.heap.size w w' := by
  have HP : Hid (∀ b, b < 256 → (f b == 1) = p b) := hp
  clear hp
  have HR : Hid (norL (withP p) s (poss s) = encB (withP p) (decB s)) := nor_all _ _
  have H0 : Hid (RnIn (withP p) f s w 0 (.string ⟨#[]⟩) (w.alloc (.cells (rowOf .u8 256 f) 38))) := ⟨[], rfl, Nat.le_refl _, rfl, World.alloc_heap_new _ _, (Below.refl _ w).alloc (Nat.le_refl _) _⟩
  go_enter Try.func18, Try.ntmps18
  go_wp2
  go_loopw [5, 6] (fun o i wr => ∃ k : Nat, i = .int .i64 k ∧ k ≤ s.size ∧ Hid (RnIn (withP p) f s w k o wr)) (fun _ i _ => s.size - (intOf i).toNat)
  case atStart => exact ⟨0, rfl, Nat.zero_le _, H0⟩
  case round =>
    clear H0
    obtain ⟨k, rfl, hk, HI⟩ := hrel
    obtain ⟨pre, hx, hpl, rfl, hbox, hB⟩ := HI.out
    clear HI
    by_cases hlt : k < s.size
    · have hlti : (k : Int) < (s.size : Int) := by omega
      rw [posAt_cons s k hlt] at hx
      have kc := rcoded_any s k wr (by omega) hlt
      have hpz := pz_le s k hlt
      have q0 : (s[k]'hlt).toNat = byt s k := byt_eq s k hlt
      have hz := norL_size (withP p) s pre.length pre rfl
      have hwz : w.heap.size < wr.heap.size := (Array.getElem?_eq_some_iff.1 hbox).1
      have lb := sy_lt s k
      have hpb := HP.out _ lb
      have HBX : Hid (∀ wa, Below wr.heap.size wr wa → wa.cell? ⟨w.heap.size, sy s k, none⟩ = some (.int .u8 (f (sy s k)))) := fun wa hb => by
        have := (hb.block _ hwz).trans hbox
        simp only [World.cell?, this]; exact rowOf_get .u8 256 f _ lb
      have FIN : Hid (∀ (m : Nat) (wb : World) (x : ByteArray), k + pz s k = m → e1 (withP p) (sy s k) = x → Below wr.heap.size wr wb → RnIn (withP p) f s w m (.string (norL (withP p) s pre ++ x)) wb) := fun m wb x hm hx2 hb => by
        subst hm; subst hx2
        exact ⟨pre ++ [k], by rw [hx]; simp, by simp; omega, by rw [norL_snoc], (hb.block _ hwz).trans hbox, hB.trans (hb.mono hB.size)⟩
      have hsy : cd s k = false → sy s k = byt s k := fun h => if_neg (by rw [h]; decide)
      have kx := fun w => rhex_any (sy s k) w lb
      have kq : withP p (sy s k) = (p (sy s k) || (sy s k == 37)) := by unfold withP; rw [from37]
      have hxs : (hexB (sy s k)).size = 2 := rfl
      have e1t : withP p (sy s k) = true → e1 (withP p) (sy s k) = (⟨#[37]⟩ : ByteArray) ++ hexB (sy s k) := fun h => if_pos h
      have e1f : withP p (sy s k) = false → e1 (withP p) (sy s k) = ⟨#[UInt8.ofNat (sy s k)]⟩ := fun h => if_neg (by rw [h]; decide)
      have h1 : ((⟨#[37]⟩ : ByteArray) ++ hexB (sy s k)).size = 3 := rfl
      have ks := fun hc => rsays_any s k wr (by omega) hc
      clear hx hbox hB
      obtain ⟨b, hb⟩ : ∃ b, sy s k = b := ⟨_, rfl⟩
      rw [hb] at lb hpb HBX FIN hsy kx kq hxs e1t e1f h1 ks
      have lbi : (b : Int) < 256 := by omega
      obtain ⟨v, hv⟩ : ∃ v, f b = v := ⟨_, rfl⟩
      rw [hv] at hpb HBX
      obtain ⟨T, hT⟩ : ∃ T, norL (withP p) s pre = T := ⟨_, rfl⟩
      rw [hT] at hz FIN ⊢
      obtain ⟨H, eH⟩ : ∃ H, hexB b = H := ⟨_, rfl⟩
      rw [eH] at kx hxs e1t h1
      clear hb hv hT eH
      cases hc : cd s k
      · rw [hc] at kc
        have hbb := hsy hc
        have hzz : pz s k = 1 := if_neg (by rw [hc]; decide)
        rw [← hbb] at q0
        have hcell := HBX.out wr (Below.refl _ _)
        clear ks hsy hbb hc HBX
        cases hq : p b
        · rw [hq] at hpb
          by_cases h37 : b = 37
          · have c37 : ((b : Int) == 37) = true := by simp; omega
            have E := e1t (by rw [kq]; simp [h37])
            have F := fun wb => FIN.out (k + 1) wb _ (by omega) E
            obtain ⟨V, eV⟩ : ∃ V, (⟨#[37]⟩ : ByteArray) ++ H = V := ⟨_, rfl⟩
            rw [eV] at F h1
            have hl1 : ¬ 9223372036854775807 < 1 + H.size := by omega
            have hl2 : ¬ 9223372036854775807 < T.size + V.size := by omega
            have HF : Hid _ := F
            clear h37 F E e1t e1f FIN kq
            go_wp2_with (first | (go_at_call 24; refine kc.mono ?_; rintro e w' ⟨rfl, rfl⟩) | (go_at_call 32; refine (kx _).mono ?_))
            first | rintro e w4 rfl b4 | rintro e w4 ⟨rfl, b4⟩
            have HE : Hid (RnIn (withP p) f s w (k + 1) (.string (T ++ V)) w4) := HF.out w4 (b4)
            clear HF b4 kx
            go_wp2
            exact ⟨⟨(k + 1), by go_num, by omega, HE⟩, by simp [intOf]; omega⟩
          · have c37 : ((b : Int) == 37) = false := beq_false_of_ne (by omega)
            have E := e1f (by rw [kq]; simp [hq, h37])
            have F := fun wb => FIN.out (k + 1) wb _ (by omega) E
            obtain ⟨V, eV⟩ : ∃ V, (⟨#[UInt8.ofNat b]⟩ : ByteArray) = V := ⟨_, rfl⟩
            have hvs : V.size = 1 := by rw [← eV]; rfl
            have hcv := one_string wr b
            rw [eV] at F hcv
            have hl2 : ¬ 9223372036854775807 < T.size + V.size := by omega
            have HE : Hid (RnIn (withP p) f s w (k + 1) (.string (T ++ V)) (wr.alloc (.cells #[.int .u8 b] 5))) := F _ ((Below.refl _ wr).alloc (Nat.le_refl _) _)
            clear h37 F E e1t e1f FIN kq kx
            go_wp2_with (go_at_call 24; refine kc.mono ?_; rintro e w' ⟨rfl, rfl⟩)
            exact ⟨⟨(k + 1), by go_num, by omega, HE⟩, by simp [intOf]; omega⟩
        · rw [hq] at hpb
          have E := e1t (by rw [kq]; simp [hq])
          have F := fun wb => FIN.out (k + 1) wb _ (by omega) E
          obtain ⟨V, eV⟩ : ∃ V, (⟨#[37]⟩ : ByteArray) ++ H = V := ⟨_, rfl⟩
          rw [eV] at F h1
          have hl1 : ¬ 9223372036854775807 < 1 + H.size := by omega
          have hl2 : ¬ 9223372036854775807 < T.size + V.size := by omega
          have HF : Hid _ := F
          clear F E e1t e1f FIN kq
          go_wp2_with (first | (go_at_call 24; refine kc.mono ?_; rintro e w' ⟨rfl, rfl⟩) | (go_at_call 32; refine (kx _).mono ?_))
          first | rintro e w4 rfl b4 | rintro e w4 ⟨rfl, b4⟩
          have HE : Hid (RnIn (withP p) f s w (k + 1) (.string (T ++ V)) w4) := HF.out w4 (b4)
          clear HF b4 kx
          go_wp2
          exact ⟨⟨(k + 1), by go_num, by omega, HE⟩, by simp [intOf]; omega⟩
      · rw [hc] at kc
        have ks2 := ks hc
        have hzz : pz s k = 3 := if_pos hc
        clear ks hsy hc
        go_wp2_with (first | (go_at_call 24; refine kc.mono ?_; rintro e w' ⟨rfl, rfl⟩) | (go_at_call 25; refine ks2.mono ?_))
        first | rintro e w3 rfl hq3 | rintro e w3 ⟨rfl, hq3⟩
        have hcell := HBX.out w3 hq3
        have hq3z := hq3.size
        clear HBX ks2 kc
        cases hq : p b
        · rw [hq] at hpb
          by_cases h37 : b = 37
          · have c37 : ((b : Int) == 37) = true := by simp; omega
            have E := e1t (by rw [kq]; simp [h37])
            have F := fun wb => FIN.out (k + 3) wb _ (by omega) E
            obtain ⟨V, eV⟩ : ∃ V, (⟨#[37]⟩ : ByteArray) ++ H = V := ⟨_, rfl⟩
            rw [eV] at F h1
            have hl1 : ¬ 9223372036854775807 < 1 + H.size := by omega
            have hl2 : ¬ 9223372036854775807 < T.size + V.size := by omega
            have HF : Hid _ := F
            clear h37 F E e1t e1f FIN kq
            go_wp2_with (go_at_call 32; refine (kx _).mono ?_)
            first | rintro e w4 rfl b4 | rintro e w4 ⟨rfl, b4⟩
            have HE : Hid (RnIn (withP p) f s w (k + 3) (.string (T ++ V)) w4) := HF.out w4 (hq3.trans (b4.mono hq3.size))
            clear HF b4 kx
            go_wp2
            exact ⟨⟨(k + 3), by go_num, by omega, HE⟩, by simp [intOf]; omega⟩
          · have c37 : ((b : Int) == 37) = false := beq_false_of_ne (by omega)
            have E := e1f (by rw [kq]; simp [hq, h37])
            have F := fun wb => FIN.out (k + 3) wb _ (by omega) E
            obtain ⟨V, eV⟩ : ∃ V, (⟨#[UInt8.ofNat b]⟩ : ByteArray) = V := ⟨_, rfl⟩
            have hvs : V.size = 1 := by rw [← eV]; rfl
            have hcv := one_string w3 b
            rw [eV] at F hcv
            have hl2 : ¬ 9223372036854775807 < T.size + V.size := by omega
            have HE : Hid (RnIn (withP p) f s w (k + 3) (.string (T ++ V)) (w3.alloc (.cells #[.int .u8 b] 5))) := F _ (hq3.alloc hq3.size _)
            clear h37 F E e1t e1f FIN kq kx
            go_wp2
            exact ⟨⟨(k + 3), by go_num, by omega, HE⟩, by simp [intOf]; omega⟩
        · rw [hq] at hpb
          have E := e1t (by rw [kq]; simp [hq])
          have F := fun wb => FIN.out (k + 3) wb _ (by omega) E
          obtain ⟨V, eV⟩ : ∃ V, (⟨#[37]⟩ : ByteArray) ++ H = V := ⟨_, rfl⟩
          rw [eV] at F h1
          have hl1 : ¬ 9223372036854775807 < 1 + H.size := by omega
          have hl2 : ¬ 9223372036854775807 < T.size + V.size := by omega
          have HF : Hid _ := F
          clear F E e1t e1f FIN kq
          go_wp2_with (go_at_call 32; refine (kx _).mono ?_)
          first | rintro e w4 rfl b4 | rintro e w4 ⟨rfl, b4⟩
          have HE : Hid (RnIn (withP p) f s w (k + 3) (.string (T ++ V)) w4) := HF.out w4 (hq3.trans (b4.mono hq3.size))
          clear HF b4 kx
          go_wp2
          exact ⟨⟨(k + 3), by go_num, by omega, HE⟩, by simp [intOf]; omega⟩
    · have hlti : ¬ (k : Int) < (s.size : Int) := by omega
      rw [posAt_nil s k hlt, List.append_nil] at hx
      have HX : Hid (norL (withP p) s pre = encB (withP p) (decB s)) := by rw [← hx]; exact HR
      have HB : Hid (Below w.heap.size w wr) := hB
      clear hx hbox hB HR
      go_wp2
      go_ret
      exact ⟨ret_str HX.out, HB.out⟩
end Go.Proofs.Ytoliiccmfmgmlaa

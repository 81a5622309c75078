/-
  Proper, and the law PunyDecodes.
-/
import Derived.Test.YtahmeejcgddlhaaRk
import Derived.Deep.DeepMust
import Derived.Lib.SlicesS
namespace Go.Proofs.Ytahmeejcgddlhaa
open Go.RowKit
theorem decP_any (s : ByteArray) (w : World) (hs : s.size < 67108865) (hlim : ∀ L, decS usual s = .inr L → L.length < 1048577) : Calls Try.prog 13 #[.string s] w fun e w' => Hid (dcA (decS usual s) w.heap.size e w' ∧ Below w.heap.size w w') :=
  Decode_any s w hs fun L h => by have := hlim L h; omega
theorem decD_any (s : ByteArray) (w : World) (hs : s.size < 67108865) : Calls Try.prog 14 #[.string s] w fun e w' => Hid (dcA (decS usual s) w.heap.size e w' ∧ Below w.heap.size w w') := rDecode_any s w hs
/-- Whether a text is just what its name is encoded as. -/
def propR (s : ByteArray) (b : Bool) : Prop := match decS usual s with
  | .inl _ => b = false
  | .inr L => ∀ os, SrtL (KZ L) (osL usual L L.length) os → (b = true ↔ (encT L os).2.2 = 0 ∧ (encT L os).1 = s)
set_option maxRecDepth 100000 in
set_option maxHeartbeats 2000000 in
theorem proper_any (s : ByteArray) (w : World) (hs : s.size < 67108865) (hlim : ∀ L, decS usual s = .inr L → L.length < 1048577) : Calls Try.prog 15 #[.string s] w fun e w' => ∃ b, Hid (e = .returned (.bool b) ∧ propR s b ∧ Below w.heap.size w w') := by
  have k13 := decP_any s w hs hlim
  have HL : Hid (∀ L, decS usual s = .inr L → L.length < 1048577) := hlim
  have HP : Hid (∀ b, (match decS usual s with
  | .inl _ => b = false
  | .inr L => ∀ os, SrtL (KZ L) (osL usual L L.length) os → (b = true ↔ (encT L os).2.2 = 0 ∧ (encT L os).1 = s)) → propR s b) := fun b h => h
  obtain ⟨G, hG⟩ : ∃ G, decS usual s = G := ⟨_, rfl⟩
  rw [hG] at k13 HL HP
  have hcode := decS_code usual s
  rw [hG] at hcode
  clear hG hlim hs
  go_enter Try.func15, Try.ntmps15
  go_wp2_with (go_at_call 13; refine k13.mono ?_)
  intro _ w2 hq
  obtain ⟨hd, b2⟩ := hq.out
  have HB2 : Hid (Below w.heap.size w w2) := b2
  cases G with
  | inl g =>
    obtain ⟨ga, gc⟩ := g
    rw [dcA] at hd
    subst hd
    have hc1 : (gc != 0) = true := by simpa using hcode ga gc rfl
    have HX : Hid (propR s false) := HP.out false rfl
    clear hq b2 k13 hcode HL HP
    go_wp2
    go_ret
    exact ⟨false, rfl, HX.out, HB2.out⟩
  | inr L =>
    obtain ⟨v, rfl, hR⟩ := hd
    obtain ⟨os, hS⟩ := sorted L
    have k10 := encP_any L os v w2 (HL.out L rfl) hS hR.rds
    have HX : Hid (∀ b : Bool, (b = true ↔ (encT L os).2.2 = 0 ∧ (encT L os).1 = s) → propR s b) := fun b h => HP.out b fun os' h' => by rw [← hS.uniq h']; exact h
    obtain ⟨r, hr⟩ : ∃ r, encT L os = r := ⟨_, rfl⟩
    rw [hr] at k10 HX
    obtain ⟨S, P, E⟩ := r
    unfold encV at k10
    simp only at k10 HX
    obtain ⟨a1, c1, rfl, -⟩ := owns_slice hR
    clear hq b2 k13 hcode HL HP hr hR hS
    go_wp2_with (go_at_call 10; refine k10.mono ?_)
    intro _ w3 hq
    obtain ⟨rfl, b3⟩ := hq.out
    have HB3 : Hid (Below w.heap.size w w3) := HB2.out.trans (b3.mono HB2.out.size)
    clear hq b3 k10 HB2
    by_cases c1 : E = 0
    · subst c1
      by_cases c2 : S = s
      · subst c2
        have HY : Hid (propR S true) := HX.out true (by simp)
        clear HX
        go_wp2
        go_ret
        exact ⟨true, rfl, HY.out, HB3.out⟩
      · have c3 : (S.toList == s.toList) = false := (Lib.bytes_beq_false_iff _ _).2 c2
        have HY : Hid (propR s false) := HX.out false (by simp [c2])
        clear HX c2
        go_wp2
        go_ret
        exact ⟨false, rfl, HY.out, HB3.out⟩
    · have c3 : (E == 0) = false := by simpa using c1
      have HY : Hid (propR s false) := HX.out false (by simp [c1])
      clear HX c1
      go_wp2
      go_ret
      exact ⟨false, rfl, HY.out, HB3.out⟩
set_option maxRecDepth 100000 in
set_option maxHeartbeats 2000000 in
theorem law_decodes (s : ByteArray) (w : World) (hs : s.size < 1048577) : Calls Try.prog 4 #[.string s] w fun e w' => e = .returned (.bool true) ∧ Below w.heap.size w w' := by
  have k0 := awake_any w
  have hlim : ∀ L, decS usual s = .inr L → L.length < 1048577 := fun L h => by have := decS_len usual usual_ok s L h; omega
  have k13 := fun w => decP_any s w (by omega) hlim
  have k14 := fun w => decD_any s w (by omega)
  have k15 := fun w => proper_any s w (by omega) hlim
  have HL : Hid (∀ L, decS usual s = .inr L → L.length < 1048577) := hlim
  have hcode := decS_code usual s
  unfold propR at k15
  obtain ⟨G, hG⟩ : ∃ G, decS usual s = G := ⟨_, rfl⟩
  simp only [hG] at k13 k14 k15 HL hcode
  clear hG hlim hs
  go_enter Try.func4, Try.ntmps4
  go_wp2_with (go_at_call 9; refine (calls_hid k0).mono ?_)
  intro _ w1 hq
  obtain ⟨rfl, b1⟩ := hq.out
  have HB1 : Hid (Below w.heap.size w w1) := b1
  clear hq b1 k0
  go_wp2_with (go_at_call 13; refine (k13 _).mono ?_)
  intro _ w2 hq
  obtain ⟨hd, b2⟩ := hq.out
  have HB2 : Hid (Below w.heap.size w w2) := HB1.out.trans (b2.mono HB1.out.size)
  cases G with
  | inl g =>
    obtain ⟨ga, gc⟩ := g
    rw [dcA] at hd
    subst hd
    have hc1 : (gc != 0) = true := by simpa using hcode ga gc rfl
    have hc2 : (gc == 0) = false := by simpa using hcode ga gc rfl
    clear hq b2 k13 hcode HB1 HL
    go_wp2_with (go_at_call 14; refine (k14 _).mono ?_)
    intro _ w3 hq
    obtain ⟨hd, b3⟩ := hq.out
    rw [dcA] at hd
    subst hd
    have HB3 : Hid (Below w.heap.size w w3) := HB2.out.trans (b3.mono HB2.out.size)
    have hnil : ∀ w, Rds .i32 w (.slice none 0 0) [] := fun w => ⟨none, 0, rfl, fun h => by simp at h⟩
    have k12 := sameL_any [] (.slice none 0 0) (.slice none 0 0) w3 (hnil _) (hnil _) (by decide)
    obtain ⟨os, hS⟩ := sorted []
    have k11 := fun w => encD_any [] os (.slice none 0 0) w (by decide) hS (hnil w)
    obtain ⟨r, hr⟩ : ∃ r, encT [] os = r := ⟨_, rfl⟩
    simp only [hr] at k11
    obtain ⟨S, P, E⟩ := r
    unfold encV at k11
    try simp only at k11
    clear hq b3 k14 HB2 hr hS
    go_wp2_with (go_at_call 12; refine (calls_hid k12).mono ?_)
    intro _ w4 hq
    obtain ⟨rfl, b4⟩ := hq.out
    have HB4 : Hid (Below w.heap.size w w4) := HB3.out.trans (b4.mono HB3.out.size)
    clear hq b4 k12 HB3
    go_wp2_with (go_at_call 11; refine (k11 _).mono ?_)
    intro _ w5 hq
    obtain ⟨rfl, b5⟩ := hq.out
    have HB5 : Hid (Below w.heap.size w w5) := HB4.out.trans (b5.mono HB4.out.size)
    clear hq b5 k11 HB4
    go_wp2_with (go_at_call 15; refine (k15 _).mono ?_)
    intro _ w6 hq
    obtain ⟨b, hq⟩ := hq
    obtain ⟨rfl, hb, b6⟩ := hq.out
    subst hb
    have HB6 : Hid (Below w.heap.size w w6) := HB5.out.trans (b6.mono HB5.out.size)
    clear hq b6 k15 HB5
    go_wp2
    go_ret
    exact ⟨rfl, HB6.out⟩
  | inr L =>
    obtain ⟨v, rfl, hR⟩ := hd
    have R2 : Hid (Rds .i32 w2 v L) := hR.rds
    have HLL : Hid (L.length < 1048577) := HL.out L rfl
    obtain ⟨a1, c1, rfl, -⟩ := owns_slice hR
    clear hq b2 k13 hcode HB1 HL hR
    go_wp2_with (go_at_call 14; refine (k14 _).mono ?_)
    intro _ w3 hq
    obtain ⟨⟨v3, rfl, hR3⟩, b3⟩ := hq.out
    have HB3 : Hid (Below w.heap.size w w3) := HB2.out.trans (b3.mono HB2.out.size)
    have k12 := sameL_any L _ v3 w3 (R2.out.below b3) hR3.rds (by have := HLL.out; omega)
    have R3 : Hid (Rds .i32 w3 v3 L) := hR3.rds
    obtain ⟨a3, c3, rfl, -⟩ := owns_slice hR3
    obtain ⟨os, hS⟩ := sorted L
    have k11 := fun w4 (h : Below w3.heap.size w3 w4) => encD_any L os _ w4 HLL.out hS (R3.out.below h)
    have k15b : ∀ w, Calls Try.prog 15 #[.string s] w fun e w' => ∃ b, Hid (e = .returned (.bool b) ∧ (b = true ↔ (encT L os).2.2 = 0 ∧ (encT L os).1 = s) ∧ Below w.heap.size w w') := fun w => (k15 w).mono fun _ _ ⟨b, h⟩ => ⟨b, h.out.1, h.out.2.1 os hS, h.out.2.2⟩
    obtain ⟨r, hr⟩ : ∃ r, encT L os = r := ⟨_, rfl⟩
    simp only [hr] at k11 k15b
    obtain ⟨S, P, E⟩ := r
    unfold encV at k11
    try simp only at k11
    try simp only at k15b
    clear hq b3 k14 HB2 hr hS k15 hR3 R2
    go_wp2_with (go_at_call 12; refine (calls_hid k12).mono ?_)
    intro _ w4 hq
    obtain ⟨rfl, b4⟩ := hq.out
    have HB4 : Hid (Below w.heap.size w w4) := HB3.out.trans (b4.mono HB3.out.size)
    have k11b := k11 w4 b4
    clear hq b4 k12 HB3 k11
    go_wp2_with (go_at_call 11; refine k11b.mono ?_)
    intro _ w5 hq
    obtain ⟨rfl, b5⟩ := hq.out
    have HB5 : Hid (Below w.heap.size w w5) := HB4.out.trans (b5.mono HB4.out.size)
    clear hq b5 k11b HB4
    go_wp2_with (go_at_call 15; refine (k15b _).mono ?_)
    intro _ w6 hq
    obtain ⟨b, hq⟩ := hq
    obtain ⟨rfl, hb, b6⟩ := hq.out
    have HB6 : Hid (Below w.heap.size w w6) := HB5.out.trans (b6.mono HB5.out.size)
    clear hq b6 k15b HB5
    by_cases c1 : E = 0
    · subst c1
      by_cases c2 : S = s
      · subst c2
        obtain rfl : b = true := hb.2 ⟨rfl, rfl⟩
        clear hb
        go_wp2
        go_ret
        exact ⟨rfl, HB6.out⟩
      · have c3 : (S.toList == s.toList) = false := (Lib.bytes_beq_false_iff _ _).2 c2
        obtain rfl : b = false := by cases b; rfl; exact absurd (hb.1 rfl).2 c2
        clear hb c2
        go_wp2
        go_ret
        exact ⟨rfl, HB6.out⟩
    · have c3 : (E == 0) = false := by simpa using c1
      obtain rfl : b = false := by cases b; rfl; exact absurd (hb.1 rfl).1 c1
      clear hb c1
      go_wp2
      go_ret
      exact ⟨rfl, HB6.out⟩
end Go.Proofs.Ytahmeejcgddlhaa

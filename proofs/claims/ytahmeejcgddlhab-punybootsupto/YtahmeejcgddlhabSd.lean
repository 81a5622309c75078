/-
  The law PunyUsual.
-/
import Derived.Test.YtahmeejcgddlhabSb
import Derived.Test.YtahmeejcgddlhabSc
import Derived.Test.YtahmeejcgddlhabQp
import Derived.Deep.DeepMust
namespace Go.Proofs.Ytahmeejcgddlhab
open Go.RowKit
theorem chk_usual : chk usual = true := by decide
set_option maxRecDepth 100000 in
theorem usual2_any (w : World) : Calls Try.prog 14 #[] w fun e w' => Hid (e = .returned (.agg #[.int .i64 36, .int .i64 1, .int .i64 26, .int .i64 38, .int .i64 700, .int .i64 72, .int .i64 128, .int .u8 45]) ∧ Below w.heap.size w w') := usual_any w
/-- Memory that the law leaves alone, and the parameters in their box. -/
def BoxI (p : Bt) (O : Nat) (w w2 : World) : Prop := Below O w w2 ∧ w2.heap[O]? = some (.cells (bv p) 23)
theorem BoxI.step {p : Bt} {O : Nat} {w w2 w3 : World} (h : BoxI p O w w2) (hb : Below w2.heap.size w2 w3) : BoxI p O w w3 := by
  have hl := (Array.getElem?_eq_some_iff.1 h.2).1
  exact ⟨h.1.trans (hb.mono (by omega)), (hb.block O hl).trans h.2⟩
theorem BoxI.at {p : Bt} {O : Nat} {w w2 : World} (h : BoxI p O w w2) (j : Nat) (u : Value) (hj : (bv p)[j]? = some u) : w2.cell? ⟨O, j, none⟩ = some u := by simp [World.cell?, h.2, hj]
theorem encU_any (zs : List Int) (v : Value) (w : World) (hz : zs.length < 1048577) (h : Rds .i32 w v zs) : Calls Try.prog 9 #[.agg #[.int .i64 36, .int .i64 1, .int .i64 26, .int .i64 38, .int .i64 700, .int .i64 72, .int .i64 128, .int .u8 45], v] w fun e w' => Hid (enA usual zs e ∧ Below w.heap.size w w') := by
  have k := encodeBy_any usual zs v w (by decide) (by decide) hz h
  unfold ebA at k
  simp only [if_pos chk_usual] at k
  exact k
theorem decU_any (s : ByteArray) (w : World) (hs : s.size < 1048577) : Calls Try.prog 12 #[.agg #[.int .i64 36, .int .i64 1, .int .i64 26, .int .i64 38, .int .i64 700, .int .i64 72, .int .i64 128, .int .u8 45], .string s] w fun e w' => Hid (dcA (decS usual s) w.heap.size e w' ∧ Below w.heap.size w w') := by
  have k := decodeBy_any usual s w (by decide) (by decide) (by omega) (fun _ L hL => by have := decS_len usual usual_ok s L hL; omega)
  unfold dbA at k
  simp only [if_pos chk_usual] at k
  exact k
theorem ebA_back {p : Bt} {zs : List Int} (hz : zs.length < 1048577) {e : Ending} (h : ebA p zs e) : (∃ a c : Int, c ≠ 0 ∧ e = .returned (.tuple #[.string ⟨#[]⟩, .int .i64 a, .int .i64 c])) ∨ ∃ S : ByteArray, chk p = true ∧ e = .returned (.tuple #[.string S, .int .i64 0, .int .i64 0]) ∧ decS p S = .inr zs ∧ S.size < 67108865 := by
  unfold ebA at h
  by_cases c : chk p = true
  · rw [if_pos c] at h
    rcases enA_back (chk_ok c).1 (chk_ok c).2.2 hz h with q | ⟨S, q⟩
    · exact .inl q
    · exact .inr ⟨S, c, q⟩
  · rw [if_neg c] at h
    exact .inl ⟨0, 144, by decide, h⟩
set_option maxRecDepth 100000 in
set_option maxHeartbeats 8000000 in
theorem law_usual (p : Bt) (zs : List Int) (v : Value) (s : ByteArray) (w : World) (hb : 0 ≤ p.btw) (hb2 : p.btw < 256) (hz : zs.length < 1048577) (hs : s.size < 1048577) (h : Rds .i32 w v zs) : Calls Try.prog 4 #[.agg (bv p), v, .string s] w fun e w' => e = .returned (.bool true) ∧ Below w.heap.size w w' := by
  have HD : Hid (Rds .i32 w v zs) := h
  have HZ : Hid (zs.length < 1048577) := hz
  have HP : Hid (0 ≤ p.btw ∧ p.btw < 256) := ⟨hb, hb2⟩
  obtain ⟨a, c, rfl, -⟩ := h
  have HI0 : Hid (BoxI p w.heap.size w (w.alloc (.cells (bv p) 23))) := ⟨(Below.refl w.heap.size w).alloc (Nat.le_refl _) _, heap_new _ _⟩
  have k5 := awake_any (w.alloc (.cells (bv p) 23))
  have hlim : ∀ L, decS usual s = .inr L → L.length < 2097152 := fun L hL => by have := decS_len usual usual_ok s L hL; omega
  have k16 := fun w1 => Decode_any s w1 (by omega) hlim
  have k12u := fun w1 => decU_any s w1 hs
  have HGL : Hid (∀ L, decS usual s = .inr L → L.length < 2097152) := hlim
  obtain ⟨G, hG⟩ : ∃ G, decS usual s = G := ⟨_, rfl⟩
  simp only [hG] at k16 k12u HGL
  clear hz hs hb hb2 hlim hG
  go_enter Try.func4, Try.ntmps4
  go_wp2_with (go_at_call 5; refine (calls_hid k5).mono ?_)
  intro _ w2 hq
  obtain ⟨rfl, b2⟩ := hq.out
  have HI2 : Hid (BoxI p w.heap.size w w2) := HI0.out.step b2
  clear hq b2 k5 HI0
  generalize w.alloc (.cells (bv p) 23) = W1 at *
  go_wp2_with (go_at_call 14; refine (usual2_any _).mono ?_)
  intro _ w3 hq
  obtain ⟨rfl, b3⟩ := hq.out
  have HI3 : Hid (BoxI p w.heap.size w w3) := HI2.out.step b3
  have k15 := Encode_any zs (.slice a zs.length c) w3 HZ.out (HD.out.below HI3.out.1)
  clear hq b3 HI2
  go_wp2_with (go_at_call 15; refine (calls_hid k15).mono ?_)
  intro e4 w4 hq
  obtain ⟨hE4, b4⟩ := hq.out
  have HE4 : Hid (enA usual zs e4) := hE4
  obtain ⟨S1, P1, E1, he⟩ := enA_tuple hE4
  subst he
  have HI4 : Hid (BoxI p w.heap.size w w4) := HI3.out.step b4
  clear hq b4 k15 HI3 hE4
  go_wp2_with (go_at_call 14; refine (usual2_any _).mono ?_)
  intro _ w5 hq
  obtain ⟨rfl, b5⟩ := hq.out
  have HI5 : Hid (BoxI p w.heap.size w w5) := HI4.out.step b5
  have k9 := encU_any zs (.slice a zs.length c) w5 HZ.out (HD.out.below HI5.out.1)
  clear hq b5 HI4
  go_wp2_with (go_at_call 9; refine k9.mono ?_)
  intro e6 w6 hq
  obtain ⟨hE6, b6⟩ := hq.out
  have he := enA_uniq hE6 HE4.out
  subst he
  have HI6 : Hid (BoxI p w.heap.size w w6) := HI5.out.step b6
  clear hq b6 k9 HI5 hE6 HE4
  go_wp2_with (go_at_call 16; refine (calls_hid (k16 _)).mono ?_)
  intro _ w7 hq
  obtain ⟨hd7, b7⟩ := hq.out
  have HI7 : Hid (BoxI p w.heap.size w w7) := HI6.out.step b7
  cases G with
  | inl g =>
    obtain ⟨ga, gc⟩ := g
    rw [dcA] at hd7
    subst hd7
    clear hq b7 HI6 k16 HGL
    go_wp2_with (go_at_call 14; refine (usual2_any _).mono ?_)
    intro _ w71 hq
    obtain ⟨rfl, b71⟩ := hq.out
    have HI71 : Hid (BoxI p w.heap.size w w71) := HI7.out.step b71
    clear hq b71 HI7
    go_wp2_with (go_at_call 12; refine (k12u _).mono ?_)
    intro _ w8 hq
    obtain ⟨hd8, b8⟩ := hq.out
    rw [dcA] at hd8
    subst hd8
    have HI8 : Hid (BoxI p w.heap.size w w8) := HI71.out.step b8
    have hnil : ∀ w, Rds .i32 w (.slice none 0 0) [] := fun w => ⟨none, 0, rfl, fun h => by simp at h⟩
    have k11 := sameL_any [] (.slice none 0 0) (.slice none 0 0) w8 (hnil _) (hnil _) (by decide)
    clear hq b8 k12u HI71 hnil
    go_wp2_with (go_at_call 11; refine (calls_hid k11).mono ?_)
    intro _ w9 hq
    obtain ⟨rfl, b9⟩ := hq.out
    have HI9 : Hid (BoxI p w.heap.size w w9) := HI8.out.step b9
    clear hq b9 k11 HI8
    have a0 := HI9.out.at 0 (.int .i64 p.base) rfl
    have a1 := HI9.out.at 1 (.int .i64 p.least) rfl
    have a2 := HI9.out.at 2 (.int .i64 p.most) rfl
    have a3 := HI9.out.at 3 (.int .i64 p.skew) rfl
    have a4 := HI9.out.at 4 (.int .i64 p.damp) rfl
    have a5 := HI9.out.at 5 (.int .i64 p.bias) rfl
    have a6 := HI9.out.at 6 (.int .i64 p.first) rfl
    have a7 := HI9.out.at 7 (.int .u8 p.btw) rfl
    have k9 := encodeBy_any p zs (.slice a zs.length c) w9 HP.out.1 HP.out.2 HZ.out (HD.out.below HI9.out.1)
    go_wp2_with (go_at_call 9; refine k9.mono ?_)
    intro e10 w10 hq
    obtain ⟨hE10, b10⟩ := hq.out
    have HI10 : Hid (BoxI p w.heap.size w w10) := HI9.out.step b10
    clear hq b10 k9 a0 a1 a2 a3 a4 a5 a6 a7 HI9
    rcases ebA_back HZ.out hE10 with ⟨xa, xc, hxc, rfl⟩ | ⟨S, hck, rfl, hdec, hsz⟩
    · have c3 : (xc != 0) = true := by simpa using hxc
      clear hE10 hxc
      go_wp2
      go_ret
      exact ⟨rfl, HI10.out.1⟩
    · have a0 := HI10.out.at 0 (.int .i64 p.base) rfl
      have a1 := HI10.out.at 1 (.int .i64 p.least) rfl
      have a2 := HI10.out.at 2 (.int .i64 p.most) rfl
      have a3 := HI10.out.at 3 (.int .i64 p.skew) rfl
      have a4 := HI10.out.at 4 (.int .i64 p.damp) rfl
      have a5 := HI10.out.at 5 (.int .i64 p.bias) rfl
      have a6 := HI10.out.at 6 (.int .i64 p.first) rfl
      have a7 := HI10.out.at 7 (.int .u8 p.btw) rfl
      have k12 := decodeBy_any p S w10 HP.out.1 HP.out.2 hsz (fun _ L hL => by rw [hdec] at hL; cases hL; have := HZ.out; omega)
      rw [hdec] at k12
      unfold dbA at k12
      simp only [if_pos hck] at k12
      clear hE10 hck hdec hsz
      go_wp2_with (go_at_call 12; refine k12.mono ?_)
      intro _ w11 hq
      obtain ⟨⟨vz, rfl, hRz⟩, b11⟩ := hq.out
      have HI11 : Hid (BoxI p w.heap.size w w11) := HI10.out.step b11
      have k11 := sameL_any zs vz (.slice a zs.length c) w11 hRz.rds (HD.out.below HI11.out.1) (by have := HZ.out; omega)
      obtain ⟨az, cz, rfl, -⟩ := owns_slice hRz
      clear hq b11 k12 a0 a1 a2 a3 a4 a5 a6 a7 HI10 hRz
      go_wp2_with (go_at_call 11; refine (calls_hid k11).mono ?_)
      intro _ w12 hq
      obtain ⟨rfl, b12⟩ := hq.out
      have HI12 : Hid (BoxI p w.heap.size w w12) := HI11.out.step b12
      clear hq b12 k11 HI11
      go_wp2
      go_ret
      exact ⟨rfl, HI12.out.1⟩
  | inr L =>
    obtain ⟨v7, rfl, hR7⟩ := hd7
    have R7 : Hid (Rds .i32 w7 v7 L) := hR7.rds
    have HLL : Hid (L.length < 2097152) := HGL.out L rfl
    obtain ⟨a7x, c7x, rfl, -⟩ := owns_slice hR7
    clear hq b7 HI6 k16 HGL hR7
    go_wp2_with (go_at_call 14; refine (usual2_any _).mono ?_)
    intro _ w71 hq
    obtain ⟨rfl, b71⟩ := hq.out
    have HI71 : Hid (BoxI p w.heap.size w w71) := HI7.out.step b71
    have R71 : Hid (Rds .i32 w71 (.slice a7x L.length c7x) L) := R7.out.below b71
    clear hq b71 HI7 R7
    go_wp2_with (go_at_call 12; refine (k12u _).mono ?_)
    intro _ w8 hq
    obtain ⟨⟨v8, rfl, hR8⟩, b8⟩ := hq.out
    have HI8 : Hid (BoxI p w.heap.size w w8) := HI71.out.step b8
    have k11 := sameL_any L (.slice a7x L.length c7x) v8 w8 (R71.out.below b8) hR8.rds (by have := HLL.out; omega)
    obtain ⟨a8x, c8x, rfl, -⟩ := owns_slice hR8
    clear hq b8 k12u HI71 R71 hR8
    go_wp2_with (go_at_call 11; refine (calls_hid k11).mono ?_)
    intro _ w9 hq
    obtain ⟨rfl, b9⟩ := hq.out
    have HI9 : Hid (BoxI p w.heap.size w w9) := HI8.out.step b9
    clear hq b9 k11 HI8
    have a0 := HI9.out.at 0 (.int .i64 p.base) rfl
    have a1 := HI9.out.at 1 (.int .i64 p.least) rfl
    have a2 := HI9.out.at 2 (.int .i64 p.most) rfl
    have a3 := HI9.out.at 3 (.int .i64 p.skew) rfl
    have a4 := HI9.out.at 4 (.int .i64 p.damp) rfl
    have a5 := HI9.out.at 5 (.int .i64 p.bias) rfl
    have a6 := HI9.out.at 6 (.int .i64 p.first) rfl
    have a7 := HI9.out.at 7 (.int .u8 p.btw) rfl
    have k9 := encodeBy_any p zs (.slice a zs.length c) w9 HP.out.1 HP.out.2 HZ.out (HD.out.below HI9.out.1)
    go_wp2_with (go_at_call 9; refine k9.mono ?_)
    intro e10 w10 hq
    obtain ⟨hE10, b10⟩ := hq.out
    have HI10 : Hid (BoxI p w.heap.size w w10) := HI9.out.step b10
    clear hq b10 k9 a0 a1 a2 a3 a4 a5 a6 a7 HI9
    rcases ebA_back HZ.out hE10 with ⟨xa, xc, hxc, rfl⟩ | ⟨S, hck, rfl, hdec, hsz⟩
    · have c3 : (xc != 0) = true := by simpa using hxc
      clear hE10 hxc
      go_wp2
      go_ret
      exact ⟨rfl, HI10.out.1⟩
    · have a0 := HI10.out.at 0 (.int .i64 p.base) rfl
      have a1 := HI10.out.at 1 (.int .i64 p.least) rfl
      have a2 := HI10.out.at 2 (.int .i64 p.most) rfl
      have a3 := HI10.out.at 3 (.int .i64 p.skew) rfl
      have a4 := HI10.out.at 4 (.int .i64 p.damp) rfl
      have a5 := HI10.out.at 5 (.int .i64 p.bias) rfl
      have a6 := HI10.out.at 6 (.int .i64 p.first) rfl
      have a7 := HI10.out.at 7 (.int .u8 p.btw) rfl
      have k12 := decodeBy_any p S w10 HP.out.1 HP.out.2 hsz (fun _ L hL => by rw [hdec] at hL; cases hL; have := HZ.out; omega)
      rw [hdec] at k12
      unfold dbA at k12
      simp only [if_pos hck] at k12
      clear hE10 hck hdec hsz
      go_wp2_with (go_at_call 12; refine k12.mono ?_)
      intro _ w11 hq
      obtain ⟨⟨vz, rfl, hRz⟩, b11⟩ := hq.out
      have HI11 : Hid (BoxI p w.heap.size w w11) := HI10.out.step b11
      have k11 := sameL_any zs vz (.slice a zs.length c) w11 hRz.rds (HD.out.below HI11.out.1) (by have := HZ.out; omega)
      obtain ⟨az, cz, rfl, -⟩ := owns_slice hRz
      clear hq b11 k12 a0 a1 a2 a3 a4 a5 a6 a7 HI10 hRz
      go_wp2_with (go_at_call 11; refine (calls_hid k11).mono ?_)
      intro _ w12 hq
      obtain ⟨rfl, b12⟩ := hq.out
      have HI12 : Hid (BoxI p w.heap.size w w12) := HI11.out.step b12
      clear hq b12 k11 HI11
      go_wp2
      go_ret
      exact ⟨rfl, HI12.out.1⟩
end Go.Proofs.Ytahmeejcgddlhab

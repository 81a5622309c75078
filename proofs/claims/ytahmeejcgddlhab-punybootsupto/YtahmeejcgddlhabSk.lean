/-
  Any parameters: the document's DecodeBy.
-/
import Derived.Test.YtahmeejcgddlhabSj
import Derived.Test.YtahmeejcgddlhabSb
import Derived.Test.YtahmeejcgddlhabSe
import Derived.Test.YtahmeejcgddlhabSf
import Derived.Deep.DeepMust
import Derived.Test.YtahmeejcgddlhabCt
import Derived.Deep.QuietTactic
import Derived.BigQuiet
namespace Go.Proofs.Ytahmeejcgddlhab
open Go.RowKit
/-- The box's eight cells, at once. -/
structure Cells8 (p : Bt) (Bx : Nat) (w : World) : Prop where
  c0 : w.cell? ⟨Bx, 0, none⟩ = some (.int .i64 p.base)
  c1 : w.cell? ⟨Bx, 1, none⟩ = some (.int .i64 p.least)
  c2 : w.cell? ⟨Bx, 2, none⟩ = some (.int .i64 p.most)
  c3 : w.cell? ⟨Bx, 3, none⟩ = some (.int .i64 p.skew)
  c4 : w.cell? ⟨Bx, 4, none⟩ = some (.int .i64 p.damp)
  c5 : w.cell? ⟨Bx, 5, none⟩ = some (.int .i64 p.bias)
  c6 : w.cell? ⟨Bx, 6, none⟩ = some (.int .i64 p.first)
  c7 : w.cell? ⟨Bx, 7, none⟩ = some (.int .u8 p.btw)
theorem cells8 {p : Bt} {Bx : Nat} {w : World} (hx : w.heap[Bx]? = some (.cells (bv p) 29)) : Cells8 p Bx w :=
  ⟨box_cell hx 0 _ rfl, box_cell hx 1 _ rfl, box_cell hx 2 _ rfl, box_cell hx 3 _ rfl, box_cell hx 4 _ rfl, box_cell hx 5 _ rfl, box_cell hx 6 _ rfl, box_cell hx 7 _ rfl⟩
set_option maxRecDepth 100000 in
set_option maxHeartbeats 4000000 in
theorem rdecodeBy_any (p : Bt) (s : ByteArray) (w : World) (hb : 0 ≤ p.btw) (hb2 : p.btw < 256) (hs : s.size < 9000000000000) : Calls Try.prog 13 #[.agg (bv p), .string s] w fun e w' => Hid (dbA p (decS p s) w.heap.size e w' ∧ Below w.heap.size w w') := by
  have HS : Hid (s.size < 9000000000000) := hs
  have HB0 : Hid (Below w.heap.size w (w.alloc (.cells (bv p) 29))) := (Below.refl w.heap.size w).alloc (Nat.le_refl _) _
  have HL : Hid ((w.alloc (.cells (bv p) 29)).heap[w.heap.size]? = some (.cells (bv p) 29)) := heap_new _ _
  have hsz : (w.alloc (.cells (bv p) 29)).heap.size = w.heap.size + 1 := by simp
  have k7 := rcheck_any p (w.alloc (.cells (bv p) 29)) hb hb2
  obtain ⟨a0, a1, a2, a3, a4, a5, a6, a7⟩ := cells8 HL.out
  have hK : ∀ (hc : chk p = true) (a : Act) (w2 : World), Below (w.alloc (.cells (bv p) 29)).heap.size (w.alloc (.cells (bv p) 29)) w2 → At 173 [(1, .string s), (2, .pointer (some ⟨w.heap.size, 0, none⟩))] a → Code.wp Try.prog (sq 2 body13) (bodyPost Try.prog Try.f13 fun e w' => Hid (dbA p (decS p s) w.heap.size e w' ∧ Below w.heap.size w w')) a w2 := fun hc a w2 h1 ha =>
    rdecodeBy_ok p (chk_ok hc).1 s _ w.heap.size _ _ a w2 HS rfl HL h1
      (fun at_ code w' he hb' => ⟨by unfold dbA; rw [if_pos hc, he, dcA], HB0.out.trans (hb'.mono (by omega))⟩)
      (fun L v w' he hR hb' => ⟨by unfold dbA; rw [if_pos hc, he]; exact ⟨v, rfl, hR.base (by omega)⟩, HB0.out.trans (hb'.mono (by omega))⟩) ha
  clear hs hb hb2
  cases hc : chk p with
  | false =>
    rw [hc] at k7
    have HX : Hid (∀ w', dbA p (decS p s) w.heap.size (.returned (.tuple #[.slice none 0 0, .int .i64 0, .int .i64 144])) w') := fun w' => by unfold dbA; rw [if_neg (by rw [hc]; simp)]
    clear hK
    go_enter Try.func13, Try.ntmps13
    go_wp2_with (go_at_call 7; refine (calls_hid k7).mono ?_)
    intro _ w2 hq
    obtain ⟨rfl, b2⟩ := hq.out
    have HB2 : Hid (Below w.heap.size w w2) := HB0.out.trans (b2.mono (by omega))
    clear hq b2 k7
    go_wp2
    go_ret3
    exact ⟨HX.out _, HB2.out⟩
  | true =>
    rw [hc] at k7
    have HK := hK hc
    replace HK : Hid (∀ (a : Act) (w2 : World), Below (w.alloc (.cells (bv p) 29)).heap.size (w.alloc (.cells (bv p) 29)) w2 → At 173 [(1, .string s), (2, .pointer (some ⟨w.heap.size, 0, none⟩))] a → Code.wp Try.prog (sq 2 body13) (bodyPost Try.prog Try.f13 fun e w' => Hid (dbA p (decS p s) w.heap.size e w' ∧ Below w.heap.size w w')) a w2) := HK
    clear hK
    go_enter Try.func13, Try.ntmps13
    change Code.wp _ (Code.seq (hd (sq 0 body13)) (Code.seq (hd (sq 1 body13)) (sq 2 body13))) _ _ _
    generalize sq 2 body13 = REST at HK ⊢
    conv => arg 2; arg 1; whnf
    conv => arg 2; arg 2; arg 1; whnf
    go_wp2_with (go_at_call 7; refine (calls_hid k7).mono ?_)
    intro _ w2 hq
    obtain ⟨rfl, b2⟩ := hq.out
    have HB2 : Hid (Below (w.alloc (.cells (bv p) 29)).heap.size (w.alloc (.cells (bv p) 29)) w2) := b2
    clear hq b2 k7
    go_wp2
    exact HK.out _ w2 HB2.out ⟨rfl, rfl, rfl, rfl, trivial⟩
/-- What the document's EncodeBy answers. -/
def rbA (p : Bt) (zs os : List Int) (e : Ending) : Prop :=
  if chk p = true then
    if 0 ≤ ixF (fun n => !isSc n) zs zs.length 0 then e = .returned (.tuple #[.string ⟨#[]⟩, .int .i64 (ixF (fun n => !isSc n) zs zs.length 0), .int .i64 20])
    else if 0 ≤ ixF (isLo p) zs zs.length 0 then e = .returned (.tuple #[.string ⟨#[]⟩, .int .i64 (ixF (isLo p) zs zs.length 0), .int .i64 141])
    else match encW p zs os p.first 0 p.bias (bsL p zs zs.length).length (mkB p zs zs.length) true with
      | none => e = .returned (.tuple #[.string ⟨#[]⟩, .int .i64 0, .int .i64 142])
      | some D => match decS p (strOfNums (txL p (bsL p zs zs.length) D)) with
        | .inl _ => e = .returned (.tuple #[.string ⟨#[]⟩, .int .i64 0, .int .i64 142])
        | .inr _ => e = .returned (.tuple #[.string (strOfNums (txL p (bsL p zs zs.length) D)), .int .i64 0, .int .i64 0])
  else e = .returned (.tuple #[.string ⟨#[]⟩, .int .i64 0, .int .i64 144])
theorem rb_tuple {p : Bt} {zs os : List Int} {e : Ending} (h : rbA p zs os e) : ∃ s a b, e = .returned (.tuple #[.string s, .int .i64 a, .int .i64 b]) := by
  unfold rbA at h
  split at h
  · split at h
    · exact ⟨_, _, _, h⟩
    · split at h
      · exact ⟨_, _, _, h⟩
      · split at h
        · exact ⟨_, _, _, h⟩
        · split at h
          · exact ⟨_, _, _, h⟩
          · exact ⟨_, _, _, h⟩
  · exact ⟨_, _, _, h⟩
/-- The program's answer is the document's. -/
theorem rb_is {p : Bt} {zs os : List Int} {e e2 : Ending} (hS : SrtL (KZ zs) (osL p zs zs.length) os) (h : rbA p zs os e) (h2 : ebA p zs e2) : e2 = e := by
  unfold rbA at h
  unfold ebA at h2
  by_cases ck : chk p = true
  · rw [if_pos ck] at h h2
    obtain ⟨hp, -, hq⟩ := chk_ok ck
    unfold enA at h2
    by_cases c : 0 ≤ ixF (fun n => !isSc n) zs zs.length 0
    · rw [if_pos c] at h h2; rw [h, h2]
    · rw [if_neg c] at h h2
      by_cases d : 0 ≤ ixF (isLo p) zs zs.length 0
      · rw [if_pos d] at h h2; rw [h, h2]
      · rw [if_neg d] at h h2
        obtain ⟨os', h3, h4⟩ := h2
        have := hS.uniq h3
        subst this
        have hc : ∀ j, j < zs.length → okC (zs.getD j 0) := fun j hj => isSc_ok (by have := ixF_none (fun n => !isSc n) zs zs.length 0 (by omega) j (Nat.zero_le _) (by omega); simpa using this)
        have hlo : ∀ j, j < zs.length → isB p (zs.getD j 0) = false → p.first ≤ zs.getD j 0 := fun j hj hb => by
          have := ixF_none (isLo p) zs zs.length 0 (by omega) j (Nat.zero_le _) (by omega)
          unfold isLo at this
          unfold isB at hb
          rw [hb] at this
          simpa using this
        have hst := EO.start p zs os hS hlo
        have hb0 : ∀ x ∈ bsL p zs zs.length, isB p x = true ∧ 0 ≤ x := fun x hx => by
          refine ⟨bsL_basic p zs _ x hx, ?_⟩
          unfold bsL at hx
          have hmm := List.mem_of_mem_take (List.mem_filter.1 hx).1
          obtain ⟨j, hj, rfl⟩ := List.mem_iff_getElem.1 hmm
          have := (hc j hj).1
          simpa [List.getD_eq_getElem?_getD, hj] using this
        have htx : ∀ D, encW p zs os p.first 0 p.bias (bsL p zs zs.length).length (mkB p zs zs.length) true = some D → Txt p (strOfNums (txL p (bsL p zs zs.length) D)) (bsL p zs zs.length) D := fun D hD => txt_any2 p hp hq _ D hb0 (encW_dg p hp zs os _ _ _ _ _ _ D hD hst)
        unfold wrF at h4
        cases he : encL p zs os p.first 0 p.bias (bsL p zs zs.length).length (mkB p zs zs.length) true with
        | none =>
          rw [he] at h4
          simp only [Option.map_none] at h4
          cases hu : encW p zs os p.first 0 p.bias (bsL p zs zs.length).length (mkB p zs zs.length) true with
          | none => rw [hu] at h; simp only at h; rw [h, h4]
          | some D =>
            rw [hu] at h
            simp only at h
            obtain ⟨a, cc, hd⟩ := dec_bad2 p hp _ zs os D hc hS hlo (htx D hu) he hu
            rw [hd] at h
            simp only at h
            rw [h, h4]
        | some D =>
          have hu := encW_encL p hp zs os _ _ _ _ _ _ D he hst ⟨hp.i1, hp.i2⟩
          rw [he] at h4
          simp only [Option.map_some] at h4
          rw [hu] at h
          simp only at h
          have hd := dec_back p hp _ zs os D hc hS hlo (htx D hu) he
          rw [hd] at h
          simp only at h
          rw [h, h4]; rfl
  · rw [if_neg ck] at h h2; rw [h, h2]
theorem decS_code2 (p : Bt) (s : ByteArray) (a : Nat) (c : Int) (h : decS p s = .inl (a, c)) : c ≠ 0 := by
  unfold decS at h
  split at h
  · simp at h; omega
  · split at h
    · rename_i e hr
      simp at h
      exact rdL_code p s _ _ _ _ _ _ a c (by rw [hr, h])
    · simp at h
set_option maxRecDepth 100000 in
set_option maxHeartbeats 4000000 in
theorem rencB_end (p : Bt) (hck : chk p = true) (zs os D0 : List Int) (Bx O : Nat) (v0 : Value) (P : Ending → World → Prop) (a : Act) (W1 w1 : World) (h0 : ¬ 0 ≤ ixF (fun n => !isSc n) zs zs.length 0) (h1 : ¬ 0 ≤ ixF (isLo p) zs zs.length 0) (he : encW p zs os p.first 0 p.bias (bsL p zs zs.length).length (mkB p zs zs.length) true = some D0) (hR : Rw .u8 5 O w1 v0 (txL p (bsL p zs zs.length) D0)) (hl : (txL p (bsL p zs zs.length) D0).length ≤ 8000000000000) (HO : Hid (O = W1.heap.size)) (HBX : Hid (W1.heap[Bx]? = some (.cells (bv p) 29))) (hB : Below O W1 w1) (hb : 0 ≤ p.btw) (hb2 : p.btw < 256)
    (hP : ∀ e w', rbA p zs os e → Below O W1 w' → P e w') (ha : At 200 [(2, .pointer (some ⟨Bx, 0, none⟩)), (9, v0)] a) : Code.wp Try.prog (sq 9 body10) (bodyPost Try.prog Try.f10 P) a w1 := by
  have HP : Hid (∀ e w', (match decS p (strOfNums (txL p (bsL p zs zs.length) D0)) with
        | .inl _ => e = .returned (.tuple #[.string ⟨#[]⟩, .int .i64 0, .int .i64 142])
        | .inr _ => e = .returned (.tuple #[.string (strOfNums (txL p (bsL p zs zs.length) D0)), .int .i64 0, .int .i64 0])) → Below O W1 w' → P e w') := fun e w' hm hb' => hP e w' (by
    unfold rbA; rw [if_pos hck, if_neg h0, if_neg h1, he]; exact hm) hb'
  obtain ⟨TX, hTX⟩ : ∃ TX, txL p (bsL p zs zs.length) D0 = TX := ⟨_, rfl⟩
  rw [hTX] at hR hl HP
  have k13 := fun w => rdecodeBy_any p (strOfNums TX) w hb hb2 (by rw [strOfNums_size]; omega)
  unfold dbA at k13
  simp only [if_pos hck] at k13
  have hcode := decS_code2 p (strOfNums TX)
  obtain ⟨a1x, c1x, hv, -⟩ := owns_slice hR
  subst hv
  have HR : Hid (Rw .u8 5 O w1 (.slice a1x TX.length c1x) TX) := hR
  have HBh : Hid (Below O W1 w1) := hB
  have hOw : Hid (O ≤ w1.heap.size) := by have := hB.size; have := HO.out; show _ ≤ _; omega
  have hst := string_own HR.out
  have hst2 : ∀ w2, Below w1.heap.size w1 w2 → (convert 48 9 (.slice a1x TX.length c1x)).run Try.prog w2 = .ok (.string (strOfNums TX)) w2 := fun w2 hb' => string_own (HR.out.below hb')
  generalize strOfNums TX = S at *
  generalize decS p S = G at *
  obtain ⟨a0, a1, a2, a3, a4, a5, a6, a7⟩ := cells8 (box_at HBX.out HO.out HBh.out)
  clear hTX he h0 h1 hl hB hR hP
  obtain ⟨f, rfl, g2, g9, -⟩ := ha.lit
  change Code.wp _ _ _ ⟨#[f 0, f 1, f 2, f 3, f 4, f 5, f 6, f 7, f 8, f 9, f 10, f 11, f 12, f 13, f 14, f 15, f 16, f 17, f 18, f 19, f 20, f 21, f 22, f 23, f 24, f 25, f 26, f 27, f 28, f 29, f 30, f 31, f 32, f 33, f 34, f 35, f 36, f 37, f 38, f 39, f 40, f 41, f 42, f 43, f 44, f 45, f 46, f 47, f 48, f 49, f 50, f 51, f 52, f 53, f 54, f 55, f 56, f 57, f 58, f 59, f 60, f 61, f 62, f 63, f 64, f 65, f 66, f 67, f 68, f 69, f 70, f 71, f 72, f 73, f 74, f 75, f 76, f 77, f 78, f 79, f 80, f 81, f 82, f 83, f 84, f 85, f 86, f 87, f 88, f 89, f 90, f 91, f 92, f 93, f 94, f 95, f 96, f 97, f 98, f 99, f 100, f 101, f 102, f 103, f 104, f 105, f 106, f 107, f 108, f 109, f 110, f 111, f 112, f 113, f 114, f 115, f 116, f 117, f 118, f 119, f 120, f 121, f 122, f 123, f 124, f 125, f 126, f 127, f 128, f 129, f 130, f 131, f 132, f 133, f 134, f 135, f 136, f 137, f 138, f 139, f 140, f 141, f 142, f 143, f 144, f 145, f 146, f 147, f 148, f 149, f 150, f 151, f 152, f 153, f 154, f 155, f 156, f 157, f 158, f 159, f 160, f 161, f 162, f 163, f 164, f 165, f 166, f 167, f 168, f 169, f 170, f 171, f 172, f 173, f 174, f 175, f 176, f 177, f 178, f 179, f 180, f 181, f 182, f 183, f 184, f 185, f 186, f 187, f 188, f 189, f 190, f 191, f 192, f 193, f 194, f 195, f 196, f 197, f 198, f 199], []⟩ _
  simp only at g2 g9
  simp only [g2, g9]
  clear g2 g9
  conv => arg 2; whnf
  go_wp2_with (go_at_call 13; refine (k13 _).mono ?_)
  intro e w2 hq
  obtain ⟨hd2, hbw⟩ := hq.out
  have hst3 := hst2 w2 hbw
  have hB2 : Hid (Below O W1 w2) := HBh.out.trans (hbw.mono hOw.out)
  clear hq hst2 k13 hbw hst a0 a1 a2 a3 a4 a5 a6 a7
  cases G with
  | inl g =>
    obtain ⟨ga, gc⟩ := g
    rw [dcA] at hd2
    subst hd2
    have hc0 := hcode ga gc rfl
    have hc1 : (gc != 0) = true := by simpa using hc0
    have HX := HP.out (.returned (.tuple #[.string ⟨#[]⟩, .int .i64 0, .int .i64 142])) w2 rfl hB2.out
    replace HX : Hid (P (.returned (.tuple #[.string ⟨#[]⟩, .int .i64 0, .int .i64 142])) w2) := HX
    clear hc0 hcode HP
    go_wp2
    go_ret3
    exact HX.out
  | inr L =>
    obtain ⟨vL, rfl, hRL⟩ := hd2
    have HX := HP.out (.returned (.tuple #[.string S, .int .i64 0, .int .i64 0])) w2 rfl hB2.out
    replace HX : Hid (P (.returned (.tuple #[.string S, .int .i64 0, .int .i64 0])) w2) := HX
    obtain ⟨a2x, c2x, hv2, -⟩ := owns_slice hRL
    subst hv2
    clear hcode HP hRL
    go_wp2
    go_ret3
    exact HX.out
theorem wkb_start (p : Bt) (hp : Okb p) (zs os : List Int) (O : Nat) (wr : World) (v : Value) (hS : SrtL (KZ zs) (osL p zs zs.length) os) (hlo : ∀ j, j < zs.length → isB p (zs.getD j 0) = false → p.first ≤ zs.getD j 0) (hv : Rw .u8 5 O wr v (outL p zs)) : WkI p zs os ((encW p zs os p.first 0 p.bias (bsL p zs zs.length).length (mkB p zs zs.length) true).map (outL p zs ++ ·)) (bsL p zs zs.length).length O wr v (bsL p zs zs.length).length 0 0 p.bias p.first 0 p.first 0 (outL p zs) (mkB p zs zs.length) := by
  have hm : ∀ jj, jj < zs.length → (mkB p zs zs.length jj = true ↔ zs.getD jj 0 < p.first) := fun jj hjj => by
    have hl := hlo jj hjj
    unfold mkB
    rw [decide_eq_true hjj, Bool.true_and]
    cases hb : isB p (zs.getD jj 0) with
    | true =>
      unfold isB at hb
      simp only [Bool.and_eq_true, decide_eq_true_eq] at hb
      exact ⟨fun _ => by omega, fun _ => rfl⟩
    | false => have := hl hb; exact ⟨fun q => by simp at q, fun q => by omega⟩
  refine ⟨EO.start p zs os hS hlo, by rw [List.drop_zero]; rfl, hv, rfl, by rw [hS.len]; exact bo_len p zs zs.length (Nat.le_refl _), Nat.zero_le _, fun jj hjj => ?_, fun jj hjj h => ?_, ?_, Int.le_refl _, Int.le_refl _, by decide, ⟨hp.i1, hp.i2⟩, ?_, by have := hp.f1; have := hp.f2; omega⟩
  · rw [hm jj hjj]; omega
  · rw [List.drop_zero]
    refine (hS.mem _).2 ((osL_mem p zs zs.length _).2 ⟨jj, rfl, hjj, ?_⟩)
    unfold mkB at h
    rw [decide_eq_true hjj] at h
    simpa using h
  · rw [cnt]; simp
  · unfold outL
    split
    · simp
    · simp
theorem ixF_step (pr : Int → Bool) (zs : List Int) (k : Nat) (h : k < zs.length) : ixF pr zs (zs.length - k) k = if pr (zs.getD k 0) = true then (k : Int) else ixF pr zs (zs.length - (k + 1)) (k + 1) := by
  rw [show zs.length - k = (zs.length - (k + 1)) + 1 by omega, ixF]
theorem sort_is (K : Int → Int) : ∀ (l : List Int), l.Pairwise (· < ·) → ∃ os, SrtL K l os
  | [], _ => ⟨[], rfl, fun _ => Iff.rfl, .nil⟩
  | x :: l, h => by
    have hp := List.pairwise_cons.1 h
    obtain ⟨os, h1, h2, h3⟩ := sort_is K l hp.2
    have hne : ∀ y ∈ os, y ≠ x := fun y hy e => by have := hp.1 y ((h2 y).1 hy); omega
    have : ∀ (os : List Int), os.Pairwise (LT K) → (∀ y ∈ os, y ≠ x) → ∃ os' : List Int, os'.length = os.length + 1 ∧ (∀ y, y ∈ os' ↔ y = x ∨ y ∈ os) ∧ os'.Pairwise (LT K) := fun os => by
      induction os with
      | nil => exact fun _ _ => ⟨[x], rfl, by simp, List.pairwise_singleton _ _⟩
      | cons y os ih =>
        intro ho hn
        have hq := List.pairwise_cons.1 ho
        by_cases c : LT K x y
        · refine ⟨x :: y :: os, rfl, by simp, List.pairwise_cons.2 ⟨fun z hz => ?_, ho⟩⟩
          rcases List.mem_cons.1 hz with e | e
          · subst e; exact c
          · exact c.trans (hq.1 z e)
        · obtain ⟨os', i1, i2, i3⟩ := ih hq.2 (fun z hz => hn z (by simp [hz]))
          have hyx : LT K y x := by
            have := hn y (by simp)
            unfold LT at c ⊢
            omega
          refine ⟨y :: os', by simp [i1], fun z => ?_, List.pairwise_cons.2 ⟨fun z hz => ?_, i3⟩⟩
          · rw [List.mem_cons, i2, List.mem_cons]
            constructor
            · rintro (e | e | e) <;> simp [e]
            · rintro (e | e | e) <;> simp [e]
          · rcases (i2 z).1 hz with e | e
            · subst e; exact hyx
            · exact hq.1 z e
    obtain ⟨os', i1, i2, i3⟩ := this os h3 hne
    exact ⟨os', by simp [i1, h1], fun y => by rw [i2, List.mem_cons, h2], i3⟩
set_option maxRecDepth 100000 in
set_option maxHeartbeats 8000000 in
theorem rencB_ok (p : Bt) (hck : chk p = true) (zs os : List Int) (Bx O : Nat) (AA : Option Addr) (CC : Nat) (P : Ending → World → Prop) (a : Act) (W1 w1 : World) (hb : 0 ≤ p.btw) (hb2 : p.btw < 256) (hz : zs.length < 1048577) (hS : SrtL (KZ zs) (osL p zs zs.length) os) (HD : Hid (Rds .i32 W1 (.slice AA zs.length CC) zs)) (HO : Hid (O = W1.heap.size)) (HBX : Hid (W1.heap[Bx]? = some (.cells (bv p) 29))) (hB : Hid (Below O W1 w1))
    (hP : ∀ e w', rbA p zs os e → Below O W1 w' → P e w')
    (ha : At 200 [(1, .slice AA zs.length CC), (2, .pointer (some ⟨Bx, 0, none⟩))] a) : Code.wp Try.prog (sq 2 body10) (bodyPost Try.prog Try.f10 P) a w1 := by
  have hp := (chk_ok hck).1
  have HZ : Hid (zs.length < 1048577) := hz
  have HS : Hid (SrtL (KZ zs) (osL p zs zs.length) os) := hS
  have hlo : ¬ 0 ≤ ixF (isLo p) zs zs.length 0 → ∀ j, j < zs.length → isB p (zs.getD j 0) = false → p.first ≤ zs.getD j 0 := fun h1 j hj hb => by
    have := ixF_none (isLo p) zs zs.length 0 (by omega) j (Nat.zero_le _) (by omega)
    unfold isLo at this
    unfold isB at hb
    rw [hb] at this
    simpa using this
  have hN : ∀ (h0 : ¬ 0 ≤ ixF (fun n => !isSc n) zs zs.length 0) (h1 : ¬ 0 ≤ ixF (isLo p) zs zs.length 0) (F : Option (List Int)), F = (encW p zs os p.first 0 p.bias (bsL p zs zs.length).length (mkB p zs zs.length) true).map (outL p zs ++ ·) → F = none → ∀ w', Below O W1 w' → P (.returned (.tuple #[.string ⟨#[]⟩, .int .i64 0, .int .i64 142])) w' := fun h0 h1 F hF hn w' hb' => by
    refine hP _ w' ?_ hb'
    unfold rbA
    rw [if_pos hck, if_neg h0, if_neg h1]
    rw [hF] at hn
    cases he : encW p zs os p.first 0 p.bias (bsL p zs zs.length).length (mkB p zs zs.length) true with
    | none => rfl
    | some D => rw [he] at hn; simp at hn
  have hK : ∀ (h0 : ¬ 0 ≤ ixF (fun n => !isSc n) zs zs.length 0) (h1 : ¬ 0 ≤ ixF (isLo p) zs zs.length 0) (F : Option (List Int)), F = (encW p zs os p.first 0 p.bias (bsL p zs zs.length).length (mkB p zs zs.length) true).map (outL p zs ++ ·) → ∀ D a w' v', F = some D → Rw .u8 5 O w' v' D → D.length ≤ 8000000000000 → Below O W1 w' → At 200 [(2, .pointer (some ⟨Bx, 0, none⟩)), (9, v')] a → Code.wp Try.prog (sq 9 body10) (bodyPost Try.prog Try.f10 P) a w' := fun h0 h1 F hF D a w' v' hD hR hl hb' ha => by
    cases he : encW p zs os p.first 0 p.bias (bsL p zs zs.length).length (mkB p zs zs.length) true with
    | none => rw [he] at hF; rw [hF] at hD; simp at hD
    | some D0 =>
      rw [he] at hF
      rw [hF] at hD
      have e : D = txL p (bsL p zs zs.length) D0 := by show D = outL p zs ++ D0; simpa using hD.symm
      subst e
      exact rencB_end p hck zs os D0 Bx O v' P a W1 w' h0 h1 he hR hl HO HBX hb' hb hb2 hP ha
  have hM : Hid (∀ (h0 : ¬ 0 ≤ ixF (fun n => !isSc n) zs zs.length 0) (h1 : ¬ 0 ≤ ixF (isLo p) zs zs.length 0) (w1 : World) (v0 : Value) (a : Act), Rw .u8 5 O w1 v0 (outL p zs) → Below O W1 w1 → At 200 [(1, .slice AA zs.length CC), (2, .pointer (some ⟨Bx, 0, none⟩)), (9, v0), (12, .int .i64 ((bsL p zs zs.length).length : Int)), (13, .int .i64 p.first), (14, .int .i64 0), (15, .int .i64 p.bias), (16, .int .i64 ((bsL p zs zs.length).length : Int))] a → Code.wp Try.prog (sq 8 body10) (bodyPost Try.prog Try.f10 P) a w1) := fun h0 h1 w1 v0 a hR hb' ha =>
    renc_main p hp zs os _ _ Bx O AA CC v0 (outL p zs) P a W1 w1 HZ HD HO HBX (fun j hj => isSc_ok (by have := ixF_none (fun n => !isSc n) zs zs.length 0 (by omega) j (Nat.zero_le _) (by omega); simpa using this)) hb' ⟨_, wkb_start p hp zs os O w1 v0 HS.out (hlo h1) hR⟩ (hN h0 h1 _ rfl) (hK h0 h1 _ rfl) ha
  have hBad : Hid (∀ r : Int, ixF (fun n => !isSc n) zs zs.length 0 = r → 0 ≤ r → ∀ w', Below O W1 w' → P (.returned (.tuple #[.string ⟨#[]⟩, .int .i64 r, .int .i64 20])) w') := fun r hr h0 w' hb' => hP _ w' (by unfold rbA; rw [if_pos hck, if_pos (by omega), hr]) hb'
  have hBad2 : Hid (∀ r : Int, ¬ 0 ≤ ixF (fun n => !isSc n) zs zs.length 0 → ixF (isLo p) zs zs.length 0 = r → 0 ≤ r → ∀ w', Below O W1 w' → P (.returned (.tuple #[.string ⟨#[]⟩, .int .i64 r, .int .i64 141])) w') := fun r hq hr h0 w' hb' => hP _ w' (by unfold rbA; rw [if_pos hck, if_neg hq, if_pos (by omega), hr]) hb'
  have HPF : Hid (Okb p) := hp
  clear hN hK hlo hP hz hS
  obtain ⟨f, rfl, g1, g2, -⟩ := ha.lit
  change Code.wp _ _ _ ⟨#[f 0, f 1, f 2, f 3, f 4, f 5, f 6, f 7, f 8, f 9, f 10, f 11, f 12, f 13, f 14, f 15, f 16, f 17, f 18, f 19, f 20, f 21, f 22, f 23, f 24, f 25, f 26, f 27, f 28, f 29, f 30, f 31, f 32, f 33, f 34, f 35, f 36, f 37, f 38, f 39, f 40, f 41, f 42, f 43, f 44, f 45, f 46, f 47, f 48, f 49, f 50, f 51, f 52, f 53, f 54, f 55, f 56, f 57, f 58, f 59, f 60, f 61, f 62, f 63, f 64, f 65, f 66, f 67, f 68, f 69, f 70, f 71, f 72, f 73, f 74, f 75, f 76, f 77, f 78, f 79, f 80, f 81, f 82, f 83, f 84, f 85, f 86, f 87, f 88, f 89, f 90, f 91, f 92, f 93, f 94, f 95, f 96, f 97, f 98, f 99, f 100, f 101, f 102, f 103, f 104, f 105, f 106, f 107, f 108, f 109, f 110, f 111, f 112, f 113, f 114, f 115, f 116, f 117, f 118, f 119, f 120, f 121, f 122, f 123, f 124, f 125, f 126, f 127, f 128, f 129, f 130, f 131, f 132, f 133, f 134, f 135, f 136, f 137, f 138, f 139, f 140, f 141, f 142, f 143, f 144, f 145, f 146, f 147, f 148, f 149, f 150, f 151, f 152, f 153, f 154, f 155, f 156, f 157, f 158, f 159, f 160, f 161, f 162, f 163, f 164, f 165, f 166, f 167, f 168, f 169, f 170, f 171, f 172, f 173, f 174, f 175, f 176, f 177, f 178, f 179, f 180, f 181, f 182, f 183, f 184, f 185, f 186, f 187, f 188, f 189, f 190, f 191, f 192, f 193, f 194, f 195, f 196, f 197, f 198, f 199], []⟩ _
  simp only at g1 g2
  simp only [g1, g2]
  clear g1 g2
  have zl9 : (zs.length : Int) ≤ 9007199254740992 := by have := HZ.out; omega
  change Code.wp _ (Code.seq (hd (sq 2 body10)) (Code.seq (hd (sq 3 body10)) (Code.seq (hd (sq 4 body10)) (Code.seq (hd (sq 5 body10)) (Code.seq (hd (sq 6 body10)) (Code.seq (hd (sq 7 body10)) (sq 8 body10))))))) _ _ _
  generalize sq 8 body10 = REST at hM ⊢
  conv => arg 2; arg 1; whnf
  conv => arg 2; arg 2; arg 1; whnf
  conv => arg 2; arg 2; arg 2; arg 1; whnf
  conv => arg 2; arg 2; arg 2; arg 2; arg 1; whnf
  conv => arg 2; arg 2; arg 2; arg 2; arg 2; arg 1; whnf
  conv => arg 2; arg 2; arg 2; arg 2; arg 2; arg 2; arg 1; whnf
  go_wp2
  go_loopw [33] (fun x33 wr => ∃ k : Nat, x33 = .int .i64 (k : Int) ∧ k ≤ zs.length ∧ Hid (ixF (fun n => !isSc n) zs zs.length 0 = ixF (fun n => !isSc n) zs (zs.length - k) k) ∧ Hid (wr = w1)) (fun x33 _ => zs.length - (RowKit.intOf x33).toNat)
  case atStart => exact ⟨0, rfl, Nat.zero_le _, rfl, rfl⟩
  case round =>
    obtain ⟨k, rfl, hk, hix, hwr⟩ := hrel
    obtain ⟨wo, hwo⟩ : ∃ wo, wr = wo := ⟨_, rfl⟩
    rw [hwo] at hwr ⊢
    clear hwo
    rw [Hid] at hwr
    subst hwr
    by_cases c : k < zs.length
    · have c1 : (k : Int) < (zs.length : Int) := by omega
      have c2 : decide ((k : Int) < (zs.length : Int)) = true := decide_eq_true c1
      have hRd := HD.out.below (HO.out ▸ hB.out)
      obtain ⟨a1, cc1, e1, hcell⟩ := hRd
      cases e1
      obtain ⟨gz, off, rfl, hcell2⟩ := hcell (by omega)
      have y1 := hcell2 k c
      have hst := ixF_step (fun n => !isSc n) zs k c
      rw [← hix.out] at hst
      obtain ⟨Z, hZ⟩ : ∃ Z, zs.getD k 0 = Z := ⟨_, rfl⟩
      have k9 : (k : Int) ≤ 9007199254740992 := by omega
      have k24 := fun w => rscalar_any Z w
      clear hcell hcell2
      rw [hZ] at y1 hst
      cases hq : isSc Z with
      | false =>
        rw [hq] at hst k24
        have HE := hBad.out (k : Int) (by simpa using hst) (by omega) wo hB.out
        replace HE : Hid (P (.returned (.tuple #[.string ⟨#[]⟩, .int .i64 (k : Int), .int .i64 20])) wo) := HE
        clear hst hix hZ
        go_wp2_with (go_at_call 21; refine (k24 _).mono ?_; rintro e w' ⟨rfl, hw⟩; rw [hw]; clear hw)
        go_ret3
        exact HE.out
      | true =>
        rw [hq] at hst k24
        have HX : Hid (ixF (fun n => !isSc n) zs zs.length 0 = ixF (fun n => !isSc n) zs (zs.length - (k + 1)) (k + 1)) := by show _ = _; simpa using hst
        clear hst hix hZ
        go_wp2_with (go_at_call 21; refine (k24 _).mono ?_; rintro e w' ⟨rfl, hw⟩; rw [hw]; clear hw)
        refine ⟨⟨k + 1, by simp, by omega, HX, by first | exact trivial | exact rfl⟩, ?_⟩
        simp [RowKit.intOf]; omega
    · obtain rfl : k = zs.length := by omega
      have c2 : decide ((zs.length : Int) < (zs.length : Int)) = false := by simp
      have h0 : ¬ 0 ≤ ixF (fun n => !isSc n) zs zs.length 0 := by rw [hix.out, Nat.sub_self, ixF]; decide
      have HSC : Hid (∀ j, j < zs.length → okC (zs.getD j 0)) := fun j hj => isSc_ok (by have := ixF_none (fun n => !isSc n) zs zs.length 0 (by omega) j (Nat.zero_le _) (by omega); simpa using this)
      have hM2 : Hid (∀ (h1 : ixF (isLo p) zs zs.length 0 < 0) (w1 : World) (v0 : Value) (a : Act), Rw .u8 5 O w1 v0 (outL p zs) → Below O W1 w1 → At 200 [(1, .slice AA zs.length CC), (2, .pointer (some ⟨Bx, 0, none⟩)), (9, v0), (12, .int .i64 ((bsL p zs zs.length).length : Int)), (13, .int .i64 p.first), (14, .int .i64 0), (15, .int .i64 p.bias), (16, .int .i64 ((bsL p zs zs.length).length : Int))] a → Code.wp Try.prog REST (bodyPost Try.prog Try.f10 P) a w1) := hM.out (by omega)
      have hBad3 : Hid (∀ r : Int, ixF (isLo p) zs zs.length 0 = r → 0 ≤ r → ∀ w', Below O W1 w' → P (.returned (.tuple #[.string ⟨#[]⟩, .int .i64 r, .int .i64 141])) w') := fun r => hBad2.out r (by omega)
      have hOw : Hid (O ≤ wo.heap.size) := by have := hB.out.size; have := HO.out; show _ ≤ _; omega
      have hE0 : Hid (Rw .u8 5 O (wo.alloc (.cells #[] 5)) (.slice (some ⟨wo.heap.size, 0, none⟩) 0 0) []) := ⟨rfl, .inr ⟨_, _, _, rfl, hOw.out, heap_new _ _, by simp, by decide, rfl, rfl⟩⟩
      have hB0 : Hid (Below O W1 (wo.alloc (.cells #[] 5))) := hB.out.alloc (by have := hOw.out; have := HO.out; omega) _
      clear h0 hix c hM hBad hBad2 hk hOw hB
      go_wp2
      generalize wo.alloc (.cells #[] 5) = wx at *
      go_loopw [9, 46] (fun v9 x46 wr => ∃ k : Nat, x46 = .int .i64 (k : Int) ∧ k ≤ zs.length ∧ Hid (ixF (isLo p) zs zs.length 0 = ixF (isLo p) zs (zs.length - k) k) ∧ Hid (Rw .u8 5 O wr v9 (bsL p zs k)) ∧ Hid (Below O W1 wr)) (fun _ x46 _ => zs.length - (RowKit.intOf x46).toNat)
      case atStart => exact ⟨0, rfl, Nat.zero_le _, rfl, hE0.out, hB0⟩
      case round =>
        clear hE0 hB0
        obtain ⟨wy, hwy⟩ : ∃ wy, wr = wy := ⟨_, rfl⟩
        rw [hwy] at hrel ⊢
        clear hwy
        obtain ⟨k, rfl, hk, hix, hR, hB⟩ := hrel
        obtain ⟨V, hV⟩ : ∃ V, u9 = V := ⟨_, rfl⟩
        rw [hV] at hR ⊢
        clear hV
        by_cases c : k < zs.length
        · have c1 : (k : Int) < (zs.length : Int) := by omega
          have c2 : decide ((k : Int) < (zs.length : Int)) = true := decide_eq_true c1
          have hRd := HD.out.below (HO.out ▸ hB.out)
          obtain ⟨a1, cc1, e1, hcell⟩ := hRd
          cases e1
          obtain ⟨gz, off, rfl, hcell2⟩ := hcell (by omega)
          have y1 := hcell2 k c
          have hst := ixF_step (isLo p) zs k c
          rw [← hix.out] at hst
          obtain ⟨z0, z1, -⟩ := HSC.out k c
          obtain ⟨Z, hZ⟩ : ∃ Z, zs.getD k 0 = Z := ⟨_, rfl⟩
          have k9 : (k : Int) ≤ 9007199254740992 := by omega
          rw [hZ] at y1 hst z0 z1
          have k22 := fun w => rbasic_any p Z w z0 z1
          have hbx := box_at HBX.out HO.out hB.out
          obtain ⟨a0, a1, a2, a3, a4, a5, a6, a7⟩ := cells8 hbx
          have hOy : Hid (O ≤ wy.heap.size) := by have := hB.out.size; have := HO.out; show _ ≤ _; omega
          clear hcell hcell2 hbx
          cases hq : isB p Z with
          | true =>
            rw [hq] at k22
            have hlo0 : isLo p Z = false := by
              unfold isB at hq; unfold isLo; rw [hq]; simp
            rw [hlo0, if_neg (by simp)] at hst
            have HX : Hid (ixF (isLo p) zs zs.length 0 = ixF (isLo p) zs (zs.length - (k + 1)) (k + 1)) := hst
            have hbs := bsL_yes p zs k c (by rw [hZ]; exact hq)
            rw [hZ] at hbs
            have hal : (bsL p zs k).length < 10000000000000 := by have := bsL_len p zs k; have := HZ.out; omega
            have zw : IntKind.u8.wrap Z = Z := IntWalk.u8_in _ ⟨by omega, by have := isB_range hq; omega⟩
            replace hbs : Hid (bsL p zs (k + 1) = bsL p zs k ++ [Z]) := hbs
            obtain ⟨BL, hBL⟩ : ∃ BL, bsL p zs k = BL := ⟨_, rfl⟩
            rw [hBL] at hR hal hbs
            clear hBL hst hix hZ hq hlo0
            go_wp2_with (go_at_call 22; refine (calls_hid (k22 _)).mono ?_)
            intro _ w5 hq5
            obtain ⟨rfl, b5⟩ := hq5.out
            have hB5 : Hid (Below O W1 w5) := hB.out.trans (b5.mono hOy.out)
            have hR5 : Hid (Rw .u8 5 O w5 V BL) := hR.out.below b5
            have hO5 : O ≤ w5.heap.size := Nat.le_trans hOy.out b5.size
            clear hq5 b5 k22 hB hR hOy a0 a1 a2 a3 a4 a5 a6 a7
            go_wp2_with (at_builtin; go_must (refine wpList_appL rfl _ _ 48 rfl O 5 .u8 1 Try.underlying48 info5 (by decide) V BL Z rfl hR5.out rfl hal hO5 ?_))
            intro v' w6 hR6 _ hB6
            have HY : Hid (Hid (Rw .u8 5 O w6 v' (bsL p zs (k + 1))) ∧ Hid (Below O W1 w6)) := ⟨by rw [hbs.out]; exact hR6.out, hB5.out.trans hB6.out⟩
            clear hR5 hB5 hR6 hB6 hbs hal hO5
            go_wp2
            refine ⟨⟨k + 1, by simp, by omega, HX, HY.out.1, HY.out.2⟩, ?_⟩
            simp [RowKit.intOf]; omega
          | false =>
            rw [hq] at k22
            have zw : IntKind.i64.wrap Z = Z := IntWalk.i64_in _ ⟨by omega, by omega⟩
            have hlo1 : isLo p Z = decide (Z < p.first) := by
              unfold isB at hq; unfold isLo; rw [hq]; simp
            have hbs := bsL_no p zs k c (by rw [hZ]; exact hq)
            have hR1 : Hid (Rw .u8 5 O wy V (bsL p zs (k + 1))) := by rw [hbs]; exact hR
            by_cases d : Z < p.first
            · have d2 : decide (Z < p.first) = true := decide_eq_true d
              rw [hlo1, d2, if_pos rfl] at hst
              have HE := fun w' hb' => hBad3.out (k : Int) hst (by omega) w' hb'
              replace HE : Hid (∀ w', Below O W1 w' → P (.returned (.tuple #[.string ⟨#[]⟩, .int .i64 (k : Int), .int .i64 141])) w') := HE
              clear hst hix hZ hq hlo1 hbs hR1 hR d
              go_wp2_with (go_at_call 22; refine (calls_hid (k22 _)).mono ?_)
              intro _ w5 hq5
              obtain ⟨rfl, b5⟩ := hq5.out
              have hB5 : Hid (Below O W1 w5) := hB.out.trans (b5.mono hOy.out)
              have a6' := box_cell (box_at HBX.out HO.out hB5.out) 6 (.int .i64 p.first) rfl
              clear hq5 b5 k22 hB hOy a0 a1 a2 a3 a4 a5 a6 a7
              go_wp2
              go_ret3
              exact HE.out _ hB5.out
            · have d2 : decide (Z < p.first) = false := decide_eq_false d
              rw [hlo1, d2, if_neg (by simp)] at hst
              have HX : Hid (ixF (isLo p) zs zs.length 0 = ixF (isLo p) zs (zs.length - (k + 1)) (k + 1)) := hst
              clear hst hix hZ hq hlo1 hbs hR d
              go_wp2_with (go_at_call 22; refine (calls_hid (k22 _)).mono ?_)
              intro _ w5 hq5
              obtain ⟨rfl, b5⟩ := hq5.out
              have hB5 : Hid (Below O W1 w5) := hB.out.trans (b5.mono hOy.out)
              have hR5 : Hid (Rw .u8 5 O w5 V (bsL p zs (k + 1))) := hR1.out.below b5
              have a6' := box_cell (box_at HBX.out HO.out hB5.out) 6 (.int .i64 p.first) rfl
              clear hq5 b5 k22 hB hOy a0 a1 a2 a3 a4 a5 a6 a7 hR1
              go_wp2
              refine ⟨⟨k + 1, by simp, by omega, HX, hR5, hB5⟩, ?_⟩
              simp [RowKit.intOf]; omega
        · obtain rfl : k = zs.length := by omega
          have c2 : decide ((zs.length : Int) < (zs.length : Int)) = false := by simp
          have h1 : ¬ 0 ≤ ixF (isLo p) zs zs.length 0 := by rw [hix.out, Nat.sub_self, ixF]; decide
          have HM := fun w1 v0 a => hM2.out (by omega) w1 v0 a
          have hbl := bsL_len p zs zs.length
          have hol : Hid (outL p zs = if bsL p zs zs.length = [] then [] else bsL p zs zs.length ++ [p.btw]) := rfl
          obtain ⟨BL, hBL⟩ : ∃ BL, bsL p zs zs.length = BL := ⟨_, rfl⟩
          obtain ⟨OL, hOL⟩ : ∃ OL, outL p zs = OL := ⟨_, rfl⟩
          simp only [hBL, hOL] at HM hR hbl hol
          have hal : BL.length < 10000000000000 := by have := HZ.out; omega
          have hOz : O ≤ wy.heap.size := by have := hB.out.size; have := HO.out; omega
          obtain ⟨av, cv, hvv, -⟩ := owns_slice hR.out
          subst hvv
          have bl9 : (BL.length : Int) ≤ 9007199254740992 := by have := HZ.out; omega
          have hbx := box_at HBX.out HO.out hB.out
          have a5 := box_cell hbx 5 (.int .i64 p.bias) rfl
          have a6 := box_cell hbx 6 (.int .i64 p.first) rfl
          have a7 := box_cell hbx 7 (.int .u8 p.btw) rfl
          replace HM : Hid (∀ (w1 : World) (v0 : Value) (a : Act), Rw .u8 5 O w1 v0 OL → Below O W1 w1 → At 200 [(1, .slice AA zs.length CC), (2, .pointer (some ⟨Bx, 0, none⟩)), (9, v0), (12, .int .i64 (BL.length : Int)), (13, .int .i64 p.first), (14, .int .i64 0), (15, .int .i64 p.bias), (16, .int .i64 (BL.length : Int))] a → Code.wp Try.prog REST (bodyPost Try.prog Try.f10 P) a w1) := HM
          clear hM2 hBad3 h1 hix hBL hOL hbl hk c hbx
          by_cases d : BL = []
          · have d2 : decide (0 < BL.length) = false := by subst d; rfl
            have HR0 : Hid (Rw .u8 5 O wy (.slice av BL.length cv) OL) := by rw [hol.out, if_pos d, ← d]; exact hR
            clear hR hol d
            go_wp2
            go_quiet (fail)
            go_wp2
            exact HM.out _ _ _ (HR0.out.below (below_drewN (Below.refl _ _) _)) (below_drewN hB.out _) ⟨rfl, rfl, rfl, rfl, rfl, rfl, rfl, rfl, rfl, rfl, trivial⟩
          · have d2 : decide (0 < BL.length) = true := decide_eq_true (List.length_pos_iff.2 d)
            have HX : Hid (OL = BL ++ [p.btw]) := by show _ = _; rw [hol.out, if_neg d]
            clear hol d
            go_wp2_with (at_builtin; go_must (refine wpList_appL rfl _ _ 48 rfl O 5 .u8 1 Try.underlying48 info5 (by decide) (.slice av BL.length cv) BL p.btw rfl hR.out rfl hal hOz ?_))
            intro v' w3 hR3 _ hB3
            have HR0 : Hid (Rw .u8 5 O w3 v' OL) := by rw [HX.out]; exact hR3
            have HB0 : Hid (Below O W1 w3) := hB.out.trans hB3.out
            have hbx := box_at HBX.out HO.out HB0.out
            have b5 := box_cell hbx 5 (.int .i64 p.bias) rfl
            have b6 := box_cell hbx 6 (.int .i64 p.first) rfl
            clear hR hB hR3 hB3 HX hal hOz hbx a5 a6 a7
            go_wp2
            go_quiet (fail)
            go_wp2
            exact HM.out _ v' _ (HR0.out.below (below_drewN (Below.refl _ _) _)) (below_drewN HB0.out _) ⟨rfl, rfl, rfl, rfl, rfl, rfl, rfl, rfl, rfl, rfl, trivial⟩
set_option maxRecDepth 100000 in
set_option maxHeartbeats 4000000 in
theorem rencodeBy_any (p : Bt) (zs os : List Int) (v : Value) (w : World) (hb : 0 ≤ p.btw) (hb2 : p.btw < 256) (hz : zs.length < 1048577) (hS : SrtL (KZ zs) (osL p zs zs.length) os) (h : Rds .i32 w v zs) : Calls Try.prog 10 #[.agg (bv p), v] w fun e w' => Hid (rbA p zs os e ∧ Below w.heap.size w w') := by
  have HB0 : Hid (Below w.heap.size w (w.alloc (.cells (bv p) 29))) := (Below.refl w.heap.size w).alloc (Nat.le_refl _) _
  have HL : Hid ((w.alloc (.cells (bv p) 29)).heap[w.heap.size]? = some (.cells (bv p) 29)) := heap_new _ _
  have hsz : (w.alloc (.cells (bv p) 29)).heap.size = w.heap.size + 1 := by simp
  have HR0 := h.below HB0.out
  obtain ⟨AA, CC, rfl, -⟩ := h
  have HR : Hid (Rds .i32 (w.alloc (.cells (bv p) 29)) (.slice AA zs.length CC) zs) := HR0
  have k7 := rcheck_any p (w.alloc (.cells (bv p) 29)) hb hb2
  obtain ⟨a0, a1, a2, a3, a4, a5, a6, a7⟩ := cells8 HL.out
  have hK : ∀ (hc : chk p = true) (a : Act) (w2 : World), Below (w.alloc (.cells (bv p) 29)).heap.size (w.alloc (.cells (bv p) 29)) w2 → At 200 [(1, .slice AA zs.length CC), (2, .pointer (some ⟨w.heap.size, 0, none⟩))] a → Code.wp Try.prog (sq 2 body10) (bodyPost Try.prog Try.f10 fun e w' => Hid (rbA p zs os e ∧ Below w.heap.size w w')) a w2 := fun hc a w2 h1 ha =>
    rencB_ok p hc zs os w.heap.size _ AA CC _ a _ w2 hb hb2 hz hS HR rfl HL h1
      (fun e w' he hb' => ⟨he, HB0.out.trans (hb'.mono (by omega))⟩) ha
  clear hz hb hb2 HR0 hS
  cases hc : chk p with
  | false =>
    rw [hc] at k7
    have HX : Hid (rbA p zs os (.returned (.tuple #[.string ⟨#[]⟩, .int .i64 0, .int .i64 144]))) := by unfold rbA; rw [if_neg (by rw [hc]; simp)]; exact rfl
    clear hK
    go_enter Try.func10, Try.ntmps10
    go_wp2_with (go_at_call 7; refine (calls_hid k7).mono ?_)
    intro _ w2 hq
    obtain ⟨rfl, b2⟩ := hq.out
    have HB2 : Hid (Below w.heap.size w w2) := HB0.out.trans (b2.mono (by omega))
    clear hq b2 k7
    go_wp2
    go_ret3
    exact ⟨HX.out, HB2.out⟩
  | true =>
    rw [hc] at k7
    have HK := hK hc
    replace HK : Hid (∀ (a : Act) (w2 : World), Below (w.alloc (.cells (bv p) 29)).heap.size (w.alloc (.cells (bv p) 29)) w2 → At 200 [(1, .slice AA zs.length CC), (2, .pointer (some ⟨w.heap.size, 0, none⟩))] a → Code.wp Try.prog (sq 2 body10) (bodyPost Try.prog Try.f10 fun e w' => Hid (rbA p zs os e ∧ Below w.heap.size w w')) a w2) := HK
    clear hK
    go_enter Try.func10, Try.ntmps10
    change Code.wp _ (Code.seq (hd (sq 0 body10)) (Code.seq (hd (sq 1 body10)) (sq 2 body10))) _ _ _
    generalize sq 2 body10 = REST at HK ⊢
    conv => arg 2; arg 1; whnf
    conv => arg 2; arg 2; arg 1; whnf
    go_wp2_with (go_at_call 7; refine (calls_hid k7).mono ?_)
    intro _ w2 hq
    obtain ⟨rfl, b2⟩ := hq.out
    have HB2 : Hid (Below (w.alloc (.cells (bv p) 29)).heap.size (w.alloc (.cells (bv p) 29)) w2) := b2
    clear hq b2 k7
    go_wp2
    exact HK.out _ w2 HB2.out ⟨rfl, rfl, rfl, rfl, trivial⟩
end Go.Proofs.Ytahmeejcgddlhab

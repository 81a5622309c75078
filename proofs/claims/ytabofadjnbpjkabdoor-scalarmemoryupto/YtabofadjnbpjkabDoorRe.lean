/-
  The contract of the document's Encode, at every list. No condition but that a list takes no more bytes than there are.
-/
import Derived.Test.YtabofadjnbpjkabDoorEnc
namespace Go.Proofs.YtabofadjnbpjkabDoor
open Go.RowKit Go.Lib
/-- The bytes of a scalar value. -/
def enc1 (r : Int) : List Int :=
  if r < 128 then [r] else if r < 2048 then [192 + r / 64, 128 + r % 64] else if r < 65536 then [224 + r / 4096, 128 + r / 64 % 64, 128 + r % 64] else [240 + r / 262144, 128 + r / 4096 % 64, 128 + r / 64 % 64, 128 + r % 64]
def encs (zs : List Int) : List Int := zs.flatMap enc1
theorem enc1_len (r : Int) : (enc1 r).length ≤ 4 := by unfold enc1; repeat' split
                                                       all_goals simp
theorem encs_len : ∀ zs : List Int, (encs zs).length ≤ 4 * zs.length
  | [] => by simp [encs]
  | z :: l => by
    have h := encs_len l
    have h1 := enc1_len z
    have : encs (z :: l) = enc1 z ++ encs l := rfl
    rw [this, List.length_append, List.length_cons]
    omega
theorem encs_snoc (zs : List Int) (r : Int) : encs (zs ++ [r]) = encs zs ++ enc1 r := by simp [encs]
theorem enc1_is (r : Int) (hv : Lib.validRune r = true) : Utf8.encode r = strOfNums (enc1 r) := by
  have hr : (0 ≤ r ∧ r < 55296) ∨ (57343 < r ∧ r ≤ 1114111) := by simpa [Lib.validRune] using hv
  obtain ⟨n, rfl⟩ : ∃ n : Nat, r = n := ⟨r.toNat, by omega⟩
  have hw : Utf8.valid (n : Int) = true := by simp [Utf8.valid]; omega
  unfold Utf8.encode strOfNums
  rw [hw]
  simp only [if_true, Int.toNat_natCast]
  by_cases h1 : n < 128
  · have e : enc1 (n : Int) = [(n : Int)] := by unfold enc1; rw [if_pos (show (n : Int) < 128 by omega)]
    rw [if_pos h1, e]
    simp
  · by_cases h2 : n < 2048
    · have e : enc1 (n : Int) = [192 + (n : Int) / 64, 128 + (n : Int) % 64] := by unfold enc1; rw [if_neg (show ¬ (n : Int) < 128 by omega), if_pos (show (n : Int) < 2048 by omega)]
      have e1 : (192 + (n : Int) / 64).toNat = 192 + n / 64 := by omega
      have e2 : (128 + (n : Int) % 64).toNat = 128 + n % 64 := by omega
      rw [if_neg h1, if_pos h2, e]
      simp only [List.map_cons, List.map_nil, e1, e2]
    · by_cases h3 : n < 65536
      · have e : enc1 (n : Int) = [224 + (n : Int) / 4096, 128 + (n : Int) / 64 % 64, 128 + (n : Int) % 64] := by unfold enc1; rw [if_neg (show ¬ (n : Int) < 128 by omega), if_neg (show ¬ (n : Int) < 2048 by omega), if_pos (show (n : Int) < 65536 by omega)]
        have e1 : (224 + (n : Int) / 4096).toNat = 224 + n / 4096 := by omega
        have e2 : (128 + (n : Int) / 64 % 64).toNat = 128 + n / 64 % 64 := by omega
        have e3 : (128 + (n : Int) % 64).toNat = 128 + n % 64 := by omega
        rw [if_neg h1, if_neg h2, if_pos h3, e]
        simp only [List.map_cons, List.map_nil, e1, e2, e3]
      · have e : enc1 (n : Int) = [240 + (n : Int) / 262144, 128 + (n : Int) / 4096 % 64, 128 + (n : Int) / 64 % 64, 128 + (n : Int) % 64] := by unfold enc1; rw [if_neg (show ¬ (n : Int) < 128 by omega), if_neg (show ¬ (n : Int) < 2048 by omega), if_neg (show ¬ (n : Int) < 65536 by omega)]
        have e0 : (240 + (n : Int) / 262144).toNat = 240 + n / 262144 := by omega
        have e1 : (128 + (n : Int) / 4096 % 64).toNat = 128 + n / 4096 % 64 := by omega
        have e2 : (128 + (n : Int) / 64 % 64).toNat = 128 + n / 64 % 64 := by omega
        have e3 : (128 + (n : Int) % 64).toNat = 128 + n % 64 := by omega
        rw [if_neg h1, if_neg h2, if_neg h3, e]
        simp only [List.map_cons, List.map_nil, e0, e1, e2, e3]
theorem strOf_append (a b : List Int) : strOfNums (a ++ b) = strOfNums a ++ strOfNums b := by
  unfold strOfNums
  apply ByteArray.ext
  simp
theorem runes_fold : ∀ (zs : List Int) (acc : ByteArray), (∀ r ∈ zs, Lib.validRune r = true) → zs.foldl (fun r n => r ++ Utf8.encode n) acc = acc ++ strOfNums (encs zs)
  | [], acc, _ => by
    apply ByteArray.ext
    simp [encs, strOfNums]
  | z :: l, acc, h => by
    have e : encs (z :: l) = enc1 z ++ encs l := rfl
    rw [List.foldl_cons, runes_fold l _ (fun r hr => h r (by simp [hr])), e, strOf_append, enc1_is z (h z (by simp)), ByteArray.append_assoc]
theorem runes_is (zs : List Int) (h : ∀ r ∈ zs, Lib.validRune r = true) : runesBytes zs = strOfNums (encs zs) := by
  unfold runesBytes
  rw [runes_fold zs _ h]
  apply ByteArray.ext
  simp
theorem string_own {P : Program} {wr : World} {base : Nat} {v : Value} {zs : List Int} (src e dst : TypeId) (h : wr.ownsRow base e 1 v zs.length (zs.map fun z => Value.int .u8 z)) (hs : P.underlying src = some (.slice e)) (he : P.underlying e = some (.int .u8)) (hd : P.underlying dst = some .string) :
    (convert src dst v).run P wr = .ok (.string (strOfNums zs)) wr := by
  obtain ⟨hl, h | ⟨g, cap, cur, rfl, hb, hg, hn, hc, hz, ht⟩⟩ := h
  · obtain ⟨rfl, hz⟩ := h
    have : zs = [] := List.eq_nil_of_length_eq_zero hz
    subst this
    exact run_convert_bytes_nil wr src e hs he 0 0 dst hd
  · refine run_convert_bytes_arg wr src e hs he g 0 zs.length cap zs rfl (fun i hi => ?_) dst hd
    have e1 : cur.toList[i]? = (zs.map fun z => Value.int .u8 z)[i]? := by
      rw [← ht, List.getElem?_take_of_lt (by omega)]
    have e2 : wr.cell? ⟨g, i, none⟩ = cur[i]? := by simp [World.cell?, hg]
    rw [Nat.zero_add, e2, ← Array.getElem?_toList, e1]
    simp [List.getD, List.getElem?_eq_getElem hi]
end Go.Proofs.YtabofadjnbpjkabDoor

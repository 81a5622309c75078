/-
  What encoding says, by the program and by the document.
-/
import Derived.Test.YtahmeejcgddlhaaRh
import Derived.Test.YtahmeejcgddlhaaQo
import Derived.Deep.DeepMust
namespace Go.Proofs.Ytahmeejcgddlhaa
open Go.RowKit
theorem LT.irrefl {K : Int → Int} {x : Int} : ¬ LT K x x := by unfold LT; omega
theorem LT.asymm {K : Int → Int} {x y : Int} (h : LT K x y) : ¬ LT K y x := by unfold LT at *; omega
/-- There is but one order. -/
theorem sort_uniq (K : Int → Int) : ∀ (l l' : List Int), l.Pairwise (LT K) → l'.Pairwise (LT K) → (∀ x, x ∈ l ↔ x ∈ l') → l = l'
  | [], [], _, _, _ => rfl
  | [], y :: l', _, _, h => by have := (h y).2 (by simp); simp at this
  | x :: l, [], _, _, h => by have := (h x).1 (by simp); simp at this
  | x :: l, y :: l', h1, h2, h => by
    have p1 := List.pairwise_cons.1 h1
    have p2 := List.pairwise_cons.1 h2
    have e : x = y := by
      rcases List.mem_cons.1 ((h x).1 (by simp)) with e | e
      · exact e
      · rcases List.mem_cons.1 ((h y).2 (by simp)) with e2 | e2
        · exact e2.symm
        · exact absurd (p1.1 y e2) (p2.1 x e).asymm
    subst e
    rw [sort_uniq K l l' p1.2 p2.2 fun z => ?_]
    have := h z
    rw [List.mem_cons, List.mem_cons] at this
    constructor
    · intro hz
      rcases this.1 (.inr hz) with e | e
      · subst e; exact absurd (p1.1 z hz) LT.irrefl
      · exact e
    · intro hz
      rcases this.2 (.inr hz) with e | e
      · subst e; exact absurd (p2.1 z hz) LT.irrefl
      · exact e
theorem SrtL.uniq {K : Int → Int} {l a b : List Int} (h : SrtL K l a) (h2 : SrtL K l b) : a = b := sort_uniq K a b h.srt h2.srt fun x => by rw [h.mem, h2.mem]
/-- What encoding says: a text, a place, an error. -/
def encT (zs os : List Int) : ByteArray × Int × Int :=
  if 0 ≤ ixF (fun n => !isSc n) zs zs.length 0 then (⟨#[]⟩, ixF (fun n => !isSc n) zs zs.length 0, 20)
  else match encL usual zs os 128 0 72 (bsL usual zs zs.length).length (mkB usual zs zs.length) true with
    | none => (⟨#[]⟩, 0, 142)
    | some D => (strOfNums (txL usual (bsL usual zs zs.length) D), 0, 0)
def encV (r : ByteArray × Int × Int) : Ending := .returned (.tuple #[.string r.1, .int .i64 r.2.1, .int .i64 r.2.2])
theorem isLo_usual (n : Int) : isLo usual n = false := by
  unfold isLo
  rw [show usual.first = 128 from rfl]
  cases decide (n < 128) <;> rfl
theorem ixF_all (pr : Int → Bool) (zs : List Int) (h : ∀ x, pr x = false) : ∀ f k, ixF pr zs f k = -1
  | 0, _ => rfl
  | f + 1, k => by rw [ixF, if_neg (by rw [h]; simp), ixF_all pr zs h f (k + 1)]
theorem enA_is (zs os : List Int) (e : Ending) (hS : SrtL (KZ zs) (osL usual zs zs.length) os) (h : enA usual zs e) : e = encV (encT zs os) := by
  unfold enA at h
  unfold encT
  by_cases c : 0 ≤ ixF (fun n => !isSc n) zs zs.length 0
  · rw [if_pos c] at h ⊢; exact h
  · rw [if_neg c, if_neg (by rw [ixF_all _ zs isLo_usual]; decide)] at h
    rw [if_neg c]
    obtain ⟨os', h1, h2⟩ := h
    have := hS.uniq h1
    subst this
    unfold wrF at h2
    rw [show usual.first = 128 from rfl, show usual.bias = 72 from rfl] at h2
    cases he : encL usual zs os 128 0 72 (bsL usual zs zs.length).length (mkB usual zs zs.length) true with
    | none => rw [he] at h2; exact h2
    | some D => rw [he] at h2; exact h2
theorem sc_list (zs : List Int) (c : ¬ 0 ≤ ixF (fun n => !isSc n) zs zs.length 0) : ∀ j, j < zs.length → okC (zs.getD j 0) := fun j hj =>
  isSc_ok (by have := ixF_none (fun n => !isSc n) zs zs.length 0 (by omega) j (Nat.zero_le _) (by omega); simpa using this)
theorem lo_list (zs : List Int) : ∀ j, j < zs.length → isB usual (zs.getD j 0) = false → usual.first ≤ zs.getD j 0 := fun j _ h => by
  unfold isB at h
  have e : usual.first = 128 := rfl
  rw [e] at h ⊢
  simp at h
  rw [List.getD_eq_getElem?_getD]
  omega
theorem bs_ok (zs : List Int) (hc : ∀ j, j < zs.length → okC (zs.getD j 0)) (k : Nat) : ∀ x ∈ bsL usual zs k, isB usual x = true ∧ 0 ≤ x := fun x hx => by
  refine ⟨bsL_basic usual zs k x hx, ?_⟩
  unfold bsL at hx
  have hm := List.mem_of_mem_take (List.mem_filter.1 hx).1
  obtain ⟨j, hj, rfl⟩ := List.mem_iff_getElem.1 hm
  have := (hc j hj).1
  simpa [List.getD_eq_getElem?_getD, hj] using this
/-- The text of an encoding. -/
theorem enc_txt (zs os D : List Int) (hS : SrtL (KZ zs) (osL usual zs zs.length) os) (hc : ∀ j, j < zs.length → okC (zs.getD j 0)) (h : encU usual zs os 128 0 72 (bsL usual zs zs.length).length (mkB usual zs zs.length) true = some D) : Txt usual (strOfNums (txL usual (bsL usual zs zs.length) D)) (bsL usual zs zs.length) D :=
  txt_any usual usual_ok (by decide) _ D (bs_ok zs hc _) (encU_dg usual usual_ok (by decide) zs os _ _ _ _ _ _ D h (EO.start usual zs os hS (lo_list zs)))
theorem rnA_is (zs os : List Int) (e : Ending) (hS : SrtL (KZ zs) (osL usual zs zs.length) os) (h : rnA zs os e) : e = encV (encT zs os) := by
  unfold rnA at h
  unfold encT
  by_cases c : 0 ≤ ixF (fun n => !isSc n) zs zs.length 0
  · rw [if_pos c] at h ⊢; exact h
  · rw [if_neg c] at h ⊢
    have hc := sc_list zs c
    cases he : encL usual zs os 128 0 72 (bsL usual zs zs.length).length (mkB usual zs zs.length) true with
    | none =>
      cases hu : encU usual zs os 128 0 72 (bsL usual zs zs.length).length (mkB usual zs zs.length) true with
      | none => rw [hu] at h; exact h
      | some D =>
        rw [hu] at h
        simp only at h
        obtain ⟨a, cc, hd⟩ := dec_bad usual usual_ok (by decide) _ zs os D hc hS (lo_list zs) (enc_txt zs os D hS hc hu) he hu
        rw [hd] at h
        exact h
    | some D =>
      have hu := encU_encL usual usual_ok (by decide) zs os _ _ _ _ _ _ D he (EO.start usual zs os hS (lo_list zs))
      have hu2 : encU usual zs os 128 0 72 (bsL usual zs zs.length).length (mkB usual zs zs.length) true = some D := hu
      rw [hu2] at h
      simp only at h
      have hd := dec_back usual usual_ok _ zs os D hc hS (lo_list zs) (enc_txt zs os D hS hc hu2) he
      rw [hd] at h
      exact h
theorem encL_len (zs : List Int) : ∀ (os : List Int) (n i bias : Int) (m : Nat) (mk : Nat → Bool) (first : Bool) (D : List Int), encL usual zs os n i bias m mk first = some D → D.length ≤ 31 * os.length
  | [], _, _, _, _, _, _, D, h => by
    rw [encL] at h
    have e : D = [] := by simpa using h.symm
    subst e; simp
  | x :: os, n, i, bias, m, mk, first, D, h => by
    rw [encL] at h
    split at h
    · simp at h
    · split at h
      · simp at h
      · rename_i ds hn
        have h31 := numF_len usual bias 31 _ _ _ ds hn
        cases hr : encL usual zs os (KZ zs x) ((cnt mk x.toNat : Int) + 1) (adF usual ((KZ zs x - n) * ((m + 1 : Nat) : Int) + (cnt mk x.toNat : Int) - i) ((m + 1 : Nat) : Int) first) (m + 1) (setB mk x.toNat true) false with
        | none => rw [hr] at h; simp at h
        | some D2 =>
          rw [hr] at h
          have e : D = ds ++ D2 := by simpa using h.symm
          have := encL_len zs os _ _ _ _ _ _ D2 hr
          subst e
          rw [List.length_append, List.length_cons]; omega
/-- An encoding that is one: its text, and that it is read back. -/
theorem enc_good (zs os : List Int) (hz : zs.length < 1048577) (hS : SrtL (KZ zs) (osL usual zs zs.length) os) (h : (encT zs os).2.2 = 0) : ∃ D, (encT zs os) = (strOfNums (txL usual (bsL usual zs zs.length) D), 0, 0) ∧ Txt usual (strOfNums (txL usual (bsL usual zs zs.length) D)) (bsL usual zs zs.length) D ∧ encL usual zs os 128 0 72 (bsL usual zs zs.length).length (mkB usual zs zs.length) true = some D ∧ (∀ j, j < zs.length → okC (zs.getD j 0)) ∧ (strOfNums (txL usual (bsL usual zs zs.length) D)).size < 67108865 ∧ (∀ x ∈ D, isDg usual x) := by
  unfold encT at h ⊢
  by_cases c : 0 ≤ ixF (fun n => !isSc n) zs zs.length 0
  · rw [if_pos c] at h; simp at h
  · rw [if_neg c] at h ⊢
    have hc := sc_list zs c
    cases he : encL usual zs os 128 0 72 (bsL usual zs zs.length).length (mkB usual zs zs.length) true with
    | none => rw [he] at h; simp at h
    | some D =>
      have hu := encU_encL usual usual_ok (by decide) zs os _ _ _ _ _ _ D he (EO.start usual zs os hS (lo_list zs))
      have ht := enc_txt zs os D hS hc hu
      refine ⟨D, rfl, ht, rfl, hc, ?_, encU_dg usual usual_ok (by decide) zs os _ _ _ _ _ _ D hu (EO.start usual zs os hS (lo_list zs))⟩
      rw [ht.size]
      have h1 := encL_len zs os _ _ _ _ _ _ D he
      have h2 := hS.len
      have h3 := bo_len usual zs zs.length (Nat.le_refl _)
      unfold offN
      split <;> omega
/-- What is encoded is decoded. -/
theorem enc_back (zs os : List Int) (hz : zs.length < 1048577) (hS : SrtL (KZ zs) (osL usual zs zs.length) os) (h : (encT zs os).2.2 = 0) : decS usual (encT zs os).1 = .inr zs ∧ (encT zs os).1.size < 67108865 ∧ (encT zs os).2.1 = 0 := by
  obtain ⟨D, e, ht, he, hc, hs, -⟩ := enc_good zs os hz hS h
  rw [e]
  exact ⟨dec_back usual usual_ok _ zs os D hc hS (lo_list zs) ht he, hs, rfl⟩
set_option maxRecDepth 100000 in
set_option maxHeartbeats 1000000 in
theorem sameL_any (l : List Int) (v v' : Value) (w : World) (h1 : Rds .i32 w v l) (h2 : Rds .i32 w v' l) (hl : l.length < 67108865) :
    Calls Try.prog 12 #[v, v'] w fun e w' => e = .returned (.bool true) ∧ Below w.heap.size w w' := by
  obtain ⟨a1, c1, rfl, hn1⟩ := h1
  obtain ⟨a2, c2, rfl, hn2⟩ := h2
  have hl9 : (l.length : Int) ≤ 9007199254740992 := by omega
  clear hl
  go_enter Try.func12, Try.ntmps12
  go_wp2
  go_loopw [13] (fun i wr => ∃ (k m : Nat), i = .int .i64 k ∧ k ≤ l.length ∧ wr = w.drewN m) (fun i _ => l.length - (RowKit.intOf i).toNat)
  case atStart => exact ⟨0, 0, rfl, by omega, rfl⟩
  case round =>
    obtain ⟨k, m, rfl, hk, rfl⟩ := hrel
    by_cases hlt : k < l.length
    · have hlti : (k : Int) < (l.length : Int) := by omega
      obtain ⟨g1, o1, rfl, q1⟩ := hn1 (by omega)
      obtain ⟨g2, o2, rfl, q2⟩ := hn2 (by omega)
      have d1 := q1 k hlt
      have d2 := q2 k hlt
      generalize l.getD k 0 = z at *
      clear q1 q2 hn1 hn2
      go_wp2
      go_quiet (fail)
      go_wp2
      exact ⟨⟨k + 1, _, by go_num, by omega, rfl⟩, by simp [RowKit.intOf]; omega⟩
    · have hlti : ¬ (k : Int) < (l.length : Int) := by omega
      go_wp2
      go_ret
      exact ⟨rfl, below_drewN (Below.refl _ _) _⟩
end Go.Proofs.Ytahmeejcgddlhaa

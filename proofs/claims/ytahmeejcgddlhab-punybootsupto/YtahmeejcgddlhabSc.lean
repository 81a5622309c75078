/-
  What is encoded by any parameters is decoded.
-/
import Derived.Test.YtahmeejcgddlhabRd
import Derived.Test.YtahmeejcgddlhabQo
import Derived.Deep.DeepMust
namespace Go.Proofs.Ytahmeejcgddlhab
open Go.RowKit
theorem numF_dg (p : Bt) (hp : Okb p) (bias : Int) : ∀ (f : Nat) (q w k : Int) (ds : List Int), numF p bias f q w k = some ds → 0 ≤ q → ∀ x ∈ ds, isDg p x
  | 0, _, _, _, _, h, _, _, _ => by simp [numF] at h
  | f + 1, q, w, k, ds, h, h0, x, hx => by
    have tb := thr_bound p hp k bias
    rw [numF] at h
    obtain ⟨T, hT⟩ : ∃ T, thr p k bias = T := ⟨_, rfl⟩
    rw [hT] at h tb
    by_cases c : q < T
    · rw [if_pos c] at h
      have e : ds = [ltr q] := by simpa using h.symm
      subst e
      simp at hx
      exact ⟨q, h0, by omega, hx⟩
    · rw [if_neg c] at h
      by_cases c2 : 2147483647 < w * (p.base - T)
      · rw [if_pos c2] at h; simp at h
      rw [if_neg c2] at h
      obtain ⟨n1, n2, n3, n4, n5⟩ := num_step (b := p.base) (t := T) (q := q) tb.1 (by omega) (by omega)
      generalize (q - T) % (p.base - T) = M at *
      generalize (q - T) / (p.base - T) = Q at *
      cases hn : numF p bias f Q (w * (p.base - T)) (k + p.base) with
      | none => rw [hn] at h; simp at h
      | some d =>
        rw [hn] at h
        have e : ds = ltr (T + M) :: d := by simpa using h.symm
        subst e
        rcases List.mem_cons.1 hx with r | r
        · exact ⟨_, by omega, n2, r⟩
        · exact numF_dg p hp bias f _ _ _ d hn n3 x r
theorem encL_dg (p : Bt) (hp : Okb p) (zs : List Int) : ∀ (os : List Int) (n i bias : Int) (m : Nat) (mk : Nat → Bool) (first : Bool) (D : List Int), encL p zs os n i bias m mk first = some D → EO zs os n i m mk → (∀ x ∈ D, isDg p x) ∧ D.length ≤ 31 * os.length
  | [], n, i, bias, m, mk, first, D, h, _ => by
    rw [encL] at h
    have e : D = [] := by simpa using h.symm
    subst e; simp
  | y :: os, n, i, bias, m, mk, first, D, h, he => by
    rw [encL] at h
    split at h
    · simp at h
    · split at h
      · simp at h
      · rename_i ds hn
        have hg := numF_dg p hp bias 31 _ _ _ ds hn (by have := he.next; omega)
        have h31 := numF_len p bias 31 _ _ _ ds hn
        cases hr : encL p zs os (KZ zs y) ((cnt mk y.toNat : Int) + 1) (adF p ((KZ zs y - n) * ((m + 1 : Nat) : Int) + (cnt mk y.toNat : Int) - i) ((m + 1 : Nat) : Int) first) (m + 1) (setB mk y.toNat true) false with
        | none => rw [hr] at h; simp at h
        | some D2 =>
          rw [hr] at h
          have e : D = ds ++ D2 := by simpa using h.symm
          subst e
          obtain ⟨i1, i2⟩ := encL_dg p hp zs os _ _ _ _ _ _ D2 hr he.step
          refine ⟨fun x hx => ?_, by rw [List.length_append, List.length_cons]; omega⟩
          rcases List.mem_append.1 hx with q | q
          · exact hg x q
          · exact i1 x q
theorem txt_any2 (p : Bt) (hp : Okb p) (hq : dgTo p.base p.btw < 0) (B D : List Int) (hb : ∀ x ∈ B, isB p x = true ∧ 0 ≤ x) (hd : ∀ x ∈ D, isDg p x) : Txt p (strOfNums (txL p B D)) B D := by
  have hz : (txL p B D).length = offN B + D.length := by
    unfold txL offN
    by_cases c : B = []
    · rw [if_pos c, if_pos c]; simp
    · rw [if_neg c, if_neg c]; simp; omega
  have hB : ∀ j, j < B.length → (txL p B D).getD j 0 = B.getD j 0 := fun j hj => by
    have c : B ≠ [] := by intro e; subst e; simp at hj
    unfold txL
    rw [if_neg c]
    simp only [List.getD_eq_getElem?_getD]
    rw [List.getElem?_append_left (by simp; omega), List.getElem?_append_left hj]
  have hm : B ≠ [] → (txL p B D).getD B.length 0 = p.btw := fun c => by
    unfold txL
    rw [if_neg c]
    simp [List.getD_eq_getElem?_getD]
  have hD : ∀ j, j < D.length → (txL p B D).getD (offN B + j) 0 = D.getD j 0 := fun j hj => by
    unfold txL offN
    by_cases c : B = []
    · rw [if_pos c, if_pos c]; simp
    · rw [if_neg c, if_neg c]
      simp only [List.getD_eq_getElem?_getD]
      rw [List.getElem?_append_right (by simp)]
      congr 2
      simp
  have gB : ∀ j, j < B.length → B.getD j 0 ∈ B := fun j hj => by rw [List.getD_eq_getElem?_getD, List.getElem?_eq_getElem hj]; exact List.getElem_mem hj
  have gD : ∀ j, j < D.length → D.getD j 0 ∈ D := fun j hj => by rw [List.getD_eq_getElem?_getD, List.getElem?_eq_getElem hj]; exact List.getElem_mem hj
  have e2 : ∀ j, j < D.length → (byt (strOfNums (txL p B D)) (offN B + j) : Int) = D.getD j 0 := fun j hj => by
    have r := dg_range hp (hd _ (gD j hj))
    rw [str_byt _ _ (by omega) (by rw [hD j hj]; omega), hD j hj]
  have ho : B ≠ [] → offN B = B.length + 1 := fun c => by unfold offN; rw [if_neg c]
  refine ⟨by rw [strOfNums_size, hz], fun j hj => ?_, fun c => ?_, fun j hj => ?_, fun j hj => by rw [e2 j hj]⟩
  · have c : B ≠ [] := by intro e; subst e; simp at hj
    have r := hb _ (gB j hj)
    have r2 := isB_range r.1
    have := ho c
    rw [str_byt _ _ (by omega) (by rw [hB j hj]; omega), hB j hj]
  · have := ho c
    have := hp.t1
    have := hp.t2
    rw [str_byt _ _ (by omega) (by rw [hm c]; omega), hm c]
  · obtain ⟨d, d0, d1, d2⟩ := hd _ (gD j hj)
    rw [e2 j hj, d2]
    intro e
    rw [← e, dgTo_ltr p hp d d0 d1] at hq
    omega
theorem LT.irrefl {K : Int → Int} {x : Int} : ¬ LT K x x := by unfold LT; omega
theorem LT.asymm {K : Int → Int} {x y : Int} (h : LT K x y) : ¬ LT K y x := by unfold LT at *; omega
/-- There is but one order. -/
theorem sort_uniq (K : Int → Int) : ∀ (l l' : List Int), l.Pairwise (LT K) → l'.Pairwise (LT K) → (∀ x, x ∈ l ↔ x ∈ l') → l = l'
  | [], [], _, _, _ => rfl
  | [], y :: l', _, _, h => by have := (h y).2 (by simp); simp at this
  | x :: l, [], _, _, h => by have := (h x).1 (by simp); simp at this
  | x :: l, y :: l', h1, h2, h => by
    have p1 := List.pairwise_cons.1 h1
    have p2 := List.pairwise_cons.1 h2
    have e : x = y := by
      rcases List.mem_cons.1 ((h x).1 (by simp)) with e | e
      · exact e
      · rcases List.mem_cons.1 ((h y).2 (by simp)) with e2 | e2
        · exact e2.symm
        · exact absurd (p1.1 y e2) (p2.1 x e).asymm
    subst e
    rw [sort_uniq K l l' p1.2 p2.2 fun z => ?_]
    have := h z
    rw [List.mem_cons, List.mem_cons] at this
    constructor
    · intro hz
      rcases this.1 (.inr hz) with e | e
      · subst e; exact absurd (p1.1 z hz) LT.irrefl
      · exact e
    · intro hz
      rcases this.2 (.inr hz) with e | e
      · subst e; exact absurd (p2.1 z hz) LT.irrefl
      · exact e
theorem SrtL.uniq {K : Int → Int} {l a b : List Int} (h : SrtL K l a) (h2 : SrtL K l b) : a = b := sort_uniq K a b h.srt h2.srt fun x => by rw [h.mem, h2.mem]
/-- Encoding has but one answer. -/
theorem enA_uniq {p : Bt} {zs : List Int} {e e2 : Ending} (h : enA p zs e) (h2 : enA p zs e2) : e = e2 := by
  unfold enA at h h2
  split at h
  · rename_i c; rw [if_pos c] at h2; rw [h, h2]
  · rename_i c
    rw [if_neg c] at h2
    split at h
    · rename_i d; rw [if_pos d] at h2; rw [h, h2]
    · rename_i d
      rw [if_neg d] at h2
      obtain ⟨os, h3, h4⟩ := h
      obtain ⟨os2, h5, h6⟩ := h2
      have := h3.uniq h5
      subst this
      cases hw : wrF p zs os with
      | none => rw [hw] at h4 h6; simp only at h4 h6; rw [h4, h6]
      | some L => rw [hw] at h4 h6; simp only at h4 h6; rw [h4, h6]
theorem isSc_ok {c : Int} (h : isSc c = true) : okC c := by
  unfold isSc at h
  simp at h
  unfold okC; omega
/-- What an encoding is: nothing, or a text that says the list. -/
theorem enA_back {p : Bt} (hp : Okb p) (hq : dgTo p.base p.btw < 0) {zs : List Int} (hz : zs.length < 1048577) {e : Ending} (h : enA p zs e) : (∃ a c : Int, c ≠ 0 ∧ e = .returned (.tuple #[.string ⟨#[]⟩, .int .i64 a, .int .i64 c])) ∨ ∃ S : ByteArray, e = .returned (.tuple #[.string S, .int .i64 0, .int .i64 0]) ∧ decS p S = .inr zs ∧ S.size < 67108865 := by
  unfold enA at h
  split at h
  · exact .inl ⟨_, 20, by decide, h⟩
  · rename_i c
    split at h
    · exact .inl ⟨_, 141, by decide, h⟩
    · rename_i d
      obtain ⟨os, hS, hm⟩ := h
      cases hw : wrF p zs os with
      | none => rw [hw] at hm; exact .inl ⟨0, 142, by decide, hm⟩
      | some L =>
        rw [hw] at hm
        refine .inr ⟨_, hm, ?_⟩
        have hc : ∀ j, j < zs.length → okC (zs.getD j 0) := fun j hj => isSc_ok (by have := ixF_none (fun n => !isSc n) zs zs.length 0 (by omega) j (Nat.zero_le _) (by omega); simpa using this)
        have hlo : ∀ j, j < zs.length → isB p (zs.getD j 0) = false → p.first ≤ zs.getD j 0 := fun j hj hb => by
          have := ixF_none (isLo p) zs zs.length 0 (by omega) j (Nat.zero_le _) (by omega)
          unfold isLo at this
          unfold isB at hb
          rw [hb] at this
          simpa using this
        unfold wrF at hw
        cases he : encL p zs os p.first 0 p.bias (bsL p zs zs.length).length (mkB p zs zs.length) true with
        | none => rw [he] at hw; simp at hw
        | some D =>
          rw [he] at hw
          have e1 : L = txL p (bsL p zs zs.length) D := by show L = outL p zs ++ D; simpa using hw.symm
          subst e1
          obtain ⟨g1, g2⟩ := encL_dg p hp zs os _ _ _ _ _ _ D he (EO.start p zs os hS hlo)
          have hb0 : ∀ x ∈ bsL p zs zs.length, isB p x = true ∧ 0 ≤ x := fun x hx => by
            refine ⟨bsL_basic p zs _ x hx, ?_⟩
            unfold bsL at hx
            have hmm := List.mem_of_mem_take (List.mem_filter.1 hx).1
            obtain ⟨j, hj, rfl⟩ := List.mem_iff_getElem.1 hmm
            have := (hc j hj).1
            simpa [List.getD_eq_getElem?_getD, hj] using this
          have ht := txt_any2 p hp hq (bsL p zs zs.length) D hb0 g1
          refine ⟨dec_back p hp _ zs os D hc hS hlo ht he, ?_⟩
          rw [ht.size]
          have h2 := hS.len
          have h3 := bo_len p zs zs.length (Nat.le_refl _)
          unfold offN
          split <;> omega
set_option maxRecDepth 100000 in
set_option maxHeartbeats 1000000 in
theorem sameL_any (l : List Int) (v v' : Value) (w : World) (h1 : Rds .i32 w v l) (h2 : Rds .i32 w v' l) (hl : l.length < 67108865) :
    Calls Try.prog 11 #[v, v'] w fun e w' => e = .returned (.bool true) ∧ Below w.heap.size w w' := by
  obtain ⟨a1, c1, rfl, hn1⟩ := h1
  obtain ⟨a2, c2, rfl, hn2⟩ := h2
  have hl9 : (l.length : Int) ≤ 9007199254740992 := by omega
  clear hl
  go_enter Try.func11, Try.ntmps11
  go_wp2
  go_loopw [13] (fun i wr => ∃ (k m : Nat), i = .int .i64 k ∧ k ≤ l.length ∧ wr = w.drewN m) (fun i _ => l.length - (RowKit.intOf i).toNat)
  case atStart => exact ⟨0, 0, rfl, by omega, rfl⟩
  case round =>
    obtain ⟨k, m, rfl, hk, rfl⟩ := hrel
    by_cases hlt : k < l.length
    · have hlti : (k : Int) < (l.length : Int) := by omega
      obtain ⟨g1, o1, rfl, q1⟩ := hn1 (by omega)
      obtain ⟨g2, o2, rfl, q2⟩ := hn2 (by omega)
      have d1 := q1 k hlt
      have d2 := q2 k hlt
      generalize l.getD k 0 = z at *
      clear q1 q2 hn1 hn2
      go_wp2
      go_quiet (fail)
      go_wp2
      exact ⟨⟨k + 1, _, by go_num, by omega, rfl⟩, by simp [RowKit.intOf]; omega⟩
    · have hlti : ¬ (k : Int) < (l.length : Int) := by omega
      go_wp2
      go_ret
      exact ⟨rfl, below_drewN (Below.refl _ _) _⟩
end Go.Proofs.Ytahmeejcgddlhab

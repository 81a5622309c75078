/-
  The contract of UnitDecoder's Feed, of a decoder that may hold a unit. Conditions: the list takes no more bytes than there are; nothing else holds the decoder.
-/
import Derived.Test.YtabofadjnbpjkacDoorFd
namespace Go.Proofs.YtabofadjnbpjkacDoor
open Go.RowKit Go.Lib Go.Shelf
/-- What a unit that is held back and the units behind it say. -/
def fuH (h : Int) (l : List Int) : List Int := if h = 0 then fu l else fu (h :: l)
/-- The high unit that stands at a list's end; 0, if none does. -/
def hlU (h : Int) (A : List Int) : Int := match A.getLast? with | some u => if 55296 ≤ u ∧ u < 56320 then u else 0 | none => h
/-- What of a list is sure. -/
def sureU (A : List Int) : List Int := if hlU 0 A = 0 then A else A.dropLast
theorem hlU_nil (h : Int) : hlU h [] = h := rfl
theorem hlU_snoc (h : Int) (A : List Int) (u : Int) : hlU h (A ++ [u]) = if 55296 ≤ u ∧ u < 56320 then u else 0 := by
  unfold hlU; rw [List.getLast?_concat]
theorem hlU_cons (h u v : Int) (A : List Int) : hlU h (u :: v :: A) = hlU h (v :: A) := by
  unfold hlU; rw [List.getLast?_cons_cons]
theorem hlU_app (A l : List Int) : hlU 0 (A ++ l) = hlU (hlU 0 A) l := by
  rcases List.eq_nil_or_concat l with rfl | ⟨l', u, rfl⟩
  · rw [List.append_nil]; rfl
  · rw [List.concat_eq_append, ← List.append_assoc, hlU_snoc, hlU_snoc]
theorem hlU_high (A : List Int) (h : hlU 0 A ≠ 0) : 55296 ≤ hlU 0 A ∧ hlU 0 A < 56320 := by
  rcases List.eq_nil_or_concat A with rfl | ⟨l', u, rfl⟩
  · exact absurd rfl h
  · rw [List.concat_eq_append, hlU_snoc] at h ⊢
    by_cases c : 55296 ≤ u ∧ u < 56320
    · rw [if_pos c]; exact c
    · rw [if_neg c] at h; exact absurd rfl h
theorem sure_is (A : List Int) : A = sureU A ++ (if hlU 0 A = 0 then [] else [hlU 0 A]) := by
  unfold sureU
  by_cases c : hlU 0 A = 0
  · rw [if_pos c, if_pos c, List.append_nil]
  · rw [if_neg c, if_neg c]
    rcases List.eq_nil_or_concat A with rfl | ⟨l', u, rfl⟩
    · exact absurd rfl c
    · rw [List.concat_eq_append, hlU_snoc] at c ⊢
      by_cases d : 55296 ≤ u ∧ u < 56320
      · rw [if_pos d, List.dropLast_concat]
      · rw [if_neg d] at c; exact absurd rfl c
theorem fu_app : ∀ S R : List Int, (hlU 0 S = 0 ∨ ∀ r, R.head? = some r → r < 56320 ∨ 57343 < r) → fu (S ++ R) = fu S ++ fu R
  | [], R, _ => rfl
  | [u], R, h => by
    show fu (u :: R) = fu [u] ++ fu R
    by_cases p : u < 55296 ∨ 57343 < u
    · rw [fu_plain _ _ p, fu_plain _ _ p]; rfl
    · by_cases q : u < 56320
      · cases R with
        | nil => simp [fu]
        | cons r R =>
          have hr : r < 56320 ∨ 57343 < r := by
            rcases h with h | h
            · have : hlU 0 [u] = u := by show (if 55296 ≤ u ∧ u < 56320 then u else 0) = u; rw [if_pos (by omega)]
              omega
            · exact h r rfl
          rw [fu_lone _ _ _ (by omega) q hr, fu_end _ (by omega) q]; rfl
      · rw [fu_low _ _ (by omega) (by omega), fu_low _ _ (by omega) (by omega)]; rfl
  | u :: v :: l, R, h => by
    rw [hlU_cons] at h
    have i1 := fu_app (v :: l) R h
    show fu (u :: v :: (l ++ R)) = fu (u :: v :: l) ++ fu R
    by_cases p : u < 55296 ∨ 57343 < u
    · rw [fu_plain _ _ p, fu_plain _ _ p, List.cons_append, ← i1]; rfl
    · by_cases q : u < 56320 ∧ 56320 ≤ v ∧ v ≤ 57343
      · have h2 : hlU 0 l = 0 ∨ ∀ r, R.head? = some r → r < 56320 ∨ 57343 < r := by
          cases l with
          | nil => exact .inl rfl
          | cons x l => rw [hlU_cons] at h; exact h
        rw [fu_pair _ _ _ (by omega) q.1 q.2.1 q.2.2, fu_pair _ _ _ (by omega) q.1 q.2.1 q.2.2, fu_app l R h2]; rfl
      · by_cases q1 : u < 56320
        · rw [fu_lone _ _ _ (by omega) q1 (by omega), fu_lone _ _ _ (by omega) q1 (by omega), List.cons_append, ← i1]; rfl
        · rw [fu_low u _ (by omega) (by omega), fu_low u _ (by omega) (by omega), List.cons_append, ← i1]; rfl
theorem fu_two (A l : List Int) : fu (A ++ l) = fu (sureU A) ++ fuH (hlU 0 A) l := by
  have hs := sure_is A
  unfold fuH
  by_cases c : hlU 0 A = 0
  · rw [if_pos c] at hs ⊢
    rw [List.append_nil] at hs
    rw [← hs]
    exact fu_app A l (.inl c)
  · rw [if_neg c] at hs ⊢
    have hh := hlU_high A c
    conv => lhs; rw [hs]
    rw [List.append_assoc]
    refine fu_app _ _ (.inr fun r hr => ?_)
    simp only [List.singleton_append, List.head?_cons, Option.some.injEq] at hr
    omega
/-- What a decoder tells of a piece more. -/
theorem told_more (A l pre : List Int) (h : fuH (hlU 0 A) l = pre ++ fuH (hlU 0 (A ++ l)) []) : fu (sureU (A ++ l)) = fu (sureU A) ++ pre := by
  have e1 := fu_two A l
  have e2 := fu_two (A ++ l) []
  rw [List.append_nil, e1, h, ← List.append_assoc] at e2
  exact (List.append_cancel_right e2).symm
theorem hlU_take (h : Int) (us : List Int) (k : Nat) (hk : k < us.length) : hlU h (us.take (k + 1)) = if 55296 ≤ us.getD k 0 ∧ us.getD k 0 < 56320 then us.getD k 0 else 0 := by
  have e : us.take (k + 1) = us.take k ++ [us.getD k 0] := by
    rw [List.take_add_one, List.getElem?_eq_getElem hk]
    simp [List.getD, List.getElem?_eq_getElem hk]
  rw [e, hlU_snoc]
/-- What was there stays, but for the decoder's own block. -/
structure Kb (B n₀ : Nat) (w w' : World) : Prop where
  bel : Below n₀ w w'
  oth : ∀ k, k < w.heap.size → k ≠ B → w'.heap[k]? = w.heap[k]?
theorem Kb.refl (B n₀ : Nat) (w : World) : Kb B n₀ w w := ⟨Below.refl _ _, fun _ _ _ => rfl⟩
theorem Kb.size {B n₀ : Nat} {w Z : World} (h : Kb B n₀ w Z) : w.heap.size ≤ Z.heap.size := h.bel.size
theorem Kb.alloc {B n₀ : Nat} {w Z : World} (h : Kb B n₀ w Z) (hB : n₀ ≤ Z.heap.size) (o : Obj) : Kb B n₀ w (Z.alloc o) :=
  ⟨h.bel.alloc hB o, fun k hk hne => (Below.heap_alloc Z o k (Nat.lt_of_lt_of_le hk h.size)).trans (h.oth k hk hne)⟩
theorem Kb.grown {B n₀ : Nat} {w Z Z' : World} {row : Option Nat} (h : Kb B n₀ w Z) (hg : Z.grownBy Z' row) (hB : n₀ ≤ Z.heap.size) (hr : ∀ j, row = some j → w.heap.size ≤ j ∧ n₀ ≤ j) : Kb B n₀ w Z' :=
  ⟨h.bel.grown hg hB (fun j e => (hr j e).2), fun k hk hne => (hg.block k (Nat.lt_of_lt_of_le hk h.size) (fun e => by have := (hr k e.symm).1; omega)).trans (h.oth k hk hne)⟩
theorem Kb.setCell {B n₀ : Nat} {w Z : World} (h : Kb B n₀ w Z) {p : Addr} (hp : n₀ ≤ p.block) (u : Value) (hpB : p.block = B := by rfl) : Kb B n₀ w (Z.setCell p u) :=
  ⟨h.bel.setCell hp u, fun k hk hne => (Below.heap_setCell _ _ _ _ (by omega)).trans (h.oth k hk hne)⟩
/-- What a round of Feed keeps. -/
def FeIn (h0 : Int) (us : List Int) (w : World) (n₀ B k : Nat) (x : Value) (wr : World) : Prop :=
  ∃ (pre : List Int) (h : Int), pre.length + (if h = 0 then 0 else 1) ≤ k + 1 ∧ (h = 0 ∨ (55296 ≤ h ∧ h < 56320)) ∧ fuH h0 us = pre ++ fuH h (us.drop k) ∧ h = hlU h0 (us.take k) ∧ wr.ownsRow w.heap.size 21 1 x pre.length (pre.map fun z => Value.int .i32 z) ∧ Boxed wr B 67 (.int .u16 h) ∧ Kb B n₀ w wr
theorem fe_push {h0 : Int} {us : List Int} {w : World} {n₀ B k : Nat} {pre : List Int} {x h' : Int} {Z w1 : World} {u v' : Value} (hn : n₀ ≤ w.heap.size) (hBw : B < w.heap.size) (hl : pre.length + 1 + (if h' = 0 then 0 else 1) ≤ k + 1) (hh : h' = 0 ∨ (55296 ≤ h' ∧ h' < 56320)) (he : h' = hlU h0 (us.take k))
    (hfu : fuH h0 us = (pre ++ [x]) ++ fuH h' (us.drop k)) (ho : Z.ownsRow w.heap.size 21 1 u pre.length (pre.map fun z => Value.int .i32 z)) (hbx : Boxed Z B 67 (.int .u16 h')) (hB : Kb B n₀ w Z)
    (hown' : w1.ownsRow w.heap.size 21 1 v' (pre.length + 1) ((pre.map fun z => Value.int .i32 z) ++ [.int .i32 x])) (hgr : (Z.alloc (.cells #[.int .i32 x] 21)).grownBy w1 u.ownBlock) : FeIn h0 us w n₀ B k v' w1 := by
  have hsz := hB.size
  have hnr : some B ≠ u.ownBlock := fun e => by have := (ho.lt B e.symm).1; omega
  exact ⟨pre ++ [x], h', by simp only [List.length_append, List.length_cons, List.length_nil]; omega, hh, hfu, he, by simpa using hown', (hbx.alloc _).kept hgr hnr, (hB.alloc (by omega) _).grown hgr (by simp; omega) (fun j hj => by have := (ho.lt j hj).1; omega)⟩
theorem owns_set {W : World} {base B : Nat} {e size n : Nat} {v : Value} {xs : List Value} (h : W.ownsRow base e size v n xs) (hB : B < base) (z : Value) : (W.setCell ⟨B, 0, none⟩ z).ownsRow base e size v n xs :=
  h.kept (grownBy_setCell' W B z) (.inr fun q => by have := (h.lt B q).1; omega)
theorem fe_hold {h0 : Int} {us : List Int} {w : World} {n₀ B k : Nat} {pre : List Int} {u : Int} {Z : World} {x : Value} (hn : n₀ ≤ B) (hBw : B < w.heap.size) (hl : pre.length + 1 ≤ k + 1) (hh : 55296 ≤ u ∧ u < 56320) (he : u = hlU h0 (us.take k))
    (hfu : fuH h0 us = pre ++ fuH u (us.drop k)) (ho : Z.ownsRow w.heap.size 21 1 x pre.length (pre.map fun z => Value.int .i32 z)) {z : Int} (hbx : Boxed Z B 67 (.int .u16 z)) (hB : Kb B n₀ w Z) : FeIn h0 us w n₀ B k x (Z.setCell ⟨B, 0, none⟩ (.int .u16 u)) :=
  ⟨pre, u, by rw [if_neg (by omega)]; exact hl, .inr hh, hfu, he, owns_set ho hBw _, hbx.set _, hB.setCell hn _⟩
theorem fuH_zero (l : List Int) : fuH 0 l = fu l := by simp [fuH]
theorem fuH_held (h : Int) (l : List Int) (hh : 55296 ≤ h) : fuH h l = fu (h :: l) := by unfold fuH; rw [if_neg (by omega)]
set_option maxRecDepth 100000 in
set_option maxHeartbeats 4000000 in
theorem feed_any (h0 : Int) (us : List Int) (v : Value) (n₀ B : Nat) (w : World) (hz : 4 * us.length + 8 ≤ 140737488355328) (hh0 : h0 = 0 ∨ (55296 ≤ h0 ∧ h0 < 56320)) (hR : ∀ W, Below n₀ w W → Rds .u16 W v us) (hU : ∀ u ∈ us, 0 ≤ u ∧ u < 65536) (hnB : n₀ ≤ B) (hBw : B < w.heap.size) (hb0 : Boxed w B 67 (.int .u16 h0)) :
    Calls Tryd.prog 14 #[.pointer (some ⟨B, 0, none⟩), v] w fun e w' => ∃ x, e = .returned x ∧ FeIn h0 us w n₀ B us.length x w' := by
  obtain ⟨i0, hi, hz0, hz1, hz2⟩ := info_parts info21
  have HR : Hid (∀ W, Below n₀ w W → Rds .u16 W v us) := hR
  have HU : Hid (∀ u ∈ us, 0 ≤ u ∧ u < 65536) := hU
  obtain ⟨a0, c0, rfl, hn⟩ := hR w (Below.refl _ _)
  have HB0 : Hid (Boxed w B 67 (.int .u16 h0)) := hb0
  have HH0 : Hid (h0 = 0 ∨ (55296 ≤ h0 ∧ h0 < 56320)) := hh0
  clear hU hR hb0 hh0
  go_enter Tryd.func14, Tryd.ntmps14
  go_wp2_with fail
  go_loopw [5, 12] (fun x i wr => ∃ (k : Nat), i = .int .i64 k ∧ k ≤ us.length ∧ Hid (FeIn h0 us w n₀ B k x wr)) (fun _ i _ => us.length - (RowKit.intOf i).toNat)
  case atStart => exact ⟨0, rfl, Nat.zero_le _, [], h0, by simp only [List.length_nil]; split <;> omega, HH0.out, by simp, by rw [List.take_zero]; rfl, World.ownsRow_nil _ _ _ _, HB0.out, Kb.refl _ _ _⟩
  case round =>
    obtain ⟨k, rfl, hk, HI⟩ := hrel
    by_cases hlt : k < us.length
    · obtain ⟨pre, h, hpl, hh, hfu, hke, hown, hbx, hB⟩ := HI.out
      clear hke
      have hlti : (k : Int) < (us.length : Int) := by omega
      obtain ⟨g, off, rfl, _⟩ := hn (by omega)
      have hc0 : wr.cell? ⟨g, off + k, none⟩ = some (.int .u16 (us.getD k 0)) := by
        obtain ⟨a1, c1, e1, h1⟩ := HR.out wr hB.bel
        cases e1
        obtain ⟨g1, o1, e1, h1⟩ := h1 (by omega)
        cases e1
        exact h1 k hlt
      have hu := HU.out (us.getD k 0) (by simp [List.getD, List.getElem?_eq_getElem hlt])
      have hdr := drop_at us k hlt
      have htk := hlU_take h0 us k hlt
      obtain ⟨u, hu0⟩ : ∃ u, us.getD k 0 = u := ⟨_, rfl⟩
      rw [hu0] at hc0 hu hdr htk
      have HK : Hid (hlU h0 (us.take (k + 1)) = if 55296 ≤ u ∧ u < 56320 then u else 0) := htk
      clear htk
      have hsz := hB.size
      have hc := hbx.cell
      have hf := hbx.frozen
      have hn0 : n₀ ≤ w.heap.size := by omega
      have HB : Hid (Kb B n₀ w wr) := hB
      have HX : Hid (Boxed wr B 67 (.int .u16 h)) := hbx
      have HO : Hid (wr.ownsRow w.heap.size 21 1 u5 pre.length (pre.map fun z => Value.int .i32 z)) := hown
      have HDR : Hid (us.drop k = u :: us.drop (k + 1)) := hdr
      clear hB hbx hown HI hn hu0 hdr
      have hlow : ∀ q, decide (56320 ≤ u ∧ u < 57344) = q → ∀ w, Calls Tryd.prog 32 #[.int .u16 u] w fun e w' => e = .returned (.bool q) ∧ w' = w := fun q hq w => isLow_any u q hq w
      have hhigh : ∀ q, decide (55296 ≤ u ∧ u < 56320) = q → ∀ w, Calls Tryd.prog 34 #[.int .u16 u] w fun e w' => e = .returned (.bool q) ∧ w' = w := fun q hq w => isHigh_any u q hq w
      rcases hh with rfl | hh
      · rw [if_pos rfl, Nat.add_zero] at hpl
        rw [fuH_zero, HDR.out] at hfu
        have k41 := fun W hW => end_zero B W hW
        by_cases hi1 : 55296 ≤ u ∧ u < 56320
        · have HF : Hid (FeIn h0 us w n₀ B (k + 1) u5 (wr.setCell ⟨B, 0, none⟩ (.int .u16 u))) := fe_hold hnB hBw (by omega) hi1 (by rw [HK.out, if_pos hi1]) (by rw [hfu, fuH_held _ _ hi1.1]) HO.out HX.out HB.out
          have kh := hhigh true (by simp; omega)
          clear hfu hlow hhigh
          go_wp2_with (first | (go_at_call 15; refine (k41 _ hc).mono ?_; rintro e w' ⟨rfl, rfl⟩) | (at_builtin; refine wpList_append_own_none rfl _ _ 33 rfl w.heap.size 21 i0 1 Tryd.underlying33 hi _ _ _ rfl HO.out rfl ?_) | (go_at_call 34; refine (kh _).mono ?_; rintro e w' ⟨rfl, rfl⟩))
          exact ⟨⟨k + 1, by go_num, by omega, HF⟩, by simp [RowKit.intOf]; omega⟩
        · by_cases lo1 : 56320 ≤ u ∧ u < 57344
          · have HT : Hid (fuH h0 us = (pre ++ [65533]) ++ fuH 0 (us.drop (k + 1))) := by
              unfold Hid
              rw [fuH_zero, hfu, fu_low _ _ lo1.1 (by omega)]
              simp
            have kh := hhigh false (by simp; omega)
            have kl := hlow true (by simp; omega)
            have hcn := cell_one_new wr (.int .i32 (65533)) 21
            clear hfu hlow hhigh
            go_wp2_with (first | (go_at_call 15; refine (k41 _ hc).mono ?_; rintro e w' ⟨rfl, rfl⟩) | (at_builtin; refine wpList_append_own_none rfl _ _ 33 rfl w.heap.size 21 i0 1 Tryd.underlying33 hi _ _ _ rfl HO.out rfl ?_) | (at_builtin; refine wpList_append_own _ rfl _ _ 33 rfl w.heap.size 21 i0 (.int .i32 0) 1 4 Tryd.underlying33 hi hz0 hz1 hz2 rfl (by decide) _ _ _ rfl (HO.out.alloc _) ⟨_, 0, none⟩ 1 1 [.int .i32 (65533)] rfl rfl hcn (by simp [Value.oneCell']) (by unfold maxLen; omega) (by omega) (by simp; omega) ?_) | (go_at_call 34; refine (kh _).mono ?_; rintro e w' ⟨rfl, rfl⟩) | (go_at_call 32; refine (kl _).mono ?_; rintro e w' ⟨rfl, rfl⟩))
            intro v' w1 hown' hgrow _
            have HF : Hid (FeIn h0 us w n₀ B (k + 1) v' w1) := fe_push hn0 hBw (by rw [if_pos rfl]; omega) (.inl rfl) (by rw [HK.out, if_neg (by omega)]) HT.out HO.out HX.out HB.out hown' hgrow
            clear hown' hgrow
            go_wp2
            exact ⟨⟨k + 1, by go_num, by omega, HF⟩, by simp [RowKit.intOf]; omega⟩
          · have HT : Hid (fuH h0 us = (pre ++ [u]) ++ fuH 0 (us.drop (k + 1))) := by
              unfold Hid
              rw [fuH_zero, hfu, fu_plain _ _ (by omega)]
              simp
            have kh := hhigh false (by simp; omega)
            have kl := hlow false (by simp; omega)
            have hcn := cell_one_new wr (.int .i32 (u)) 21
            clear hfu hlow hhigh
            go_wp2_with (first | (go_at_call 15; refine (k41 _ hc).mono ?_; rintro e w' ⟨rfl, rfl⟩) | (at_builtin; refine wpList_append_own_none rfl _ _ 33 rfl w.heap.size 21 i0 1 Tryd.underlying33 hi _ _ _ rfl HO.out rfl ?_) | (at_builtin; refine wpList_append_own _ rfl _ _ 33 rfl w.heap.size 21 i0 (.int .i32 0) 1 4 Tryd.underlying33 hi hz0 hz1 hz2 rfl (by decide) _ _ _ rfl (HO.out.alloc _) ⟨_, 0, none⟩ 1 1 [.int .i32 (u)] rfl rfl hcn (by simp [Value.oneCell']) (by unfold maxLen; omega) (by omega) (by simp; omega) ?_) | (go_at_call 34; refine (kh _).mono ?_; rintro e w' ⟨rfl, rfl⟩) | (go_at_call 32; refine (kl _).mono ?_; rintro e w' ⟨rfl, rfl⟩))
            intro v' w1 hown' hgrow _
            have HF : Hid (FeIn h0 us w n₀ B (k + 1) v' w1) := fe_push hn0 hBw (by rw [if_pos rfl]; omega) (.inl rfl) (by rw [HK.out, if_neg (by omega)]) HT.out HO.out HX.out HB.out hown' hgrow
            clear hown' hgrow
            go_wp2
            exact ⟨⟨k + 1, by go_num, by omega, HF⟩, by simp [RowKit.intOf]; omega⟩
      · rw [if_neg (by omega)] at hpl
        rw [fuH_held _ _ hh.1, HDR.out] at hfu
        have hne : (h == 0) = false := beq_false_of_ne (by omega)
        by_cases lo1 : 56320 ≤ u ∧ u < 57344
        · have HT : Hid (fuH h0 us = (pre ++ [65536 + 1024 * (h - 55296) + u - 56320]) ++ fuH 0 (us.drop (k + 1))) := by
            unfold Hid
            rw [fuH_zero, hfu, fu_pair _ _ _ hh.1 hh.2 lo1.1 (by omega)]
            simp
          have kl := hlow true (by simp; omega)
          have kj := fun W => joined_any h u W hh.1 hh.2 lo1.1 (by omega)
          have hcn := cell_one_new wr (.int .i32 (65536 + 1024 * (h - 55296) + u - 56320)) 21
          clear hfu hlow hhigh
          go_wp2_with (first | (go_at_call 33; refine (kj _).mono ?_; rintro e w' ⟨rfl, rfl⟩) | (at_builtin; refine wpList_append_own _ rfl _ _ 33 rfl w.heap.size 21 i0 (.int .i32 0) 1 4 Tryd.underlying33 hi hz0 hz1 hz2 rfl (by decide) _ _ _ rfl (HO.out.alloc _) ⟨_, 0, none⟩ 1 1 [.int .i32 (65536 + 1024 * (h - 55296) + u - 56320)] rfl rfl hcn (by simp [Value.oneCell']) (by unfold maxLen; omega) (by omega) (by simp; omega) ?_) | (go_at_call 32; refine (kl _).mono ?_; rintro e w' ⟨rfl, rfl⟩))
          intro v' w1 hown' hgrow _
          have hnr : some B ≠ u5.ownBlock := fun e => by have := (HO.out.lt B e.symm).1; omega
          have hbx1 := (HX.out.alloc (.cells #[.int .i32 (65536 + 1024 * (h - 55296) + u - 56320)] 21)).kept hgrow hnr
          have hbel := (HB.out.alloc (by omega) (.cells #[.int .i32 (65536 + 1024 * (h - 55296) + u - 56320)] 21)).grown hgrow (by simp; omega) (fun j hj => by have := (HO.out.lt j hj).1; omega)
          have HF : Hid (FeIn h0 us w n₀ B (k + 1) v' (w1.setCell ⟨B, 0, none⟩ (.int .u16 0))) := ⟨pre ++ [65536 + 1024 * (h - 55296) + u - 56320], 0, by simp; omega, .inl rfl, HT.out, by rw [HK.out, if_neg (by omega)], owns_set (by simpa using hown') hBw _, hbx1.set _, hbel.setCell hnB _⟩
          have hc1 := hbx1.cell
          have hf1 := hbx1.frozen
          clear hown' hgrow
          go_wp2
          exact ⟨⟨k + 1, by go_num, by omega, HF⟩, by simp [RowKit.intOf]; omega⟩
        · have kl := hlow false (by simp; omega)
          have k41 := fun W hW hf => end_held B h W hh.1 hW hf
          have HT : Hid (fuH h0 us = (pre ++ [65533]) ++ fuH 0 (us.drop k)) := by
            unfold Hid
            rw [fuH_zero, HDR.out, hfu, fu_lone _ _ _ hh.1 hh.2 (by omega)]
            simp
          have hbz : Boxed (wr.setCell ⟨B, 0, none⟩ (.int .u16 0)) B 67 (.int .u16 0) := HX.out.set _
          have hoz := owns_set HO.out hBw (.int .u16 0)
          have hBz := HB.out.setCell (p := ⟨B, 0, none⟩) hnB (.int .u16 0)
          obtain ⟨Z, hZ⟩ : ∃ Z, wr.setCell ⟨B, 0, none⟩ (.int .u16 0) = Z := ⟨_, rfl⟩
          have hZs : Z.heap.size = wr.heap.size := by rw [← hZ]; simp
          rw [hZ] at hbz hoz hBz
          have HOZ : Hid (Z.ownsRow w.heap.size 21 1 u5 pre.length (pre.map fun z => Value.int .i32 z)) := hoz
          have HXZ : Hid (Boxed Z B 67 (.int .u16 0)) := hbz
          have HBZ : Hid (Kb B n₀ w Z) := hBz
          have hcn := cell_one_new Z (.int .i32 65533) 21
          rw [hZs] at hcn
          clear hfu hoz hbz hBz
          go_wp2_with (first | (go_at_call 15; refine (k41 _ hc hf).mono ?_; rintro e w' ⟨rfl, hw'⟩; rw [hZ] at hw'; subst hw') | (at_builtin; refine wpList_append_own _ rfl _ _ 33 rfl w.heap.size 21 i0 (.int .i32 0) 1 4 Tryd.underlying33 hi hz0 hz1 hz2 rfl (by decide) _ _ _ rfl (HOZ.out.alloc _) ⟨_, 0, none⟩ 1 1 [.int .i32 (65533)] rfl rfl hcn (by simp [Value.oneCell']) (by unfold maxLen; omega) (by omega) (by simp; omega) ?_) | (go_at_call 32; refine (kl _).mono ?_; rintro e w' ⟨rfl, rfl⟩))
          intro v1 w1 hown' hgrow _
          have hnr : some B ≠ u5.ownBlock := fun e => by have := (HOZ.out.lt B e.symm).1; omega
          have bx1 := (HXZ.out.alloc (.cells #[.int .i32 65533] 21)).kept hgrow hnr
          have bel1 := (HBZ.out.alloc (by omega) (.cells #[.int .i32 65533] 21)).grown hgrow (by simp; omega) (fun j hj => by have := (HOZ.out.lt j hj).1; omega)
          have own1 : w1.ownsRow w.heap.size 21 1 v1 (pre ++ [65533]).length ((pre ++ [65533]).map fun z => Value.int .i32 z) := by simpa using hown'
          have hc1 := bx1.cell
          have hf1 := bx1.frozen
          have hs1 := bel1.size
          have HO1 : Hid (w1.ownsRow w.heap.size 21 1 v1 (pre ++ [65533]).length ((pre ++ [65533]).map fun z => Value.int .i32 z)) := own1
          have HB1 : Hid (Kb B n₀ w w1) := bel1
          have HX1 : Hid (Boxed w1 B 67 (.int .u16 0)) := bx1
          have hpl2 : (pre ++ [65533]).length ≤ k + 1 := by simp; omega
          obtain ⟨pre1, hpre1⟩ : ∃ p, pre ++ [(65533 : Int)] = p := ⟨_, rfl⟩
          rw [hpre1] at HO1 HT hpl2
          clear hown' hgrow own1 bx1 bel1 hcn HOZ HXZ HBZ HO HX HB hc hf hZ hpre1 k41
          by_cases hi1 : 55296 ≤ u ∧ u < 56320
          · have HF : Hid (FeIn h0 us w n₀ B (k + 1) v1 (w1.setCell ⟨B, 0, none⟩ (.int .u16 u))) := fe_hold hnB hBw (by omega) hi1 (by rw [HK.out, if_pos hi1]) (by rw [HT.out, fuH_zero, HDR.out, fuH_held _ _ hi1.1]) HO1.out HX1.out HB1.out
            have kh := hhigh true (by simp; omega)
            clear hlow hhigh
            go_wp2_with (go_at_call 34; refine (kh _).mono ?_; rintro e w' ⟨rfl, rfl⟩)
            exact ⟨⟨k + 1, by go_num, by omega, HF⟩, by simp [RowKit.intOf]; omega⟩
          · have HT2 : Hid (fuH h0 us = (pre1 ++ [u]) ++ fuH 0 (us.drop (k + 1))) := by
              unfold Hid
              rw [HT.out, fuH_zero, fuH_zero, HDR.out, fu_plain _ _ (by omega)]
              simp
            have kh := hhigh false (by simp; omega)
            have hcn := cell_one_new w1 (.int .i32 u) 21
            clear hlow hhigh
            go_wp2_with (first | (at_builtin; refine wpList_append_own _ rfl _ _ 33 rfl w.heap.size 21 i0 (.int .i32 0) 1 4 Tryd.underlying33 hi hz0 hz1 hz2 rfl (by decide) _ _ _ rfl (HO1.out.alloc _) ⟨_, 0, none⟩ 1 1 [.int .i32 (u)] rfl rfl hcn (by simp [Value.oneCell']) (by unfold maxLen; omega) (by omega) (by simp; omega) ?_) | (go_at_call 34; refine (kh _).mono ?_; rintro e w' ⟨rfl, rfl⟩) | (go_at_call 32; refine (kl _).mono ?_; rintro e w' ⟨rfl, rfl⟩))
            intro v' w2 hown' hgrow _
            have HF : Hid (FeIn h0 us w n₀ B (k + 1) v' w2) := fe_push hn0 hBw (by rw [if_pos rfl]; omega) (.inl rfl) (by rw [HK.out, if_neg (by omega)]) HT2.out HO1.out HX1.out HB1.out hown' hgrow
            clear hown' hgrow
            go_wp2
            exact ⟨⟨k + 1, by go_num, by omega, HF⟩, by simp [RowKit.intOf]; omega⟩
    · have hlti : ¬ (k : Int) < (us.length : Int) := by omega
      have e : k = us.length := by omega
      subst e
      go_wp2
      go_ret
      exact ⟨_, rfl, HI.out⟩
end Go.Proofs.YtabofadjnbpjkacDoor

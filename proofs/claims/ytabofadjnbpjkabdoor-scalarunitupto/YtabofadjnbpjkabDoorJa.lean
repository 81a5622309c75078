/-
  Places in a text: the ends of its lines, what stands between them, how many pieces and units stand ahead of a place. No program is run here.
-/
import Derived.Test.YtabofadjnbpjkabDoorCu
namespace Go.Proofs.YtabofadjnbpjkabDoor
open Go.RowKit Go.Lib
theorem byt_out (s : ByteArray) (j : Nat) (h : s.size ≤ j) : byt s j = 0 := by
  cases s with
  | mk d =>
    have h' : ¬ j < d.size := by
      have : (ByteArray.mk d).size = d.size := rfl
      omega
    show (d[j]!).toNat = 0
    rw [getElem!_neg d j h']
    rfl
/-- Whether a byte is the last one of a line's end. -/
def eol (s : ByteArray) (i : Nat) : Bool := byt s i == 10 || (byt s i == 13 && !(byt s (i + 1) == 10))
/-- How many lines end ahead of a place, and where the last one ends. -/
def cnt (s : ByteArray) : Nat → Nat
  | 0 => 0
  | m + 1 => if eol s m then cnt s m + 1 else cnt s m
def lst (s : ByteArray) : Nat → Nat
  | 0 => 0
  | m + 1 => if eol s m then m + 1 else lst s m
theorem lst_le (s : ByteArray) : ∀ m, lst s m ≤ m
  | 0 => Nat.le_refl _
  | m + 1 => by
    have := lst_le s m
    unfold lst
    split <;> omega
theorem cnt_le (s : ByteArray) : ∀ m, cnt s m ≤ m
  | 0 => Nat.le_refl _
  | m + 1 => by
    have := cnt_le s m
    unfold cnt
    split <;> omega
theorem lst_none (s : ByteArray) : ∀ m i, lst s m ≤ i → i < m → eol s i = false
  | 0, i, _, h => by omega
  | m + 1, i, h, h' => by
    unfold lst at h
    cases e : eol s m
    · rw [e] at h
      by_cases hi : i = m
      · rw [hi, e]
      · exact lst_none s m i (by simpa using h) (by omega)
    · rw [e] at h
      simp at h
      omega
theorem lo_ge (b0 : Nat) : 128 ≤ loN b0 := by unfold loN; repeat' split
                                              all_goals omega
theorem st_in (n b0 b1 b2 b3 : Nat) : (2 ≤ stN n b0 b1 b2 b3 → 128 ≤ b1) ∧ (3 ≤ stN n b0 b1 b2 b3 → 128 ≤ b2) ∧ (4 ≤ stN n b0 b1 b2 b3 → 128 ≤ b3) := by
  have := lo_ge b0
  unfold stN
  repeat' split
  all_goals omega
theorem inner_ge (s : ByteArray) (k i : Nat) (hk : k < s.size) (h1 : k < i) (h2 : i < k + pSt s k) : 128 ≤ byt s i := by
  have hp := pSt_le s k hk
  obtain ⟨a, b, c⟩ := st_in (s.size - k) (byt s k) (byt s (k + 1)) (byt s (k + 2)) (byt s (k + 3))
  unfold pSt at h2 hp
  rcases (by omega : i = k + 1 ∨ i = k + 2 ∨ i = k + 3) with rfl | rfl | rfl
  · exact a (by omega)
  · exact b (by omega)
  · exact c (by omega)
theorem eol_ge (s : ByteArray) (i : Nat) (h : 128 ≤ byt s i) : eol s i = false := by
  unfold eol
  have h1 : (byt s i == 10) = false := beq_false_of_ne (by omega)
  have h2 : (byt s i == 13) = false := beq_false_of_ne (by omega)
  rw [h1, h2]; rfl
theorem cnt_skip (s : ByteArray) (k : Nat) (hk : k < s.size) : ∀ j, 1 ≤ j → j ≤ pSt s k → cnt s (k + j) = cnt s (k + 1) ∧ lst s (k + j) = lst s (k + 1)
  | 0, h, _ => by omega
  | 1, _, _ => ⟨rfl, rfl⟩
  | j + 2, _, h => by
    have ih := cnt_skip s k hk (j + 1) (by omega) (by omega)
    have e := eol_ge s (k + (j + 1)) (inner_ge s k (k + (j + 1)) hk (by omega) (by omega))
    rw [← ih.1, ← ih.2]
    show (if eol s (k + (j + 1)) then _ else _) = _ ∧ (if eol s (k + (j + 1)) then _ else _) = _
    rw [e]
    exact ⟨rfl, rfl⟩
/-- How many units a code point has; those of a row of pieces. -/
def unR (r : Nat) : Nat := if 65535 < r then 2 else 1
def unS (s : ByteArray) (l : List Nat) : Nat := (l.map fun k => unR (pRu s k)).sum
theorem unR_le (r : Nat) : 1 ≤ unR r ∧ unR r ≤ 2 := by unfold unR; split <;> omega
theorem unS_app (s : ByteArray) (l : List Nat) (k : Nat) : unS s (l ++ [k]) = unS s l + unR (pRu s k) := by simp [unS]
theorem unS_le (s : ByteArray) : ∀ l : List Nat, unS s l ≤ 2 * l.length
  | [] => by simp [unS]
  | k :: l => by
    have := unS_le s l
    have h := unR_le (pRu s k)
    simp [unS] at this ⊢
    omega
/-- How many lines end within a row of pieces; how many pieces stand behind the last end. -/
def lnF (s : ByteArray) : List Nat → Nat
  | [] => 0
  | k :: l => (if eol s k then 1 else 0) + lnF s l
def coF (s : ByteArray) (l : List Nat) : Nat := l.foldl (fun c k => if eol s k then 0 else c + 1) 0
theorem lnF_app (s : ByteArray) (k : Nat) : ∀ l : List Nat, lnF s (l ++ [k]) = lnF s l + if eol s k then 1 else 0
  | [] => by simp [lnF]
  | a :: l => by rw [List.cons_append, lnF, lnF, lnF_app s k l]; omega
theorem coF_app (s : ByteArray) (l : List Nat) (k : Nat) : coF s (l ++ [k]) = if eol s k then 0 else coF s l + 1 := by simp [coF]
theorem lnF_le (s : ByteArray) : ∀ l : List Nat, lnF s l ≤ l.length
  | [] => Nat.le_refl _
  | k :: l => by
    have := lnF_le s l
    simp only [lnF, List.length_cons]
    split <;> omega
theorem coF_le (s : ByteArray) (l : List Nat) : coF s l ≤ l.length := by
  unfold coF
  suffices h : ∀ (l : List Nat) (c : Nat), l.foldl (fun c k => if eol s k then 0 else c + 1) c ≤ c + l.length by simpa using h l 0
  intro l
  induction l with
  | nil => intro c; simp
  | cons k l ih =>
    intro c
    rw [List.foldl_cons, List.length_cons]
    split
    · have := ih 0; omega
    · have := ih (c + 1); omega
/-- What holds of no piece and is kept from piece to piece holds of every beginning. -/
theorem grow (s : ByteArray) (P : List Nat → Nat → Prop) (h0 : P [] 0) (hs : ∀ pre q, q < s.size → P pre q → P (pre ++ [q]) (q + pSt s q)) (pre : List Nat) (h : pre <+: poss s) : ∃ q, q ≤ s.size ∧ poss s = pre ++ posAt s q ∧ P pre q := by
  suffices hh : ∀ n (pre : List Nat), pre.length = n → pre <+: poss s → ∃ q, q ≤ s.size ∧ poss s = pre ++ posAt s q ∧ P pre q from hh _ pre rfl h
  intro n
  induction n with
  | zero =>
    intro pre hn h
    obtain rfl : pre = [] := List.length_eq_zero_iff.1 hn
    exact ⟨0, Nat.zero_le _, rfl, h0⟩
  | succ n ih =>
    intro pre hn h
    obtain ⟨ini, x, rfl⟩ : ∃ ini x, pre = ini ++ [x] := by
      rcases List.eq_nil_or_concat pre with rfl | ⟨a, b, e⟩
      · simp at hn
      · exact ⟨a, b, by rw [e, List.concat_eq_append]⟩
    have hl : ini.length = n := by simpa using hn
    obtain ⟨q, hq, e, hP⟩ := ih ini hl ((List.prefix_append ini [x]).trans h)
    rw [e] at h
    obtain ⟨t, ht⟩ := (List.prefix_append_right_inj ini).1 h
    have hlt : q < s.size := by
      by_cases hlt : q < s.size
      · exact hlt
      · rw [posAt_nil s q hlt] at ht; simp at ht
    have hc := posAt_cons s q hlt
    rw [hc, List.singleton_append] at ht
    obtain ⟨rfl, ht'⟩ := List.cons.inj ht
    have hp := pSt_le s x hlt
    exact ⟨x + pSt s x, by omega, by rw [e, hc]; simp, hs ini x hlt hP⟩
theorem pre_facts (s : ByteArray) (pre : List Nat) (h : pre <+: poss s) : ∃ q, q ≤ s.size ∧ poss s = pre ++ posAt s q ∧ ((∀ k ∈ pre, k < q) ∧ lnF s pre = cnt s q ∧ coF s pre = (pre.filter fun k => decide (lst s q ≤ k)).length ∧ (pre = [] → q = 0) ∧ (pre ≠ [] → ∃ k, k < s.size ∧ k ∈ pre ∧ q = k + pSt s k)) := by
  refine grow s (fun pre q => (∀ k ∈ pre, k < q) ∧ lnF s pre = cnt s q ∧ coF s pre = (pre.filter fun k => decide (lst s q ≤ k)).length ∧ (pre = [] → q = 0) ∧ (pre ≠ [] → ∃ k, k < s.size ∧ k ∈ pre ∧ q = k + pSt s k)) ⟨by simp, rfl, rfl, fun _ => rfl, fun h => absurd rfl h⟩ ?_ pre h
  rintro pre q hq ⟨h1, h2, h3, _, _⟩
  have hp := pSt_le s q hq
  have hk := cnt_skip s q hq (pSt s q) hp.1 (Nat.le_refl _)
  have hl := lst_le s q
  refine ⟨fun k hk => ?_, ?_, ?_, fun e => by simp at e, fun _ => ⟨q, hq, by simp, rfl⟩⟩
  · rcases List.mem_append.1 hk with h | h
    · have := h1 k h; omega
    · rw [List.mem_singleton.1 h]; omega
  · rw [hk.1, lnF_app, h2]
    show _ = if eol s q then _ else _
    split <;> omega
  · rw [hk.2, coF_app, List.filter_append, h3]
    show _ = ((pre.filter fun k => decide ((if eol s q then q + 1 else lst s q) ≤ k)) ++ _).length
    cases e : eol s q
    · simp [show lst s (q + 1) = lst s q by show (if eol s q then _ else _) = _; rw [e]; rfl, hl]
    · have hn : (pre.filter fun k => decide (q + 1 ≤ k)) = [] := List.filter_eq_nil_iff.2 fun k hk => by have := h1 k hk; simp; omega
      simp [show lst s (q + 1) = q + 1 by show (if eol s q then _ else _) = _; rw [e]; rfl, hn]
theorem tw_next {α : Type} (p : α → Bool) : ∀ (l rest : List α) (x : α), l = l.takeWhile p ++ x :: rest → p x = false
  | [], rest, x, h => by simp at h
  | a :: l, rest, x, h => by
    cases e : p a
    · rw [List.takeWhile_cons, e] at h
      simp at h
      rw [← h.1]; exact e
    · rw [List.takeWhile_cons, e] at h
      simp at h
      exact tw_next p l rest x h
theorem tw_mem {α : Type} (p : α → Bool) : ∀ (l : List α), ∀ x ∈ l.takeWhile p, p x = true
  | [], x, h => by simp at h
  | a :: l, x, h => by
    cases e : p a
    · rw [List.takeWhile_cons, e] at h
      simp at h
    · rw [List.takeWhile_cons, e] at h
      rcases List.mem_cons.1 h with rfl | h
      · exact e
      · exact tw_mem p l x h
theorem tw_is {α : Type} (q : α → Bool) : ∀ (p rest : List α), (∀ x ∈ p, q x = true) → (∀ x l, rest = x :: l → q x = false) → (p ++ rest).takeWhile q = p
  | [], [], _, _ => rfl
  | [], x :: l, _, h => by simp [h x l rfl]
  | a :: p, rest, h1, h2 => by
    rw [List.cons_append, List.takeWhile_cons, h1 a (by simp), if_pos rfl, tw_is q p rest (fun x hx => h1 x (by simp [hx])) h2]
/-- The pieces that begin ahead of a place. -/
def ahead (s : ByteArray) (a : Nat) : List Nat := (poss s).takeWhile fun k => decide (k < a)
theorem ahead_facts (s : ByteArray) (a : Nat) (ha : a ≤ s.size) : ahead s a <+: poss s ∧ lnF s (ahead s a) = cnt s a ∧ coF s (ahead s a) = ((ahead s a).filter fun k => decide (lst s a ≤ k)).length := by
  have hpre : ahead s a <+: poss s := List.takeWhile_prefix _
  refine ⟨hpre, ?_⟩
  obtain ⟨q, hq, e, h1, h2, h3, h4, h5⟩ := pre_facts s (ahead s a) hpre
  have haq : a ≤ q := by
    by_cases hlt : q < s.size
    · rw [posAt_cons s q hlt] at e
      have := tw_next _ _ _ _ e
      simpa using this
    · omega
  by_cases hn : ahead s a = []
  · have hq0 := h4 hn
    obtain rfl : a = 0 := by omega
    rw [hn]
    exact ⟨rfl, rfl⟩
  · obtain ⟨k, hks, hk, rfl⟩ := h5 hn
    have hka : k < a := by simpa using tw_mem _ _ k hk
    have hp := pSt_le s k hks
    have c1 := cnt_skip s k hks (a - k) (by omega) (by omega)
    have c2 := cnt_skip s k hks (pSt s k) hp.1 (Nat.le_refl _)
    rw [show k + (a - k) = a by omega] at c1
    rw [h2, h3, c1.1, c1.2, c2.1, c2.2]
    exact ⟨rfl, rfl⟩
theorem ahead_end (s : ByteArray) : ahead s s.size = poss s := by
  have h : ∀ k ∈ poss s, k < s.size := fun k hk => by
    obtain ⟨q, hq, e, h1, _⟩ := pre_facts s (poss s) (List.prefix_refl _)
    have := h1 k hk; omega
  have := tw_is (fun k => decide (k < s.size)) (poss s) [] (fun x hx => by simpa using h x hx) (fun x l h => by cases h)
  rw [List.append_nil] at this
  exact this
/-- The i-th piece: where it begins, and what stands ahead of it. -/
theorem ahead_at (s : ByteArray) (i : Nat) (hi : i < (poss s).length) : ∃ q, (poss s)[i]? = some q ∧ q < s.size ∧ ahead s q = (poss s).take i ∧ poss s = (poss s).take i ++ q :: posAt s (q + pSt s q) := by
  obtain ⟨q, hq, e, h1, _⟩ := pre_facts s ((poss s).take i) (List.take_prefix _ _)
  have hl : ((poss s).take i).length = i := by simp; omega
  have hlt : q < s.size := by
    by_cases hlt : q < s.size
    · exact hlt
    · exfalso
      rw [posAt_nil s q hlt, List.append_nil] at e
      have := congrArg List.length e
      omega
  rw [posAt_cons s q hlt] at e
  refine ⟨q, ?_, hlt, ?_, e⟩
  · rw [e, List.getElem?_append_right (by omega), hl, Nat.sub_self]; rfl
  · unfold ahead
    conv => lhs; rw [e]
    exact tw_is _ _ _ (fun x hx => by simpa using h1 x hx) (fun x l h => by obtain ⟨rfl, _⟩ := List.cons.inj h; simp)
/-- The piece that has a unit; none: there are fewer. -/
def fuU (s : ByteArray) : List Nat → Int → Option Nat
  | [], u => if 0 < u then none else some s.size
  | k :: l, u => if u < (unR (pRu s k) : Int) then some k else fuU s l (u - unR (pRu s k))
theorem fuU_at (s : ByteArray) (k : Nat) (rest : List Nat) : ∀ pre : List Nat, fuU s (pre ++ k :: rest) (unS s pre : Int) = some k
  | [] => by
    have := (unR_le (pRu s k)).1
    simp [fuU, unS]
    omega
  | a :: pre => by
    have ih := fuU_at s k rest pre
    have e : (unS s (a :: pre) : Int) = unR (pRu s a) + unS s pre := by simp [unS]
    rw [List.cons_append, fuU, if_neg (by omega), e, show (unR (pRu s a) : Int) + unS s pre - unR (pRu s a) = unS s pre by omega]
    exact ih
/-- What stands on a line, from a place up to the byte that ends it. -/
def lne (s : ByteArray) (a b : Nat) : ByteArray := if a < b ∧ byt s (b - 1) = 13 then s.extract a (b - 1) else s.extract a b
/-- The lines that end ahead of a place. -/
def lnL (s : ByteArray) : Nat → List ByteArray
  | 0 => []
  | m + 1 => if eol s m then lnL s m ++ [lne s (lst s m) m] else lnL s m
def lnAll (s : ByteArray) : List ByteArray := lnL s s.size ++ [lne s (lst s s.size) s.size]
theorem lnL_len (s : ByteArray) : ∀ m, (lnL s m).length = cnt s m
  | 0 => rfl
  | m + 1 => by
    have := lnL_len s m
    unfold lnL cnt
    split
    · simp [this]
    · exact this
theorem lne_13 (s : ByteArray) (i : Nat) (h : byt s i ≠ 10) : lne s (lst s i) i = s.extract (lst s i) i := by
  unfold lne
  rw [if_neg]
  rintro ⟨h1, h2⟩
  have := lst_none s i (i - 1) (by omega) (by omega)
  unfold eol at this
  rw [h2, show i - 1 + 1 = i by omega] at this
  simp [h] at this
theorem lne_end (s : ByteArray) : lne s (lst s s.size) s.size = s.extract (lst s s.size) s.size := lne_13 s s.size (by rw [byt_out s _ (Nat.le_refl _)]; omega)
end Go.Proofs.YtabofadjnbpjkabDoor

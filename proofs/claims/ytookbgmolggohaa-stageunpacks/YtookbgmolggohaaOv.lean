/-
  Rows laid over rows, as lists: tilings. No conditions but that the rows rise.
-/
import Derived.Test.YtookbgmolggohaaRn
namespace Go.Proofs.Ytookbgmolggohaa
open Go.RowKit
/-- Rows that lie one behind the other from m to ahead of e, each of which says what F says. -/
def Tl (F : Int → Int) : Int → List Rw → Int → Prop
  | m, [], e => m = e
  | m, r :: X, e => r.1 = m ∧ r.1 ≤ r.2.1 ∧ (∀ p, r.1 ≤ p → p ≤ r.2.1 → F p = r.2.2) ∧ Tl F (r.2.1 + 1) X e
theorem Tl.le {F : Int → Int} : ∀ {X : List Rw} {m e : Int}, Tl F m X e → m ≤ e
  | [], _, _, h => by rw [show _ = _ from h]; exact Int.le_refl _
  | _ :: _, _, _, ⟨h1, h2, _, h4⟩ => by have := h4.le; omega
theorem Tl.app {F : Int → Int} : ∀ {X Y : List Rw} {m e g : Int}, Tl F m X e → Tl F e Y g → Tl F m (X ++ Y) g
  | [], _, _, _, _, h, k => by rw [show _ = _ from h]; exact k
  | _ :: _, _, _, _, _, ⟨h1, h2, h3, h4⟩, k => ⟨h1, h2, h3, h4.app k⟩
theorem Tl.one {F : Int → Int} {a b n : Int} (h : a ≤ b) (hF : ∀ p, a ≤ p → p ≤ b → F p = n) : Tl F a [(a, b, n)] (b + 1) := ⟨rfl, h, hF, rfl⟩
theorem Tl.congr {F G : Int → Int} : ∀ {X : List Rw} {m e : Int}, Tl F m X e → (∀ p, m ≤ p → p < e → F p = G p) → Tl G m X e
  | [], _, _, h, _ => h
  | _ :: _, _, _, ⟨h1, h2, h3, h4⟩, k => ⟨h1, h2, fun p p1 p2 => by have := h4.le; rw [← k p (by omega) (by omega)]; exact h3 p p1 p2, h4.congr fun p p1 p2 => k p (by omega) p2⟩
theorem Rn.tl {F : Int → Int} : ∀ {X : List Rw} {m e : Int}, Rn F m X e → Tl F m X e
  | [], _, _, h => h
  | [_], _, _, ⟨h1, h2, h3, h4⟩ => ⟨h1, h2, h3, h4⟩
  | _ :: _ :: _, _, _, ⟨h1, h2, h3, _, h5⟩ => ⟨h1, h2, h3, h5.tl⟩
theorem Tl.mem {F : Int → Int} : ∀ {X : List Rw} {m e : Int}, Tl F m X e → ∀ r ∈ X, m ≤ r.1 ∧ r.1 ≤ r.2.1 ∧ r.2.1 < e ∧ ∀ p, r.1 ≤ p → p ≤ r.2.1 → F p = r.2.2
  | [], _, _, _, r, hr => by cases hr
  | y :: X, m, e, ⟨h1, h2, h3, h4⟩, r, hr => by
    have hle := h4.le
    rcases List.mem_cons.1 hr with rfl | hr
    · exact ⟨by omega, h2, by omega, h3⟩
    · obtain ⟨a, b⟩ := h4.mem r hr
      exact ⟨by omega, b⟩
theorem Tl.ok {F : Int → Int} (hF : ∀ p, 0 ≤ F p ∧ F p ≤ 65535) : ∀ {X : List Rw} {m e : Int}, Tl F m X e → e ≤ 1114112 → okF m X
  | [], _, _, _, _ => trivial
  | y :: X, m, e, ⟨h1, h2, h3, h4⟩, he => by
    have hle := h4.le
    have hv := hF y.1
    rw [h3 y.1 (Int.le_refl _) h2] at hv
    exact ⟨by omega, h2, by omega, hv.1, hv.2, h4.ok hF he⟩
theorem Tl.len {F : Int → Int} : ∀ {X : List Rw} {m e : Int}, Tl F m X e → (X.length : Int) ≤ e - m
  | [], _, _, h => by rw [show _ = _ from h]; simp
  | y :: X, m, e, ⟨h1, h2, h3, h4⟩ => by
    have := h4.len
    rw [List.length_cons]
    push_cast
    omega
theorem Tl.says {F : Int → Int} (p : Int) : ∀ {X : List Rw} {m e : Int}, Tl F m X e → over nought X p = if m ≤ p ∧ p < e then F p else 0
  | [], m, e, h => by
    rw [show m = e from h, if_neg (by omega)]
    rfl
  | y :: X, m, e, ⟨h1, h2, h3, h4⟩ => by
    have hle := h4.le
    show (if inR y p = true then y.2.2 else over nought X p) = _
    rw [h4.says p]
    by_cases c : y.1 ≤ p ∧ p ≤ y.2.1
    · rw [if_pos (inR_iff.2 c), if_pos (by omega), h3 p c.1 c.2]
    · rw [if_neg (by rw [inR_iff]; exact c)]
      by_cases d : y.2.1 + 1 ≤ p ∧ p < e
      · rw [if_pos d, if_pos (by omega)]
      · rw [if_neg d, if_neg (by omega)]
/-- A row of the later ones, and what stands ahead of it. -/
def cutS (n t : Int) (s : List Rw × Int) (y : Rw) : List Rw × Int :=
  if y.2.1 < s.2 ∨ t < y.1 then s else
    (s.1 ++ (if s.2 < y.1 then [(s.2, y.1 - 1, n)] else []) ++ [((if s.2 < y.1 then y.1 else s.2), (if t < y.2.1 then t else y.2.1), y.2.2)], (if t < y.2.1 then t else y.2.1) + 1)
def cutE (n t : Int) (s : List Rw × Int) : List Rw := s.1 ++ if s.2 ≤ t then [(s.2, t, n)] else []
/-- A stretch, cut by the later rows. -/
def cutL (Y : List Rw) (f t n : Int) : List Rw := cutE n t (Y.foldl (cutS n t) ([], f))
theorem cut_tl {F : Int → Int} {n t f0 : Int} : ∀ (Y : List Rw) (s : List Rw × Int) (l : Int), okF l Y → Tl F f0 s.1 s.2 → s.2 ≤ t + 1 → (s.2 ≤ t ∨ ∀ r ∈ Y, t < r.1) → (∀ p, s.2 ≤ p → p ≤ t → F p = over (fun _ => n) Y p) → Tl F f0 (cutE n t (Y.foldl (cutS n t) s)) (t + 1)
  | [], s, l, _, h, hle, _, hF => by
    show Tl F f0 (s.1 ++ if s.2 ≤ t then [(s.2, t, n)] else []) (t + 1)
    by_cases c : s.2 ≤ t
    · rw [if_pos c]
      exact h.app (Tl.one c fun p p1 p2 => hF p p1 p2)
    · rw [if_neg c, List.append_nil]
      rwa [show t + 1 = s.2 by omega]
  | y :: Y, s, l, hok, h, hle, hfar, hF => by
    obtain ⟨b1, b2, b3, b4, b5, hY⟩ := hok
    rw [List.foldl_cons]
    by_cases c : y.2.1 < s.2 ∨ t < y.1
    · rw [show cutS n t s y = s from if_pos c]
      refine cut_tl Y s _ hY h hle (hfar.imp_right fun q r hr => q r (List.mem_cons_of_mem _ hr)) fun p p1 p2 => ?_
      rw [hF p p1 p2]
      show (if inR y p = true then y.2.2 else over (fun _ => n) Y p) = _
      rw [if_neg (by rw [inR_iff]; omega)]
    · have hc : y.1 ≤ t ∧ s.2 ≤ y.2.1 := by omega
      have hst : s.2 ≤ t := by
        rcases hfar with q | q
        · exact q
        · have := q y (List.mem_cons_self ..)
          omega
      rw [show cutS n t s y = _ from if_neg c]
      have hlow : ∀ p, p < y.1 → over (fun _ => n) (y :: Y) p = n := fun p hp => by
        refine over_none fun r hr => ?_
        cases hq : inR r p with
        | false => rfl
        | true =>
          have := inR_iff.1 hq
          rcases List.mem_cons.1 hr with rfl | hr
          · omega
          · have := (okF_mem hY r hr).1
            omega
      have hin : ∀ p, y.1 ≤ p → p ≤ y.2.1 → over (fun _ => n) (y :: Y) p = y.2.2 := fun p p1 p2 => by
        show (if inR y p = true then y.2.2 else over (fun _ => n) Y p) = _
        rw [if_pos (inR_iff.2 ⟨p1, p2⟩)]
      have hT : Tl F f0 (s.1 ++ (if s.2 < y.1 then [(s.2, y.1 - 1, n)] else []) ++ [((if s.2 < y.1 then y.1 else s.2), (if t < y.2.1 then t else y.2.1), y.2.2)]) ((if t < y.2.1 then t else y.2.1) + 1) := by
        have hend : (if t < y.2.1 then t else y.2.1) ≤ t ∧ (if t < y.2.1 then t else y.2.1) ≤ y.2.1 ∧ y.1 ≤ (if t < y.2.1 then t else y.2.1) ∧ s.2 ≤ (if t < y.2.1 then t else y.2.1) + 1 ∧ (s.2 ≤ t → s.2 ≤ (if t < y.2.1 then t else y.2.1)) := by split <;> omega
        generalize (if t < y.2.1 then t else y.2.1) = E at hend ⊢
        by_cases d : s.2 < y.1
        · rw [if_pos d, if_pos d]
          have h1 := h.app (Tl.one (F := F) (a := s.2) (b := y.1 - 1) (n := n) (by omega) fun p p1 p2 => by rw [hF p p1 (by omega), hlow p (by omega)])
          rw [show y.1 - 1 + 1 = y.1 by omega] at h1
          exact h1.app (Tl.one (by omega) fun p p1 p2 => by rw [hF p (by omega) (by omega), hin p p1 (by omega)])
        · rw [if_neg d, if_neg d, List.append_nil]
          exact h.app (Tl.one (by omega) fun p p1 p2 => by rw [hF p p1 (by omega), hin p (by omega) (by omega)])
      refine cut_tl Y _ _ hY hT (by simp only; split <;> omega) ?_ fun p p1 p2 => ?_
      · simp only
        by_cases q : t < y.2.1
        · rw [if_pos q]
          exact .inr fun r hr => by have := (okF_mem hY r hr).1; omega
        · rw [if_neg q]
          by_cases q2 : y.2.1 = t
          · exact .inr fun r hr => by have := (okF_mem hY r hr).1; omega
          · exact .inl (by omega)
      simp only at p1
      have hp : y.2.1 < p := by
        by_cases q : t < y.2.1
        · rw [if_pos q] at p1; omega
        · rw [if_neg q] at p1; omega
      rw [hF p (by omega) p2]
      show (if inR y p = true then y.2.2 else over (fun _ => n) Y p) = _
      rw [if_neg (by rw [inR_iff]; omega)]
/-- What rows say where others do not hangs on that code point alone. -/
theorem over_at (F : Int → Int) (p : Int) : ∀ L : List Rw, over F L p = over (fun _ => F p) L p
  | [] => rfl
  | r :: L => by
    show (if inR r p = true then r.2.2 else over F L p) = (if inR r p = true then r.2.2 else over (fun _ => F p) L p)
    rw [over_at F p L]
/-- The later of two, the sooner of two. -/
def mxI (a b : Int) : Int := if a < b then b else a
def mnI (a b : Int) : Int := if b < a then b else a
theorem mxI_is (a b : Int) : a ≤ mxI a b ∧ b ≤ mxI a b ∧ (mxI a b = a ∨ mxI a b = b) := by unfold mxI; split <;> omega
theorem mnI_is (a b : Int) : mnI a b ≤ a ∧ mnI a b ≤ b ∧ (mnI a b = a ∨ mnI a b = b) := by unfold mnI; split <;> omega
/-- One stretch of the first ones, by one of the later ones. -/
def ovr1 (later : List Rw) (x y : Rw) : List Rw := if mxI x.1 y.1 ≤ mnI x.2.1 y.2.1 then cutL later (mxI x.1 y.1) (mnI x.2.1 y.2.1) x.2.2 else []
def ovr2 (later : List Rw) (B : List Rw) (x : Rw) : List Rw := B.flatMap (ovr1 later x)
def ovr (later A B : List Rw) : List Rw := A.flatMap (ovr2 later B)
theorem ovr2_tl {F G : Int → Int} {later : List Rw} {x : Rw} (hok : okF 0 later) (hx : x.1 ≤ x.2.1) (hF : ∀ p, x.1 ≤ p → p ≤ x.2.1 → F p = over (fun _ => x.2.2) later p) : ∀ {B : List Rw} {m e : Int}, Tl G m B e → Tl F (mxI x.1 (mnI m (x.2.1 + 1))) (ovr2 later B x) (mxI x.1 (mnI e (x.2.1 + 1)))
  | [], m, e, h => by rw [show m = e from h]; exact rfl
  | y :: B, m, e, ⟨h1, h2, h3, h4⟩ => by
    have ih := ovr2_tl hok hx hF h4
    show Tl F _ (ovr1 later x y ++ ovr2 later B x) _
    refine Tl.app ?_ ih
    unfold ovr1
    have a1 := mxI_is x.1 y.1
    have a2 := mnI_is x.2.1 y.2.1
    have a3 := mnI_is m (x.2.1 + 1)
    have a4 := mxI_is x.1 (mnI m (x.2.1 + 1))
    have a5 := mnI_is (y.2.1 + 1) (x.2.1 + 1)
    have a6 := mxI_is x.1 (mnI (y.2.1 + 1) (x.2.1 + 1))
    by_cases c : mxI x.1 y.1 ≤ mnI x.2.1 y.2.1
    · rw [if_pos c]
      rw [show mxI x.1 (mnI m (x.2.1 + 1)) = mxI x.1 y.1 by omega, show mxI x.1 (mnI (y.2.1 + 1) (x.2.1 + 1)) = mnI x.2.1 y.2.1 + 1 by omega]
      exact cut_tl later ([], mxI x.1 y.1) 0 hok rfl (by simp only; omega) (.inl (by simp only; omega)) fun p p1 p2 => by
        simp only at p1
        exact hF p (by omega) (by omega)
    · rw [if_neg c]
      show _ = _
      omega
theorem ovr_tl {H : Int → Int} {later B : List Rw} (hok : okF 0 later) {G : Int → Int} (hB : Tl G 0 B 1114112) : ∀ {A : List Rw} {m e : Int}, Tl H m A e → 0 ≤ m → e ≤ 1114112 → Tl (over H later) m (ovr later A B) e
  | [], _, _, h, _, _ => h
  | x :: A, m, e, ⟨h1, h2, h3, h4⟩, hm, he => by
    have hle := h4.le
    show Tl _ _ (ovr2 later B x ++ ovr later A B) _
    refine Tl.app (e := x.2.1 + 1) ?_ (ovr_tl hok hB h4 (by omega) he)
    have := ovr2_tl (F := over H later) hok h2 (fun p p1 p2 => by rw [over_at, h3 p p1 p2]) hB
    have a3 := mnI_is 0 (x.2.1 + 1)
    have a4 := mxI_is x.1 (mnI 0 (x.2.1 + 1))
    have a5 := mnI_is 1114112 (x.2.1 + 1)
    have a6 := mxI_is x.1 (mnI 1114112 (x.2.1 + 1))
    rw [show mxI x.1 (mnI 0 (x.2.1 + 1)) = m by omega, show mxI x.1 (mnI 1114112 (x.2.1 + 1)) = x.2.1 + 1 by omega] at this
    exact this
end Go.Proofs.Ytookbgmolggohaa

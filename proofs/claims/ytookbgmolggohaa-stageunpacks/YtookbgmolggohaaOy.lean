/-
  What rows laid over rows say, as the fewest rows; two lists of stretches are one where they say the same. Conditions: the rows rise.
-/
import Derived.Test.YtookbgmolggohaaOx
import Derived.Test.YtookbgmolggohaaRz
namespace Go.Proofs.Ytookbgmolggohaa
open Go.RowKit
theorem okF_filter (q : Rw → Bool) : ∀ {X : List Rw} {m : Int}, okF m X → okF m (X.filter q)
  | [], m, h => trivial
  | r :: X, m, h => by
    obtain ⟨h1, h2, h3, h4, h5, h6⟩ := h
    have ih := okF_filter q h6
    rw [List.filter_cons]
    split
    · exact ⟨h1, h2, h3, h4, h5, ih⟩
    · exact okF_mono ih (by omega)
theorem over_cons (F : Int → Int) (r : Rw) (X : List Rw) (p : Int) : over F (r :: X) p = if inR r p = true then r.2.2 else over F X p := rfl
theorem Tl.lst_says {F : Int → Int} (p : Int) : ∀ {X : List Rw} {m e : Int}, Tl F m X e → over nought (lst X) p = if m ≤ p ∧ p < e then F p else 0
  | [], m, e, h => by
    have h : m = e := h
    rw [if_neg (by omega)]
    rfl
  | r :: X, m, e, ⟨h1, h2, h3, h4⟩ => by
    have ih := Tl.lst_says p h4
    have he := h4.le
    have hl : lst (r :: X) = if r.2.2 != 0 then r :: lst X else lst X := List.filter_cons ..
    by_cases c : r.1 ≤ p ∧ p ≤ r.2.1
    · have hp := h3 p c.1 c.2
      rw [if_pos (by omega), hp, hl]
      by_cases hz : r.2.2 = 0
      · rw [if_neg (by simp [hz]), ih, if_neg (by omega), hz]
      · rw [if_pos (by simp [hz]), over_cons, if_pos (inR_iff.2 c)]
    · have hrest : over nought (lst (r :: X)) p = over nought (lst X) p := by
        rw [hl]
        split
        · rw [over_cons, if_neg (fun h => c (inR_iff.1 h))]
        · rfl
      rw [hrest, ih]
      by_cases c2 : r.2.1 + 1 ≤ p ∧ p < e
      · rw [if_pos c2, if_pos (by omega)]
      · rw [if_neg c2, if_neg (by omega)]
theorem over_says {L Lt : List Rw} (hok : okF 0 L) (hoq : okF 0 Lt) : okF 0 (lst (runsL (ovr Lt (runsL L) (runsL Lt)))) ∧ lk (lst (runsL (ovr Lt (runsL L) (runsL Lt)))) = over (lk L) Lt ∧ (lst (runsL (ovr Lt (runsL L) (runsL Lt)))).length ≤ 1114112 := by
  have hF := over_range (lkr hok) hoq
  have h1 := ovr_tl (H := lk L) hoq (runs_rn hoq).tl (runs_rn hok).tl (by decide) (by decide)
  have h2 : okF 0 (ovr Lt (runsL L) (runsL Lt)) := h1.ok hF (by decide)
  have h3 := (runs_rn h2).tl
  refine ⟨okF_filter _ (h3.ok (lkr h2) (by decide)), ?_, ?_⟩
  · funext p
    show over nought (lst (runsL (ovr Lt (runsL L) (runsL Lt)))) p = over (lk L) Lt p
    rw [h3.lst_says p]
    by_cases c : (0 : Int) ≤ p ∧ p < 1114112
    · rw [if_pos c]
      show over nought (ovr Lt (runsL L) (runsL Lt)) p = _
      rw [h1.says p, if_pos c]
    · rw [if_neg c]
      rw [over_none (fun r hr => ?_)]
      · exact (lk_out hok (by omega)).symm
      · cases hq : inR r p with
        | false => rfl
        | true =>
          have := inR_iff.1 hq
          have := okF_mem hoq r hr
          omega
  · have h4 := lst_len (runsL (ovr Lt (runsL L) (runsL Lt)))
    have h5 := h3.len
    omega
theorem Rn.congr {F G : Int → Int} : ∀ {X : List Rw} {m e : Int}, Rn F m X e → (∀ p, m ≤ p → p < e → F p = G p) → Rn G m X e
  | [], _, _, h, _ => h
  | [y], m, e, ⟨h1, h2, h3, h4⟩, k => ⟨h1, h2, fun p p1 p2 => by rw [← k p (by omega) (by omega)]; exact h3 p p1 p2, h4⟩
  | y :: z :: X, m, e, ⟨h1, h2, h3, h4, h5⟩, k => by
    have hle := (Rn.mem h5).1
    exact ⟨h1, h2, fun p p1 p2 => by rw [← k p (by omega) (by omega)]; exact h3 p p1 p2, h4, h5.congr fun p p1 p2 => k p (by omega) p2⟩
theorem rows_iff {F' F : Int → Int} {X Y : List Rw} (hX : Rn F' 0 X 1114112) (hY : Rn F 0 Y 1114112) : lst X = lst Y ↔ ∀ i, i < 8704 → blk F' i = blk F i := by
  constructor
  · intro h i hi
    refine blk_congr fun j hj => ?_
    have h1 := hX.tl.lst_says (128 * (i : Int) + j)
    have h2 := hY.tl.lst_says (128 * (i : Int) + j)
    rw [h, h2, if_pos (by omega), if_pos (by omega)] at h1
    exact h1.symm
  · intro h
    have he : ∀ p, (0 : Int) ≤ p → p < 1114112 → F' p = F p := fun p p1 p2 => by
      have hb := congrFun (h (p / 128).toNat (by omega)) (p % 128).toNat
      unfold blk at hb
      rw [if_pos (by omega), if_pos (by omega)] at hb
      rwa [show 128 * ((p / 128).toNat : Int) + ((p % 128).toNat : Int) = p by omega] at hb
    rw [Rn.uniq (hX.congr he) hY]
theorem rn_fit {F : Int → Int} (hF : ∀ p, 0 ≤ F p ∧ F p ≤ 65535) {X : List Rw} (h : Rn F 0 X 1114112) : fit3 (lst X) ∧ (lst X).length ≤ 1114112 := by
  refine ⟨fun r hr => ?_, ?_⟩
  · have hm := h.tl.mem r (List.mem_filter.1 hr).1
    have hv := hF r.1
    rw [hm.2.2.2 r.1 (Int.le_refl _) hm.2.1] at hv
    omega
  · have h4 := lst_len X
    have h5 := h.tl.len
    omega
end Go.Proofs.Ytookbgmolggohaa

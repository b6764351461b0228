/- What is left of an ordinal behind another one: on trees and on rows. -/
import Derived.Test.YtaleaagnkfbhpabAddM
namespace Go.Proofs.Ytaleaagnkfbhpab
namespace T

def minus : T → T → T
  | s, z => s
  | z, c _ _ _ => z
  | c n e q, c m f r => if e.cmp f = 0 then (if n = m then minus q r else c (n - m) e q) else c n e q
termination_by s t => s.cnt + t.cnt
decreasing_by all_goals simp [cnt] <;> omega

theorem minus_z (s : T) : minus s z = s := by cases s <;> rw [minus]
theorem z_minus (t : T) : minus z t = z := by cases t <;> rw [minus]
theorem minus_same {e f : T} (n : Int) (q r : T) (h : e.cmp f = 0) : minus (c n e q) (c n f r) = minus q r := by rw [minus, if_pos h, if_pos rfl]
theorem minus_less {e f : T} {n m : Int} (q r : T) (h : e.cmp f = 0) (hn : n ≠ m) : minus (c n e q) (c m f r) = c (n - m) e q := by rw [minus, if_pos h, if_neg hn]
theorem minus_else {e f : T} (n m : Int) (q r : T) (h : e.cmp f ≠ 0) : minus (c n e q) (c m f r) = c n e q := by rw [minus, if_neg h]

theorem minus_len : ∀ s t : T, (minus s t).body.length ≤ s.body.length := by
  intro s
  induction s with
  | z => intro t; rw [z_minus]; exact Nat.le_refl _
  | c n e q _ ih =>
    intro t
    cases t with
    | z => rw [minus_z]; exact Nat.le_refl _
    | c m f r =>
      by_cases h : e.cmp f = 0
      · by_cases hn : n = m
        · subst hn
          rw [minus_same n q r h, body_c n e q]
          have := ih r
          simp
          omega
        · rw [minus_less q r h hn, body_c, body_c]; simp
      · rw [minus_else n m q r h]; exact Nat.le_refl _

/-- Where the second one is not greater: what is left is an ordinal, and behind it the whole is there again. -/
theorem minus_spec : ∀ s t : T, s.Nf → t.Nf → s.cmp t ≠ -1 → (minus s t).Nf ∧ (∀ p, ok p s → ok p (minus s t)) ∧ add t (minus s t) = s := by
  intro s
  induction s with
  | z =>
    intro t _ _ h
    cases t with
    | z => rw [minus_z]; exact ⟨trivial, fun _ h => h, rfl⟩
    | c m f r => exact absurd rfl h
  | c n e q _ ih =>
    intro t hs ht h
    cases t with
    | z => rw [minus_z, z_add]; exact ⟨hs, fun _ h => h, rfl⟩
    | c m f r =>
      rw [cmp_c] at h
      by_cases he : e.cmp f = 0
      · have hef := cmp_eq he
        subst hef
        rw [if_pos he] at h
        by_cases hn : n = m
        · subst hn
          rw [if_neg (by omega), if_neg (by omega)] at h
          obtain ⟨h1, h2, h3⟩ := ih r hs.2.2.2.1 ht.2.2.2.1 h
          rw [minus_same n q r he]
          have hok := h2 _ hs.2.2.2.2
          refine ⟨h1, fun p hp => ?_, ?_⟩
          · intro g hg n' e' r' hm
            have h5 := hok e rfl n' e' r' hm
            exact cmp_trans h5 (hp g hg n e q rfl)
          · cases hm : minus q r with
            | z => rw [hm, add_z] at h3; rw [add_z, h3]
            | c k g d =>
              have h5 := hok e rfl k g d hm
              rw [add_gt n k r d (by have := cmp_swap g e; omega), ← hm, h3]
        · by_cases hlt : n < m
          · rw [if_pos hlt] at h; exact absurd rfl h
          · rw [minus_less q r he hn]
            refine ⟨⟨by omega, by have := hs.2.1; have := ht.1; omega, hs.2.2.1, hs.2.2.2.1, hs.2.2.2.2⟩, fun p hp g hg n' e' r' hm => ?_, ?_⟩
            · cases hm
              exact hp g hg n e q rfl
            · rw [add_eq m (n - m) r q he]
              congr 1
              omega
      · rw [if_neg he] at h
        have hgt : e.cmp f = 1 := by rcases cmp_vals e f with h' | h' | h' <;> omega
        rw [minus_else n m q r he]
        refine ⟨hs, fun _ h => h, ?_⟩
        rw [add_lt m n r q (by have := cmp_swap e f; omega)]

noncomputable def minusOk (xs ys : List Int) : Bool := decide (0 ≤ cmpRow xs ys)
noncomputable def minusRow (xs ys : List Int) : List Int := if 0 ≤ cmpRow xs ys then (minus (of xs) (of ys)).enc else []

theorem cmpRow_vld {xs ys : List Int} (h : 0 ≤ cmpRow xs ys) : vldB xs = true ∧ vldB ys = true ∧ (of xs).cmp (of ys) ≠ -1 := by
  cases h1 : vldB xs with
  | false => rw [cmpRow_bad (.inl h1)] at h; omega
  | true =>
    cases h2 : vldB ys with
    | false => rw [cmpRow_bad (.inr h2)] at h; omega
    | true => rw [cmpRow_val h1 h2] at h; exact ⟨rfl, rfl, by omega⟩

theorem minusRow_val {xs ys : List Int} (h : 0 ≤ cmpRow xs ys) : minusRow xs ys = (minus (of xs) (of ys)).enc ∧ minusOk xs ys = true := ⟨by rw [minusRow, if_pos h], decide_eq_true h⟩
theorem minusRow_bad {xs ys : List Int} (h : ¬ 0 ≤ cmpRow xs ys) : minusRow xs ys = [] ∧ minusOk xs ys = false := ⟨by rw [minusRow, if_neg h], decide_eq_false h⟩
theorem minus_vld {xs ys : List Int} (h : 0 ≤ cmpRow xs ys) : vldB (minus (of xs) (of ys)).enc = true := by
  obtain ⟨h1, h2, h3⟩ := cmpRow_vld h
  have h4 := (minus_spec _ _ (nf_of h1) (nf_of h2) h3).1
  refine vldB_true.2 ⟨?_, _, rfl, h4⟩
  have h5 := minus_len (of xs) (of ys)
  have h6 := (vldB_true.1 h1).1
  have h7 := congrArg List.length (enc_of h1)
  rw [enc_len] at h7
  rw [enc_len]
  omega
theorem minusRow_len (xs ys : List Int) : (minusRow xs ys).length ≤ 1000 := by
  unfold minusRow
  split
  · rename_i h
    have := (vldB_true.1 (minus_vld h)).1
    omega
  · simp
/-- Put behind it again. -/
theorem minusRow_add {xs ys : List Int} (h : 0 ≤ cmpRow xs ys) : vldB (minusRow xs ys) = true ∧ addRow ys (minusRow xs ys) = xs ∧ addOk ys (minusRow xs ys) = true := by
  obtain ⟨h1, h2, h3⟩ := cmpRow_vld h
  have h4 := minus_vld h
  have h5 := (minus_spec _ _ (nf_of h1) (nf_of h2) h3).2.2
  rw [(minusRow_val h).1]
  obtain ⟨e1, e2⟩ := addRow_val h2 h4
  rw [of_enc, h5] at e1 e2
  refine ⟨h4, ?_, ?_⟩
  · rw [e1, fit, enc_of h1, if_pos h1]
  · rw [e2, enc_of h1, h1]

end T
end Go.Proofs.Ytaleaagnkfbhpab

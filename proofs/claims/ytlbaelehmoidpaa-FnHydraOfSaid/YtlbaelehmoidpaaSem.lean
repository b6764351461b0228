/- What the laws of the first chapter say, on trees and on rows. -/
import Derived.Test.YtlbaelehmoidpaaFnMath
namespace Go.Proofs.Ytlbaelehmoidpaa
set_option maxRecDepth 100000
namespace T

theorem vld_nil : vldB [] = false := by
  rw [vldB_false]
  rintro ⟨_, t, h, _⟩
  exact enc_ne t h.symm

theorem vld_snoc {xs : List Int} (x : Int) (h : vldB xs = true) : vldB (xs ++ [x]) = false := by
  obtain ⟨t, rfl, hn, hl, _⟩ := vld_of h
  rw [vldB_false]
  rintro ⟨_, s, hs, _⟩
  have := (enc_inj (s := t) (t := s) (r₁ := [x]) (r₂ := []) (by simpa using hs)).2
  cases this

theorem pow_enc (t : T) : (c 1 t z).enc = 1 :: 1 :: t.enc := by simp [enc, body, cnt]

theorem vld_pow {xs : List Int} (h : vldB xs = true) (hl : xs.length ≤ 58) : vldB (1 :: 1 :: xs) = true := by
  obtain ⟨t, rfl, hn, _, _⟩ := vld_of h
  rw [← pow_enc]
  exact vld_mk ⟨by decide, by decide, hn, trivial, ok_z _⟩ (by rw [pow_enc]; simp; omega)

theorem cmpRow_vals (xs ys : List Int) : cmpRow xs ys = -2 ∨ cmpRow xs ys = -1 ∨ cmpRow xs ys = 0 ∨ cmpRow xs ys = 1 := by
  unfold cmpRow
  split
  · exact .inr (cmp_vals _ _)
  · exact .inl rfl

theorem cmpRow_ok {xs ys : List Int} (h : cmpRow xs ys ≠ -2) : vldB xs = true ∧ vldB ys = true := by
  unfold cmpRow at h
  split at h
  · assumption
  · exact absurd rfl h

theorem enc_of {xs : List Int} (h : vldB xs = true) : (of xs).enc = xs := by
  obtain ⟨t, rfl, _, _, h4⟩ := vld_of h
  rw [h4]

theorem nf_of {xs : List Int} (h : vldB xs = true) : (of xs).Nf := by
  obtain ⟨t, rfl, hn, _, h4⟩ := vld_of h
  rw [h4]; exact hn

theorem cmpRow_swap {xs ys : List Int} (h : cmpRow xs ys ≠ -2) : cmpRow ys xs = - cmpRow xs ys := by
  obtain ⟨h1, h2⟩ := cmpRow_ok h
  rw [cmpRow_val h1 h2, cmpRow_val h2 h1, cmp_swap]

theorem cmpRow_zero {xs ys : List Int} (h : cmpRow xs ys ≠ -2) : cmpRow xs ys = 0 ↔ xs = ys := by
  obtain ⟨h1, h2⟩ := cmpRow_ok h
  rw [cmpRow_val h1 h2, cmp_eq_iff]
  constructor
  · intro h3; rw [← enc_of h1, ← enc_of h2, h3]
  · intro h3; rw [h3]

theorem cmpRow_trans {xs ys zs : List Int} (h : cmpRow xs ys = -1) (k : cmpRow ys zs = -1) : cmpRow xs zs = -1 := by
  obtain ⟨h1, h2⟩ := cmpRow_ok (xs := xs) (ys := ys) (by omega)
  obtain ⟨_, h3⟩ := cmpRow_ok (xs := ys) (ys := zs) (by omega)
  rw [cmpRow_val h1 h2] at h
  rw [cmpRow_val h2 h3] at k
  rw [cmpRow_val h1 h3]
  exact cmp_trans h k

theorem cmpRow_trans' {xs ys zs : List Int} (h : cmpRow xs ys = 1) (k : cmpRow ys zs = 1) : cmpRow xs zs = 1 := by
  have h1 := cmpRow_swap (xs := xs) (ys := ys) (by omega)
  have h2 := cmpRow_swap (xs := ys) (ys := zs) (by omega)
  have h3 := cmpRow_trans (xs := zs) (ys := ys) (zs := xs) (by omega) (by omega)
  have h4 := cmpRow_swap (xs := zs) (ys := xs) (by omega)
  omega

/-- OrdNumber. -/
theorem num_cases {t : T} (h : t.Nf) : (t.num = -1 ∧ ∀ n, t.cmp (c n z z) = 1) ∨ (0 ≤ t.num ∧ t.num ≤ 9999 ∧ num' t.num = t.enc) := by
  cases t with
  | z => exact .inr ⟨by decide, by decide, rfl⟩
  | c n e r =>
    cases e with
    | z =>
      have := nf_z h rfl
      subst this
      have h1 := h.1
      have h2 := h.2.1
      refine .inr ⟨by show 0 ≤ n; omega, h2, num'_enc h1 h2⟩
    | c m f q => exact .inl ⟨rfl, fun n' => by rw [cmp_c, if_neg (by simp [cmp])]; rfl⟩

theorem num9_vld : vldB (num' 9999) = true := by
  rw [num'_enc (by decide) (by decide)]
  exact vld_mk ⟨by decide, by decide, trivial, trivial, ok_z _⟩ (by decide)

theorem numRow_bad {xs : List Int} (h : vldB xs = false) : numRow xs = -1 := by rw [numRow, if_neg (by simp [h])]

theorem numRow_cases {xs : List Int} (h : vldB xs = true) : (numRow xs = -1 ∧ cmpRow xs (num' 9999) = 1) ∨ (0 ≤ numRow xs ∧ numRow xs ≤ 9999 ∧ num' (numRow xs) = xs) := by
  have e : numRow xs = (of xs).num := by rw [numRow, if_pos h]
  rw [e]
  rcases num_cases (nf_of h) with ⟨h1, h2⟩ | ⟨h1, h2, h3⟩
  · refine .inl ⟨h1, ?_⟩
    rw [cmpRow_val h num9_vld, num'_enc (by decide) (by decide), of_enc]
    exact h2 _
  · exact .inr ⟨h1, h2, by rw [h3, enc_of h]⟩

/-- OrdPower. -/
theorem exp_lt (e : T) : ∀ (n : Int) (r : T), e.cmp (c n e r) = -1 := by
  induction e with
  | z => intro n r; rfl
  | c m f s ihf _ =>
    intro n r
    rw [cmp_c, ihf m s, if_neg (by decide)]

theorem lt_pow (t : T) : t.cmp (c 1 t z) = -1 := by
  cases t with
  | z => rfl
  | c n e r => rw [cmp_c, exp_lt e n r, if_neg (by decide)]

theorem powOk_true {xs : List Int} (h : powOk xs = true) : vldB xs = true ∧ vldB (powRow xs) = true ∧ of (powRow xs) = c 1 (of xs) z := by
  have h1 : vldB xs = true ∧ vldB (c 1 (of xs) z).enc = true := by simpa [powOk] using h
  have h2 : powRow xs = (c 1 (of xs) z).enc := by rw [powRow, if_pos h1.1, fit, if_pos h1.2]
  exact ⟨h1.1, by rw [h2]; exact h1.2, by rw [h2, of_enc]⟩

theorem powOk_false {xs : List Int} (h : powOk xs = false) : powRow xs = [] := by
  rw [powRow]
  split
  · rename_i h1
    rw [fit, if_neg]
    intro h2
    rw [powOk, h1, h2] at h
    cases h
  · rfl

theorem pow_lt {xs : List Int} (h : powOk xs = true) : cmpRow xs (powRow xs) = -1 := by
  obtain ⟨h1, h2, h3⟩ := powOk_true h
  rw [cmpRow_val h1 h2, h3]
  exact lt_pow _

theorem pow_cmp {xs ys : List Int} (h : powOk xs = true) (k : powOk ys = true) : cmpRow (powRow xs) (powRow ys) = cmpRow xs ys := by
  obtain ⟨h1, h2, h3⟩ := powOk_true h
  obtain ⟨k1, k2, k3⟩ := powOk_true k
  rw [cmpRow_val h2 k2, cmpRow_val h1 k1, h3, k3, cmp_c]
  split
  · rename_i h4; rw [h4]; rfl
  · rfl

theorem pow_dep {xs : List Int} (h : powOk xs = true) : depRow (powRow xs) = depRow xs + 1 := by
  obtain ⟨h1, h2, h3⟩ := powOk_true h
  rw [depRow, if_pos h2, depRow, if_pos h1, h3]
  simp [depth]

/-- OrdKind. -/
theorem kind_vals (t : T) : t.kind = 0 ∧ t = z ∨ (t.kind = 1 ∨ t.kind = 2) ∧ t ≠ z := by
  induction t with
  | z => exact .inl ⟨rfl, rfl⟩
  | c n e r _ ih =>
    refine .inr ⟨?_, fun h => by cases h⟩
    cases r with
    | z => simp only [kind]; split <;> simp
    | c m f q =>
      rcases ih with ⟨_, h⟩ | ⟨h, _⟩
      · cases h
      · exact h

theorem kindRow_bnd (xs : List Int) : -1 ≤ kindRow xs ∧ kindRow xs ≤ 2 := by
  unfold kindRow
  split
  · rcases kind_vals (of xs) with ⟨h, _⟩ | ⟨h | h, _⟩ <;> omega
  · omega

theorem kindRow_zero (xs : List Int) : kindRow xs = 0 ↔ xs = [0] := by
  constructor
  · intro h
    unfold kindRow at h
    split at h
    · rename_i h1
      rcases kind_vals (of xs) with ⟨_, h2⟩ | ⟨h2 | h2, _⟩
      · rw [← enc_of h1, h2]; rfl
      · omega
      · omega
    · omega
  · rintro rfl
    have e : ([0] : List Int) = (z).enc := rfl
    have v : vldB (z).enc = true := vld_mk (t := z) trivial (by decide)
    rw [e, kindRow, if_pos v, of_enc]; rfl

theorem befOk_kind (xs : List Int) : befOk xs = decide (kindRow xs = 1) := by
  unfold befOk kindRow
  split
  · rename_i h; rw [h]; simp
  · rename_i h
    have : vldB xs = false := by simpa using h
    rw [this]; simp

/-- OrdNext, term by term. -/
theorem next_c {n : Int} {e r : T} (h : e ≠ z ∨ r ≠ z) : (c n e r).next = c n e r.next := by
  cases r with
  | z =>
    have he : e.cnt ≠ 0 := fun h1 => by
      rcases h with h | h
      · exact h (cnt_zero h1)
      · exact h rfl
    simp [next, kind, if_neg he, app]
  | c m f q =>
    have e1 : (c n e (c m f q)).kind = (c m f q).kind := rfl
    by_cases hk : (c m f q).kind = 1
    · rw [next, if_pos (e1.trans hk), next, if_pos hk]; rfl
    · rw [next, if_neg (fun h2 => hk (e1.symm.trans h2)), next, if_neg hk]; rfl
theorem cmp_zz : (z : T).cmp z = 0 := rfl
theorem next_z : (z : T).next = c 1 z z := rfl
theorem next_n (n : Int) : (c n z z).next = c (n + 1) z z := rfl

theorem next_kind {t : T} (h : t.Nf) : t.next.kind = 1 := by
  induction t with
  | z => rfl
  | c n e r _ ih =>
    by_cases he : e = z
    · have hr := nf_z h he
      subst he; subst hr
      rw [next_n]; rfl
    · rw [next_c (.inl he)]
      have h1 := ih h.2.2.2.1
      rcases kind_vals r.next with ⟨h2, _⟩ | ⟨_, h2⟩
      · omega
      · cases hx : r.next with
        | z => exact absurd hx h2
        | c m f q => rw [hx] at h1; exact h1

theorem next_less {t : T} (h : t.Nf) : t.next.less = t := by
  induction t with
  | z => rfl
  | c n e r _ ih =>
    by_cases he : e = z
    · have hr := nf_z h he
      subst he; subst hr
      have := h.1
      rw [next_n, less, if_neg (by omega)]
      congr 1
      omega
    · rw [next_c (.inl he)]
      have h1 := ih h.2.2.2.1
      have h3 := next_kind h.2.2.2.1
      cases hx : r.next with
      | z => rw [hx] at h3; cases h3
      | c m f q => rw [less, ← hx, h1]

theorem next_gt {t : T} (h : t.Nf) : t.cmp t.next = -1 := by
  induction t with
  | z => rfl
  | c n e r _ ih =>
    by_cases he : e = z
    · have hr := nf_z h he
      subst he; subst hr
      rw [next_n, cmp_c, if_pos cmp_zz, if_pos (by omega)]
    · rw [next_c (.inl he), cmp_c, if_pos (cmp_refl e), if_neg (by omega), if_neg (by omega)]
      exact ih h.2.2.2.1

theorem none_between {t : T} (h : t.Nf) : ∀ s : T, s.Nf → t.cmp s = -1 → s.cmp t.next ≠ -1 := by
  have hz : ∀ s : T, s.Nf → (z : T).cmp s = -1 → s.cmp (c 1 z z) ≠ -1 := by
    intro s hs h1
    cases s with
    | z => simp [cmp] at h1
    | c m f q =>
      cases f with
      | z =>
        have := hs.1
        rw [cmp_c, if_pos cmp_zz, if_neg (by omega)]
        split
        · decide
        · cases q <;> simp [cmp]
      | c m' f' q' => rw [cmp_c, if_neg (by simp [cmp])]; simp [cmp]
  induction t with
  | z => exact hz
  | c n e r _ ih =>
    intro s hs h1
    cases s with
    | z => simp [cmp] at h1
    | c m f q =>
      by_cases he : e = z
      · have hr := nf_z h he
        subst he; subst hr
        rw [next_n]
        cases f with
        | z =>
          have hq := nf_z hs rfl
          subst hq
          rw [cmp_c, if_pos cmp_zz] at h1 ⊢
          have : n < m := by
            by_cases h2 : n < m
            · exact h2
            · rw [if_neg h2] at h1
              split at h1
              · omega
              · simp [cmp] at h1
          rw [if_neg (by omega)]
          split
          · decide
          · simp [cmp]
        | c m' f' q' => rw [cmp_c, if_neg (by simp [cmp])]; simp [cmp]
      · rw [next_c (.inl he)]
        rw [cmp_c] at h1 ⊢
        have hsw := cmp_swap e f
        by_cases h2 : e.cmp f = 0
        · rw [if_pos h2] at h1
          rw [if_pos (by omega)]
          by_cases h3 : n < m
          · rw [if_neg (by omega), if_pos h3]; decide
          · rw [if_neg h3] at h1
            by_cases h4 : m < n
            · rw [if_pos h4] at h1; omega
            · rw [if_neg h4] at h1
              rw [if_neg h4, if_neg h3]
              exact ih h.2.2.2.1 q hs.2.2.2.1 h1
        · rw [if_neg h2] at h1
          rw [if_neg (by omega)]
          omega

theorem nextOk_true {xs : List Int} (h : nextOk xs = true) : vldB xs = true ∧ vldB (nextRow xs) = true ∧ of (nextRow xs) = (of xs).next := by
  have h1 : vldB xs = true ∧ vldB (of xs).next.enc = true := by simpa [nextOk] using h
  have h2 : nextRow xs = (of xs).next.enc := by rw [nextRow, if_pos h1.1, fit, if_pos h1.2]
  exact ⟨h1.1, by rw [h2]; exact h1.2, by rw [h2, of_enc]⟩
theorem nextOk_false {xs : List Int} (h : nextOk xs = false) : nextRow xs = [] := by
  rw [nextRow]
  split
  · rename_i h1
    rw [fit, if_neg]
    intro h2
    rw [nextOk, h1, h2] at h
    cases h
  · rfl
theorem nextRow_kind {xs : List Int} (h : nextOk xs = true) : kindRow (nextRow xs) = 1 := by
  obtain ⟨h1, h2, h3⟩ := nextOk_true h
  rw [kindRow, if_pos h2, h3]
  exact next_kind (nf_of h1)
theorem nextRow_gt {xs : List Int} (h : nextOk xs = true) : cmpRow xs (nextRow xs) = -1 := by
  obtain ⟨h1, h2, h3⟩ := nextOk_true h
  rw [cmpRow_val h1 h2, h3]
  exact next_gt (nf_of h1)
theorem nextRow_bef {xs : List Int} (h : nextOk xs = true) : befOk (nextRow xs) = true ∧ befRow (nextRow xs) = xs := by
  obtain ⟨h1, h2, h3⟩ := nextOk_true h
  have h4 := next_kind (nf_of h1)
  refine ⟨by rw [befOk_kind, nextRow_kind h]; rfl, ?_⟩
  rw [befRow, if_pos ⟨h2, by rw [h3]; exact h4⟩, h3, next_less (nf_of h1), enc_of h1]
theorem nextRow_none {xs ys : List Int} (h : nextOk xs = true) (k : cmpRow xs ys = -1) : cmpRow ys (nextRow xs) ≠ -1 := by
  obtain ⟨h1, h2, h3⟩ := nextOk_true h
  obtain ⟨_, h4⟩ := cmpRow_ok (xs := xs) (ys := ys) (by omega)
  rw [cmpRow_val h1 h4] at k
  rw [cmpRow_val h4 h2, h3]
  exact none_between (nf_of h1) _ (nf_of h4) k

/-- OrdBefore. -/
theorem less_first {r : T} : ∀ p, ok p r → ok p r.less := by
  intro p h
  cases r with
  | z => exact h
  | c n e q =>
    cases q with
    | z =>
      simp only [less]
      split
      · exact ok_z p
      · intro q hq n' e' r' hr
        cases hr
        exact h q hq n e z rfl
    | c m f s =>
      intro q hq n' e' r' hr
      cases hr
      exact h q hq n e (c m f s) rfl

theorem less_nf {t : T} (h : t.Nf) : t.less.Nf := by
  induction t with
  | z => trivial
  | c n e r _ ih =>
    cases r with
    | z =>
      simp only [less]
      have h1 := h.1
      have h2 := h.2.1
      split
      · trivial
      · exact ⟨by omega, by omega, h.2.2.1, trivial, ok_z _⟩
    | c m f q => exact ⟨h.1, h.2.1, h.2.2.1, ih h.2.2.2.1, less_first _ h.2.2.2.2⟩

theorem less_next {t : T} (h : t.Nf) (hk : t.kind = 1) : t.less.next = t := by
  induction t with
  | z => cases hk
  | c n e r _ ih =>
    cases r with
    | z =>
      have he : e = z := by
        by_cases h1 : e.cnt = 0
        · exact cnt_zero h1
        · simp [kind, if_neg h1] at hk
      subst he
      simp only [less]
      split
      · rename_i h1; subst h1; rfl
      · rw [next_n]; congr 1; omega
    | c m f q =>
      have he : e ≠ z := fun he => by have := nf_z h he; cases this
      rw [less, next_c (.inl he), ih h.2.2.2.1 hk]

theorem befOk_true {xs : List Int} (h : befOk xs = true) : vldB xs = true ∧ (of xs).kind = 1 ∧ vldB (befRow xs) = true ∧ of (befRow xs) = (of xs).less := by
  have h1 : vldB xs = true ∧ (of xs).kind = 1 := by simpa [befOk] using h
  have h2 : befRow xs = (of xs).less.enc := by rw [befRow, if_pos h1]
  refine ⟨h1.1, h1.2, ?_, by rw [h2, of_enc]⟩
  rw [h2]
  refine vld_mk (less_nf (nf_of h1.1)) ?_
  have h3 := less_len (of xs)
  obtain ⟨t, h4, h5, h6, h7⟩ := vld_of h1.1
  rw [h7] at h3 ⊢
  rw [enc_len] at h6 ⊢
  omega
theorem befOk_false {xs : List Int} (h : befOk xs = false) : befRow xs = [] := by
  rw [befRow, if_neg]
  rintro ⟨h1, h2⟩
  rw [befOk, h1, h2] at h
  cases h
theorem befRow_next {xs : List Int} (h : befOk xs = true) : nextOk (befRow xs) = true ∧ nextRow (befRow xs) = xs ∧ cmpRow (befRow xs) xs = -1 := by
  obtain ⟨h1, h2, h3, h4⟩ := befOk_true h
  have h5 := less_next (nf_of h1) h2
  have h6 : vldB (of xs).less.next.enc = true := by rw [h5, enc_of h1]; exact h1
  refine ⟨by rw [nextOk, h3, h4, h6]; rfl, by rw [nextRow, if_pos h3, h4, fit, if_pos h6, h5, enc_of h1], ?_⟩
  rw [cmpRow_val h3 h1, h4]
  have := next_gt (less_nf (nf_of h1))
  rwa [h5] at this

/-- OrdDepth. -/
theorem depth_lt : ∀ {s t : T}, s.depth < t.depth → s.cmp t = -1 := by
  intro s
  induction s with
  | z =>
    intro t h
    cases t with
    | z => simp [depth] at h
    | c n e r => rfl
  | c n e r ih _ =>
    intro t h
    cases t with
    | z => simp [depth] at h
    | c m f q =>
      have h1 := ih (t := f) (by simpa [depth] using h)
      rw [cmp_c, h1, if_neg (by decide)]

theorem depRow_zero (xs : List Int) : depRow xs = 0 ↔ xs = [0] := by
  constructor
  · intro h
    unfold depRow at h
    split at h
    · rename_i h1
      rw [← enc_of h1]
      cases hx : of xs with
      | z => rfl
      | c n e r => rw [hx] at h; simp [depth] at h; omega
    · omega
  · rintro rfl
    have e : ([0] : List Int) = (z).enc := rfl
    have v : vldB (z).enc = true := vld_mk (t := z) trivial (by decide)
    rw [e, depRow, if_pos v, of_enc]; rfl

theorem depRow_bad {xs : List Int} (h : vldB xs = false) : depRow xs = -1 := by rw [depRow, if_neg (by simp [h])]
theorem depRow_ok {xs : List Int} (h : vldB xs = true) : 0 ≤ depRow xs := by rw [depRow, if_pos h]; omega
theorem depth_len (t : T) : t.depth ≤ t.body.length := by
  induction t with
  | z => simp [depth]
  | c n e r ih _ => rw [body_c]; simp [depth, enc_len]; omega
theorem depRow_bnd {xs : List Int} (h : vldB xs = true) : 0 ≤ depRow xs ∧ depRow xs ≤ 60 := by
  obtain ⟨t, _, _, h3, h4⟩ := vld_of h
  have := depth_len t
  rw [enc_len] at h3
  rw [depRow, if_pos h, h4]
  omega
theorem depRow_lt {xs ys : List Int} (h0 : 0 ≤ depRow xs) (h : depRow xs < depRow ys) : cmpRow xs ys = -1 := by
  have h1 : vldB xs = true := by
    cases hx : vldB xs with
    | true => rfl
    | false => rw [depRow_bad hx] at h0; omega
  have h2 : vldB ys = true := by
    cases hx : vldB ys with
    | true => rfl
    | false => rw [depRow_bad hx] at h; omega
  rw [cmpRow_val h1 h2]
  rw [depRow, if_pos h1, depRow, if_pos h2] at h
  exact depth_lt (by omega)

end T
end Go.Proofs.Ytlbaelehmoidpaa

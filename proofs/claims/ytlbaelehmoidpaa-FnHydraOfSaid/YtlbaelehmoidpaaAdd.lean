/- Sums, on trees and on rows. -/
import Derived.Test.YtlbaelehmoidpaaSem
namespace Go.Proofs.Ytlbaelehmoidpaa
set_option maxRecDepth 100000
namespace T

/-- The terms of greater exponents than this one, and the others. -/
def takeGt (e : T) : T → T
  | z => z
  | c n f r => if f.cmp e = 1 then c n f (takeGt e r) else z
def dropGt (e : T) : T → T
  | z => z
  | c n f r => if f.cmp e = 1 then dropGt e r else c n f r
theorem take_drop (e s : T) : (takeGt e s).app (dropGt e s) = s := by
  induction s with
  | z => rfl
  | c n f r _ ih =>
    by_cases h : f.cmp e = 1
    · rw [takeGt, dropGt, if_pos h, if_pos h, app, ih]
    · rw [takeGt, dropGt, if_neg h, if_neg h]; rfl
theorem take_step {e f : T} (n : Int) (r : T) (h : f.cmp e = 1) : takeGt e (c n f r) = c n f (takeGt e r) ∧ dropGt e (c n f r) = dropGt e r := by
  rw [takeGt, dropGt, if_pos h, if_pos h]; exact ⟨rfl, rfl⟩
theorem take_stop {e f : T} (n : Int) (r : T) (h : ¬ f.cmp e = 1) : takeGt e (c n f r) = z ∧ dropGt e (c n f r) = c n f r := by
  rw [takeGt, dropGt, if_neg h, if_neg h]; exact ⟨rfl, rfl⟩

/-- What of the second one follows, where this is left of the first one. -/
def addTail (m : Int) (e r : T) : T → T
  | z => c m e r
  | c n f _ => if f.cmp e = 0 then c (m + n) e r else c m e r
def add (s : T) : T → T
  | z => s
  | c m e r => (takeGt e s).app (addTail m e r (dropGt e s))
theorem addTail_form (m : Int) (e r u : T) : ∃ x, addTail m e r u = c x e r := by
  cases u with
  | z => exact ⟨m, rfl⟩
  | c n f q =>
    rw [addTail]
    split
    · exact ⟨_, rfl⟩
    · exact ⟨_, rfl⟩
theorem add_form (s : T) (m : Int) (e r : T) : ∃ x, add s (c m e r) = (takeGt e s).app (c x e r) := by
  obtain ⟨x, hx⟩ := addTail_form m e r (dropGt e s)
  exact ⟨x, by rw [add, hx]⟩
theorem enc_split (d u : T) : (d.app u).enc.length + 1 = d.enc.length + u.enc.length := by
  rw [enc_len, enc_len, enc_len, app_body]; simp; omega
theorem add_len (s t : T) : (add s t).enc.length + 1 ≤ s.enc.length + t.enc.length := by
  cases t with
  | z => rw [add]; simp [enc, body]
  | c m e r =>
    obtain ⟨x, hx⟩ := add_form s m e r
    have h1 := enc_split (takeGt e s) (c x e r)
    have h2 := enc_split (takeGt e s) (dropGt e s)
    rw [take_drop] at h2
    have h3 : (c x e r).enc.length = (c m e r).enc.length := by simp [enc, body]
    have h4 := enc_len (dropGt e s)
    rw [hx]
    omega

/-- The terms of no lesser exponents. -/
def takeGe (e : T) : T → T
  | z => z
  | c n f r => if f.cmp e = -1 then z else c n f (takeGe e r)
theorem ge_step {e f : T} (n : Int) (r : T) (h : ¬ f.cmp e = -1) : takeGe e (c n f r) = c n f (takeGe e r) := by rw [takeGe, if_neg h]
theorem ge_stop {e f : T} (n : Int) (r : T) (h : f.cmp e = -1) : takeGe e (c n f r) = z := by rw [takeGe, if_pos h]
theorem ge_split (e : T) {s : T} (hs : s.Nf) : (takeGe e s = takeGt e s ∧ ∀ m r, addTail m e r (dropGt e s) = c m e r) ∨
    (∃ n, takeGe e s = (takeGt e s).app (c n e z) ∧ 1 ≤ n ∧ n ≤ 9999 ∧ ∀ m r, addTail m e r (dropGt e s) = c (m + n) e r) := by
  induction s with
  | z => exact .inl ⟨rfl, fun m r => rfl⟩
  | c n f q _ ih =>
    by_cases h1 : f.cmp e = 1
    · obtain ⟨e1, e2⟩ := take_step n q h1
      rw [ge_step n q (by omega), e1, e2]
      rcases ih hs.2.2.2.1 with ⟨i1, i2⟩ | ⟨n', i1, i2⟩
      · exact .inl ⟨by rw [i1], i2⟩
      · exact .inr ⟨n', by rw [i1]; rfl, i2⟩
    · obtain ⟨e1, e2⟩ := take_stop n q h1
      rw [e1, e2]
      by_cases h0 : f.cmp e = 0
      · have hfe := cmp_eq h0
        subst hfe
        have hz : takeGe f q = z := by
          cases q with
          | z => rfl
          | c n' f' q' => exact ge_stop n' q' (ok_c.1 hs.2.2.2.2)
        refine .inr ⟨n, by rw [ge_step n q (by omega), hz]; rfl, hs.1, hs.2.1, fun m r => ?_⟩
        rw [addTail, if_pos h0]
      · have hl : f.cmp e = -1 := by rcases cmp_vals f e with h | h | h <;> omega
        refine .inl ⟨ge_stop n q hl, fun m r => ?_⟩
        rw [addTail, if_neg h0]
theorem snoc_inj : ∀ {d d' : T} {n n' : Int} {e f : T}, d.app (c n e z) = d'.app (c n' f z) → d = d' ∧ n = n' ∧ e = f := by
  intro d
  induction d with
  | z =>
    intro d' n n' e f h
    cases d' with
    | z => cases h; exact ⟨rfl, rfl, rfl⟩
    | c a b q =>
      simp only [app, c.injEq] at h
      cases q <;> cases h.2.2
  | c a b q _ ih =>
    intro d' n n' e f h
    cases d' with
    | z =>
      simp only [app, c.injEq] at h
      cases q <;> cases h.2.2
    | c a' b' q' =>
      simp only [app, c.injEq] at h
      obtain ⟨h1, h2, h3⟩ := h
      obtain ⟨i1, i2, i3⟩ := ih h3
      exact ⟨by rw [h1, h2, i1], i2, i3⟩
theorem ge_front (e : T) : ∀ s : T, ∃ u, (takeGe e s).app u = s := by
  intro s
  induction s with
  | z => exact ⟨z, rfl⟩
  | c n f r _ ih =>
    by_cases h : f.cmp e = -1
    · exact ⟨c n f r, by rw [ge_stop n r h]; rfl⟩
    · obtain ⟨u, hu⟩ := ih
      exact ⟨u, by rw [ge_step n r h, app, hu]⟩
theorem gt_last (e : T) : ∀ (s d : T) (n : Int) (f q : T), takeGt e s = d.app (c n f q) → f.cmp e = 1 := by
  intro s
  induction s with
  | z => intro d n f q h; cases d <;> cases h
  | c n' f' r _ ih =>
    intro d n f q h
    by_cases h1 : f'.cmp e = 1
    · rw [(take_step n' r h1).1] at h
      cases d with
      | z => cases h; exact h1
      | c n2 f2 d2 =>
        simp only [app, c.injEq] at h
        exact ih d2 n f q h.2.2
    · rw [(take_stop n' r h1).1] at h
      cases d <;> cases h

noncomputable def addRow (xs ys : List Int) : List Int := if vldB xs = true ∧ vldB ys = true then fit (add (of xs) (of ys)) else []
noncomputable def addOk (xs ys : List Int) : Bool := vldB xs && vldB ys && vldB (add (of xs) (of ys)).enc
theorem addRow_val {xs ys : List Int} (h1 : vldB xs = true) (h2 : vldB ys = true) : addRow xs ys = fit (add (of xs) (of ys)) ∧ addOk xs ys = vldB (add (of xs) (of ys)).enc :=
  ⟨by rw [addRow, if_pos ⟨h1, h2⟩], by rw [addOk, h1, h2]; rfl⟩
theorem addRow_bad {xs ys : List Int} (h : vldB xs = false ∨ vldB ys = false) : addRow xs ys = [] ∧ addOk xs ys = false := by
  constructor
  · rw [addRow, if_neg]; rintro ⟨h1, h2⟩; rcases h with h | h <;> simp [h] at h1 h2
  · rw [addOk]; rcases h with h | h <;> simp [h]
theorem addRow_len (xs ys : List Int) : (addRow xs ys).length ≤ 1000 := by
  unfold addRow
  split
  · exact fit_len _
  · simp

end T
end Go.Proofs.Ytlbaelehmoidpaa

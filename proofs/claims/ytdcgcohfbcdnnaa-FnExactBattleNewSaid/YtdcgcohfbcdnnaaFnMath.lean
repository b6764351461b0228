/- What the functions of the first chapter answer, on trees and on rows. -/
import Derived.Test.YtdcgcohfbcdnnaaRead
namespace Go.Proofs.Ytdcgcohfbcdnnaa
set_option maxRecDepth 100000
namespace T

/-- The tree of a row. -/
noncomputable def of (xs : List Int) : T := open Classical in if h : ∃ t : T, xs = t.enc then h.choose else .z
theorem of_enc (t : T) : of t.enc = t := by
  unfold of
  have h : ∃ s : T, t.enc = s.enc := ⟨t, rfl⟩
  rw [dif_pos h]
  exact (enc_inj' h.choose_spec).symm

theorem vld_of {xs : List Int} (h : vldB xs = true) : ∃ t : T, xs = t.enc ∧ t.Nf ∧ t.enc.length ≤ 60 ∧ of xs = t := by
  obtain ⟨h1, t, rfl, h2⟩ := vldB_true.1 h
  exact ⟨t, rfl, h2, h1, of_enc t⟩
theorem vld_mk {t : T} (h : t.Nf) (hl : t.enc.length ≤ 60) : vldB t.enc = true := vldB_true.2 ⟨hl, t, rfl, h⟩

theorem nf_z {e r : T} {n : Int} (h : (c n e r).Nf) (he : e = z) : r = z := by
  subst he
  obtain ⟨_, _, _, _, h⟩ := h
  cases r with
  | z => rfl
  | c m f q =>
    have := ok_c.1 h
    cases f <;> simp [cmp] at this

/-- OrdCompare. -/
noncomputable def cmpRow (xs ys : List Int) : Int := if vldB xs = true ∧ vldB ys = true then (of xs).cmp (of ys) else -2
theorem cmpRow_val {xs ys : List Int} (h1 : vldB xs = true) (h2 : vldB ys = true) : cmpRow xs ys = (of xs).cmp (of ys) := if_pos ⟨h1, h2⟩
theorem cmpRow_bad {xs ys : List Int} (h : vldB xs = false ∨ vldB ys = false) : cmpRow xs ys = -2 := if_neg (by rintro ⟨h1, h2⟩; rcases h with h | h <;> simp [h] at h1 h2)

/-- OrdNumber. -/
def num : T → Int
  | z => 0
  | c n z _ => n
  | c _ (c _ _ _) _ => -1
noncomputable def numRow (xs : List Int) : Int := if vldB xs = true then (of xs).num else -1

/-- OrdKind. -/
def kind : T → Int
  | z => 0
  | c _ e z => if e.cnt = 0 then 1 else 2
  | c _ _ (c n e r) => (c n e r).kind
noncomputable def kindRow (xs : List Int) : Int := if vldB xs = true then (of xs).kind else -1

/-- The kind, by the last term. -/
theorem kind_app (d : T) (n : Int) (e : T) : (d.app (c n e z)).kind = if e.cnt = 0 then 1 else 2 := by
  induction d with
  | z => simp [app, kind]
  | c m f r _ ih =>
    cases r with
    | z => simp [app, kind]
    | c m' f' r' => simp only [app, kind] at ih ⊢; exact ih

/-- A tree with terms has a last one. -/
theorem last_of (t : T) (h : 0 < t.cnt) : ∃ d n e, t = app d (c n e z) ∧ d.cnt + 1 = t.cnt := by
  induction t with
  | z => simp [cnt] at h
  | c n e r _ ih =>
    cases r with
    | z => exact ⟨z, n, e, rfl, rfl⟩
    | c m f q =>
      obtain ⟨d, n', e', h1, h2⟩ := ih (by simp [cnt])
      exact ⟨c n e d, n', e', by rw [h1]; rfl, by simp [cnt] at h2 ⊢; omega⟩

/-- OrdNext. -/
def next (t : T) : T := if t.kind = 1 then next.bump t else t.app (c 1 z z)
where bump : T → T
  | z => z
  | c n e z => c (n + 1) e z
  | c n e (c m f q) => c n e (bump (c m f q))

theorem bump_app (d : T) (n : Int) (e : T) : next.bump (d.app (c n e z)) = d.app (c (n + 1) e z) := by
  induction d with
  | z => simp [app, next.bump]
  | c m f r _ ih =>
    cases r with
    | z => simp [app, next.bump]
    | c m' f' r' => simp only [app, next.bump] at ih ⊢; rw [ih]

/-- A row, if it is valid. -/
noncomputable def fit (t : T) : List Int := if vldB t.enc = true then t.enc else []
noncomputable def nextRow (xs : List Int) : List Int := if vldB xs = true then fit (of xs).next else []
noncomputable def nextOk (xs : List Int) : Bool := vldB xs && vldB (of xs).next.enc
noncomputable def powRow (xs : List Int) : List Int := if vldB xs = true then fit (c 1 (of xs) z) else []
noncomputable def powOk (xs : List Int) : Bool := vldB xs && vldB (c 1 (of xs) z).enc

theorem fit_len (t : T) : (fit t).length ≤ 1000 := by
  unfold fit
  split
  · rename_i h
    have := (vldB_true.1 h).1
    omega
  · simp
theorem powRow_len (xs : List Int) : (powRow xs).length ≤ 1000 := by
  unfold powRow
  split
  · exact fit_len _
  · simp
theorem nextRow_len (xs : List Int) : (nextRow xs).length ≤ 1000 := by
  unfold nextRow
  split
  · exact fit_len _
  · simp

/-- OrdBefore. -/
def less : T → T
  | z => z
  | c n e z => if n = 1 then z else c (n - 1) e z
  | c n e (c m f q) => c n e (less (c m f q))
theorem less_app (d : T) (n : Int) (e : T) : less (d.app (c n e z)) = if n = 1 then d else d.app (c (n - 1) e z) := by
  induction d with
  | z => simp [app, less]
  | c m f r _ ih =>
    cases r with
    | z =>
      simp only [app, less]
      split <;> rfl
    | c m' f' r' =>
      simp only [app, less] at ih ⊢
      rw [ih]; split <;> rfl
noncomputable def befRow (xs : List Int) : List Int := if vldB xs = true ∧ (of xs).kind = 1 then (of xs).less.enc else []
noncomputable def befOk (xs : List Int) : Bool := vldB xs && decide ((of xs).kind = 1)

theorem less_len (t : T) : t.less.body.length ≤ t.body.length := by
  induction t with
  | z => simp [less]
  | c n e r _ ih =>
    cases r with
    | z =>
      simp only [less]
      split
      · simp [body]
      · simp [body]
    | c m f q =>
      simp only [less]
      rw [body_c, body_c (r := c m f q)]
      simp
      exact ih
theorem befRow_len (xs : List Int) : (befRow xs).length ≤ 1000 := by
  unfold befRow
  split
  · rename_i h
    obtain ⟨t, h1, h2, h3, h4⟩ := vld_of h.1
    rw [h4]
    have := less_len t
    rw [enc_len] at h3 ⊢
    omega
  · simp

/-- OrdDepth. -/
def depth : T → Nat
  | z => 0
  | c _ e _ => e.depth + 1
noncomputable def depRow (xs : List Int) : Int := if vldB xs = true then ((of xs).depth : Int) else -1

/-- OrdOf. -/
def num' (n : Int) : List Int := if n < 0 ∨ 9999 < n then [] else if n = 0 then [0] else [1, n, 0]
theorem num'_enc {n : Int} (h : 1 ≤ n) (h2 : n ≤ 9999) : num' n = (c n z z).enc := by
  rw [num', if_neg (by omega), if_neg (by omega)]; rfl

end T
end Go.Proofs.Ytdcgcohfbcdnnaa

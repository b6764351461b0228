/- Plain mathematics of ordinals as rows of numbers: trees, their rows, their order, and what a row can be read as. It imports nothing of the program. -/
import Derived.WalkKit
namespace Go.Proofs.Ytdcgcohfbcdnnaa
set_option maxRecDepth 100000

/-- An ordinal: 0, or a term (a number and an exponent) and the terms behind it. -/
inductive T where
  | z : T
  | c : Int → T → T → T

namespace T

def cnt : T → Nat
  | z => 0
  | c _ _ r => r.cnt + 1

def body : T → List Int
  | z => []
  | c n e r => n :: (((e.cnt : Int) :: e.body) ++ r.body)

def enc (t : T) : List Int := (t.cnt : Int) :: t.body

theorem enc_len (t : T) : t.enc.length = t.body.length + 1 := by simp [enc]
theorem body_c (n : Int) (e r : T) : (c n e r).body = n :: (e.enc ++ r.body) := by simp [body, enc]
theorem enc_ne (t : T) : t.enc ≠ [] := by simp [enc]
theorem cnt_le (t : T) : t.cnt ≤ t.body.length := by
  induction t with
  | z => simp [cnt, body]
  | c n e r ihe ihr => simp [cnt, body]; omega

theorem body_inj (s t : T) : ∀ (r₁ r₂ : List Int), s.cnt = t.cnt → s.body ++ r₁ = t.body ++ r₂ → s = t ∧ r₁ = r₂ := by
  induction s generalizing t with
  | z =>
    intro r₁ r₂ hc h
    cases t with
    | z => exact ⟨rfl, by simpa [body] using h⟩
    | c n e r => simp [cnt] at hc
  | c n e r ihe ihr =>
    intro r₁ r₂ hc h
    cases t with
    | z => simp [cnt] at hc
    | c n' e' r' =>
      simp only [body, List.cons_append, List.cons.injEq, List.append_assoc] at h
      obtain ⟨h1, h2, h3⟩ := h
      obtain ⟨he, h4⟩ := ihe e' _ _ (by omega) h3
      obtain ⟨hr, h5⟩ := ihr r' _ _ (by simpa [cnt] using hc) h4
      exact ⟨by rw [h1, he, hr], h5⟩

theorem enc_inj {s t : T} {r₁ r₂ : List Int} (h : s.enc ++ r₁ = t.enc ++ r₂) : s = t ∧ r₁ = r₂ := by
  simp only [enc, List.cons_append, List.cons.injEq] at h
  exact body_inj s t r₁ r₂ (by omega) h.2

theorem enc_inj' {s t : T} (h : s.enc = t.enc) : s = t := (enc_inj (r₁ := []) (r₂ := []) (by simpa using h)).1

/-- -1, 0 or 1. -/
def cmp : T → T → Int
  | z, z => 0
  | z, c _ _ _ => -1
  | c _ _ _, z => 1
  | c n e r, c n' e' r' =>
    if e.cmp e' = 0 then (if n < n' then -1 else if n' < n then 1 else r.cmp r') else e.cmp e'

theorem cmp_c (n e r n' e' r') : (c n e r).cmp (c n' e' r') = if e.cmp e' = 0 then (if n < n' then -1 else if n' < n then 1 else r.cmp r') else e.cmp e' := by rw [cmp]

theorem cmp_vals (s t : T) : s.cmp t = -1 ∨ s.cmp t = 0 ∨ s.cmp t = 1 := by
  induction s generalizing t with
  | z => cases t <;> simp [cmp]
  | c n e r ihe ihr =>
    cases t with
    | z => simp [cmp]
    | c n' e' r' =>
      rw [cmp_c]
      split
      · split
        · simp
        · split
          · simp
          · exact ihr r'
      · exact ihe e'

theorem cmp_refl (t : T) : t.cmp t = 0 := by
  induction t with
  | z => rfl
  | c n e r ihe ihr => rw [cmp_c, if_pos ihe, if_neg (by omega), if_neg (by omega), ihr]

theorem cmp_eq {s t : T} (h : s.cmp t = 0) : s = t := by
  induction s generalizing t with
  | z => cases t with
    | z => rfl
    | c n e r => simp [cmp] at h
  | c n e r ihe ihr =>
    cases t with
    | z => simp [cmp] at h
    | c n' e' r' =>
      rw [cmp_c] at h
      by_cases he : e.cmp e' = 0
      · rw [if_pos he] at h
        by_cases h1 : n < n'
        · rw [if_pos h1] at h; omega
        · rw [if_neg h1] at h
          by_cases h2 : n' < n
          · rw [if_pos h2] at h; omega
          · rw [if_neg h2] at h
            rw [ihe he, ihr h, show n = n' by omega]
      · rw [if_neg he] at h; exact absurd h he

theorem cmp_eq_iff {s t : T} : s.cmp t = 0 ↔ s = t := ⟨cmp_eq, fun h => by rw [h, cmp_refl]⟩

theorem cmp_swap (s t : T) : t.cmp s = - s.cmp t := by
  induction s generalizing t with
  | z => cases t <;> simp [cmp]
  | c n e r ihe ihr =>
    cases t with
    | z => simp [cmp]
    | c n' e' r' =>
      rw [cmp_c, cmp_c, ihe e', ihr r']
      by_cases he : e.cmp e' = 0
      · rw [if_pos he, if_pos (by omega)]
        by_cases h1 : n < n'
        · rw [if_pos h1, if_neg (by omega), if_pos h1]; rfl
        · by_cases h2 : n' < n
          · simp only [if_pos h2, if_neg h1]
          · simp only [if_neg h2, if_neg h1]
      · rw [if_neg he, if_neg (by omega)]

theorem cmp_trans {a b d : T} (h1 : a.cmp b = -1) (h2 : b.cmp d = -1) : a.cmp d = -1 := by
  induction a generalizing b d with
  | z =>
    cases d with
    | z => cases b with
      | z => simp [cmp] at h1
      | c n e r => simp [cmp] at h2
    | c n e r => rfl
  | c n e r ihe ihr =>
    cases b with
    | z => simp [cmp] at h1
    | c n1 e1 r1 =>
      cases d with
      | z => simp [cmp] at h2
      | c n2 e2 r2 =>
        rw [cmp_c] at h1 h2 ⊢
        by_cases he : e.cmp e1 = 0
        · obtain rfl := cmp_eq he
          rw [if_pos he] at h1
          by_cases he2 : e.cmp e2 = 0
          · rw [if_pos he2] at h2 ⊢
            by_cases l1 : n < n1
            · by_cases l2 : n1 < n2
              · rw [if_pos (by omega)]
              · rw [if_neg l2] at h2
                by_cases l3 : n2 < n1
                · rw [if_pos l3] at h2; omega
                · rw [if_pos (by omega)]
            · rw [if_neg l1] at h1
              by_cases l3 : n1 < n
              · rw [if_pos l3] at h1; omega
              · rw [if_neg l3] at h1
                obtain rfl : n = n1 := by omega
                by_cases l2 : n < n2
                · rw [if_pos l2]
                · rw [if_neg l2] at h2 ⊢
                  by_cases l4 : n2 < n
                  · rw [if_pos l4] at h2; omega
                  · rw [if_neg l4] at h2 ⊢
                    exact ihr h1 h2
          · rw [if_neg he2] at h2 ⊢; exact h2
        · rw [if_neg he] at h1
          by_cases he2 : e1.cmp e2 = 0
          · obtain rfl := cmp_eq he2
            rw [if_neg he]; exact h1
          · rw [if_neg he2] at h2
            have h3 := ihe h1 h2
            rw [if_neg (by omega)]; exact h3

/-- The first exponent of what follows is less than this one. -/
def ok (p : Option T) (r : T) : Prop := ∀ q, p = some q → ∀ n e r', r = c n e r' → e.cmp q = -1

theorem ok_none (r : T) : ok none r := fun q h => by cases h
theorem ok_z (p : Option T) : ok p z := fun q _ n e r' h => by cases h
theorem ok_c {q : T} {n : Int} {e r : T} : ok (some q) (c n e r) ↔ e.cmp q = -1 :=
  ⟨fun h => h q rfl n e r rfl, fun h q' hq n' e' r' hr => by cases hq; cases hr; exact h⟩

/-- A valid ordinal, however long. -/
def Nf : T → Prop
  | z => True
  | c n e r => 1 ≤ n ∧ n ≤ 9999 ∧ e.Nf ∧ r.Nf ∧ ok (some e) r

def Res (p : Option T) (k : Nat) (ys : List Int) (r : T) (rest : List Int) : Prop := ys = r.body ++ rest ∧ r.cnt = k ∧ r.Nf ∧ ok p r

/-- How many numbers are left behind k terms that can be read, -1 if they can't. -/
noncomputable def out (p : Option T) (k : Nat) (ys : List Int) : Int :=
  open Classical in if h : ∃ rest r, Res p k ys r rest then (h.choose.length : Int) else -1

theorem out_of {p k ys r rest} (h : Res p k ys r rest) : out p k ys = rest.length := by
  unfold out
  have hx : ∃ rest r, Res p k ys r rest := ⟨rest, r, h⟩
  rw [dif_pos hx]
  obtain ⟨r', h'⟩ := hx.choose_spec
  have := (body_inj r r' rest hx.choose (by rw [h.2.1, h'.2.1]) (by rw [← h.1, ← h'.1])).2
  rw [← this]

theorem out_none {p k ys} (h : ∀ r rest, ¬ Res p k ys r rest) : out p k ys = -1 := by
  unfold out
  rw [dif_neg (fun ⟨rest, r, h'⟩ => h r rest h')]

/-- The same of a whole ordinal. -/
noncomputable def oute (ys : List Int) : Int :=
  open Classical in if h : ∃ rest t, ys = enc t ++ rest ∧ t.Nf then (h.choose.length : Int) else -1

theorem oute_of {ys : List Int} {t : T} {rest : List Int} (h : ys = enc t ++ rest) (hn : t.Nf) : oute ys = rest.length := by
  unfold oute
  have hx : ∃ rest t, ys = enc t ++ rest ∧ t.Nf := ⟨rest, t, h, hn⟩
  rw [dif_pos hx]
  obtain ⟨t', h', _⟩ := hx.choose_spec
  rw [← (enc_inj (h.symm.trans h')).2]

theorem oute_none {ys : List Int} (h : ∀ t rest, ys = enc t ++ rest → ¬ t.Nf) : oute ys = -1 := by
  unfold oute
  rw [dif_neg (fun ⟨rest, t, h', hn⟩ => h t rest h' hn)]

theorem oute_cases (ys : List Int) : oute ys = -1 ∨ ∃ t rest, ys = enc t ++ rest ∧ t.Nf ∧ oute ys = rest.length := by
  by_cases hx : ∃ rest t, ys = enc t ++ rest ∧ t.Nf
  · obtain ⟨rest, t, h, hn⟩ := hx
    exact .inr ⟨t, rest, h, hn, oute_of h hn⟩
  · exact .inl (oute_none fun t rest h hn => hx ⟨rest, t, h, hn⟩)

theorem oute_nil : oute [] = -1 := oute_none fun t rest h => by simp [enc] at h
theorem oute_neg {x : Int} {ys : List Int} (h : x < 0) : oute (x :: ys) = -1 := oute_none fun t rest h' => by
  simp [enc] at h'; omega
theorem oute_big {x : Int} {ys : List Int} (h : (ys.length : Int) < x) : oute (x :: ys) = -1 := oute_none fun t rest h' => by
  simp only [enc, List.cons_append, List.cons.injEq] at h'
  have := cnt_le t
  have h2 := congrArg List.length h'.2
  simp at h2
  omega
theorem oute_out (k : Nat) (ys : List Int) : oute ((k : Int) :: ys) = out none k ys := by
  by_cases hx : ∃ rest t, (k : Int) :: ys = enc t ++ rest ∧ t.Nf
  · obtain ⟨rest, t, h, hn⟩ := hx
    rw [oute_of h hn]
    simp only [enc, List.cons_append, List.cons.injEq] at h
    exact (out_of ⟨h.2, by omega, hn, ok_none t⟩).symm
  · rw [oute_none fun t rest h hn => hx ⟨rest, t, h, hn⟩, out_none]
    intro r rest h
    exact hx ⟨rest, r, by simp [enc, h.1, h.2.1], h.2.2.1⟩

theorem out_zero (p : Option T) (ys : List Int) : out p 0 ys = ys.length :=
  out_of (r := z) ⟨by simp [body], rfl, trivial, ok_z p⟩

theorem res_succ {p k ys r rest} (h : Res p (k + 1) ys r rest) : ∃ n e r' , r = c n e r' ∧ ys = n :: (e.enc ++ (r'.body ++ rest)) ∧ 1 ≤ n ∧ n ≤ 9999 ∧ e.Nf ∧ Res (some e) k (r'.body ++ rest) r' rest ∧ ok p r := by
  obtain ⟨h1, h2, h3, h4⟩ := h
  cases r with
  | z => simp [cnt] at h2
  | c n e r' =>
    obtain ⟨a, b, d, f, g⟩ := h3
    refine ⟨n, e, r', rfl, by rw [h1, body_c]; simp, a, b, d, ⟨rfl, by simpa [cnt] using h2, f, g⟩, h4⟩

theorem out_nil (p : Option T) (k : Nat) : out p (k + 1) [] = -1 := out_none fun r rest h => by
  obtain ⟨n, e, r', _, h', _⟩ := res_succ h; cases h'
theorem out_bad (p : Option T) (k : Nat) (n : Int) (ys : List Int) (h : n < 1 ∨ 9999 < n) : out p (k + 1) (n :: ys) = -1 := out_none fun r rest hr => by
  obtain ⟨n', e, r', _, h', h1, h2, _⟩ := res_succ hr
  simp only [List.cons.injEq] at h'
  omega
theorem out_noexp (p : Option T) (k : Nat) (n : Int) (ys : List Int) (h : oute ys = -1) : out p (k + 1) (n :: ys) = -1 := out_none fun r rest hr => by
  obtain ⟨n', e, r', _, h', _, _, h3, _⟩ := res_succ hr
  simp only [List.cons.injEq] at h'
  rw [oute_of h'.2 h3] at h
  omega
theorem out_order (q : T) (k : Nat) (n : Int) (e : T) (ys : List Int) (h : ¬ e.cmp q = -1) : out (some q) (k + 1) (n :: (e.enc ++ ys)) = -1 := out_none fun r rest hr => by
  obtain ⟨n', e', r', h0, h', _, _, h3, _, h4⟩ := res_succ hr
  simp only [List.cons.injEq] at h'
  obtain ⟨rfl, _⟩ := enc_inj h'.2
  rw [h0] at h4
  exact h (ok_c.1 h4)
theorem out_step (p : Option T) (k : Nat) (n : Int) (e : T) (ys : List Int) (h1 : 1 ≤ n) (h2 : n ≤ 9999) (hn : e.Nf) (ho : ∀ q, p = some q → e.cmp q = -1) :
    out p (k + 1) (n :: (e.enc ++ ys)) = out (some e) k ys := by
  by_cases hx : ∃ rest r, Res (some e) k ys r rest
  · obtain ⟨rest, r, h⟩ := hx
    rw [out_of h]
    refine out_of (r := c n e r) ⟨by rw [body_c, h.1]; simp, by simp [cnt, h.2.1], ⟨h1, h2, hn, h.2.2.1, h.2.2.2⟩, ?_⟩
    intro q hq n' e' r' he
    cases he
    exact ho q hq
  · rw [out_none (p := some e) fun r rest h => hx ⟨rest, r, h⟩]
    refine out_none fun r rest hr => ?_
    obtain ⟨n', e', r', h0, h', _, _, h3, h5, h4⟩ := res_succ hr
    simp only [List.cons.injEq] at h'
    obtain ⟨rfl, h6⟩ := enc_inj h'.2
    exact hx ⟨rest, r', by rw [h6]; exact h5⟩

/-- A row that OrdValid reports. -/
def Vld (xs : List Int) : Prop := xs.length ≤ 60 ∧ ∃ t, xs = enc t ∧ t.Nf

theorem vld_iff (xs : List Int) : Vld xs ↔ xs.length ≤ 60 ∧ oute xs = 0 := by
  constructor
  · rintro ⟨h, t, rfl, hn⟩
    exact ⟨h, by rw [oute_of (rest := []) (by simp) hn]; rfl⟩
  · rintro ⟨h, h0⟩
    refine ⟨h, ?_⟩
    rcases oute_cases xs with h1 | ⟨t, rest, h1, hn, h2⟩
    · omega
    · have : rest = [] := by cases rest with
        | nil => rfl
        | cons x r => simp at h2; omega
      exact ⟨t, by simpa [this] using h1, hn⟩

/-- The same as a truth that the walk does not open. -/
noncomputable def vldB (xs : List Int) : Bool := @decide (Vld xs) (Classical.propDecidable _)
theorem vldB_true {xs : List Int} : vldB xs = true ↔ Vld xs := by unfold vldB; simp
theorem vldB_false {xs : List Int} : vldB xs = false ↔ ¬ Vld xs := by unfold vldB; simp

end T
end Go.Proofs.Ytdcgcohfbcdnnaa

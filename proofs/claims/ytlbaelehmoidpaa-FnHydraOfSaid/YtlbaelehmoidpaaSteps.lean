/- Steps down, slow values and greatest numbers, on trees. -/
import Derived.Test.YtlbaelehmoidpaaFnMath
namespace Go.Proofs.Ytlbaelehmoidpaa
set_option maxRecDepth 100000
namespace T

/-- OrdMost. -/
def most : T → Int
  | z => 0
  | c n e r => max n (max e.most r.most)
theorem most_nonneg (t : T) : 0 ≤ t.most := by
  induction t with
  | z => simp [most]
  | c n e r _ ih => simp only [most]; omega
theorem most_app (d u : T) : (d.app u).most = max d.most u.most := by
  induction d with
  | z => have := most_nonneg u; simp only [app, most]; omega
  | c n e r _ ih => simp only [app, most, ih]; omega
theorem most_snoc (d : T) (n : Int) (e : T) : (d.app (c n e z)).most = max d.most (max n e.most) := by
  have := most_nonneg d
  have := most_nonneg e
  rw [most_app]; simp only [most]; omega
theorem nf_app {d u : T} (h : (d.app u).Nf) : d.Nf ∧ u.Nf := by
  induction d with
  | z => exact ⟨trivial, h⟩
  | c n e r _ ih =>
    obtain ⟨h1, h2, h3, h4, h5⟩ := h
    refine ⟨⟨h1, h2, h3, (ih h4).1, ?_⟩, (ih h4).2⟩
    cases r with
    | z => exact ok_z _
    | c n' e' r' => exact ok_c.2 (ok_c.1 h5)
theorem most_le {t : T} (h : t.Nf) : t.most ≤ 9999 := by
  induction t with
  | z => simp [most]
  | c n e r ihe ihr =>
    obtain ⟨h1, h2, h3, h4, h5⟩ := h
    have := ihe h3
    have := ihr h4
    simp only [most]; omega
noncomputable def mostRow (xs : List Int) : Int := if vldB xs = true then (of xs).most else -1

/-- SlowValue: the value itself. -/
def slow (b : Nat) : T → Nat
  | z => 0
  | c n e r => n.toNat * b ^ e.slow b + r.slow b
theorem slow_app (b : Nat) (d u : T) : (d.app u).slow b = d.slow b + u.slow b := by
  induction d with
  | z => simp [app, slow]
  | c n e r _ ih => simp only [app, slow, ih]; omega
theorem pow_gt {b : Nat} (hb : 2 ≤ b) (v : Nat) : v < b ^ v := by
  induction v with
  | zero => simp
  | succ v ih =>
    rw [Nat.pow_succ]
    have h1 : b ^ v * 2 ≤ b ^ v * b := Nat.mul_le_mul_left _ hb
    omega
theorem slow_one {t : T} (h : t.Nf) : t.slow 1 ≤ 9999 * t.cnt := by
  induction t with
  | z => simp [slow]
  | c n e r _ ih =>
    obtain ⟨h1, h2, h3, h4, h5⟩ := h
    have := ih h4
    simp only [slow, cnt, Nat.one_pow, Nat.mul_one]
    omega
/-- What is too great in an exponent is too great in the whole. -/
theorem slow_exp {b : Nat} (hb : 1 ≤ b) {n : Int} {e : T} (hn : 1 ≤ n) (he : e.Nf) (hc : e.cnt ≤ 60) (h : 1000000000 < e.slow b) : 1000000000 < (c n e z).slow b := by
  rcases Nat.lt_or_ge 1 b with h1 | h1
  · have h2 := pow_gt h1 (e.slow b)
    have h3 : 1 * b ^ e.slow b ≤ n.toNat * b ^ e.slow b := Nat.mul_le_mul_right _ (by omega)
    simp only [slow]
    omega
  · obtain rfl : b = 1 := by omega
    have := slow_one he
    omega
def slowI (b : Nat) (t : T) : Int := if t.slow b ≤ 1000000000 then (t.slow b : Int) else -1
noncomputable def slowRow (xs : List Int) (n : Int) : Int := if vldB xs = true ∧ 1 ≤ n ∧ n ≤ 99 then slowI n.toNat (of xs) else -1

/-- OrdStep. -/
def step (k : Int) : T → T
  | z => z
  | c n e z => (if n = 1 then z else c (n - 1) e z).app (if e.kind = 0 then z else if e.kind = 1 then (if k = 0 then z else c k (step k e) z) else c 1 (step k e) z)
  | c n e (c m f q) => c n e (step k (c m f q))
/-- What comes behind the terms that are left. -/
def tail (k : Int) (e : T) : T := if e.kind = 0 then z else if e.kind = 1 then (if k = 0 then z else c k (step k e) z) else c 1 (step k e) z
theorem step_app (k : Int) (d : T) (n : Int) (e : T) : (d.app (c n e z)).step k = ((d.app (c n e z)).less).app (tail k e) := by
  rw [less_app]
  induction d with
  | z => simp only [app, step, tail]
  | c m f r _ ih =>
    cases r with
    | z =>
      simp only [app, step, tail] at ih ⊢
      split <;> simp_all [app]
    | c m' f' r' =>
      simp only [app, step] at ih ⊢
      rw [ih]
      split <;> rfl
theorem less_blen (t : T) : t.less.body.length ≤ t.body.length := less_len t
theorem last_len {d : T} {n : Int} {e : T} : (d.app (c n e z)).body.length = d.body.length + 2 + e.body.length := by
  rw [app_body, body_c]; simp [enc, body]; omega
theorem step_len (k : Int) (t : T) : (t.step k).body.length ≤ t.body.length * t.body.length + t.body.length := by
  induction t with
  | z => simp [step, body]
  | c n e r ihe ihr =>
    cases r with
    | z =>
      have h1 := step_app k z n e
      simp only [app] at h1
      rw [h1, app_body, List.length_append]
      have h2 := less_len (c n e z)
      have h3 : (c n e z).body.length = 2 + e.body.length := by rw [body_c]; simp [enc, body]; omega
      have h4 : (tail k e).body.length ≤ 2 + (e.step k).body.length := by
        unfold tail
        split
        · simp [body]
        · split
          · split
            · simp [body]
            · rw [body_c]; simp [enc, body]; omega
          · rw [body_c]; simp [enc, body]; omega
      rw [h3] at h2 ⊢
      generalize e.body.length = x at *
      have h5 : (2 + x) * (2 + x) = x * x + 4 * x + 4 := by
        simp only [Nat.add_mul, Nat.mul_add]; omega
      omega
    | c m f q =>
      have h1 : (c n e (c m f q)).step k = c n e ((c m f q).step k) := rfl
      rw [h1, body_c, body_c (r := c m f q)]
      simp only [List.length_cons, List.length_append]
      generalize (c m f q).body.length = y at *
      generalize e.enc.length = x at *
      have h5 : (x + y + 1) * (x + y + 1) ≥ y * y + (x + y + 1) := by
        have h6 : (x + y + 1) * (x + y + 1) = (x + y) * (x + y) + 2 * (x + y) + 1 := by simp only [Nat.add_mul, Nat.mul_add]; omega
        have h7 : y * y ≤ (x + y) * (x + y) := Nat.mul_le_mul (by omega) (by omega)
        omega
      omega
noncomputable def stepRow (xs : List Int) (n : Int) : List Int := if vldB xs = true ∧ 0 ≤ n ∧ n ≤ 99 then fit ((of xs).step n) else []
noncomputable def stepOk (xs : List Int) (n : Int) : Bool := vldB xs && (decide (0 ≤ n ∧ n ≤ 99) && vldB ((of xs).step n).enc)
theorem stepRow_len (xs : List Int) (n : Int) : (stepRow xs n).length ≤ 1000 := by
  unfold stepRow
  split
  · exact fit_len _
  · simp

end T
end Go.Proofs.Ytlbaelehmoidpaa

/- Products: brackets, sums from the left, and 1. -/
import Derived.Test.YtaleaagnkfbhpabMul
import Derived.Test.YtaleaagnkfbhpabAddM
namespace Go.Proofs.Ytaleaagnkfbhpab
namespace T

theorem add_ne {s t : T} (h : t ≠ z) : add s t ≠ z := by
  cases t with
  | z => exact absurd rfl h
  | c m e r =>
    obtain ⟨x, hx⟩ := add_form s m e r
    rw [hx]
    cases takeGt e s <;> simp [app]
theorem mulT_assoc (m n : Int) (p a q b : T) : ∀ d : T, mul (mulT m p a (c n q b)) d = mulT m p a (mulT n q b d) := by
  intro d
  by_cases hq : q = z
  · subst hq
    rw [mulT_zero]
    show mulT (m * n) p a d = _
    induction d with
    | z => rfl
    | c k e r _ ih =>
      by_cases he : e = z
      · subst he; rw [mulT_zero, mulT_zero, mulT_zero, Int.mul_assoc]
      · rw [mulT_pos _ _ _ _ _ he, mulT_pos _ _ _ _ _ he, z_add, mulT_pos _ _ _ _ _ he, ih]
  · rw [mulT_pos _ _ _ _ _ hq]
    show mulT n (add p q) (mulT m p a b) d = _
    induction d with
    | z => rfl
    | c k e r _ ih =>
      by_cases he : e = z
      · subst he; rw [mulT_zero, mulT_zero, mulT_pos _ _ _ _ _ hq]
      · rw [mulT_pos _ _ _ _ _ he, mulT_pos _ _ _ _ _ he, mulT_pos _ _ _ _ _ (add_ne he), add_assoc, ih]
theorem mul_assoc (s t u : T) : mul (mul s t) u = mul s (mul t u) := by
  cases s with
  | z => rfl
  | c m p a =>
    cases t with
    | z => rw [mul_z, z_mul, mul_z]
    | c n q b => exact mulT_assoc m n p a q b u

theorem add_zero_lt {p g : T} (hg : g.Pos) (h : g ≠ z) : p.cmp (add p g) = -1 := by
  cases g with
  | z => exact absurd rfl h
  | c m e r =>
    have h1 := add_self (s := p) (e := e) (r := r) hg.1
    have h2 := cmp_swap p (add p (c m e r))
    omega
theorem cmp_z_lt {q g : T} (h : q.cmp g = -1) : g ≠ z := by
  intro hg
  subst hg
  cases q <;> simp [cmp] at h
theorem mul_add (m : Int) (p a : T) (hp : p.Nf) : ∀ (b d : T), b.Nf → d.Nf → mulT m p a (add b d) = add (mulT m p a b) (mulT m p a d) := by
  intro b
  induction b with
  | z => intro d _ _; rw [z_add]; show _ = add z _; rw [z_add]
  | c n q r _ ih =>
    intro d hb hd
    cases d with
    | z => rfl
    | c k g h =>
      have pp := nf_pos hp
      have pq := nf_pos hb.2.2.1
      have pg := nf_pos hd.2.2.1
      have hmo := add_mono p g q pp pg pq
      rcases cmp_vals q g with h1 | h1 | h1
      · have hg := cmp_z_lt h1
        rw [add_lt n k r h h1, mulT_pos _ _ _ _ _ hg]
        by_cases hq : q = z
        · subst hq
          rw [mulT_zero, add_lt _ _ _ _ (add_zero_lt pg hg)]
        · rw [mulT_pos _ _ _ _ _ hq, add_lt _ _ _ _ (by omega)]
      · have hqg := cmp_eq h1
        subst hqg
        rw [add_eq n k r h h1]
        by_cases hq : q = z
        · subst hq
          rw [mulT_zero, mulT_zero, mulT_zero, add_eq _ _ _ _ (cmp_refl p), Int.mul_add]
        · rw [mulT_pos _ _ _ _ _ hq, mulT_pos _ _ _ _ _ hq, mulT_pos _ _ _ _ _ hq, add_eq _ _ _ _ (cmp_refl _)]
      · have hq : q ≠ z := cmp_z_lt (q := g) (by have := cmp_swap q g; omega)
        rw [add_gt n k r h h1, mulT_pos _ _ _ _ _ hq, mulT_pos _ _ _ _ _ hq, ih _ hb.2.2.2.1 hd]
        by_cases hg : g = z
        · subst hg
          rw [mulT_zero, add_gt _ _ _ _ (by have h2 := add_zero_lt (p := p) pq hq; have := cmp_swap p (add p q); omega)]
        · rw [mulT_pos _ _ _ _ _ hg, add_gt _ _ _ _ (by omega)]

theorem mul_one (s : T) : mul s (c 1 z z) = s := by
  cases s with
  | z => rfl
  | c m p a => show c (m * 1) p a = _; rw [Int.mul_one]
theorem one_mul {t : T} (h : t.Nf) : mul (c 1 z z) t = t := by
  show mulT 1 z z t = t
  induction t with
  | z => rfl
  | c n q r _ ih =>
    by_cases hq : q = z
    · subst hq
      have hr : r = z := by
        cases r with
        | z => rfl
        | c n' f' q' => exact absurd rfl (cmp_z_lt (ok_c.1 h.2.2.2.2))
      subst hr
      rw [mulT_zero, Int.one_mul]
    · rw [mulT_pos _ _ _ _ _ hq, z_add, ih h.2.2.2.1]

theorem mulOk_true {xs ys : List Int} (h : mulOk xs ys = true) : vldB xs = true ∧ vldB ys = true ∧ vldB (mulRow xs ys) = true ∧ of (mulRow xs ys) = mul (of xs) (of ys) := by
  have h1 : (vldB xs = true ∧ vldB ys = true) ∧ vldB (mul (of xs) (of ys)).enc = true := by simpa [mulOk] using h
  have h2 : mulRow xs ys = (mul (of xs) (of ys)).enc := by rw [(mulRow_val h1.1.1 h1.1.2).1, fit, if_pos h1.2]
  exact ⟨h1.1.1, h1.1.2, by rw [h2]; exact h1.2, by rw [h2, of_enc]⟩
theorem mulOk_false {xs ys : List Int} (h : mulOk xs ys = false) : mulRow xs ys = [] := by
  rw [mulRow]
  split
  · rename_i h1
    rw [fit, if_neg]
    intro h2
    rw [mulOk, h1.1, h1.2, h2] at h
    cases h
  · rfl
theorem mulRow_assoc {xs ys zs : List Int} (h : mulOk xs ys = true) (hp : mulOk (mulRow xs ys) zs = true) (hq : mulOk ys zs = true) (hr : mulOk xs (mulRow ys zs) = true) :
    mulRow (mulRow xs ys) zs = mulRow xs (mulRow ys zs) := by
  obtain ⟨_, _, _, a4⟩ := mulOk_true h
  obtain ⟨_, _, b3, b4⟩ := mulOk_true hp
  obtain ⟨_, _, _, c4⟩ := mulOk_true hq
  obtain ⟨_, _, d3, d4⟩ := mulOk_true hr
  rw [← enc_of b3, ← enc_of d3, b4, d4, a4, c4, mul_assoc]
theorem mul_add' (s t u : T) (hs : s.Nf) (ht : t.Nf) (hu : u.Nf) : mul s (add t u) = add (mul s t) (mul s u) := by
  cases s with
  | z => rfl
  | c m p a => exact mul_add m p a hs.2.2.1 t u ht hu
theorem mulRow_add {xs ys zs : List Int} (h : mulOk xs ys = true) (hp : addOk ys zs = true) (hq : mulOk xs (addRow ys zs) = true) (hr : mulOk xs zs = true) (hs : addOk (mulRow xs ys) (mulRow xs zs) = true) :
    mulRow xs (addRow ys zs) = addRow (mulRow xs ys) (mulRow xs zs) := by
  obtain ⟨a1, a2, _, a4⟩ := mulOk_true h
  obtain ⟨_, b2, b3, b4⟩ := addOk_true hp
  obtain ⟨_, _, c3, c4⟩ := mulOk_true hq
  obtain ⟨_, _, d3, d4⟩ := mulOk_true hr
  obtain ⟨_, _, e3, e4⟩ := addOk_true hs
  rw [← enc_of c3, ← enc_of e3, c4, e4, b4, a4, d4, mul_add' _ _ _ (nf_of a1) (nf_of a2) (nf_of b2)]
theorem mulRow_one {xs : List Int} (h : vldB xs = true) : mulRow xs [1, 1, 0] = xs ∧ mulOk xs [1, 1, 0] = true ∧ mulRow [1, 1, 0] xs = xs ∧ mulOk [1, 1, 0] xs = true := by
  have e1 : ([1, 1, 0] : List Int) = (c 1 z z).enc := rfl
  have h1 : vldB (c 1 z z).enc = true := vldB_true.2 ⟨by decide, _, rfl, by omega, by omega, trivial, trivial, ok_z _⟩
  obtain ⟨a1, a2⟩ := mulRow_val h h1
  obtain ⟨b1, b2⟩ := mulRow_val h1 h
  rw [e1, a1, a2, b1, b2, of_enc, mul_one, one_mul (nf_of h), fit, enc_of h, if_pos h]
  exact ⟨rfl, h, rfl, h⟩

end T
end Go.Proofs.Ytaleaagnkfbhpab

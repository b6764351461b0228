/- Products, on trees and on rows. -/
import Derived.Test.YtaleaagnkfbhpabAdd
namespace Go.Proofs.Ytaleaagnkfbhpab
namespace T

/-- An ordinal that is not 0 (m times w to the power of p, and a behind it) times another one. -/
def mulT (m : Int) (p a : T) : T → T
  | z => z
  | c n z _ => c (m * n) p a
  | c n (c k g h) r => c n (add p (c k g h)) (mulT m p a r)
def mul : T → T → T
  | z, _ => z
  | c m p a, t => mulT m p a t

theorem mul_z (s : T) : mul s z = z := by cases s <;> rfl
theorem z_mul (t : T) : mul z t = z := rfl
theorem mulT_zero (m n : Int) (p a r : T) : mulT m p a (c n z r) = c (m * n) p a := rfl
theorem mulT_pos {q : T} (m n : Int) (p a r : T) (h : q ≠ z) : mulT m p a (c n q r) = c n (add p q) (mulT m p a r) := by
  cases q with
  | z => exact absurd rfl h
  | c k g e => rfl

theorem mulT_len (m : Int) (p a t : T) : (mulT m p a t).body.length ≤ t.body.length * (p.enc.length + 2) + p.enc.length + a.body.length + 1 := by
  induction t with
  | z => simp [mulT, body]
  | c n q r _ ih =>
    by_cases h : q = z
    · subst h
      rw [mulT_zero, body_c, body_c]
      simp only [List.length_cons, List.length_append]
      omega
    · rw [mulT_pos _ _ _ _ _ h, body_c, body_c]
      have h1 := add_len p q
      simp only [List.length_cons, List.length_append]
      rw [show q.enc.length + r.body.length + 1 = r.body.length + (q.enc.length + 1) by omega, Nat.add_mul]
      have h2 : q.enc.length + 1 ≤ (q.enc.length + 1) * (p.enc.length + 2) := Nat.le_mul_of_pos_right _ (by omega)
      have h3 : (q.enc.length + 1) * (p.enc.length + 2) = q.enc.length * (p.enc.length + 2) + (p.enc.length + 2) := by rw [Nat.add_mul, Nat.one_mul]
      have h4 : q.enc.length ≤ q.enc.length * (p.enc.length + 2) := Nat.le_mul_of_pos_right _ (by omega)
      omega

theorem mul_len (s t : T) (h1 : s.enc.length ≤ 1000) (h2 : t.enc.length ≤ 1000) : (mul s t).enc.length ≤ 10000000 := by
  cases s with
  | z => rw [z_mul]; simp [enc, body]
  | c m p a =>
    have h3 := mulT_len m p a t
    have h4 : (c m p a).enc.length = p.enc.length + a.body.length + 2 := by rw [enc_len, body_c]; simp
    have h5 : t.body.length * (p.enc.length + 2) ≤ 1000 * 1002 := Nat.mul_le_mul (by have := enc_len t; omega) (by omega)
    rw [enc_len]
    show (mulT m p a t).body.length + 1 ≤ _
    omega

/-- The exponents of what is an ordinal are ordinals. -/
theorem nf_part {d e r : T} {n : Int} (h : (d.app (c n e r)).Nf) : e.Nf := by
  induction d with
  | z => exact h.2.2.1
  | c m f q _ ih => exact ih h.2.2.2.1
theorem vld_part {d e r : T} {n : Int} (h : vldB (d.app (c n e r)).enc = true) : vldB e.enc = true := by
  obtain ⟨h1, t, h2, h3⟩ := vldB_true.1 h
  have h4 := enc_inj' h2
  subst h4
  have h5 := enc_len (d.app (c n e r))
  rw [app_body, body_c] at h5
  simp at h5
  exact vldB_true.2 ⟨by omega, e, rfl, nf_part h3⟩

noncomputable def mulRow (xs ys : List Int) : List Int := if vldB xs = true ∧ vldB ys = true then fit (mul (of xs) (of ys)) else []
noncomputable def mulOk (xs ys : List Int) : Bool := vldB xs && vldB ys && vldB (mul (of xs) (of ys)).enc
theorem mulRow_val {xs ys : List Int} (h1 : vldB xs = true) (h2 : vldB ys = true) : mulRow xs ys = fit (mul (of xs) (of ys)) ∧ mulOk xs ys = vldB (mul (of xs) (of ys)).enc :=
  ⟨by rw [mulRow, if_pos ⟨h1, h2⟩], by rw [mulOk, h1, h2]; rfl⟩
theorem mulRow_bad {xs ys : List Int} (h : vldB xs = false ∨ vldB ys = false) : mulRow xs ys = [] ∧ mulOk xs ys = false := by
  constructor
  · rw [mulRow, if_neg]; rintro ⟨h1, h2⟩; rcases h with h | h <;> simp [h] at h1 h2
  · rw [mulOk]; rcases h with h | h <;> simp [h]
theorem mulRow_len (xs ys : List Int) : (mulRow xs ys).length ≤ 1000 := by
  unfold mulRow
  split
  · exact fit_len _
  · simp

end T
end Go.Proofs.Ytaleaagnkfbhpab

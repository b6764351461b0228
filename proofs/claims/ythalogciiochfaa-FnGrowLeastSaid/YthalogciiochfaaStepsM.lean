/- What the laws of the third chapter say, on trees and on rows. -/
import Derived.Test.YthalogciiochfaaSteps
import Derived.Test.YthalogciiochfaaSem
import Derived.Test.YthalogciiochfaaAddM
import Derived.Test.YthalogciiochfaaNatM
namespace Go.Proofs.Ythalogciiochfaa
set_option maxRecDepth 100000
namespace T

theorem kind_c1 {n : Int} {e : T} : (c n e z).kind = if e.cnt = 0 then 1 else 2 := rfl
theorem kind_pos {e : T} (h : e.cnt ≠ 0) : e.kind = 1 ∨ e.kind = 2 := by
  rcases kind_vals e with ⟨_, h2⟩ | ⟨h1, _⟩
  · rw [h2] at h; simp [cnt] at h
  · exact h1

/-- A step is less. -/
theorem step_lt (k : Int) {t : T} (h : t ≠ z) : (t.step k).cmp t = -1 := by
  induction t with
  | z => exact absurd rfl h
  | c n e r ihe ihr =>
    cases r with
    | c m f q => rw [show (c n e (c m f q)).step k = c n e ((c m f q).step k) from rfl, cmp_same]; exact ihr (by simp)
    | z =>
      rw [show (c n e z).step k = (if n = 1 then z else c (n - 1) e z).app (tail k e) from rfl]
      by_cases h1 : n = 1
      · rw [if_pos h1, show (z : T).app (tail k e) = tail k e from rfl]
        unfold tail
        by_cases h0 : e.kind = 0
        · rw [if_pos h0]; rfl
        · have he : e ≠ z := by rintro rfl; exact h0 rfl
          have h2 := ihe he
          rw [if_neg h0]
          split
          · split
            · rfl
            · exact cmp_lt h2
          · exact cmp_lt h2
      · rw [if_neg h1]
        exact cmp_less _ _ _ (by omega)

theorem app_cmp (d u v : T) : (d.app u).cmp (d.app v) = u.cmp v := by
  induction d with
  | z => rfl
  | c n e r _ ih => simp only [app]; rw [cmp_same, ih]

/-- The step of an ordinal of the kind 1 is the same one for every number. -/
theorem step_one (k : Int) {t : T} (h : t.kind = 1) : t.step k = t.less := by
  have hp : 0 < t.cnt := by
    cases t with
    | z => simp [kind] at h
    | c n e r => simp [cnt]
  obtain ⟨d, n, e, hd, _⟩ := last_of t hp
  have hk : t.kind = if e.cnt = 0 then 1 else 2 := by rw [hd, kind_app]
  have he : e = z := by
    apply cnt_zero
    rw [h] at hk
    split at hk
    · assumption
    · omega
  rw [hd, step_app, he]
  simp [tail, kind, app_z]

/-- For a greater number it is greater. -/
theorem step_mono {k : Int} (hk : 0 ≤ k) {t : T} (h : t.kind = 2) : (t.step k).cmp (t.step (k + 1)) = -1 := by
  induction t with
  | z => simp [kind] at h
  | c n e r ihe ihr =>
    cases r with
    | c m f q =>
      rw [show (c n e (c m f q)).step k = c n e ((c m f q).step k) from rfl, show (c n e (c m f q)).step (k + 1) = c n e ((c m f q).step (k + 1)) from rfl, cmp_same]
      exact ihr h
    | z =>
      rw [show (c n e z).step k = (if n = 1 then z else c (n - 1) e z).app (tail k e) from rfl, show (c n e z).step (k + 1) = (if n = 1 then z else c (n - 1) e z).app (tail (k + 1) e) from rfl, app_cmp]
      rw [kind_c1] at h
      have hc : e.cnt ≠ 0 := by intro h2; rw [if_pos h2] at h; omega
      unfold tail
      rcases kind_pos hc with h1 | h1
      · simp only [h1, if_neg (show ¬ (1 : Int) = 0 by omega), if_pos, if_neg (show ¬ k + 1 = 0 by omega)]
        rw [step_one k h1, step_one (k + 1) h1]
        split
        · rfl
        · exact cmp_less _ _ _ (by omega)
      · simp only [h1, if_neg (show ¬ (2 : Int) = 0 by omega), if_neg (show ¬ (2 : Int) = 1 by omega)]
        exact cmp_lt (ihe h1)

/-- Nothing is between an ordinal of the kind 1 and the one before. -/
theorem less_most {a e : T} (ha : a.Nf) (he : e.Nf) (hk : e.kind = 1) (h : a.cmp e = -1) : a.cmp e.less = -1 ∨ a = e.less := by
  rcases cmp_vals a e.less with h1 | h1 | h1
  · exact .inl h1
  · exact .inr (cmp_eq h1)
  · have h2 := none_between (less_nf he) a ha (by have := cmp_swap a e.less; omega)
    rw [less_next he hk] at h2
    exact absurd h h2

/-- Whoever is less than the term w to the power of e, by numbers all less than k, is less than what comes in its place. -/
theorem tail_over {k : Int} {e : T} (he : e.Nf) (hc : e.cnt ≠ 0) (hk : 1 ≤ k) (ih : e.kind = 2 → ∀ a : T, a.Nf → a.most < k → a.cmp e = -1 → a.cmp (e.step k) = -1)
    {r : T} (hr : r.Nf) (hm : r.most < k) (ho : ok (some e) r) : r.cmp (tail k e) = -1 := by
  unfold tail
  rcases kind_pos hc with h1 | h1
  · simp only [h1, if_neg (show ¬ (1 : Int) = 0 by omega), if_pos, if_neg (show ¬ k = 0 by omega)]
    rw [step_one k h1]
    cases r with
    | z => rfl
    | c m f q =>
      have h2 := ok_c.1 ho
      rcases less_most hr.2.2.1 he h1 h2 with h3 | h3
      · exact cmp_lt h3
      · rw [h3]
        refine cmp_less _ _ _ ?_
        simp only [most] at hm; omega
  · simp only [h1, if_neg (show ¬ (2 : Int) = 0 by omega), if_neg (show ¬ (2 : Int) = 1 by omega)]
    cases r with
    | z => rfl
    | c m f q =>
      have h2 := ok_c.1 ho
      refine cmp_lt (ih h1 f hr.2.2.1 ?_ h2)
      simp only [most] at hm; omega

/-- Every ordinal below it whose numbers are all less than the number is less than the step. -/
theorem step_over {k : Int} (hk : 1 ≤ k) : ∀ {t : T}, t.Nf → t.kind = 2 → ∀ a : T, a.Nf → a.most < k → a.cmp t = -1 → a.cmp (t.step k) = -1 := by
  intro t
  induction t with
  | z => intro _ h; simp [kind] at h
  | c n e r ihe ihr =>
    intro hn h a ha hm hlt
    obtain ⟨hn1, hn2, hne, hnr, hno⟩ := hn
    cases r with
    | c m f q =>
      rw [show (c n e (c m f q)).step k = c n e ((c m f q).step k) from rfl]
      cases a with
      | z => rfl
      | c m' f' r' =>
        obtain ⟨g1, g2, g3, g4, g5⟩ := ha
        rw [cmp_c] at hlt ⊢
        by_cases h1 : f'.cmp e = 0
        · rw [if_pos h1] at hlt ⊢
          by_cases h2 : m' < n
          · rw [if_pos h2]
          · rw [if_neg h2] at hlt ⊢
            by_cases h3 : n < m'
            · rw [if_pos h3] at hlt; omega
            · rw [if_neg h3] at hlt ⊢
              refine ihr hnr h r' g4 ?_ hlt
              simp only [most] at hm; omega
        · rw [if_neg h1] at hlt ⊢; exact hlt
    | z =>
      rw [kind_c1] at h
      have hc : e.cnt ≠ 0 := by intro h2; rw [if_pos h2] at h; omega
      have htl : ∀ {r : T}, r.Nf → r.most < k → ok (some e) r → r.cmp (tail k e) = -1 := fun h1 h2 h3 =>
        tail_over hne hc hk (fun h4 a h5 h6 h7 => ihe hne h4 a h5 h6 h7) h1 h2 h3
      rw [show (c n e z).step k = (if n = 1 then z else c (n - 1) e z).app (tail k e) from rfl]
      cases a with
      | z =>
        have h2 := htl (r := z) trivial (by simp only [most]; omega) (ok_z _)
        split
        · exact h2
        · rfl
      | c m' f' r' =>
        have ha' := ha
        obtain ⟨g1, g2, g3, g4, g5⟩ := ha
        rw [cmp_c] at hlt
        by_cases h1 : f'.cmp e = 0
        · rw [if_pos h1] at hlt
          obtain rfl := cmp_eq h1
          by_cases h2 : m' < n
          · have hn1 : ¬ n = 1 := by omega
            rw [if_neg hn1]
            simp only [app]
            by_cases h3 : m' < n - 1
            · exact cmp_less _ _ _ h3
            · have h4 : m' = n - 1 := by omega
              subst h4
              rw [cmp_same]
              refine htl g4 ?_ g5
              simp only [most] at hm; omega
          · rw [if_neg h2] at hlt
            by_cases h3 : n < m'
            · rw [if_pos h3] at hlt; omega
            · rw [if_neg h3] at hlt
              cases r' <;> simp [cmp] at hlt
        · rw [if_neg h1] at hlt
          split
          · exact htl ha' hm (ok_c.2 hlt)
          · simp only [app]; exact cmp_lt hlt

/-- Numbers of the natural sum. -/
theorem nat_most : ∀ (s t : T), (nat s t).most ≤ s.most + t.most
  | z, t => by rw [z_nat]; simp [most]
  | c n e q, z => by rw [nat_z]; simp [most]
  | c n e q, c m f r => by
    rcases cmp_vals e f with h | h | h
    · have h1 := nat_most (c n e q) r
      have h2 := most_nonneg (c n e q)
      have h3 := most_nonneg r
      rw [nat_lt n m q r h]
      simp only [most] at h1 h2 ⊢
      omega
    · have h1 := nat_most q r
      have h2 := most_nonneg q
      have h3 := most_nonneg r
      have h4 := most_nonneg e
      have h5 := most_nonneg f
      rw [nat_eq n m q r h]
      simp only [most] at h1 ⊢
      omega
    · have h1 := nat_most q (c m f r)
      have h2 := most_nonneg q
      have h3 := most_nonneg (c m f r)
      rw [nat_gt n m q r h]
      simp only [most] at h1 h3 ⊢
      omega
termination_by s t => s.cnt + t.cnt
decreasing_by all_goals simp [cnt] <;> omega

/-- The value is there. -/
theorem slow_pos {k : Nat} (hk : 1 ≤ k) {t : T} (h : t.Nf) (hz : t ≠ z) : 1 ≤ t.slow k := by
  cases t with
  | z => exact absurd rfl hz
  | c n e r =>
    simp only [slow]
    have h1 : 1 ≤ k ^ e.slow k := Nat.one_le_pow _ _ hk
    have h2 : 1 * 1 ≤ n.toNat * k ^ e.slow k := Nat.mul_le_mul (by have := h.1; omega) h1
    omega

/-- Steps keep the value, or make it less by 1. -/
theorem slow_step {k : Nat} (hk : 1 ≤ k) {t : T} (h : t.Nf) : (t.kind = 1 → (t.step k).slow k + 1 = t.slow k) ∧ (t.kind = 2 → (t.step k).slow k = t.slow k) := by
  induction t with
  | z => exact ⟨fun h => by simp [kind] at h, fun h => by simp [kind] at h⟩
  | c n e r ihe ihr =>
    obtain ⟨g1, g2, g3, g4, g5⟩ := h
    cases r with
    | c m f q =>
      rw [show (c n e (c m f q)).step k = c n e ((c m f q).step k) from rfl, show (c n e (c m f q)).kind = (c m f q).kind from rfl]
      obtain ⟨i1, i2⟩ := ihr g4
      refine ⟨fun h => ?_, fun h => ?_⟩
      · have := i1 h
        rw [show (c n e ((c m f q).step k)).slow k = n.toNat * k ^ e.slow k + ((c m f q).step k).slow k from rfl, show (c n e (c m f q)).slow k = n.toNat * k ^ e.slow k + (c m f q).slow k from rfl]
        omega
      · have := i2 h
        rw [show (c n e ((c m f q).step k)).slow k = n.toNat * k ^ e.slow k + ((c m f q).step k).slow k from rfl, show (c n e (c m f q)).slow k = n.toNat * k ^ e.slow k + (c m f q).slow k from rfl]
        omega
    | z =>
      rw [show (c n e z).step k = (if n = 1 then z else c (n - 1) e z).app (tail k e) from rfl, slow_app, kind_c1]
      have hfr : (if n = 1 then z else c (n - 1) e z : T).slow k = (n.toNat - 1) * k ^ e.slow k := by
        split
        · rename_i h1; subst h1; simp [slow]
        · simp only [slow, Nat.add_zero]
          rw [show (n - 1).toNat = n.toNat - 1 by omega]
      have hsp : (c n e z).slow k = (n.toNat - 1) * k ^ e.slow k + k ^ e.slow k := by
        simp only [slow, Nat.add_zero]
        have : n.toNat = (n.toNat - 1) + 1 := by omega
        rw [this, Nat.add_sub_cancel, Nat.succ_mul]
      rw [hfr, hsp]
      refine ⟨fun h => ?_, fun h => ?_⟩
      · have he : e = z := by
          apply cnt_zero
          split at h
          · assumption
          · omega
        subst he
        simp [tail, kind, slow]
      · have hc : e.cnt ≠ 0 := by intro h2; rw [if_pos h2] at h; omega
        obtain ⟨i1, i2⟩ := ihe g3
        have htl : (tail k e).slow k = k ^ e.slow k := by
          unfold tail
          rcases kind_pos hc with h1 | h1
          · simp only [h1, if_neg (show ¬ (1 : Int) = 0 by omega), if_pos, if_neg (show ¬ (k : Int) = 0 by omega)]
            simp only [slow, Nat.add_zero]
            rw [← i1 h1, Nat.pow_succ, Nat.mul_comm]
            rfl
          · simp only [h1, if_neg (show ¬ (2 : Int) = 0 by omega), if_neg (show ¬ (2 : Int) = 1 by omega)]
            simp only [slow, Nat.add_zero]
            rw [i2 h1]
            simp
        rw [htl]

end T
end Go.Proofs.Ythalogciiochfaa

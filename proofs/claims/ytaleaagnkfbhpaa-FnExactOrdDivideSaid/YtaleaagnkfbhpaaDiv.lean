/- Quotients and what is left, on trees and on rows. -/
import Derived.Test.YtaleaagnkfbhpaaMin
import Derived.Test.YtaleaagnkfbhpaaMul
namespace Go.Proofs.Ytaleaagnkfbhpaa
namespace T

/-- How often m times w to the power of f, and b behind it, is in terms of which no exponent is greater than f. -/
def timesN (m : Int) (f b : T) : T → Int
  | z => 0
  | c n e r => if e.cmp f = 0 then (if 0 < n / m ∧ (c (m * (n / m)) f b).cmp (c n e r) = 1 then n / m - 1 else n / m) else 0
def quo (m : Int) (f b : T) : T → T
  | z => z
  | c n e r => if e.cmp f = 1 then c n (minus e f) (quo m f b r) else if 0 < timesN m f b (c n e r) then c (timesN m f b (c n e r)) z z else z
def rem (m : Int) (f b : T) : T → T
  | z => z
  | c n e r => if e.cmp f = 1 then rem m f b r else if 0 < timesN m f b (c n e r) then minus (c n e r) (c (m * timesN m f b (c n e r)) f b) else c n e r

theorem quo_more {m n : Int} {f b e : T} (r : T) (h : e.cmp f = 1) : quo m f b (c n e r) = c n (minus e f) (quo m f b r) ∧ rem m f b (c n e r) = rem m f b r := ⟨by rw [quo, if_pos h], by rw [rem, if_pos h]⟩
/-- Behind the terms of greater exponents. -/
def Low (f : T) (u : T) : Prop := ∀ n e r, u = c n e r → e.cmp f ≠ 1
theorem quo_low {m : Int} {f b u : T} (h : Low f u) : (quo m f b u = if 0 < timesN m f b u then c (timesN m f b u) z z else z) ∧ (rem m f b u = if 0 < timesN m f b u then minus u (c (m * timesN m f b u) f b) else u) := by
  cases u with
  | z => exact ⟨by rw [timesN]; rfl, by rw [timesN]; rfl⟩
  | c n e r => exact ⟨by rw [quo, if_neg (h n e r rfl)], by rw [rem, if_neg (h n e r rfl)]⟩

theorem div_le {n m : Int} (hm : 1 ≤ m) (hn : 0 ≤ n) : 0 ≤ n / m ∧ n / m ≤ n ∧ m * (n / m) ≤ n := by
  have h1 : 0 ≤ n / m := Int.ediv_nonneg hn (by omega)
  have h2 : m * (n / m) ≤ n := Int.mul_ediv_self_le (by omega)
  have h3 : 1 * (n / m) ≤ m * (n / m) := Int.mul_le_mul_of_nonneg_right hm h1
  exact ⟨h1, by omega, h2⟩

/-- So often it is not more. -/
theorem timesN_spec {m : Int} {f b u : T} (hm : 1 ≤ m) (hu : u.Nf) : 0 ≤ timesN m f b u ∧ timesN m f b u ≤ 9999 ∧ (0 < timesN m f b u → 1 ≤ m * timesN m f b u ∧ m * timesN m f b u ≤ 9999 ∧ u.cmp (c (m * timesN m f b u) f b) ≠ -1) := by
  cases u with
  | z => rw [timesN]; exact ⟨by omega, by omega, fun h => by omega⟩
  | c n e r =>
    have hn := hu.1
    have hn2 := hu.2.1
    obtain ⟨h1, h2, h3⟩ := div_le (n := n) hm (by omega)
    by_cases he : e.cmp f = 0
    · have hef := cmp_eq he
      subst hef
      rw [timesN, if_pos he]
      obtain ⟨N, hN⟩ : ∃ N, N = n / m := ⟨_, rfl⟩
      rw [← hN] at h1 h2 h3 ⊢
      by_cases hc : 0 < N ∧ (c (m * N) e b).cmp (c n e r) = 1
      · rw [if_pos hc]
        have h4 : m * (N - 1) = m * N - m := by rw [Int.mul_sub, Int.mul_one]
        refine ⟨by omega, by omega, fun h => ?_⟩
        have h5 : m * 1 ≤ m * (N - 1) := Int.mul_le_mul_of_nonneg_left (by omega) (by omega)
        refine ⟨by omega, by omega, ?_⟩
        rw [cmp_more _ _ _ (by omega)]
        decide
      · rw [if_neg hc]
        refine ⟨h1, by omega, fun h => ?_⟩
        have h5 : m * 1 ≤ m * N := Int.mul_le_mul_of_nonneg_left (by omega) (by omega)
        refine ⟨by omega, by omega, ?_⟩
        intro h6
        have h7 := cmp_swap (c n e r) (c (m * N) e b)
        exact hc ⟨h, by omega⟩
    · rw [timesN, if_neg he]
      exact ⟨by omega, by omega, fun h => by omega⟩

theorem minus_back {e f : T} (he : e.Nf) (hf : f.Nf) (h : e.cmp f = 1) : (minus e f).Nf ∧ add f (minus e f) = e ∧ minus e f ≠ z := by
  obtain ⟨h1, _, h3⟩ := minus_spec e f he hf (by omega)
  refine ⟨h1, h3, fun hz => ?_⟩
  rw [hz, add_z] at h3
  subst h3
  rw [cmp_refl] at h
  omega
theorem minus_mono {e e' f : T} (he : e.Nf) (he' : e'.Nf) (hf : f.Nf) (h : e.cmp f = 1) (h' : e'.cmp f = 1) : (minus e' f).cmp (minus e f) = e'.cmp e := by
  obtain ⟨a1, a2, _⟩ := minus_back he hf h
  obtain ⟨b1, b2, _⟩ := minus_back he' hf h'
  have h1 := add_mono f (minus e f) (minus e' f) (nf_pos hf) (nf_pos a1) (nf_pos b1)
  rw [a2, b2] at h1
  exact h1.symm
theorem z_lt {t : T} (h : t ≠ z) : (z : T).cmp t = -1 := by
  cases t with
  | z => exact absurd rfl h
  | c n e r => rfl

theorem quo_nf {m : Int} {f b : T} (hm : 1 ≤ m) (hf : f.Nf) : ∀ s : T, s.Nf → (quo m f b s).Nf ∧ ∀ e : T, e.Nf → e.cmp f = 1 → ok (some e) s → ok (some (minus e f)) (quo m f b s) := by
  intro s
  induction s with
  | z => intro _; exact ⟨trivial, fun _ _ _ _ => ok_z _⟩
  | c n e r _ ih =>
    intro hs
    by_cases h : e.cmp f = 1
    · obtain ⟨i1, i2⟩ := ih hs.2.2.2.1
      rw [(quo_more r h).1]
      refine ⟨⟨hs.1, hs.2.1, (minus_back hs.2.2.1 hf h).1, i1, i2 e hs.2.2.1 h hs.2.2.2.2⟩, fun e' he' h' ho => ?_⟩
      rw [ok_c, minus_mono he' hs.2.2.1 hf h' h]
      exact ok_c.1 ho
    · have hlow : Low f (c n e r) := fun n' e' r' hh => by cases hh; exact h
      rw [(quo_low hlow).1]
      obtain ⟨t1, t2, t3⟩ := timesN_spec (m := m) (f := f) (b := b) hm hs
      by_cases hN : 0 < timesN m f b (c n e r)
      · rw [if_pos hN]
        refine ⟨⟨by omega, t2, trivial, trivial, ok_z _⟩, fun e' he' h' _ => ?_⟩
        rw [ok_c]
        exact z_lt (minus_back he' hf h').2.2
      · rw [if_neg hN]
        exact ⟨trivial, fun _ _ _ _ => ok_z _⟩
theorem quo_len {m : Int} {f b : T} : ∀ s : T, (quo m f b s).body.length ≤ s.body.length := by
  intro s
  induction s with
  | z => exact Nat.le_refl _
  | c n e r _ ih =>
    by_cases h : e.cmp f = 1
    · rw [(quo_more r h).1, body_c, body_c]
      have h1 := minus_len e f
      have h2 := enc_len (minus e f)
      have h3 := enc_len e
      simp only [List.length_cons, List.length_append]
      omega
    · have hlow : Low f (c n e r) := fun n' e' r' hh => by cases hh; exact h
      rw [(quo_low hlow).1, body_c]
      have h3 := enc_len e
      split
      · simp only [body_c, List.length_cons, List.length_append]
        have : (z : T).enc.length = 1 := rfl
        have : (z : T).body.length = 0 := rfl
        omega
      · simp [body]
theorem rem_nf {m : Int} {f b : T} (ht : (c m f b).Nf) : ∀ s : T, s.Nf → (rem m f b s).Nf ∧ (rem m f b s).body.length ≤ s.body.length := by
  intro s
  induction s with
  | z => intro _; exact ⟨trivial, Nat.le_refl _⟩
  | c n e r _ ih =>
    intro hs
    by_cases h : e.cmp f = 1
    · obtain ⟨i1, i2⟩ := ih hs.2.2.2.1
      rw [(quo_more r h).2]
      refine ⟨i1, ?_⟩
      rw [body_c]
      simp only [List.length_cons, List.length_append]
      omega
    · have hlow : Low f (c n e r) := fun n' e' r' hh => by cases hh; exact h
      rw [(quo_low hlow).2]
      obtain ⟨t1, t2, t3⟩ := timesN_spec (m := m) (f := f) (b := b) ht.1 hs
      by_cases hN : 0 < timesN m f b (c n e r)
      · rw [if_pos hN]
        obtain ⟨u1, u2, u3⟩ := t3 hN
        have ht' : (c (m * timesN m f b (c n e r)) f b).Nf := ⟨u1, u2, ht.2.2.1, ht.2.2.2.1, ht.2.2.2.2⟩
        exact ⟨(minus_spec _ _ hs ht' u3).1, minus_len _ _⟩
      · rw [if_neg hN]
        exact ⟨hs, Nat.le_refl _⟩

noncomputable def divOk (xs ys : List Int) : Bool := vldB xs && vldB ys && decide (0 < (of ys).cnt)
noncomputable def quoRow (xs ys : List Int) : List Int := match of ys with
  | z => []
  | c m f b => if vldB xs = true ∧ vldB ys = true then (quo m f b (of xs)).enc else []
noncomputable def remRow (xs ys : List Int) : List Int := match of ys with
  | z => []
  | c m f b => if vldB xs = true ∧ vldB ys = true then (rem m f b (of xs)).enc else []
theorem div_bad {xs ys : List Int} (h : vldB xs = false ∨ vldB ys = false ∨ of ys = z) : quoRow xs ys = [] ∧ remRow xs ys = [] ∧ divOk xs ys = false := by
  by_cases hz : of ys = z
  · exact ⟨by rw [quoRow, hz], by rw [remRow, hz], by rw [divOk, hz]; exact Bool.and_false _⟩
  · have h1 : ¬ (vldB xs = true ∧ vldB ys = true) := by
      rintro ⟨h1, h2⟩
      rcases h with h | h | h
      · rw [h1] at h; cases h
      · rw [h2] at h; cases h
      · exact hz h
    refine ⟨?_, ?_, ?_⟩
    · rw [quoRow]; split
      · rfl
      · rw [if_neg h1]
    · rw [remRow]; split
      · rfl
      · rw [if_neg h1]
    · rw [divOk]
      rcases h with h | h | h
      · rw [h]; rfl
      · rw [h, Bool.and_false, Bool.false_and]
      · exact absurd h hz
theorem div_good {xs ys : List Int} {m : Int} {f b : T} (h1 : vldB xs = true) (h2 : vldB ys = true) (h : of ys = c m f b) : quoRow xs ys = (quo m f b (of xs)).enc ∧ remRow xs ys = (rem m f b (of xs)).enc ∧ divOk xs ys = true := by
  refine ⟨by rw [quoRow, h]; exact if_pos ⟨h1, h2⟩, by rw [remRow, h]; exact if_pos ⟨h1, h2⟩, ?_⟩
  rw [divOk, h1, h2, h, decide_eq_true (by simp [cnt])]; rfl
theorem div_vld {s : T} {m : Int} {f b : T} (hs : s.Nf) (hl : s.enc.length ≤ 60) (ht : (c m f b).Nf) : vldB (quo m f b s).enc = true ∧ vldB (rem m f b s).enc = true := by
  have h1 := enc_len s
  have h2 := enc_len (quo m f b s)
  have h3 := enc_len (rem m f b s)
  have h4 := quo_len (m := m) (f := f) (b := b) s
  obtain ⟨h5, h6⟩ := rem_nf ht s hs
  exact ⟨vldB_true.2 ⟨by omega, _, rfl, (quo_nf ht.1 ht.2.2.1 s hs).1⟩, vldB_true.2 ⟨by omega, _, rfl, h5⟩⟩
theorem div_len (xs ys : List Int) : (quoRow xs ys).length ≤ 1000 ∧ (remRow xs ys).length ≤ 1000 := by
  by_cases h : vldB xs = true ∧ vldB ys = true
  · cases hy : of ys with
    | z => obtain ⟨a, b, _⟩ := div_bad (xs := xs) (ys := ys) (.inr (.inr hy)); rw [a, b]; simp
    | c m f b =>
      obtain ⟨a, b', _⟩ := div_good h.1 h.2 hy
      have h1 := nf_of h.2
      rw [hy] at h1
      obtain ⟨h2, h3⟩ := div_vld (nf_of h.1) (by rw [enc_of h.1]; exact (vldB_true.1 h.1).1) h1
      rw [a, b']
      have := (vldB_true.1 h2).1
      have := (vldB_true.1 h3).1
      omega
  · have hb : vldB xs = false ∨ vldB ys = false := by
      cases h1 : vldB xs with
      | false => exact .inl rfl
      | true => cases h2 : vldB ys with
        | false => exact .inr rfl
        | true => exact absurd ⟨h1, h2⟩ h
    obtain ⟨a, b, _⟩ := div_bad (xs := xs) (ys := ys) (by rcases hb with h | h; exact .inl h; exact .inr (.inl h))
    rw [a, b]; simp

end T
end Go.Proofs.Ytaleaagnkfbhpaa

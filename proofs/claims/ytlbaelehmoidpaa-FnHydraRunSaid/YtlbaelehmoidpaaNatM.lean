/- Natural sums: brackets and order do not matter; greater ones make greater ones; sums are at most natural sums. -/
import Derived.Test.YtlbaelehmoidpaaNat
import Derived.Test.YtlbaelehmoidpaaAddM
namespace Go.Proofs.Ytlbaelehmoidpaa
set_option maxRecDepth 100000
namespace T

theorem nat_assoc : ∀ (a b d : T), nat (nat a b) d = nat a (nat b d) := by
  intro a
  induction a with
  | z => intro b d; rw [z_nat, z_nat]
  | c n f q _ iha =>
    intro b
    induction b with
    | z => intro d; rw [nat_z, z_nat]
    | c m e r _ ihb =>
      intro d
      induction d with
      | z => rw [nat_z, nat_z]
      | c k g p _ ihd =>
        rcases cmp_vals f e with h | h | h
        · rcases cmp_vals e g with h' | h' | h'
          · rw [nat_lt n m q r h, nat_lt m k _ p h', ← nat_lt n m q r h, ihd, nat_lt m k r p h', nat_lt n k q _ (cmp_trans h h')]
          · have heg := cmp_eq h'
            subst heg
            rw [nat_lt n m q r h, nat_eq m k _ p h', ihb, nat_eq m k r p h', nat_lt n (m + k) q _ h]
          · rw [nat_lt n m q r h, nat_gt m k _ p h', ihb, nat_gt m k r p h', nat_lt n m q _ h]
        · have hfe := cmp_eq h
          subst hfe
          rcases cmp_vals f g with h' | h' | h'
          · rw [nat_eq n m q r h, nat_lt (n + m) k _ p h', ← nat_eq n m q r h, ihd, nat_lt m k r p h', nat_lt n k q _ h']
          · have hfg := cmp_eq h'
            subst hfg
            rw [nat_eq n m q r h, nat_eq (n + m) k _ p h', iha, nat_eq m k r p h', nat_eq n (m + k) q _ h', Int.add_assoc]
          · rw [nat_eq n m q r h, nat_gt (n + m) k _ p h', iha, nat_gt m k r p h', nat_eq n m q _ h]
        · rcases cmp_vals f g with h' | h' | h'
          · have h2 : e.cmp g = -1 := cmp_trans (b := f) (by have := cmp_swap f e; omega) h'
            rw [nat_gt n m q r h, nat_lt n k _ p h', ← nat_gt n m q r h, ihd, nat_lt m k r p h2, nat_lt n k q _ h']
          · have hfg := cmp_eq h'
            subst hfg
            have h2 : e.cmp f = -1 := by have := cmp_swap f e; omega
            rw [nat_gt n m q r h, nat_eq n k _ p h', iha, nat_lt m k r p h2, nat_eq n k q _ h']
          · rw [nat_gt n m q r h, nat_gt n k _ p h', iha]
            rcases cmp_vals e g with h2 | h2 | h2
            · rw [nat_lt m k r p h2, nat_gt n k q _ h']
            · have heg := cmp_eq h2
              subst heg
              rw [nat_eq m k r p h2, nat_gt n (m + k) q _ h]
            · rw [nat_gt m k r p h2, nat_gt n m q _ h]

theorem nat_self {s : T} {k : Int} {g p : T} (hk : 1 ≤ k) : (nat s (c k g p)).cmp s = 1 := by
  induction s with
  | z => rw [z_nat]; rfl
  | c n f q _ ih =>
    rcases cmp_vals f g with h | h | h
    · rw [nat_lt n k q p h]
      exact cmp_gt (by have := cmp_swap f g; omega)
    · rw [nat_eq n k q p h]
      exact cmp_more _ _ _ (by omega)
    · rw [nat_gt n k q p h, cmp_same]; exact ih

theorem nat_mono : ∀ (a b d : T), b.Pos → d.Pos → (nat a d).cmp (nat a b) = d.cmp b := by
  intro a
  induction a with
  | z => intro b d _ _; rw [z_nat, z_nat]
  | c n f q _ iha =>
    intro b
    induction b with
    | z =>
      intro d _ hd
      cases d with
      | z => rw [cmp_refl, cmp_refl]
      | c k g p => rw [nat_z, nat_self hd.1]; rfl
    | c m e r _ ihb =>
      intro d hb hd
      cases d with
      | z =>
        have h1 := nat_self (s := c n f q) (g := e) (p := r) hb.1
        have h2 := cmp_swap (nat (c n f q) (c m e r)) (c n f q)
        rw [nat_z]
        have h3 : (z : T).cmp (c m e r) = -1 := rfl
        omega
      | c k g p =>
        have hsw := cmp_swap f g
        have hsw' := cmp_swap f e
        rcases cmp_vals f g with h | h | h <;> rcases cmp_vals f e with h' | h' | h'
        · rw [nat_lt n k q p h, nat_lt n m q r h', cmp_c, cmp_c, ihb p hb.2 hd.2]
        · have hfe := cmp_eq h'
          subst hfe
          rw [nat_lt n k q p h, nat_eq n m q r h', cmp_gt (by omega), cmp_gt (by omega)]
        · rw [nat_lt n k q p h, nat_gt n m q r h', cmp_gt (by omega), cmp_gt (cmp_trans' (b := f) (by omega) h')]
        · have hfg := cmp_eq h
          subst hfg
          rw [nat_eq n k q p h, nat_lt n m q r h', cmp_lt h', cmp_lt h']
        · have hfg := cmp_eq h
          have hfe := cmp_eq h'
          subst hfg; subst hfe
          rw [nat_eq n k q p h, nat_eq n m q r h]
          rcases Int.lt_trichotomy k m with h1 | h1 | h1
          · rw [cmp_less _ _ _ (by omega), cmp_less _ _ _ h1]
          · subst h1; rw [cmp_same, cmp_same]; exact iha _ _ hb.2 hd.2
          · rw [cmp_more _ _ _ (by omega), cmp_more _ _ _ h1]
        · have hfg := cmp_eq h
          subst hfg
          rw [nat_eq n k q p h, nat_gt n m q r h', cmp_more _ _ _ (by have := hd.1; omega), cmp_gt h']
        · rw [nat_gt n k q p h, nat_lt n m q r h', cmp_lt h', cmp_lt (cmp_trans (b := f) (by omega) h')]
        · have hfe := cmp_eq h'
          subst hfe
          rw [nat_gt n k q p h, nat_eq n m q r h', cmp_less _ _ _ (by have := hb.1; omega), cmp_lt (by omega)]
        · rw [nat_gt n k q p h, nat_gt n m q r h', cmp_same]
          exact iha _ _ hb hd

theorem nat_ge (s t : T) (hs : s.Pos) : t.cmp (nat s t) ≠ 1 := by
  have h1 := nat_mono t z s trivial hs
  rw [nat_z, nat_comm t s] at h1
  have h2 := cmp_swap (nat s t) t
  have h3 : s.cmp z ≠ -1 := by cases s <;> simp [cmp]
  omega

theorem add_le_nat : ∀ (s t : T), s.Pos → (add s t).cmp (nat s t) ≠ 1 := by
  intro s
  induction s with
  | z => intro t _; rw [z_add, z_nat, cmp_refl]; decide
  | c n f q _ ih =>
    intro t hs
    cases t with
    | z => rw [add_z, nat_z, cmp_refl]; decide
    | c m e r =>
      rcases cmp_vals f e with h | h | h
      · rw [add_lt n m q r h, nat_lt n m q r h, cmp_same]; exact nat_ge _ _ hs
      · have hfe := cmp_eq h
        subst hfe
        rw [add_eq n m q r h, nat_eq n m q r h, Int.add_comm, cmp_same]; exact nat_ge _ _ hs.2
      · rw [add_gt n m q r h, nat_gt n m q r h, cmp_same]; exact ih _ hs.2

theorem natOk_true {xs ys : List Int} (h : natOk xs ys = true) : vldB xs = true ∧ vldB ys = true ∧ vldB (natRow xs ys) = true ∧ of (natRow xs ys) = nat (of xs) (of ys) := by
  have h1 : (vldB xs = true ∧ vldB ys = true) ∧ vldB (nat (of xs) (of ys)).enc = true := by simpa [natOk] using h
  have h2 : natRow xs ys = (nat (of xs) (of ys)).enc := by rw [(natRow_val h1.1.1 h1.1.2).1, fit, if_pos h1.2]
  exact ⟨h1.1.1, h1.1.2, by rw [h2]; exact h1.2, by rw [h2, of_enc]⟩
theorem natOk_false {xs ys : List Int} (h : natOk xs ys = false) : natRow xs ys = [] := by
  rw [natRow]
  split
  · rename_i h1
    rw [fit, if_neg]
    intro h2
    rw [natOk, h1.1, h1.2, h2] at h
    cases h
  · rfl
theorem natRow_comm (xs ys : List Int) : natRow ys xs = natRow xs ys ∧ natOk ys xs = natOk xs ys := by
  constructor
  · rw [natRow, natRow, nat_comm (of ys)]
    by_cases h1 : vldB xs = true <;> by_cases h2 : vldB ys = true <;> simp [h1, h2]
  · rw [natOk, natOk, nat_comm (of ys), Bool.and_comm (vldB ys)]
theorem natRow_assoc {xs ys zs : List Int} (h : natOk xs ys = true) (hp : natOk (natRow xs ys) zs = true) (hq : natOk ys zs = true) (hr : natOk xs (natRow ys zs) = true) :
    natRow (natRow xs ys) zs = natRow xs (natRow ys zs) := by
  obtain ⟨_, _, _, a4⟩ := natOk_true h
  obtain ⟨_, _, b3, b4⟩ := natOk_true hp
  obtain ⟨_, _, _, c4⟩ := natOk_true hq
  obtain ⟨_, _, d3, d4⟩ := natOk_true hr
  rw [← enc_of b3, ← enc_of d3, b4, d4, a4, c4, nat_assoc]
theorem natRow_mono {xs ys zs : List Int} (h : natOk xs ys = true) (hs : natOk xs zs = true) : cmpRow (natRow xs zs) (natRow xs ys) = cmpRow zs ys := by
  obtain ⟨a1, a2, a3, a4⟩ := natOk_true h
  obtain ⟨_, b2, b3, b4⟩ := natOk_true hs
  rw [cmpRow_val b3 a3, cmpRow_val b2 a2, b4, a4]
  exact nat_mono _ _ _ (nf_pos (nf_of a2)) (nf_pos (nf_of b2))
theorem natRow_sum {xs ys : List Int} (h : natOk xs ys = true) (hs : addOk xs ys = true) : cmpRow (addRow xs ys) (natRow xs ys) ≤ 0 := by
  obtain ⟨a1, a2, a3, a4⟩ := natOk_true h
  obtain ⟨_, b2, b3, b4⟩ := addOk_true hs
  rw [cmpRow_val b3 a3, b4, a4]
  have h1 := add_le_nat (of xs) (of ys) (nf_pos (nf_of a1))
  rcases cmp_vals (add (of xs) (of ys)) (nat (of xs) (of ys)) with h | h | h <;> omega

end T
end Go.Proofs.Ytlbaelehmoidpaa

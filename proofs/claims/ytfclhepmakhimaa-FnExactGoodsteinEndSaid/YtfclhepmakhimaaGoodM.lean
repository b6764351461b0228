/- Numbers in a base and their ordinals, on trees. -/
import Derived.Test.YtfclhepmakhimaaStepsL
namespace Go.Proofs.Ytfclhepmakhimaa
set_option maxRecDepth 100000
namespace T

/-- The greatest power of a base in a number. -/
def top (b n : Nat) : Nat := if h : 2 ≤ b ∧ b ≤ n then top b (n / b) + 1 else 0
termination_by n
decreasing_by exact Nat.div_lt_self (by omega) (by omega)

theorem top_lo {b n : Nat} (h : n < b) : top b n = 0 := by rw [top, dif_neg (by omega)]
theorem top_hi {b n : Nat} (hb : 2 ≤ b) (h : b ≤ n) : top b n = top b (n / b) + 1 := by rw [top, dif_pos ⟨hb, h⟩]
theorem top_spec {b : Nat} (hb : 2 ≤ b) : ∀ N n, n < N → 0 < n → b ^ top b n ≤ n ∧ n < b ^ (top b n + 1) := by
  intro N
  induction N with
  | zero => intro n h; omega
  | succ N ih =>
    intro n hN hn
    by_cases h : n < b
    · rw [top_lo h]; exact ⟨by simp; omega, by simpa using h⟩
    · have h1 : b ≤ n := by omega
      have h2 : n / b < n := Nat.div_lt_self hn (by omega)
      have h3 : 0 < n / b := Nat.div_pos h1 (by omega)
      obtain ⟨i1, i2⟩ := ih (n / b) (by omega) h3
      rw [top_hi hb h1]
      constructor
      · rw [Nat.pow_succ]; exact (Nat.le_div_iff_mul_le (by omega)).1 i1
      · rw [Nat.pow_succ]; exact (Nat.div_lt_iff_lt_mul (by omega)).1 i2
theorem pow_lt_iff {b x y : Nat} (hb : 2 ≤ b) : b ^ x < b ^ y ↔ x < y := Nat.pow_lt_pow_iff_right (by omega)
theorem pow_le_iff {b x y : Nat} (hb : 2 ≤ b) : b ^ x ≤ b ^ y ↔ x ≤ y := Nat.pow_le_pow_iff_right (by omega)
theorem pow_pos' {b : Nat} (hb : 2 ≤ b) (x : Nat) : 0 < b ^ x := Nat.pow_pos (by omega)
theorem top_eq {b n t : Nat} (hb : 2 ≤ b) (h1 : b ^ t ≤ n) (h2 : n < b ^ (t + 1)) : top b n = t := by
  have h0 := pow_pos' hb t
  obtain ⟨i1, i2⟩ := top_spec hb (n + 1) n (by omega) (by omega)
  have h3 := (pow_lt_iff hb).1 (Nat.lt_of_le_of_lt h1 i2)
  have h4 := (pow_lt_iff hb).1 (Nat.lt_of_le_of_lt i1 h2)
  omega

/-- The terms of a number in a base, with exponents that are told. -/
def dig (f : Nat → T) (b n : Nat) : T := if _h : 2 ≤ b ∧ 0 < n then c ((n / b ^ top b n : Nat) : Int) (f (top b n)) (dig f b (n % b ^ top b n)) else z
termination_by n
decreasing_by
  have h := ‹2 ≤ b ∧ 0 < n›
  have h1 := top_spec h.1 (n + 1) n (by omega) h.2
  exact Nat.lt_of_lt_of_le (Nat.mod_lt _ (pow_pos' h.1 _)) h1.1

theorem dig_z (f : Nat → T) (b : Nat) : dig f b 0 = z := by rw [dig, dif_neg (by omega)]
theorem dig_c (f : Nat → T) {b n t : Nat} (hb : 2 ≤ b) (h1 : b ^ t ≤ n) (h2 : n < b ^ (t + 1)) : dig f b n = c ((n / b ^ t : Nat) : Int) (f t) (dig f b (n % b ^ t)) := by
  have h0 := pow_pos' hb t
  rw [dig, dif_pos ⟨hb, by omega⟩, top_eq hb h1 h2]

/-- The parts of a number. -/
theorem top_ex {b n : Nat} (hb : 2 ≤ b) (hn : 0 < n) : ∃ t, b ^ t ≤ n ∧ n < b ^ (t + 1) ∧ 1 ≤ n / b ^ t ∧ n / b ^ t < b ∧ n % b ^ t < b ^ t ∧ n % b ^ t < n ∧ n = n / b ^ t * b ^ t + n % b ^ t ∧ t < n := by
  obtain ⟨i1, i2⟩ := top_spec hb (n + 1) n (by omega) hn
  have h0 := pow_pos' hb (top b n)
  have h1 := Nat.mod_lt n h0
  refine ⟨top b n, i1, i2, Nat.div_pos i1 h0, ?_, h1, by omega, ?_, ?_⟩
  · rw [Nat.div_lt_iff_lt_mul h0, Nat.mul_comm, ← Nat.pow_succ]; exact i2
  · rw [Nat.mul_comm]; exact (Nat.div_add_mod _ _).symm
  · have := pow_gt hb (top b n); omega

theorem dig_congr {f g : Nat → T} {b : Nat} (hb : 2 ≤ b) : ∀ N n, n < N → (∀ e, b ^ e ≤ n → f e = g e) → dig f b n = dig g b n := by
  intro N
  induction N with
  | zero => intro n h; omega
  | succ N ih =>
    intro n hN h
    rcases Nat.eq_zero_or_pos n with rfl | hn
    · rw [dig_z, dig_z]
    · obtain ⟨t, h1, h2, _, _, _, h3, _, _⟩ := top_ex hb hn
      rw [dig_c f hb h1 h2, dig_c g hb h1 h2, h t h1, ih (n % b ^ t) (by omega) (fun e he => h e (by omega))]

theorem dig_lt {f : Nat → T} {b : Nat} (hb : 2 ≤ b) : ∀ N n, n < N → (∀ e e', e < e' → b ^ e' ≤ n → (f e).cmp (f e') = -1) → ∀ m, m < n → (dig f b m).cmp (dig f b n) = -1 := by
  intro N
  induction N with
  | zero => intro n h; omega
  | succ N ih =>
    intro n hN h m hm
    obtain ⟨t, h1, h2, h3, h4, h5, h6, h7, h8⟩ := top_ex hb (show 0 < n by omega)
    rw [dig_c f hb h1 h2]
    rcases Nat.eq_zero_or_pos m with rfl | hm0
    · rw [dig_z]; rfl
    · obtain ⟨s, k1, k2, k3, k4, k5, k6, k7, k8⟩ := top_ex hb hm0
      rw [dig_c f hb k1 k2, cmp_c]
      have hst : s ≤ t := by have := (pow_lt_iff hb).1 (show b ^ s < b ^ (t + 1) by omega); omega
      rcases Nat.lt_or_ge s t with hs | hs
      · have := h s t hs h1
        rw [if_neg (by omega)]; exact this
      · obtain rfl : s = t := by omega
        rw [if_pos (cmp_refl _)]
        have hq : m / b ^ s ≤ n / b ^ s := Nat.div_le_div_right (by omega)
        by_cases hq2 : m / b ^ s < n / b ^ s
        · rw [if_pos (by omega)]
        · have hq3 : m / b ^ s = n / b ^ s := by omega
          rw [hq3] at k7 ⊢
          rw [if_neg (by omega), if_neg (by omega)]
          exact ih (n % b ^ s) (by omega) (fun e e' he he' => h e e' he (by omega)) _ (by omega)

theorem dig_nf {f : Nat → T} {b : Nat} (hb : 2 ≤ b) (hb2 : b ≤ 9999) : ∀ N n, n < N → (∀ e, b ^ e ≤ n → (f e).Nf) → (∀ e e', e < e' → b ^ e' ≤ n → (f e).cmp (f e') = -1) → (dig f b n).Nf := by
  intro N
  induction N with
  | zero => intro n h; omega
  | succ N ih =>
    intro n hN hf h
    rcases Nat.eq_zero_or_pos n with rfl | hn
    · rw [dig_z]; trivial
    · obtain ⟨t, h1, h2, h3, h4, h5, h6, h7, h8⟩ := top_ex hb hn
      rw [dig_c f hb h1 h2]
      refine ⟨by omega, by omega, hf t h1, ih _ (by omega) (fun e he => hf e (by omega)) (fun e e' he he' => h e e' he (by omega)), ?_⟩
      rcases Nat.eq_zero_or_pos (n % b ^ t) with hz | hz
      · rw [hz, dig_z]; exact ok_z _
      · obtain ⟨s, k1, k2, _⟩ := top_ex hb hz
        rw [dig_c f hb k1 k2]
        exact ok_c.2 (h s t ((pow_lt_iff hb).1 (by omega)) h1)

theorem dig_slow {f : Nat → T} {b : Nat} (hb : 2 ≤ b) : ∀ N n, n < N → (∀ e, b ^ e ≤ n → (f e).slow b = e) → (dig f b n).slow b = n := by
  intro N
  induction N with
  | zero => intro n h; omega
  | succ N ih =>
    intro n hN hf
    rcases Nat.eq_zero_or_pos n with rfl | hn
    · rw [dig_z]; rfl
    · obtain ⟨t, h1, h2, h3, h4, h5, h6, h7, h8⟩ := top_ex hb hn
      rw [dig_c f hb h1 h2, slow, hf t h1, ih _ (by omega) (fun e he => hf e (by omega)), Int.toNat_natCast]
      exact h7.symm

theorem dig_most {f : Nat → T} {b : Nat} (hb : 2 ≤ b) : ∀ N n, n < N → (∀ e, b ^ e ≤ n → (f e).most < b) → (dig f b n).most < b := by
  intro N
  induction N with
  | zero => intro n h; omega
  | succ N ih =>
    intro n hN hf
    rcases Nat.eq_zero_or_pos n with rfl | hn
    · rw [dig_z]; simp only [most]; omega
    · obtain ⟨t, h1, h2, h3, h4, h5, h6, h7, h8⟩ := top_ex hb hn
      rw [dig_c f hb h1 h2]
      have i1 := hf t h1
      have i2 := ih _ (by omega) (fun e he => hf e (Nat.le_trans he (Nat.le_of_lt h6)))
      simp only [most]
      omega

/-- The ordinal of a number in a base. -/
def ordF (b : Nat) : Nat → Nat → T
  | 0, _ => z
  | N + 1, n => dig (ordF b N) b n
def ordB (b n : Nat) : T := ordF b (n + 1) n
theorem ordF_eq {b : Nat} (hb : 2 ≤ b) : ∀ M N n, n < M → n < N → ordF b M n = ordF b N n := by
  intro M
  induction M with
  | zero => intro N n h; omega
  | succ M ih =>
    intro N n hM hN
    cases N with
    | zero => omega
    | succ N =>
      show dig (ordF b M) b n = dig (ordF b N) b n
      refine dig_congr hb (n + 1) n (by omega) (fun e he => ?_)
      have h1 := pow_gt hb e
      exact ih N e (by omega) (by omega)
theorem ordB_eq {b : Nat} (hb : 2 ≤ b) (n : Nat) : ordB b n = dig (ordB b) b n := by
  show dig (ordF b n) b n = dig (ordB b) b n
  refine dig_congr hb (n + 1) n (by omega) (fun e he => ?_)
  have h1 := pow_gt hb e
  exact ordF_eq hb n (e + 1) e (by omega) (by omega)
theorem ordB_z (b : Nat) : ordB b 0 = z := dig_z _ _
theorem ordB_lt {b : Nat} (hb : 2 ≤ b) : ∀ N n, n < N → ∀ m, m < n → (ordB b m).cmp (ordB b n) = -1 := by
  intro N
  induction N with
  | zero => intro n h; omega
  | succ N ih =>
    intro n hN m hm
    rw [ordB_eq hb m, ordB_eq hb n]
    refine dig_lt hb (n + 1) n (by omega) (fun e e' he he' => ?_) m hm
    have h1 := pow_gt hb e'
    exact ih e' (by omega) e he
theorem ordB_nf {b : Nat} (hb : 2 ≤ b) (hb2 : b ≤ 9999) : ∀ N n, n < N → (ordB b n).Nf := by
  intro N
  induction N with
  | zero => intro n h; omega
  | succ N ih =>
    intro n hN
    rw [ordB_eq hb n]
    refine dig_nf hb hb2 (n + 1) n (by omega) (fun e he => ?_) (fun e e' he he' => ordB_lt hb (e' + 1) e' (by omega) e he)
    have h1 := pow_gt hb e
    exact ih e (by omega)
theorem ordB_slow {b : Nat} (hb : 2 ≤ b) : ∀ N n, n < N → (ordB b n).slow b = n := by
  intro N
  induction N with
  | zero => intro n h; omega
  | succ N ih =>
    intro n hN
    rw [ordB_eq hb n]
    refine dig_slow hb (n + 1) n (by omega) (fun e he => ?_)
    have h1 := pow_gt hb e
    exact ih e (by omega)
theorem ordB_most {b : Nat} (hb : 2 ≤ b) : ∀ N n, n < N → (ordB b n).most < b := by
  intro N
  induction N with
  | zero => intro n h; omega
  | succ N ih =>
    intro n hN
    rw [ordB_eq hb n]
    refine dig_most hb (n + 1) n (by omega) (fun e he => ?_)
    have h1 := pow_gt hb e
    exact ih e (by omega)

/-- Of ordinals with numbers less than the base the lesser one has the lesser value. -/
theorem slow_lt {b : Nat} (hb : 2 ≤ b) : ∀ N (s t : T), s.body.length + t.body.length < N → s.Nf → t.Nf → s.most < b → s.cmp t = -1 → s.slow b < t.slow b := by
  intro N
  induction N with
  | zero => intro s t h; omega
  | succ N ih =>
    have head : ∀ r e : T, r.body.length + e.body.length < N → r.Nf → e.Nf → r.most < b → ok (some e) r → r.slow b < b ^ e.slow b := by
      intro r
      induction r with
      | z => intro e _ _ _ _ _; exact pow_pos' hb _
      | c n e2 r2 _ ihr =>
        intro e hN hr he hm ho
        obtain ⟨n1, n2, n3, n4, n5⟩ := hr
        have hl : (c n e2 r2).body.length = 2 + e2.body.length + r2.body.length := by rw [body_c]; simp [enc]; omega
        simp only [most] at hm
        have h1 := ihr e2 (by omega) n4 n3 (by omega) n5
        have h2 := ih e2 e (by omega) n3 he (by omega) (ok_c.1 ho)
        have h3 : b ^ (e2.slow b + 1) ≤ b ^ e.slow b := (pow_le_iff hb).2 h2
        have h4 : (n.toNat + 1) * b ^ e2.slow b ≤ b * b ^ e2.slow b := Nat.mul_le_mul_right _ (by omega)
        rw [Nat.pow_succ, Nat.mul_comm] at h3
        rw [Nat.add_mul, Nat.one_mul] at h4
        simp only [slow]
        omega
    intro s t hN hs ht hm hc
    cases t with
    | z => cases s with
      | z => simp [cmp] at hc
      | c n e r => simp [cmp] at hc
    | c n' e' r' =>
      obtain ⟨m1, m2, m3, m4, m5⟩ := ht
      have hl' : (c n' e' r').body.length = 2 + e'.body.length + r'.body.length := by rw [body_c]; simp [enc]; omega
      have h0 : 1 * b ^ e'.slow b ≤ n'.toNat * b ^ e'.slow b := Nat.mul_le_mul_right _ (by omega)
      have hp := pow_pos' hb (e'.slow b)
      cases s with
      | z => simp only [slow]; omega
      | c n e r =>
        obtain ⟨n1, n2, n3, n4, n5⟩ := hs
        have hl : (c n e r).body.length = 2 + e.body.length + r.body.length := by rw [body_c]; simp [enc]; omega
        simp only [most] at hm
        have h1 := head r e (by omega) n4 n3 (by omega) n5
        rw [cmp_c] at hc
        by_cases he : e.cmp e' = 0
        · obtain rfl := cmp_eq he
          rw [if_pos he] at hc
          by_cases h2 : n < n'
          · have h3 : (n.toNat + 1) * b ^ e.slow b ≤ n'.toNat * b ^ e.slow b := Nat.mul_le_mul_right _ (by omega)
            rw [Nat.add_mul, Nat.one_mul] at h3
            simp only [slow]; omega
          · rw [if_neg h2] at hc
            by_cases h3 : n' < n
            · rw [if_pos h3] at hc; omega
            · rw [if_neg h3] at hc
              obtain rfl : n = n' := by omega
              have := ih r r' (by omega) n4 m4 (by omega) hc
              simp only [slow]; omega
        · rw [if_neg he] at hc
          have h2 := ih e e' (by omega) n3 m3 (by omega) hc
          have h3 : b ^ (e.slow b + 1) ≤ b ^ e'.slow b := (pow_le_iff hb).2 h2
          have h4 : (n.toNat + 1) * b ^ e.slow b ≤ b * b ^ e.slow b := Nat.mul_le_mul_right _ (by omega)
          rw [Nat.pow_succ, Nat.mul_comm] at h3
          rw [Nat.add_mul, Nat.one_mul] at h4
          simp only [slow]
          omega
theorem slow_inj {b : Nat} (hb : 2 ≤ b) {s t : T} (hs : s.Nf) (ht : t.Nf) (ms : s.most < b) (mt : t.most < b) (h : s.slow b = t.slow b) : s = t := by
  rcases cmp_vals s t with hc | hc | hc
  · have := slow_lt hb _ s t (Nat.lt_succ_self _) hs ht ms hc; omega
  · exact cmp_eq hc
  · have := slow_lt hb _ t s (Nat.lt_succ_self _) ht hs mt (by rw [cmp_swap, hc])
    omega
/-- The ordinal of the value is this one. -/
theorem ordB_of_slow {b : Nat} (hb : 2 ≤ b) (hb2 : b ≤ 9999) {t : T} (ht : t.Nf) (mt : t.most < b) : ordB b (t.slow b) = t :=
  slow_inj hb (ordB_nf hb hb2 _ _ (Nat.lt_succ_self _)) ht (ordB_most hb _ _ (Nat.lt_succ_self _)) mt (ordB_slow hb _ _ (Nat.lt_succ_self _))
theorem slow_up {a b : Nat} (ha : 1 ≤ a) (hab : a ≤ b) (t : T) : t.slow a ≤ t.slow b := by
  induction t with
  | z => exact Nat.le_refl _
  | c n e r ihe ihr =>
    have h1 : a ^ e.slow a ≤ b ^ e.slow b := Nat.le_trans (Nat.pow_le_pow_left hab _) (Nat.pow_le_pow_right (by omega) ihe)
    have h2 := Nat.mul_le_mul_left n.toNat h1
    simp only [slow]; omega
theorem fit_yes {t : T} (h : t.Nf) (hl : t.enc.length ≤ 60) : fit t = t.enc := by rw [fit, if_pos (vldB_true.2 ⟨hl, t, rfl, h⟩)]
theorem fit_no {t : T} (hl : 60 < t.enc.length) : fit t = [] := by
  rw [fit, if_neg]
  intro h
  have := (vldB_true.1 h).1
  omega
theorem dig_cnt {f : Nat → T} {b : Nat} (hb : 2 ≤ b) : ∀ K n, n < b ^ K → (dig f b n).cnt ≤ K := by
  intro K
  induction K with
  | zero => intro n h; rw [show n = 0 by simpa using h, dig_z]; exact Nat.le_refl _
  | succ K ih =>
    intro n h
    by_cases h1 : n < b ^ K
    · have := ih n h1; omega
    · rw [dig_c f hb (by omega) h, cnt]
      have := ih (n % b ^ K) (Nat.mod_lt _ (pow_pos' hb _))
      omega

/-- OrdInBase, and the same with exponents that stay numbers. -/
noncomputable def baseRow (n b : Int) : List Int := if 0 ≤ n ∧ n ≤ 1000000000 ∧ 2 ≤ b ∧ b ≤ 90 then fit (ordB b.toNat n.toNat) else []
def numT (e : Nat) : T := if e = 0 then z else c (e : Int) z z
noncomputable def plainRow (n b : Int) : List Int := if 0 ≤ n ∧ n ≤ 1000000000 ∧ 2 ≤ b ∧ b ≤ 90 then fit (dig numT b.toNat n.toNat) else []
noncomputable def baseOk (xs : List Int) (b : Int) : Bool := vldB xs && (decide (2 ≤ b ∧ b ≤ 90) && decide (mostRow xs < b))
noncomputable def changeI (n a b : Int) : Int := if 2 ≤ b ∧ b ≤ 90 then slowRow (baseRow n a) b else -1
noncomputable def goodI (n b : Int) : Int := if 1 ≤ n ∧ 2 ≤ b ∧ b ≤ 89 ∧ 0 ≤ changeI n b (b + 1) then changeI n b (b + 1) - 1 else -1
noncomputable def goods : Nat → Int → Int → List Int
  | 0, _, _ => []
  | k + 1, n, b => if goodI n b < 0 then [] else goodI n b :: goods k (goodI n b) (b + 1)
noncomputable def goodRun (n : Int) : List Int := if 0 ≤ n ∧ n ≤ 1000000000 then n :: goods 59 n 2 else []
noncomputable def goodEnd (n : Int) : Int := if goodRun n ≠ [] ∧ (goodRun n).getLastD 0 = 0 then (goodRun n).length else -1
noncomputable def goodOrds : List Int → Int → List T
  | [], _ => []
  | n :: ns, b => if baseRow n b = [] then [] else ordB b.toNat n.toNat :: goodOrds ns (b + 1)
def readD (b : Nat) : List Nat → Nat
  | [] => 0
  | d :: ds => d + b * readD b ds
/-- How often each power of a base is in a number, the least first. -/
def digs (b n : Nat) : List Nat := if _h : 2 ≤ b ∧ 0 < n then n % b :: digs b (n / b) else []
termination_by n
decreasing_by
  have h := ‹2 ≤ b ∧ 0 < n›
  exact Nat.div_lt_self h.2 h.1
def plainI (n b : Int) : Int := if 1 ≤ n ∧ n ≤ 1000000000 ∧ 2 ≤ b ∧ b ≤ 89 ∧ (readD (b.toNat + 1) (digs b.toNat n.toNat) : Int) - 1 ≤ 1000000000 then (readD (b.toNat + 1) (digs b.toNat n.toNat) : Int) - 1 else -1

end T
end Go.Proofs.Ytfclhepmakhimaa

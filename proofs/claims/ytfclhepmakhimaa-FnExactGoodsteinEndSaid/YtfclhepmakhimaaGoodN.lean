/- Digits of numbers in a base, how long the ordinals are, and the answers on rows. -/
import Derived.Test.YtfclhepmakhimaaGoodM
namespace Go.Proofs.Ytfclhepmakhimaa
set_option maxRecDepth 100000
namespace T

theorem digs_z (b : Nat) : digs b 0 = [] := by rw [digs, dif_neg (by omega)]
theorem digs_c {b n : Nat} (hb : 2 ≤ b) (hn : 0 < n) : digs b n = n % b :: digs b (n / b) := by rw [digs, dif_pos ⟨hb, hn⟩]
theorem digs_len {b : Nat} (hb : 2 ≤ b) : ∀ K n, n < b ^ K → (digs b n).length ≤ K := by
  intro K
  induction K with
  | zero => intro n h; rw [show n = 0 by simpa using h, digs_z]; exact Nat.le_refl _
  | succ K ih =>
    intro n h
    rcases Nat.eq_zero_or_pos n with rfl | hn
    · rw [digs_z]; exact Nat.zero_le _
    · rw [digs_c hb hn, List.length_cons]
      have := ih (n / b) ((Nat.div_lt_iff_lt_mul (by omega)).2 (by rw [← Nat.pow_succ]; exact h))
      omega
theorem digs_pow {b : Nat} (hb : 2 ≤ b) : ∀ N n, n < N → n < b ^ (digs b n).length := by
  intro N
  induction N with
  | zero => intro n h; omega
  | succ N ih =>
    intro n h
    rcases Nat.eq_zero_or_pos n with rfl | hn
    · rw [digs_z]; simp
    · rw [digs_c hb hn, List.length_cons, Nat.pow_succ]
      have h1 := ih (n / b) (by have := Nat.div_lt_self hn (show 1 < b by omega); omega)
      exact (Nat.div_lt_iff_lt_mul (by omega)).1 h1
theorem digs_get {b : Nat} (hb : 2 ≤ b) : ∀ j n, j < (digs b n).length → (digs b n)[j]? = some (n / b ^ j % b) := by
  intro j
  induction j with
  | zero =>
    intro n h
    rcases Nat.eq_zero_or_pos n with rfl | hn
    · rw [digs_z] at h; simp at h
    · rw [digs_c hb hn]; simp
  | succ j ih =>
    intro n h
    rcases Nat.eq_zero_or_pos n with rfl | hn
    · rw [digs_z] at h; simp at h
    · rw [digs_c hb hn] at h ⊢
      simp only [List.length_cons] at h
      rw [List.getElem?_cons_succ, ih (n / b) (by omega), Nat.div_div_eq_div_mul, Nat.pow_succ, Nat.mul_comm]
/-- The digits, the greatest power first. -/
def digI (b n : Nat) : List Int := (digs b n).reverse.map Int.ofNat
theorem digI_len (b n : Nat) : (digI b n).length = (digs b n).length := by simp [digI]
theorem digI_get {b n i t : Nat} (hb : 2 ≤ b) (h : i + t + 1 = (digs b n).length) : (digI b n)[i]? = some ((n / b ^ t % b : Nat) : Int) := by
  rw [digI, List.getElem?_map, List.getElem?_reverse (by omega), show (digs b n).length - 1 - i = t by omega, digs_get hb t n (by omega)]
  rfl

theorem dig_start {f : Nat → T} {b n : Nat} (hb : 2 ≤ b) : dig f b (n % b ^ (digs b n).length) = dig f b n := by
  rw [Nat.mod_eq_of_lt (digs_pow hb (n + 1) n (by omega))]
theorem dig_end {f : Nat → T} {b n : Nat} : dig f b (n % b ^ 0) = z := by rw [Nat.pow_zero, Nat.mod_one, dig_z]
theorem dig_skip {f : Nat → T} {b n t : Nat} (h : n / b ^ t % b = 0) : dig f b (n % b ^ (t + 1)) = dig f b (n % b ^ t) := by
  rw [Nat.mod_pow_succ, h, Nat.mul_zero, Nat.add_zero]
theorem dig_next {f : Nat → T} {b n t : Nat} (hb : 2 ≤ b) (h : 0 < n / b ^ t % b) : dig f b (n % b ^ (t + 1)) = c ((n / b ^ t % b : Nat) : Int) (f t) (dig f b (n % b ^ t)) := by
  have hp := pow_pos' hb t
  have h1 : n % b ^ (t + 1) = n % b ^ t + b ^ t * (n / b ^ t % b) := Nat.mod_pow_succ
  have h2 : n % b ^ (t + 1) < b ^ (t + 1) := Nat.mod_lt _ (pow_pos' hb _)
  have h3 : b ^ t * 1 ≤ b ^ t * (n / b ^ t % b) := Nat.mul_le_mul_left _ h
  have h4 : n % b ^ t < b ^ t := Nat.mod_lt _ hp
  rw [Nat.mul_one] at h3
  have h7 : b ^ t ≤ n % b ^ (t + 1) := by rw [h1]; exact Nat.le_trans h3 (Nat.le_add_left _ _)
  rw [dig_c f hb h7 h2]
  have h5 : n % b ^ (t + 1) / b ^ t = n / b ^ t % b := by
    rw [h1, Nat.add_mul_div_left _ _ hp, Nat.div_eq_of_lt h4, Nat.zero_add]
  have h6 : n % b ^ (t + 1) % b ^ t = n % b ^ t := by
    rw [h1, Nat.add_mul_mod_self_left, Nat.mod_mod]
  rw [h5, h6]

def sumG (g : Nat → Nat) : Nat → Nat
  | 0 => 0
  | K + 1 => sumG g K + (1 + g K)
theorem dig_blen {f : Nat → T} {b : Nat} (hb : 2 ≤ b) (g : Nat → Nat) : ∀ K n, n < b ^ K → (∀ e, e < K → (f e).enc.length ≤ g e) → (dig f b n).enc.length ≤ 1 + sumG g K := by
  intro K
  induction K with
  | zero => intro n h _; rw [show n = 0 by simpa using h, dig_z]; simp [enc, body, sumG]
  | succ K ih =>
    intro n h hf
    by_cases h1 : n < b ^ K
    · have := ih n h1 (fun e he => hf e (by omega))
      simp only [sumG]; omega
    · rw [dig_c f hb (by omega) h, enc_len, body_c]
      have h2 := ih (n % b ^ K) (Nat.mod_lt _ (pow_pos' hb _)) (fun e he => hf e (by omega))
      have h3 := hf K (by omega)
      rw [enc_len] at h2
      simp only [List.length_cons, List.length_append, sumG]
      omega
def gl (e : Nat) : Nat := if e < 1 then 1 else if e < 2 then 3 else if e < 4 then 7 else if e < 8 then 15 else 39
theorem ordB_gl {b : Nat} (hb : 2 ≤ b) : ∀ e, e < 32 → (ordB b e).enc.length ≤ gl e := by
  have two : ∀ K, 2 ^ K ≤ b ^ K := fun K => Nat.pow_le_pow_left hb K
  have h0 : ∀ e, e < 1 → (ordB b e).enc.length ≤ gl e := fun e he => by
    obtain rfl : e = 0 := by omega
    rw [ordB_z]; decide
  have h1 : ∀ e, e < 2 → (ordB b e).enc.length ≤ gl e := fun e he => by
    by_cases h : e < 1
    · exact h0 e h
    · rw [ordB_eq hb, gl, if_neg h, if_pos he]
      exact dig_blen hb gl 1 e (by have := two 1; omega) (fun e he => h0 e (by omega))
  have h2 : ∀ e, e < 4 → (ordB b e).enc.length ≤ gl e := fun e he => by
    by_cases h : e < 2
    · exact h1 e h
    · rw [ordB_eq hb, gl, if_neg (by omega), if_neg h, if_pos he]
      exact dig_blen hb gl 2 e (by have := two 2; omega) (fun e he => h1 e (by omega))
  have h3 : ∀ e, e < 8 → (ordB b e).enc.length ≤ gl e := fun e he => by
    by_cases h : e < 4
    · exact h2 e h
    · rw [ordB_eq hb, gl, if_neg (by omega), if_neg (by omega), if_neg h, if_pos he]
      exact dig_blen hb gl 3 e (by have := two 3; omega) (fun e he => h2 e (by omega))
  intro e he
  by_cases h : e < 8
  · exact h3 e h
  · rw [ordB_eq hb, gl, if_neg (by omega), if_neg (by omega), if_neg (by omega), if_neg h]
    exact dig_blen hb gl 5 e (by have := two 5; omega) (fun e he => h3 e (by omega))
theorem big_pow {b n : Nat} (hb : 2 ≤ b) (hn : n ≤ 1000000000) : n < b ^ 30 := by
  have h1 : 2 ^ 30 ≤ b ^ 30 := Nat.pow_le_pow_left hb 30
  have h2 : 1000000000 < 2 ^ 30 := by decide
  omega
theorem exp_le {b n e : Nat} (hb : 2 ≤ b) (hn : n ≤ 1000000000) (h : b ^ e ≤ n) : e ≤ 29 := by
  have h1 := (pow_lt_iff hb).1 (Nat.lt_of_le_of_lt h (big_pow hb hn))
  omega
theorem exp_len {b e : Nat} (hb : 2 ≤ b) (he : e ≤ 29) : (ordB b e).enc.length ≤ 39 := by
  have h1 := ordB_gl hb e (by omega)
  have h2 : gl e ≤ 39 := by unfold gl; repeat (split <;> try omega)
  omega
theorem base_len {b n : Nat} (hb : 2 ≤ b) (hn : n ≤ 1000000000) : (ordB b n).enc.length ≤ 2000 := by
  rw [ordB_eq hb]
  have h := dig_blen hb gl 30 n (big_pow hb hn) (fun e he => ordB_gl hb e (by omega))
  have h2 : 1 + sumG gl 30 ≤ 2000 := by decide
  omega
theorem exp_fit {b e : Nat} (hb : 2 ≤ b) (hb2 : b ≤ 90) (he : e ≤ 29) : fit (ordB b e) = (ordB b e).enc :=
  fit_yes (ordB_nf hb (by omega) _ _ (Nat.lt_succ_self _)) (by have := exp_len hb he; omega)
theorem digs_cnt {b n : Nat} (hb : 2 ≤ b) (hn : n ≤ 1000000000) : (digs b n).length ≤ 30 := digs_len hb 30 n (big_pow hb hn)
theorem ordB_cnt {b n : Nat} (hb : 2 ≤ b) (hn : n ≤ 1000000000) : (ordB b n).cnt ≤ 30 := by rw [ordB_eq hb]; exact dig_cnt hb 30 n (big_pow hb hn)

theorem numT_len (e : Nat) : (numT e).enc.length ≤ 3 := by unfold numT; split <;> simp [enc, body]
theorem numT_row {e : Nat} (h : e ≤ 9999) : num' (e : Int) = (numT e).enc := by
  rw [num', if_neg (by omega), numT]
  by_cases h0 : e = 0
  · rw [if_pos (by omega), if_pos h0]; rfl
  · rw [if_neg (by omega), if_neg h0]; rfl
theorem numT_nf {e : Nat} (h : e ≤ 9999) : (numT e).Nf := by
  unfold numT
  split
  · trivial
  · exact ⟨by omega, by omega, trivial, trivial, ok_z _⟩
theorem numT_lt {a b : Nat} (h : a < b) : (numT a).cmp (numT b) = -1 := by
  unfold numT
  rw [if_neg (show ¬ b = 0 by omega)]
  split
  · rfl
  · rw [cmp_c, if_pos (cmp_refl _), if_pos (by omega)]
theorem numT_slow (b e : Nat) : (numT e).slow b = e := by
  unfold numT
  split
  · rename_i h; rw [h]; rfl
  · simp [slow]
theorem plain_len {b n : Nat} (hb : 2 ≤ b) (hn : n ≤ 1000000000) : (dig numT b n).enc.length ≤ 2000 := by
  have h := dig_blen hb (fun _ => 3) 30 n (big_pow hb hn) (fun e _ => numT_len e)
  have h2 : 1 + sumG (fun _ => 3) 30 ≤ 2000 := by decide
  omega
theorem plain_nf {b n : Nat} (hb : 2 ≤ b) (hb2 : b ≤ 9999) (hn : n ≤ 1000000000) : (dig numT b n).Nf :=
  dig_nf hb hb2 (n + 1) n (by omega) (fun _ he => numT_nf (by have := exp_le hb hn he; omega)) (fun _ _ h _ => numT_lt h)

/-- The rows. -/
theorem baseRow_in {n b : Nat} (hn : n ≤ 1000000000) (hb : 2 ≤ b) (hb2 : b ≤ 90) : baseRow (n : Int) (b : Int) = fit (ordB b n) := by
  rw [baseRow, if_pos (by omega)]; rfl
theorem baseRow_out {n b : Int} (h : n < 0 ∨ 1000000000 < n ∨ b < 2 ∨ 90 < b) : baseRow n b = [] := by rw [baseRow, if_neg (by omega)]
theorem plainRow_in {n b : Nat} (hn : n ≤ 1000000000) (hb : 2 ≤ b) (hb2 : b ≤ 90) : plainRow (n : Int) (b : Int) = fit (dig numT b n) := by
  rw [plainRow, if_pos (by omega)]; rfl
theorem plainRow_out {n b : Int} (h : n < 0 ∨ 1000000000 < n ∨ b < 2 ∨ 90 < b) : plainRow n b = [] := by rw [plainRow, if_neg (by omega)]
theorem baseRow_len (n b : Int) : (baseRow n b).length ≤ 1000 := by
  unfold baseRow
  split
  · exact fit_len _
  · simp
theorem plainRow_len (n b : Int) : (plainRow n b).length ≤ 1000 := by
  unfold plainRow
  split
  · exact fit_len _
  · simp

end T
end Go.Proofs.Ytfclhepmakhimaa

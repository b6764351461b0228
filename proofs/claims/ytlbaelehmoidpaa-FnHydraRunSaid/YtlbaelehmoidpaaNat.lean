/- Natural sums, on trees and on rows. -/
import Derived.Test.YtlbaelehmoidpaaAdd
namespace Go.Proofs.Ytlbaelehmoidpaa
set_option maxRecDepth 100000
namespace T

/-- All terms of both, those with the same exponent together. -/
def nat : T → T → T
  | z, t => t
  | s, z => s
  | c n e q, c m f r => if e.cmp f = 1 then c n e (nat q (c m f r)) else if e.cmp f = -1 then c m f (nat (c n e q) r) else c (n + m) e (nat q r)
termination_by s t => s.cnt + t.cnt
decreasing_by all_goals simp [cnt] <;> omega

theorem nat_z (s : T) : nat s z = s := by cases s <;> rw [nat]; simp
theorem z_nat (t : T) : nat z t = t := by rw [nat]
theorem nat_gt {e f : T} (n m : Int) (q r : T) (h : e.cmp f = 1) : nat (c n e q) (c m f r) = c n e (nat q (c m f r)) := by rw [nat, if_pos h]
theorem nat_lt {e f : T} (n m : Int) (q r : T) (h : e.cmp f = -1) : nat (c n e q) (c m f r) = c m f (nat (c n e q) r) := by rw [nat, if_neg (by omega), if_pos h]
theorem nat_eq {e f : T} (n m : Int) (q r : T) (h : e.cmp f = 0) : nat (c n e q) (c m f r) = c (n + m) e (nat q r) := by rw [nat, if_neg (by omega), if_neg (by omega)]

theorem nat_len (s t : T) : (nat s t).body.length ≤ s.body.length + t.body.length := by
  induction s generalizing t with
  | z => rw [z_nat]; simp [body]
  | c n e q _ ih =>
    induction t with
    | z => rw [nat_z]; simp [body]
    | c m f r _ ih2 =>
      rcases cmp_vals e f with h | h | h
      · rw [nat_lt n m q r h, body_c m f, body_c m f r]
        simp
        omega
      · rw [nat_eq n m q r h, body_c, body_c n e q, body_c m f r]
        have h1 := ih r
        simp
        omega
      · rw [nat_gt n m q r h, body_c n e, body_c n e q]
        have h1 := ih (c m f r)
        simp
        omega

/-- In whatever order. -/
theorem nat_comm (s t : T) : nat s t = nat t s := by
  induction s generalizing t with
  | z => rw [z_nat, nat_z]
  | c n e q _ ih =>
    induction t with
    | z => rw [nat_z, z_nat]
    | c m f r _ ih2 =>
      have hsw := cmp_swap e f
      rcases cmp_vals e f with h | h | h
      · rw [nat_lt n m q r h, nat_gt m n r q (by omega), ih2]
      · have hef := cmp_eq h
        subst hef
        rw [nat_eq n m q r h, nat_eq m n r q h, ih r, Int.add_comm]
      · rw [nat_gt n m q r h, nat_lt m n r q (by omega), ih]

noncomputable def natRow (xs ys : List Int) : List Int := if vldB xs = true ∧ vldB ys = true then fit (nat (of xs) (of ys)) else []
noncomputable def natOk (xs ys : List Int) : Bool := vldB xs && vldB ys && vldB (nat (of xs) (of ys)).enc
theorem natRow_val {xs ys : List Int} (h1 : vldB xs = true) (h2 : vldB ys = true) : natRow xs ys = fit (nat (of xs) (of ys)) ∧ natOk xs ys = vldB (nat (of xs) (of ys)).enc :=
  ⟨by rw [natRow, if_pos ⟨h1, h2⟩], by rw [natOk, h1, h2]; rfl⟩
theorem natRow_bad {xs ys : List Int} (h : vldB xs = false ∨ vldB ys = false) : natRow xs ys = [] ∧ natOk xs ys = false := by
  constructor
  · rw [natRow, if_neg]; rintro ⟨h1, h2⟩; rcases h with h | h <;> simp [h] at h1 h2
  · rw [natOk]; rcases h with h | h <;> simp [h]
theorem natRow_len (xs ys : List Int) : (natRow xs ys).length ≤ 1000 := by
  unfold natRow
  split
  · exact fit_len _
  · simp

end T
end Go.Proofs.Ytlbaelehmoidpaa

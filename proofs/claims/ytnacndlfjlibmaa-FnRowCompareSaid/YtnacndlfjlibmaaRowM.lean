/- Lists of numbers and their ordinals are in the same order. -/
import Derived.Test.YtnacndlfjlibmaaRowB
import Derived.Test.YtnacndlfjlibmaaRowO
import Derived.Test.YtnacndlfjlibmaaRowD
namespace Go.Proofs.Ytnacndlfjlibmaa
set_option maxRecDepth 100000
open Go.RowKit
namespace T

theorem cmp_below {q s r : T} {m : Int} (h : ok (some q) r) : r.cmp (c m q s) = -1 := by
  cases r with
  | z => rfl
  | c n e r' =>
    have h1 := ok_c.1 h
    rw [cmp_c, if_neg (by rw [h1]; decide), h1]
theorem cmp_above {q s r : T} {m : Int} (h : ok (some q) r) : (c m q s).cmp r = 1 := by
  have h1 := cmp_below (m := m) (s := s) h
  have h2 := cmp_swap (c m q s) r
  omega

theorem ofDigs_cmp : ∀ (xs ys : List Int), xs.length = ys.length → (∀ x ∈ xs, 0 ≤ x) → (∀ y ∈ ys, 0 ≤ y) → (ofDigs numT xs).cmp (ofDigs numT ys) = cmpL xs ys := by
  intro xs
  induction xs with
  | nil =>
    intro ys hl _ _
    have : ys = [] := List.length_eq_zero_iff.1 hl.symm
    subst this
    rfl
  | cons x xs ih =>
    intro ys hl hx hy
    cases ys with
    | nil => simp at hl
    | cons y ys =>
      have hl' : xs.length = ys.length := by simpa using hl
      have hx0 := hx x List.mem_cons_self
      have hy0 := hy y List.mem_cons_self
      have ih' := ih ys hl' (fun z hz => hx z (List.mem_cons_of_mem _ hz)) (fun z hz => hy z (List.mem_cons_of_mem _ hz))
      by_cases hx1 : x = 0
      · subst hx1
        rw [ofDigs_skip]
        by_cases hy1 : y = 0
        · subst hy1
          rw [ofDigs_skip, cmpL_eq]
          exact ih'
        · rw [ofDigs_next hy1, cmpL_lt (by omega)]
          exact cmp_below (ofDigs_ok (by omega))
      · rw [ofDigs_next hx1]
        by_cases hy1 : y = 0
        · subst hy1
          rw [ofDigs_skip, cmpL_gt (by omega)]
          exact cmp_above (ofDigs_ok (by omega))
        · rw [ofDigs_next hy1, hl', cmp_c, if_pos (cmp_refl _), ih']
          rcases Int.lt_trichotomy x y with h | h | h
          · rw [if_pos h, cmpL_lt h]
          · subst h; rw [if_neg (by omega), if_neg (by omega), cmpL_eq]
          · rw [if_neg (by omega), if_pos h, cmpL_gt h]

theorem rowOrd_vld {xs : List Int} (h : rowB xs = true) : vldB (rowOrd xs) = true := by
  have h1 := rowB_true.1 h
  have h3 := ofDigs_len xs
  rw [rowOrd_in h]
  exact vld_mk (ofDigs_nf (by omega) (upTo_true.1 h1.2)) (by omega)
theorem rowOrd_cmp {xs ys : List Int} (h1 : rowB xs = true) (h2 : rowB ys = true) (hl : xs.length = ys.length) : cmpRow (rowOrd xs) (rowOrd ys) = cmpL xs ys := by
  rw [cmpRow_val (rowOrd_vld h1) (rowOrd_vld h2), rowOrd_in h1, rowOrd_in h2, of_enc, of_enc]
  exact ofDigs_cmp xs ys hl (fun x hx => (upTo_true.1 (rowB_true.1 h1).2 x hx).1) (fun x hx => (upTo_true.1 (rowB_true.1 h2).2 x hx).1)
theorem rowOrd_pos {xs : List Int} (h : rowB xs = true) : 0 < (rowOrd xs).length := by rw [rowOrd_in h, enc_len]; omega
end T

theorem cmpL_swap : ∀ xs ys : List Int, cmpL ys xs = - cmpL xs ys
  | [], [] => rfl
  | [], _ :: _ => rfl
  | _ :: _, [] => rfl
  | x :: xs, y :: ys => by
    rcases Int.lt_trichotomy x y with h | h | h
    · rw [cmpL_lt h, cmpL_gt h]; rfl
    · subst h; rw [cmpL_eq, cmpL_eq, cmpL_swap xs ys]
    · rw [cmpL_lt h, cmpL_gt h]

theorem rowCmp_cases (xs ys : List Int) : rowCmp xs ys = -2 ∨ ((rowB xs = true ∧ rowB ys = true) ∧ xs.length = ys.length ∧ rowCmp xs ys = cmpL xs ys) := by
  by_cases h : (rowB xs = true ∧ rowB ys = true) ∧ xs.length = ys.length
  · exact .inr ⟨h.1, h.2, rowCmp_in h.1.1 h.1.2 h.2⟩
  · exact .inl (by rw [rowCmp, if_neg h])

theorem cmpL_take (v : Nat) (x : Int) (zs ts : List Int) : ∀ xs : List Int, v < xs.length → xs.getD v 0 = x → ts.length = zs.length → xs = xs.take v ++ x :: zs → cmpL (xs.take v ++ (x - 1) :: ts) xs = -1 := by
  induction v with
  | zero =>
    intro xs _ _ _ h
    rw [h]
    simp
    exact cmpL_lt (by omega)
  | succ v ih =>
    intro xs hv hx hl h
    cases xs with
    | nil => simp at hv
    | cons y xs =>
      simp only [List.take_succ_cons, List.cons_append] at h ⊢
      rw [cmpL_eq]
      refine ih xs (by simpa using hv) (by simpa using hx) hl ?_
      exact (List.cons.inj h).2

theorem take_mid {xs : List Int} {v : Nat} (h : v < xs.length) : xs = xs.take v ++ xs.getD v 0 :: xs.drop (v + 1) := by
  rw [getD_at h, ← List.drop_eq_getElem_cons h, List.take_append_drop]

theorem dropRow_less {xs ys : List Int} {V : Int} (h : dropOk xs V ys = true) : rowB (dropRow xs V ys) = true ∧ (dropRow xs V ys).length = xs.length ∧ cmpL (dropRow xs V ys) xs = -1 := by
  obtain ⟨h1, h2, h3⟩ := dropOk_in h
  have h4 := (rowB_true.1 h1)
  have h5 := dropPl_true.1 h2
  have h6 := dropFit_true.1 h3
  obtain ⟨v, rfl⟩ := Int.eq_ofNat_of_zero_le h5.1.1
  have hv : v < xs.length := by omega
  have hx := upTo_get h4.2 hv
  have hl : (dropRow xs (v : Int) ys).length = xs.length := by
    rw [dropRow_yes h, Int.toNat_natCast]
    simp
    omega
  rw [Int.toNat_natCast] at h5
  refine ⟨?_, hl, ?_⟩
  · rw [rowB_in (by rw [hl]; exact h4.1), upTo_true]
    intro z hz
    rw [dropRow_yes h, Int.toNat_natCast] at hz
    rcases List.mem_append.1 hz with hz | hz
    · exact upTo_true.1 h4.2 z (List.mem_of_mem_take hz)
    · rcases List.mem_cons.1 hz with rfl | hz
      · omega
      · exact upTo_true.1 h6.2 z hz
  · rw [dropRow_yes h, Int.toNat_natCast]
    exact cmpL_take v _ (xs.drop (v + 1)) ys xs hv rfl (by rw [List.length_drop]; omega) (take_mid hv)

end Go.Proofs.Ytnacndlfjlibmaa

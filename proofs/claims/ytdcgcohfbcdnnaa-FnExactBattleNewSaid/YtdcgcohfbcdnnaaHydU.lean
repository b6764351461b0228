/- Rows of cuts: HydraRun and HydraFight, on rows. -/
import Derived.Test.YtdcgcohfbcdnnaaHydK
import Derived.Test.YtdcgcohfbcdnnaaHydF
namespace Go.Proofs.Ytdcgcohfbcdnnaa
set_option maxRecDepth 100000
open Go.RowKit
namespace H

/-- After these cuts; nothing if one of them cannot be. -/
noncomputable def runR (n : Int) : List Int → List Int → Option (List Int)
  | xs, [] => some xs
  | xs, h :: hs => if cutOkB xs h n = true then runR n (cutRow xs h n) hs else none
noncomputable def runOkB (xs hs : List Int) (n : Int) : Bool := hvB xs && decide (1 ≤ n ∧ n ≤ 9) && decide (hs.length ≤ 400) && (runR n xs hs).isSome
noncomputable def runRow (xs hs : List Int) (n : Int) : List Int := if runOkB xs hs n = true then (runR n xs hs).getD [] else []

theorem cut_hv {xs : List Int} {h n : Int} (hq : cutOkB xs h n = true) : hvB (cutRow xs h n) = true := by
  rw [cutRow, if_pos hq]
  rw [cutOkB, Bool.and_eq_true] at hq
  exact hv_mk (of_decide_eq_true hq.2)
theorem hv_len {xs : List Int} (h : hvB xs = true) : 1 ≤ xs.length ∧ xs.length ≤ 60 := by
  obtain ⟨f, rfl, h60, _⟩ := hv_of h
  exact ⟨by rw [enc_len]; omega, h60⟩
theorem run_hv {n : Int} : ∀ {hs xs ys : List Int}, hvB xs = true → runR n xs hs = some ys → hvB ys = true := by
  intro hs
  induction hs with
  | nil => intro xs ys h he; cases he; exact h
  | cons a r ih =>
    intro xs ys _ he
    rw [runR] at he
    by_cases hq : cutOkB xs a n = true
    · rw [if_pos hq] at he
      exact ih (cut_hv hq) he
    · rw [if_neg hq] at he; cases he
theorem run_app {n : Int} : ∀ (hs gs xs : List Int), runR n xs (hs ++ gs) = (runR n xs hs).bind (fun ys => runR n ys gs) := by
  intro hs
  induction hs with
  | nil => intro gs xs; rfl
  | cons a r ih =>
    intro gs xs
    rw [List.cons_append, runR, runR]
    by_cases hq : cutOkB xs a n = true
    · rw [if_pos hq, if_pos hq, ih]
    · rw [if_neg hq, if_neg hq]; rfl
theorem run_bad {xs hs : List Int} {n : Int} (h : ¬ (hvB xs = true ∧ (1 ≤ n ∧ n ≤ 9) ∧ hs.length ≤ 400)) : runOkB xs hs n = false := by
  rw [runOkB]
  by_cases h1 : hvB xs = true
  · by_cases h2 : 1 ≤ n ∧ n ≤ 9
    · rw [decide_eq_false (fun h3 => h ⟨h1, h2, h3⟩)]; simp
    · rw [decide_eq_false h2]; simp
  · have : hvB xs = false := by cases hb : hvB xs with | true => exact absurd hb h1 | false => rfl
    rw [this]; rfl
theorem run_no {xs hs : List Int} {n : Int} (h : runOkB xs hs n = false) : runRow xs hs n = [] := by rw [runRow, if_neg (by rw [h]; simp)]
theorem run_ok {xs hs : List Int} {n : Int} (h1 : hvB xs = true) (h2 : 1 ≤ n ∧ n ≤ 9) (h3 : hs.length ≤ 400) : runOkB xs hs n = (runR n xs hs).isSome := by
  rw [runOkB, h1, decide_eq_true h2, decide_eq_true h3]; rfl
theorem run_len (xs hs : List Int) (n : Int) : (runRow xs hs n).length ≤ 1000 := by
  rw [runRow]
  split
  · rename_i h
    rw [runOkB, Bool.and_eq_true, Bool.and_eq_true, Bool.and_eq_true] at h
    obtain ⟨ys, hy⟩ := Option.isSome_iff_exists.1 h.2
    rw [hy]
    have := (hv_len (run_hv h.1.1.1 hy)).2
    simp only [Option.getD_some]; omega
  · simp

/-- How many cuts kill it; c are made already. -/
noncomputable def fightI (n : Int) : Nat → Nat → List Int → Int
  | 0, _, _ => -1
  | k + 1, q, xs => if headsRow xs = 0 then q else if cutOkB xs (headsRow xs - 1) n = true then fightI n k (q + 1) (cutRow xs (headsRow xs - 1) n) else -1
noncomputable def fightRow (xs : List Int) (n : Int) : Int := if hvB xs = true ∧ 1 ≤ n ∧ n ≤ 9 then fightI n 401 0 xs else -1
theorem fight_bnd (n : Int) : ∀ k c xs, -1 ≤ fightI n k c xs ∧ fightI n k c xs ≤ c + k := by
  intro k
  induction k with
  | zero => intro c xs; simp only [fightI]; omega
  | succ k ih =>
    intro c xs
    rw [fightI]
    split
    · omega
    · split
      · have := ih (c + 1) (cutRow xs (headsRow xs - 1) n)
        omega
      · omega
theorem fightRow_bnd (xs : List Int) (n : Int) : -1 ≤ fightRow xs n ∧ fightRow xs n ≤ 401 := by
  rw [fightRow]
  split
  · have := fight_bnd n 401 0 xs; omega
  · omega
theorem heads_one {xs : List Int} (h : hvB xs = true) : headsRow xs = 0 ↔ xs.length = 1 := by
  have := heads_facts h
  omega
end H
end Go.Proofs.Ytdcgcohfbcdnnaa

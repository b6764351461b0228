/- What the drawn laws of HydraValid and HydraHeads say, on rows. -/
import Derived.Test.YtdcgcohfbcdnnaaHyd
namespace Go.Proofs.Ytdcgcohfbcdnnaa
set_option maxRecDepth 100000
namespace H

theorem hv_nil : hvB [] = false := hvB_false.2 (by rintro ⟨_, f, h⟩; simp [enc] at h)
theorem hv_snoc {xs : List Int} (x : Int) (h : hvB xs = true) : hvB (xs ++ [x]) = false := hvB_false.2 (by
  rintro ⟨_, g, hg⟩
  obtain ⟨f, rfl, _, _⟩ := hv_of h
  have := (enc_inj (s := f) (t := g) (r₁ := [x]) (r₂ := []) (by simpa using hg)).2
  cases this)
theorem hv_branch {xs : List Int} (h : hvB xs = true) (hl : xs.length ≤ 59) : hvB (1 :: xs) = true := by
  obtain ⟨f, rfl, _, _⟩ := hv_of h
  have e : (1 : Int) :: f.enc = (c f z).enc := by simp [enc, body, cnt]
  rw [e]
  exact hv_mk (by rw [← e]; simp; omega)
theorem noughts_enc (f : H) : 1 ≤ noughts f.enc := by
  induction f with
  | z => simp [enc, cnt, body, noughts]
  | c k r ihk _ =>
    have e : (c k r).enc = ((c k r).cnt : Int) :: (k.enc ++ r.body) := by rw [← body_c]; rfl
    rw [e, noughts, noughts_app]
    omega
theorem noughts_body {f : H} (h : f ≠ z) : 1 ≤ noughts f.body := by
  cases f with
  | z => exact absurd rfl h
  | c k r => rw [body_c, noughts_app]; have := noughts_enc k; omega
/-- What the law of HydraHeads says. -/
theorem heads_facts {xs : List Int} (h : hvB xs = true) : (xs.length = 1 ∧ headsRow xs = 0) ∨ (2 ≤ xs.length ∧ 1 ≤ headsRow xs ∧ headsRow xs < (xs.length : Int)) := by
  obtain ⟨f, rfl, h60, _⟩ := hv_of h
  rw [headsRow, if_pos h]
  have e : f.enc.drop 1 = f.body := rfl
  rw [e]
  cases f with
  | z => exact .inl ⟨rfl, rfl⟩
  | c k r =>
    right
    have h1 := noughts_body (f := c k r) (by intro h; cases h)
    have h2 := noughts_le (c k r).body
    have h3 := enc_len (c k r)
    omega
theorem heads_bad {xs : List Int} (h : hvB xs = false) : headsRow xs = -1 := by rw [headsRow, if_neg (by rw [h]; simp)]

end H
end Go.Proofs.Ytdcgcohfbcdnnaa

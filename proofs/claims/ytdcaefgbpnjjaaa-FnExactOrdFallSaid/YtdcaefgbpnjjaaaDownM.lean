/- Steps down until 0: what the loop answers. -/
import Derived.Test.YtdcaefgbpnjjaaaDownB
namespace Go.Proofs.Ytdcaefgbpnjjaaa
namespace T

theorem it_shift (v : Int) (t : T) (i : Nat) : it v (t.step v) i = it v t (i + 1) := by
  induction i with
  | zero => rfl
  | succ i ih => rw [it, ih]; rfl
/-- How many of the first steps are from an ordinal of the kind 1. -/
def ones (v : Int) (t : T) : Nat → Nat
  | 0 => 0
  | m + 1 => ones v t m + if (it v t m).kind = 1 then 1 else 0
theorem ones_le (v : Int) (t : T) (m : Nat) : ones v t m ≤ m := by
  induction m with
  | zero => exact Nat.le_refl _
  | succ m ih => rw [ones]; split <;> omega
theorem ones_shift (v : Int) (t : T) (m : Nat) : ones v t (m + 1) = (if t.kind = 1 then 1 else 0) + ones v (t.step v) m := by
  induction m with
  | zero => by_cases h : t.kind = 1 <;> simp [ones, it, h]
  | succ m ih => rw [ones, ih, ones, it_shift]; omega
theorem VU.tail {v : Int} {t : T} {m : Nat} (h : VU v t (m + 1)) : VU v (t.step v) m := fun j hj => by rw [it_shift]; exact h (j + 1) (by omega)
theorem NZ.tail {v : Int} {t : T} {m : Nat} (h : NZ v t (m + 1)) : NZ v (t.step v) m := fun j hj => by rw [it_shift]; exact h (j + 1) (by omega)

theorem down_end {v : Int} : ∀ {m g : Nat} {t : T}, VU v t m → NZ v t m → it v t m = z → m ≤ g → down v g t = some (m, ones v t m)
  | 0, g, t, _, _, hz, _ => by
    have hz' : t = z := hz
    rw [hz', down_z]; rfl
  | m + 1, g, t, hv, hn, hz, hg => by
    obtain ⟨g, rfl⟩ : ∃ g', g = g' + 1 := ⟨g - 1, by omega⟩
    have h0 : t ≠ z := hn 0 (by omega)
    have h1 : vldB (t.step v).enc = true := hv 1 (by omega)
    rw [down_s v g h0, if_pos h1, down_end hv.tail hn.tail (by rw [it_shift]; exact hz) (by omega), ones_shift]
    simp only [Option.map_some, Option.some.injEq, Prod.mk.injEq, true_and]
    omega
theorem down_long {v : Int} : ∀ {m : Nat} {t : T}, NZ v t m → it v t m ≠ z → down v m t = none
  | 0, t, _, hz => down_0 v hz
  | m + 1, t, hn, hz => by
    have h0 : t ≠ z := hn 0 (by omega)
    rw [down_s v m h0]
    split
    · rw [down_long hn.tail (by rw [it_shift]; exact hz)]; rfl
    · rfl
theorem down_bad {v : Int} : ∀ {m g : Nat} {t : T}, NZ v t (m + 1) → vldB (it v t (m + 1)).enc = false → m + 1 ≤ g → down v g t = none
  | m, 0, t, _, _, hg => by omega
  | 0, g + 1, t, hn, hb, _ => by
    have hb' : vldB (t.step v).enc = false := hb
    have h0 : t ≠ z := hn 0 (by omega)
    rw [down_s v g h0, if_neg (by rw [hb']; decide)]
  | m + 1, g + 1, t, hn, hb, hg => by
    have h0 : t ≠ z := hn 0 (by omega)
    rw [down_s v g h0]
    split
    · rw [down_bad (m := m) hn.tail (by rw [it_shift]; exact hb) (by omega)]; rfl
    · rfl

theorem downP_bad {xs : List Int} {n : Int} (h : vldB xs = false ∨ ¬ (0 ≤ n ∧ n ≤ 99)) : downS xs n = -1 ∧ downO xs n = -1 := by
  have h1 : downP xs n = none := by
    rw [downP, if_neg]
    rintro ⟨k1, k2⟩
    rcases h with h | h
    · rw [h] at k1; cases k1
    · exact h k2
  exact ⟨by rw [downS, h1], by rw [downO, h1]⟩
theorem downP_none {t : T} {n : Int} (h : down n 3000 t = none) : downS t.enc n = -1 ∧ downO t.enc n = -1 := by
  have h1 : downP t.enc n = none := by
    rw [downP]
    split
    · rw [of_enc]; exact h
    · rfl
  exact ⟨by rw [downS, h1], by rw [downO, h1]⟩
theorem downP_some {t : T} {n : Int} {p : Nat × Nat} (hv : vldB t.enc = true) (hn : 0 ≤ n ∧ n ≤ 99) (h : down n 3000 t = some p) : downS t.enc n = p.1 ∧ downO t.enc n = p.2 := by
  have h1 : downP t.enc n = some p := by rw [downP, if_pos ⟨hv, hn⟩, of_enc]; exact h
  exact ⟨by rw [downS, h1], by rw [downO, h1]⟩

end T
end Go.Proofs.Ytdcaefgbpnjjaaa

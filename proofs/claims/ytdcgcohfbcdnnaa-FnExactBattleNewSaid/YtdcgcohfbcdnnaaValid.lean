/- OrdValid, the program's and the model's: the same truth of the same row. -/
import Derived.Test.YtdcgcohfbcdnnaaEndS
namespace Go.Proofs.Ytdcgcohfbcdnnaa
set_option maxRecDepth 100000
open Go.RowKit

/-- A slice reads as a row of numbers. -/
def Sl (w : World) (ao : Option Addr) (len cap : Nat) (xs : List Int) : Prop :=
  xs.length = len ∧ len ≤ cap ∧ cap ≤ maxLen ∧ (0 < len → ∃ b off, ao = some ⟨b, off, none⟩ ∧ At w b off xs)

theorem Sl.below {w w' : World} {ao : Option Addr} {len cap : Nat} {xs : List Int} (h : Sl w ao len cap xs) (hb : Below w.heap.size w w') : Sl w' ao len cap xs := by
  refine ⟨h.1, h.2.1, h.2.2.1, fun hp => ?_⟩
  obtain ⟨b, off, h1, h2⟩ := h.2.2.2 hp
  refine ⟨b, off, h1, h2.below hb (h2.lt ?_)⟩
  intro hx
  have := h.1
  rw [hx] at this
  simp at this
  omega

theorem vld_of_ER {xs : List Int} {r : Int} (h60 : xs.length ≤ 60) (h : ER xs 0 r) : (r = xs.length) ↔ T.Vld xs := by
  rw [T.vld_iff]
  rcases h with ⟨h1, rfl⟩ | ⟨t, rest, h1, hn, rfl⟩
  · rw [List.drop_zero] at h1
    rw [h1]
    constructor <;> intro h <;> omega
  · rw [List.drop_zero] at h1
    rw [T.oute_of h1 hn]
    have := congrArg List.length h1
    rw [List.length_append] at this
    constructor
    · intro h; exact ⟨h60, by omega⟩
    · intro h; omega

theorem vld_eq {xs : List Int} {r : Int} (h60 : xs.length ≤ 60) (h : ER xs 0 r) : (r == (xs.length : Int)) = T.vldB xs := by
  have h1 := vld_of_ER h60 h
  by_cases hv : T.Vld xs
  · rw [T.vldB_true.2 hv]; simpa using h1.2 hv
  · rw [T.vldB_false.2 hv]
    have : ¬ r = xs.length := fun h => hv (h1.1 h)
    simpa using this

theorem impl_OrdValid (ao : Option Addr) (len cap : Nat) (xs : List Int) (w : World) (h : Sl w ao len cap xs) :
    Calls Try.prog 103 #[.slice ao len cap] w fun e w' => e = .returned (.bool (T.vldB xs)) ∧ Below w.heap.size w w' := by
  obtain ⟨h1, h2, h3, h4⟩ := h
  by_cases h60 : len ≤ 60
  · have c : Calls Try.prog 109 #[.slice ao len cap, .int .i64 0] w fun e w' => ∃ r, e = .returned (.int .i64 r) ∧ ER xs 0 r ∧ Below w.heap.size w w' := by
      simpa using checkedEnd_any (len + 1) ao len cap 0 xs w (by omega) h1 (by omega) (by omega) h2 h3 h4
    have C := Lib.hid c
    have H1 := Lib.hid h1
    have hd : decide (len ≤ 60) = true := by simpa using h60
    clear c h1 h4
    go_enter Try.func103, Try.ntmps103
    go_wp2_with fail
    refine (C.out).mono ?_
    rintro ee w' ⟨r, rfl, hER, hb⟩
    have he := vld_eq (by rw [H1.out]; exact h60) hER
    rw [H1.out] at he
    have He := Lib.hid he
    clear he hER
    go_wp2_with fail
    go_ret
    exact ⟨by rw [He.out]; rfl, hb⟩
  · have hd : decide (len ≤ 60) = false := by simpa using h60
    have hv : T.vldB xs = false := T.vldB_false.2 (fun hv => h60 (by rw [← h1]; exact hv.1))
    have H1 := Lib.hid hv
    clear h1 h4 hv
    go_enter Try.func103, Try.ntmps103
    go_wp2_with fail
    go_ret
    exact ⟨by rw [H1.out]; rfl, Below.refl _ _⟩

theorem spec_OrdValid (ao : Option Addr) (len cap : Nat) (xs : List Int) (w : World) (h : Sl w ao len cap xs) :
    Calls Try.prog 90 #[.slice ao len cap] w fun e w' => e = .returned (.bool (T.vldB xs)) ∧ Below w.heap.size w w' := by
  obtain ⟨h1, h2, h3, h4⟩ := h
  by_cases h60 : 1 ≤ len ∧ len ≤ 60
  · have c : Calls Try.prog 99 #[.slice ao len cap, .int .i64 0] w fun e w' => ∃ r, e = .returned (.int .i64 r) ∧ ER xs 0 r ∧ Below w.heap.size w w' := by
      simpa using l1End_any (len + 1) ao len cap 0 xs w (by omega) h1 (by omega) (by omega) h2 h3 h4
    have C := Lib.hid c
    have H1 := Lib.hid h1
    have ci := Lib.hid (l1In_yes (len : Int) 1 60 w (by omega) (by omega))
    clear c h1 h4
    go_enter Try.func90, Try.ntmps90
    go_wp2_with fail
    refine (ci.out).mono ?_
    rintro ee w' ⟨rfl, rfl⟩
    go_wp2_with fail
    refine (C.out).mono ?_
    rintro ee w' ⟨r, rfl, hER, hb⟩
    have he := vld_eq (by rw [H1.out]; exact h60.2) hER
    rw [H1.out] at he
    have He := Lib.hid he
    clear he hER
    go_wp2_with fail
    go_ret
    exact ⟨by rw [He.out]; rfl, hb⟩
  · have ci := Lib.hid (l1In_no (len : Int) 1 60 w (by omega))
    have hv : T.vldB xs = false := T.vldB_false.2 (fun hv => h60 (by
      obtain ⟨q1, t, q2, q3⟩ := hv
      rw [← h1]
      refine ⟨?_, q1⟩
      rw [q2, T.enc_len]; omega))
    have H1 := Lib.hid hv
    clear h1 h4 hv
    go_enter Try.func90, Try.ntmps90
    go_wp2_with fail
    refine (ci.out).mono ?_
    rintro ee w' ⟨rfl, rfl⟩
    go_wp2_with fail
    go_ret
    exact ⟨by rw [H1.out]; rfl, Below.refl _ _⟩

end Go.Proofs.Ytdcgcohfbcdnnaa

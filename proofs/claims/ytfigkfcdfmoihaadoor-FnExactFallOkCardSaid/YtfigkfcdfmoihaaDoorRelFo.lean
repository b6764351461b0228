/- Ordinals that fall along a relation: what is asked; comparisons of rows that hold ordinals; a list of ordinals by the program. -/
import Derived.Test.YtfigkfcdfmoihaaDoorRelN
import Derived.Test.YtfigkfcdfmoihaaDoorRelA
import Derived.Test.YtfigkfcdfmoihaaDoorFn1
import Derived.Test.YtfigkfcdfmoihaaDoorTrQ
namespace Go.Proofs.YtfigkfcdfmoihaaDoor
set_option maxRecDepth 100000
open Go.RowKit

/-- What is asked of ordinals that prove that walks end. -/
def FallP (xs : List Int) (os : List (List Int)) : Prop :=
  RelOk xs ∧ os.length = xs.length ∧ (∀ x ∈ os, T.vldB x = true) ∧ ∀ p q, p < xs.length → (rw' xs p).testBit q = true → 0 < T.cmpRow (os.getD p []) (os.getD q [])
noncomputable def fallB (xs : List Int) (os : List (List Int)) : Bool := @decide (FallP xs os) (Classical.propDecidable _)
theorem fallB_yes {xs : List Int} {os : List (List Int)} (h : FallP xs os) : fallB xs os = true := @decide_eq_true _ (Classical.propDecidable _) h
theorem fallB_no {xs : List Int} {os : List (List Int)} (h : ¬ FallP xs os) : fallB xs os = false := @decide_eq_false _ (Classical.propDecidable _) h
noncomputable def vldsB (os : List (List Int)) : Bool := os.all T.vldB
theorem vldsB_true {os : List (List Int)} : vldsB os = true ↔ ∀ x ∈ os, T.vldB x = true := by rw [vldsB, List.all_eq_true]
theorem vldsB_at {os : List (List Int)} {k : Nat} {x : List Int} (h : os[k]? = some x) (hx : T.vldB x = false) : vldsB os = false := by
  rw [Bool.eq_false_iff]
  intro h1
  have := vldsB_true.1 h1 x (List.mem_of_getElem? h)
  rw [hx] at this
  cases this
theorem vldsB_all {os : List (List Int)} (h : ∀ (k : Nat) (x : List Int), os[k]? = some x → T.vldB x = true) : vldsB os = true :=
  vldsB_true.2 (fun x hx => by obtain ⟨k, hk⟩ := List.mem_iff_getElem?.1 hx; exact h k x hk)
theorem vlds_tf (os : List (List Int)) : vldsB os = true ∨ vldsB os = false := by cases vldsB os <;> simp

theorem compI_any (a1 : Option Addr) (n1 c1 : Nat) (xs : List Int) (a2 : Option Addr) (n2 c2 : Nat) (ys : List Int) (w : World) (hx : Sl w a1 n1 c1 xs) (hy : Sl w a2 n2 c2 ys) (h1 : T.vldB xs = true) (h2 : T.vldB ys = true) :
    Calls Tryd.prog 31 #[.slice a1 n1 c1, .slice a2 n2 c2] w fun e w' => e = .returned (.int .i64 (T.cmpRow xs ys)) ∧ Below w.heap.size w w' := by
  rw [T.cmpRow_val h1 h2]
  obtain ⟨b1, o1, s, rfl, rfl, hs, hos, hat1, hn1, hl1, hp1, hc1, hm1⟩ := hx.valid h1
  obtain ⟨b2, o2, t, rfl, rfl, ht, hot, hat2, hn2, hl2, hp2, hc2, hm2⟩ := hy.valid h2
  rw [hos, hot]
  exact compareOrds_any (s.body.length + 1) b1 o1 c1 b2 o2 c2 n1 n2 s t w (by omega) hn1 hn2 (by omega) (by omega) hc1 hm1 hc2 hm2 hat1 hat2
theorem compS_any (a1 : Option Addr) (n1 c1 : Nat) (xs : List Int) (a2 : Option Addr) (n2 c2 : Nat) (ys : List Int) (w : World) (hx : Sl w a1 n1 c1 xs) (hy : Sl w a2 n2 c2 ys) (h1 : T.vldB xs = true) (h2 : T.vldB ys = true) :
    Calls Tryd.prog 27 #[.slice a1 n1 c1, .slice a2 n2 c2] w fun e w' => e = .returned (.int .i64 (T.cmpRow xs ys)) ∧ Below w.heap.size w w' := by
  rw [T.cmpRow_val h1 h2]
  obtain ⟨b1, o1, s, rfl, rfl, hs, hos, hat1, hn1, hl1, hp1, hc1, hm1⟩ := hx.valid h1
  obtain ⟨b2, o2, t, rfl, rfl, ht, hot, hat2, hn2, hl2, hp2, hc2, hm2⟩ := hy.valid h2
  rw [hos, hot]
  exact l1Compare_any (s.body.length + 1) b1 o1 c1 b2 o2 c2 n1 n2 s t w (by omega) hn1 hn2 (by omega) (by omega) hc1 hm1 hc2 hm2 hat1 hat2

set_option maxHeartbeats 1000000 in
theorem allOrds_any (ao : Option Addr) (n c : Nat) (os : List (List Int)) (w : World) (h : SlR w ao n c os) :
    Calls Tryd.prog 29 #[.slice ao n c] w fun e w' => e = .returned (.bool (vldsB os)) ∧ Below w.heap.size w w' := by
  have Hl := Lib.hid h.1
  have hn9 : n ≤ 9223372036854775807 := by have h1 := h.2.1; have h2 := h.2.2.1; unfold maxLen at h2; omega
  have H := Lib.hid h
  obtain ⟨o, ho⟩ : ∃ o, o = vldsB os := ⟨_, rfl⟩
  rw [← ho]
  have Ho := Lib.hid ho
  clear h ho
  go_enter Tryd.func29, Tryd.ntmps29
  go_wp2_with fail
  go_loopw [7] (fun i wr => ∃ (k : Nat), k ≤ n ∧ i = .int .i64 k ∧ Hid (∀ j x, j < k → os[j]? = some x → T.vldB x = true) ∧ Below w.heap.size w wr) (fun i _ => n - (intOf i).toNat)
  case atStart => exact ⟨0, Nat.zero_le _, rfl, fun j t hj => by omega, Below.refl _ _⟩
  case round =>
    obtain ⟨k, hk, rfl, HE, hbel⟩ := hrel
    by_cases hlt : k < n
    · obtain ⟨x, hx⟩ : ∃ x, os[k]? = some x := ⟨os[k]'(by rw [Hl.out]; exact hlt), List.getElem?_eq_getElem _⟩
      obtain ⟨b, off, rfl, hat⟩ := (H.out.below hbel).2.2.2 (by omega)
      obtain ⟨a1, n1, c1, e1, s1⟩ := hat k x hx
      have kV := Lib.hid (impl_OrdValid a1 n1 c1 x wr s1)
      have Hbel := Lib.hid hbel
      rcases vld_tf x with hv | hv
      · rw [hv] at kV
        have HV := Lib.hid hv
        have Hx := Lib.hid hx
        clear hx s1 hat hv hbel
        go_wp2_with fail
        refine (kV.out).mono ?_
        rintro ee w2 ⟨rfl, hb2⟩
        have Hb2 := Lib.hid (Hbel.out.trans (hb2.mono Hbel.out.size))
        clear hb2
        go_wp2_with fail
        go_roundw
        case measure => simp [intOf]; omega
        case rel =>
          refine ⟨k + 1, by omega, by go_num, fun j x' hj hx' => ?_, Hb2.out⟩
          by_cases hjk : j = k
          · subst hjk
            have h9 := Hx.out.symm.trans hx'
            cases h9
            exact HV.out
          · exact HE.out j x' (by omega) hx'
      · rw [hv] at kV
        have hoF : o = false := by rw [Ho.out]; exact vldsB_at hx hv
        subst hoF
        clear hx s1 hat hv hbel
        go_wp2_with fail
        refine (kV.out).mono ?_
        rintro ee w2 ⟨rfl, hb2⟩
        have Hb2 := Lib.hid (Hbel.out.trans (hb2.mono Hbel.out.size))
        clear hb2
        go_wp2_with fail
        go_ret
        exact ⟨rfl, Hb2.out⟩
    · obtain rfl : k = n := by omega
      have hoT : o = true := by
        rw [Ho.out]
        exact vldsB_all (fun j x hx => HE.out j x (by have := (List.getElem?_eq_some_iff.1 hx).1; have := Hl.out; omega) hx)
      subst hoT
      have Hbel := Lib.hid hbel
      clear hbel
      go_wp2_with fail
      go_ret
      exact ⟨rfl, Hbel.out⟩

end Go.Proofs.YtfigkfcdfmoihaaDoor

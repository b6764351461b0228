/- The ordinal of heaps: without memory; the program's and the model's. -/
import Derived.Test.YtjkkopjmpmbapaaTrQ
import Derived.Test.YtjkkopjmpmbapaaNatJ
import Derived.Test.YtjkkopjmpmbapaaNatS
namespace Go.Proofs.Ytjkkopjmpmbapaa
set_option maxRecDepth 100000
open Go.RowKit

noncomputable def addO (s : Option (List Int)) (x : List Int) : Option (List Int) := s.bind fun y => if T.natOk y x = true then some (T.natRow y x) else none
noncomputable def ordN (l : List (List Int)) : Option (List Int) := l.foldl addO (some [0])
theorem addO_none (l : List (List Int)) : l.foldl addO none = none := by
  induction l with
  | nil => rfl
  | cons x l ih => exact ih
theorem ordN_app (l r : List (List Int)) : ordN (l ++ r) = r.foldl addO (ordN l) := by rw [ordN, List.foldl_append]; rfl
theorem ordN_snoc (l : List (List Int)) (x : List Int) : ordN (l ++ [x]) = addO (ordN l) x := by rw [ordN_app]; rfl
theorem ordN_fail {l r : List (List Int)} (h : ordN l = none) : ordN (l ++ r) = none := by rw [ordN_app, h]; exact addO_none r
theorem addO_yes {y x : List Int} (h : T.natOk y x = true) : addO (some y) x = some (T.natRow y x) := by show (if T.natOk y x = true then _ else _) = _; rw [if_pos h]
theorem addO_no {y x : List Int} (h : T.natOk y x = false) : addO (some y) x = none := by show (if T.natOk y x = true then _ else _) = _; rw [if_neg (by rw [h]; decide)]

/-- The ordinals of all things of the first k heaps. -/
def stackO (h : List Int) (os : List (List Int)) : Nat → List (List Int)
  | 0 => []
  | k + 1 => stackO h os k ++ List.replicate (h.getD k 0).toNat (os.getD k [])
theorem stackO_pre (h : List Int) (os : List (List Int)) {k j : Nat} (hk : k < 3) (hj : (j : Int) ≤ h.getD k 0) : ∃ r, stackO h os 3 = (stackO h os k ++ List.replicate j (os.getD k [])) ++ r := by
  have hr : List.replicate (h.getD k 0).toNat (os.getD k []) = List.replicate j (os.getD k []) ++ List.replicate ((h.getD k 0).toNat - j) (os.getD k []) := by
    rw [List.replicate_append_replicate]; congr 1; omega
  have h1 : stackO h os (k + 1) = (stackO h os k ++ List.replicate j (os.getD k [])) ++ List.replicate ((h.getD k 0).toNat - j) (os.getD k []) := by
    rw [stackO, hr, List.append_assoc]
  have : k = 0 ∨ k = 1 ∨ k = 2 := by omega
  rcases this with rfl | rfl | rfl
  · exact ⟨_, by show (stackO h os (0 + 1) ++ _) ++ _ = _; rw [h1, List.append_assoc, List.append_assoc]⟩
  · exact ⟨_, by show stackO h os (1 + 1) ++ _ = _; rw [h1, List.append_assoc]⟩
  · exact ⟨_, h1⟩

noncomputable def worthB (os : List (List Int)) : Bool := decide (os.length = 3) && os.all T.vldB
theorem worthB_true {os : List (List Int)} : worthB os = true ↔ os.length = 3 ∧ ∀ x ∈ os, T.vldB x = true := by rw [worthB, Bool.and_eq_true, decide_eq_true_eq, List.all_eq_true]
theorem worthB_len {os : List (List Int)} (h : os.length ≠ 3) : worthB os = false := by rw [worthB, decide_eq_false h]; rfl
theorem worthB_at {os : List (List Int)} {k : Nat} {x : List Int} (h : os[k]? = some x) (hx : T.vldB x = false) : worthB os = false := by
  rw [Bool.eq_false_iff]
  intro h1
  have := (worthB_true.1 h1).2 x (List.mem_of_getElem? h)
  rw [hx] at this
  cases this
theorem worthB_all {os : List (List Int)} (hl : os.length = 3) (h : ∀ (k : Nat) (x : List Int), os[k]? = some x → T.vldB x = true) : worthB os = true := by
  rw [worthB_true]
  refine ⟨hl, fun x hx => ?_⟩
  obtain ⟨k, hk⟩ := List.mem_iff_getElem?.1 hx
  exact h k x hk
theorem worth_tf (os : List (List Int)) : worthB os = true ∨ worthB os = false := by cases worthB os <;> simp

noncomputable def hordB (h : List Int) (os : List (List Int)) : Bool := listB 40 h && (worthB os && (ordN (stackO h os 3)).isSome)
noncomputable def hordR (h : List Int) (os : List (List Int)) : List Int := if hordB h os = true then (ordN (stackO h os 3)).getD [] else []
theorem hordR_no {h : List Int} {os : List (List Int)} (hb : hordB h os = false) : hordR h os = [] := by rw [hordR, if_neg (by rw [hb]; decide)]
theorem hordB_h {h : List Int} {os : List (List Int)} (k : listB 40 h = false) : hordB h os = false := by rw [hordB, k]; rfl
theorem hordB_w {h : List Int} {os : List (List Int)} (k : worthB os = false) : hordB h os = false := by rw [hordB, k, Bool.false_and, Bool.and_false]
theorem hordB_n {h : List Int} {os : List (List Int)} (k : ordN (stackO h os 3) = none) : hordB h os = false := by rw [hordB, k]; simp
theorem hordB_yes {h r : List Int} {os : List (List Int)} (k1 : listB 40 h = true) (k2 : worthB os = true) (k4 : ordN (stackO h os 3) = some r) : hordB h os = true ∧ hordR h os = r := by
  have hb : hordB h os = true := by rw [hordB, k1, k2, k4]; rfl
  exact ⟨hb, by rw [hordR, if_pos hb, k4]; rfl⟩

theorem vld_zero : T.vldB [0] = true := T.vldB_true.2 ⟨by decide, T.z, rfl, trivial⟩
theorem natOk_vld {x y : List Int} (h : T.natOk x y = true) : T.vldB (T.natRow x y) = true := by
  simp only [T.natOk, Bool.and_eq_true] at h
  obtain ⟨⟨h1, h2⟩, h3⟩ := h
  rw [(T.natRow_val h1 h2).1, T.fit, if_pos h3]
  exact h3
theorem ordN_vld {l : List (List Int)} {r : List Int} (h : ordN l = some r) : T.vldB r = true := by
  rcases List.eq_nil_or_concat l with rfl | ⟨l', x, rfl⟩
  · cases h; exact vld_zero
  · rw [List.concat_eq_append, ordN_snoc] at h
    cases hx : ordN l' with
    | none => rw [hx] at h; cases h
    | some y =>
      rw [hx] at h
      cases ho : T.natOk y x with
      | true => rw [addO_yes ho] at h; cases h; exact natOk_vld ho
      | false => rw [addO_no ho] at h; cases h
theorem vld_len {x : List Int} (h : T.vldB x = true) : 1 ≤ x.length ∧ x.length ≤ 60 := by
  obtain ⟨hl, t, rfl, _⟩ := T.vldB_true.1 h
  exact ⟨by rw [T.enc_len]; omega, hl⟩
theorem hordR_le (h : List Int) (os : List (List Int)) : (hordR h os).length ≤ 60 := by
  unfold hordR
  split
  · rename_i hb
    simp only [hordB, Bool.and_eq_true] at hb
    obtain ⟨r, hr⟩ := Option.isSome_iff_exists.1 hb.2.2
    rw [hr]
    exact (vld_len (ordN_vld hr)).2
  · exact Nat.zero_le _

set_option maxHeartbeats 1000000 in
theorem areWorths_any (ao : Option Addr) (n c : Nat) (os : List (List Int)) (w : World) (hb : n ≤ 1048576) (h : SlR w ao n c os) :
    Calls Try.prog 55 #[.slice ao n c] w fun e w' => e = .returned (.bool (worthB os)) ∧ Below w.heap.size w w' := by
  have Hl := Lib.hid h.1
  by_cases h3 : n = 3
  · subst h3
    have kA : Hid (Calls Try.prog 72 #[.slice ao 3 c] w fun e w' => e = .returned (.bool (worthB os)) ∧ Below w.heap.size w w') := by
      have H := Lib.hid h
      obtain ⟨o, ho⟩ : ∃ o, o = worthB os := ⟨_, rfl⟩
      rw [← ho]
      have Ho := Lib.hid ho
      clear h ho
      refine Lib.hid ?_
      go_enter Try.func72, Try.ntmps72
      go_wp2_with fail
      go_loopg [7] 3 (fun gk i wr => ∃ (k : Nat), gk + k = 3 ∧ i = .int .i64 k ∧ Hid (∀ j x, j < k → os[j]? = some x → T.vldB x = true) ∧ Below w.heap.size w wr)
      case atStart => exact ⟨0, rfl, rfl, fun j t hj => by omega, Below.refl _ _⟩
      case round =>
        obtain ⟨k, hgk, rfl, HE, hbel⟩ := hrel
        have Hgk := Lib.hid hgk
        have hk : k ≤ 3 := by omega
        clear hgk
        by_cases hlt : k < 3
        · obtain ⟨x, hx⟩ : ∃ x, os[k]? = some x := ⟨os[k]'(by rw [Hl.out]; exact hlt), List.getElem?_eq_getElem _⟩
          obtain ⟨b, off, rfl, hat⟩ := (H.out.below hbel).2.2.2 (by omega)
          obtain ⟨a1, n1, c1, e1, s1⟩ := hat k x hx
          have kV := Lib.hid (impl_OrdValid a1 n1 c1 x wr s1)
          have Hbel := Lib.hid hbel
          rcases vld_tf x with hv | hv
          · rw [hv] at kV
            have HV := Lib.hid hv
            have Hx := Lib.hid hx
            clear hx s1 hat hv hbel
            go_wp2_with fail
            refine (kV.out).mono ?_
            rintro ee w2 ⟨rfl, hb2⟩
            have Hb2 := Lib.hid (Hbel.out.trans (hb2.mono Hbel.out.size))
            clear hb2
            go_wp2_with fail
            go_roundg (gk - 1)
            case measure => have := Hgk.out; omega
            case rel =>
              refine ⟨k + 1, by have := Hgk.out; omega, by go_num, fun j x' hj hx' => ?_, Hb2.out⟩
              by_cases hjk : j = k
              · subst hjk
                have h9 := Hx.out.symm.trans hx'
                cases h9
                exact HV.out
              · exact HE.out j x' (by omega) hx'
          · rw [hv] at kV
            have hoF : o = false := by rw [Ho.out]; exact worthB_at hx hv
            subst hoF
            clear hx s1 hat hv hbel
            go_wp2_with fail
            refine (kV.out).mono ?_
            rintro ee w2 ⟨rfl, hb2⟩
            have Hb2 := Lib.hid (Hbel.out.trans (hb2.mono Hbel.out.size))
            clear hb2
            go_wp2_with fail
            go_ret
            exact ⟨rfl, Hb2.out⟩
        · obtain rfl : k = 3 := by omega
          have Hbel := Lib.hid hbel
          have hoT : o = true := by rw [Ho.out]; exact worthB_all Hl.out (fun j x hj => HE.out j x (by rw [← Hl.out]; exact (List.getElem?_eq_some_iff.1 hj).1) hj)
          subst hoT
          clear hbel
          go_wp2_with fail
          go_ret
          exact ⟨rfl, Hbel.out⟩
    obtain ⟨o, ho⟩ : ∃ o, o = worthB os := ⟨_, rfl⟩
    rw [← ho] at kA ⊢
    clear h ho
    go_enter Try.func55, Try.ntmps55
    go_wp2_with fail
    refine (kA.out).mono ?_
    rintro ee w2 ⟨rfl, hb2⟩
    have Hb2 := Lib.hid hb2
    clear hb2
    go_wp2_with fail
    go_ret
    exact ⟨rfl, Hb2.out⟩
  · rw [worthB_len (by rw [Hl.out]; exact h3)]
    have h3' : ((n : Int) == 3) = false := by simp; omega
    clear h
    go_enter Try.func55, Try.ntmps55
    go_wp2_with fail
    go_ret
    exact ⟨rfl, Below.refl _ _⟩

end Go.Proofs.Ytjkkopjmpmbapaa

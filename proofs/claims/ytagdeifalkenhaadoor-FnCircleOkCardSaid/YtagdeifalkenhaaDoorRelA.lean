/- Relations: which are valid, by the program and by the model; sets of points. -/
import Derived.Test.YtagdeifalkenhaaDoorRowA
import Derived.Test.YtagdeifalkenhaaDoorRelN
import Derived.Deep.RegionHeld3
import Derived.Laws.ShiftsVar
namespace Go.Proofs.YtagdeifalkenhaaDoor
set_option maxRecDepth 100000
open Go.RowKit

/-- A relation of one to twelve points. -/
noncomputable def relB (xs : List Int) : Bool := decide (1 ≤ xs.length ∧ xs.length ≤ 12) && upTo (2 ^ xs.length - 1) xs
theorem relB_true {xs : List Int} : relB xs = true ↔ RelOk xs := by rw [relB, Bool.and_eq_true, decide_eq_true_eq, upTo_true]; exact Iff.rfl
theorem relB_len {xs : List Int} (h : ¬ (1 ≤ xs.length ∧ xs.length ≤ 12)) : relB xs = false := by rw [relB, decide_eq_false h]; rfl
theorem relB_in {xs : List Int} (h : 1 ≤ xs.length ∧ xs.length ≤ 12) : relB xs = upTo (2 ^ xs.length - 1) xs := by rw [relB, decide_eq_true h]; rfl
theorem relB_up {xs : List Int} (h : upTo (2 ^ xs.length - 1) xs = false) : relB xs = false := by rw [relB, h, Bool.and_false]
theorem rel_tf (xs : List Int) : relB xs = true ∨ relB xs = false := by cases relB xs <;> simp
theorem relB_false {xs : List Int} (h : relB xs = false) : ¬ RelOk xs := fun h' => by rw [relB_true.2 h'] at h; cases h
theorem wrap_pow (p : Nat) (h : p ≤ 60) : wrap64 (2 ^ p) = ((2 ^ p : Nat) : Int) := by
  have h1 : 2 ^ p ≤ 2 ^ 60 := Nat.pow_le_pow_right (by decide) h
  have e : ((2 ^ p : Nat) : Int) = (2 : Int) ^ p := by simp
  rw [← e]
  generalize 2 ^ p = z at h1
  exact IntWalk.wrap64_in _ (by omega)
theorem wrap_pow' (p : Nat) (h : p ≤ 60) : IntKind.i64.wrap (2 ^ p) = ((2 ^ p : Nat) : Int) := by
  have h1 : 2 ^ p ≤ 2 ^ 60 := Nat.pow_le_pow_right (by decide) h
  have e : ((2 ^ p : Nat) : Int) = (2 : Int) ^ p := by simp
  rw [← e]
  generalize 2 ^ p = z at h1
  exact IntWalk.i64_in _ (by omega)
theorem pow_cast (p : Nat) : ((2 ^ p : Nat) : Int) = (2 : Int) ^ p := by simp
theorem pow_pos' (p : Nat) : 1 ≤ 2 ^ p := Nat.pow_pos (by decide)

theorem setOf_any (p : Nat) (hp : p ≤ 60) (w : World) :
    Calls Tryd.prog 50 #[.int .i64 p] w fun e w' => e = .returned (.int .i64 ((2 ^ p : Nat) : Int)) ∧ w = w' := by
  have hw := wrap_pow p hp
  obtain ⟨z, hz⟩ : ∃ z : Int, z = ((2 ^ p : Nat) : Int) := ⟨_, rfl⟩
  rw [← hz] at hw ⊢
  clear hz
  go_enter Tryd.func50, Tryd.ntmps50
  go_wp2_with fail
  rw [hw]
  go_ret
  exact ⟨rfl, rfl⟩
theorem setOfFirst_any (p : Nat) (hp : p ≤ 60) (w : World) :
    Calls Tryd.prog 36 #[.int .i64 p] w fun e w' => e = .returned (.int .i64 ((2 ^ p - 1 : Nat) : Int)) ∧ w = w' := by
  have k1 := Lib.hid (setOf_any p hp w)
  have h1 : 2 ^ p ≤ 2 ^ 60 := Nat.pow_le_pow_right (by decide) hp
  have h2 := pow_pos' p
  obtain ⟨z, hz⟩ : ∃ z : Nat, z = 2 ^ p := ⟨_, rfl⟩
  rw [← hz] at k1 h1 h2 ⊢
  have hs : ((z - 1 : Nat) : Int) = (z : Int) - 1 := by omega
  rw [hs]
  clear hz hs
  go_enter Tryd.func36, Tryd.ntmps36
  go_wp2_with fail
  refine (k1.out).mono ?_
  rintro ee wx ⟨rfl, rfl⟩
  go_wp2_with fail
  go_ret
  exact ⟨rfl, rfl⟩
theorem isIn_any (p s : Nat) (hp : p ≤ 60) (hs : s < 9223372036854775808) (w : World) :
    Calls Tryd.prog 31 #[.int .i64 p, .int .i64 s] w fun e w' => e = .returned (.bool (s.testBit p)) ∧ w = w' := by
  have k1 := Lib.hid (setOf_any p hp w)
  have h1 : 2 ^ p ≤ 2 ^ 60 := Nat.pow_le_pow_right (by decide) hp
  have hb := and_i64 s (2 ^ p) hs (by omega)
  have ht : (((s &&& 2 ^ p : Nat) : Int) != 0) = s.testBit p := by
    have h9 : s &&& 2 ^ p = if s.testBit p = true then 2 ^ p else 0 := by
      apply Nat.eq_of_testBit_eq
      intro j
      rw [Nat.testBit_and, Nat.testBit_two_pow]
      by_cases hj : p = j
      · subst hj
        cases h8 : s.testBit p <;> simp
      · cases h8 : s.testBit p <;> simp [hj]
    rw [h9]
    have h10 := pow_pos' p
    cases s.testBit p
    · simp
    · have h11 : ((2 ^ p : Nat) : Int) ≠ 0 := by omega
      simp only [if_true, bne_iff_ne.2 h11]
  obtain ⟨q, hq⟩ : ∃ q : Nat, q = 2 ^ p := ⟨_, rfl⟩
  obtain ⟨z, hz⟩ : ∃ z : Nat, z = s &&& q := ⟨_, rfl⟩
  obtain ⟨o, ho⟩ : ∃ o, o = s.testBit p := ⟨_, rfl⟩
  rw [← hq] at k1 hb ht
  rw [← hz] at hb ht
  rw [← ho] at ht ⊢
  clear hq hz ho h1
  go_enter Tryd.func31, Tryd.ntmps31
  go_wp2_with fail
  refine (k1.out).mono ?_
  rintro ee wx ⟨rfl, rfl⟩
  go_wp2_with fail
  go_ret
  exact ⟨rfl, rfl⟩

theorem iRelValid_any (ao : Option Addr) (n c : Nat) (xs : List Int) (w : World) (h : Sl w ao n c xs) :
    Calls Tryd.prog 29 #[.slice ao n c] w fun e w' => e = .returned (.bool (relB xs)) ∧ w = w' := by
  have hn9 : n ≤ 9223372036854775807 := by have h2 := h.2.1; have h3 := h.2.2.1; unfold maxLen at h3; omega
  have Hl := Lib.hid h.1
  by_cases h1 : 1 ≤ n
  · by_cases h5 : n ≤ 12
    · have h2 := pow_pos' n
      have e9 : ((2 ^ n - 1 : Nat) : Int) = 2 ^ n - 1 := by rw [← pow_cast]; omega
      have k0 := Lib.hid (setOfFirst_any n (by omega) w)
      have k1 := Lib.hid (allUpTo_any ao n c xs ((2 ^ n - 1 : Nat) : Int) w (by omega) h)
      have e8 : relB xs = upTo ((2 ^ n - 1 : Nat) : Int) xs := by rw [relB_in (by rw [Hl.out]; exact ⟨h1, h5⟩), Hl.out, e9]
      rw [e8]
      obtain ⟨o, ho⟩ : ∃ o, o = upTo ((2 ^ n - 1 : Nat) : Int) xs := ⟨_, rfl⟩
      rw [← ho] at k1 ⊢
      obtain ⟨z, hz⟩ : ∃ z : Nat, z = 2 ^ n - 1 := ⟨_, rfl⟩
      rw [← hz] at k0 k1
      have h5' : decide ((n : Int) ≤ 12) = true := by simp; omega
      clear h h2 e9 e8 ho hz
      go_enter Tryd.func29, Tryd.ntmps29
      go_wp2_with fail
      refine (k0.out).mono ?_
      rintro ee wx ⟨rfl, rfl⟩
      go_wp2_with fail
      refine (k1.out).mono ?_
      rintro ee wx ⟨rfl, rfl⟩
      go_wp2_with fail
      go_ret
      exact ⟨rfl, rfl⟩
    · have h5' : decide ((n : Int) ≤ 12) = false := by simp; omega
      rw [relB_len (by rw [Hl.out]; omega)]
      clear h
      go_enter Tryd.func29, Tryd.ntmps29
      go_wp2_with fail
      go_ret
      exact ⟨rfl, rfl⟩
  · have h1' : decide ((1 : Int) ≤ (n : Int)) = false := by simp; omega
    rw [relB_len (by rw [Hl.out]; omega)]
    clear h
    go_enter Tryd.func29, Tryd.ntmps29
    go_wp2_with fail
    go_ret
    exact ⟨rfl, rfl⟩

set_option maxHeartbeats 1000000 in
theorem sRelValid_any (ao : Option Addr) (n c : Nat) (xs : List Int) (w : World) (h : Sl w ao n c xs) :
    Calls Tryd.prog 32 #[.slice ao n c] w fun e w' => e = .returned (.bool (relB xs)) ∧ Below w.heap.size w w' := by
  have hn9 : n ≤ 9223372036854775807 := by have h2 := h.2.1; have h3 := h.2.2.1; unfold maxLen at h3; omega
  obtain ⟨x1, x2, x3, x4⟩ := h
  have X1 := Lib.hid x1
  have X4 := Lib.hid x4
  obtain ⟨o, ho⟩ : ∃ o, o = relB xs := ⟨_, rfl⟩
  rw [← ho]
  have Ho := Lib.hid ho
  clear x1 x2 x3 x4 ho
  obtain ⟨q, hw, Hq, h2, h3⟩ : ∃ q : Nat, IntKind.i64.wrap (2 ^ (min n 12)) = (q : Int) ∧ Hid (n ≤ 12 → (q : Int) - 1 = 2 ^ n - 1) ∧ 1 ≤ q ∧ q ≤ 4096 := by
    refine ⟨2 ^ (min n 12), wrap_pow' _ (by omega), fun h => ?_, pow_pos' _, two_le (by omega)⟩
    rw [Nat.min_eq_left h, pow_cast]
  go_enter Tryd.func32, Tryd.ntmps32
  go_wp2_with fail
  go_loopw [3] (fun i wr => ∃ (k : Nat), k ≤ n ∧ i = .int .i64 k ∧ Hid (∀ j, j < k → 0 ≤ xs.getD j 0 ∧ xs.getD j 0 ≤ (q : Int) - 1) ∧ Below w.heap.size w wr) (fun i _ => n - (intOf i).toNat)
  case atStart => exact ⟨0, Nat.zero_le _, rfl, fun j hj => by omega, Below.refl _ _⟩
  case round =>
    obtain ⟨k, hk, rfl, HE, hbel⟩ := hrel
    by_cases hlt : k < n
    · obtain ⟨b, off, rfl, hat⟩ := X4.out (by omega)
      have hkx : k < xs.length := by rw [X1.out]; exact hlt
      have hbl : b < w.heap.size := hat.lt (by intro h9; rw [h9] at hkx; simp at hkx)
      have y0 : wr.cell? ⟨b, off + k, none⟩ = some (.int .i64 (xs.getD k 0)) := (hat.below hbel hbl) k hkx
      obtain ⟨x, hxe⟩ : ∃ x, x = xs.getD k 0 := ⟨_, rfl⟩
      rw [← hxe] at y0
      have Hx := Lib.hid hxe
      have Hkx := Lib.hid hkx
      clear hkx hxe hat
      by_cases hx0 : x < 0 ∨ (q : Int) - 1 < x
      · have hoF : o = false := by
          rw [Ho.out]
          by_cases hn : n ≤ 12
          · exact relB_up (upTo_at Hkx.out (by rw [← Hx.out, X1.out, ← Hq.out hn]; exact hx0))
          · exact relB_len (by rw [X1.out]; omega)
        subst hoF
        have ci := Lib.hid (fun wx => l1In_no x 0 ((q : Int) - 1) wx hx0)
        clear hx0
        go_wp2_with fail
        by_cases hn12 : (12 : Int) < (n : Int)
        · have hw7 : IntKind.i64.wrap 4096 = (q : Int) := by rw [Nat.min_eq_right (by omega)] at hw; exact hw
          have hw8 : IntKind.i64.wrap ((q : Int) - 1) = (q : Int) - 1 := IntWalk.i64_in _ (by omega)
          clear hw
          refine wp_region_any (by kernel_rfl) ?_
          try (change wpAny _ _ _ _ _ _ _ (World.drew _))
          have y0d : wr.drew.cell? ⟨b, off + k, none⟩ = some (.int .i64 x) := y0
          refine wpAny_take (oi := ⟨some 10, _, _, _, _, _⟩) (i := 0) (v := .slice (some ⟨b, off, none⟩) n c) rfl (by kernel_rfl) (by kernel_rfl) (by kernel_rfl) (fun _ _ _ h => h) (Or.inl ⟨by kernel_rfl, fun w => by go_simp⟩) ?_
          simp only [Act.put, List.setIfInBounds_toArray, List.set_cons_zero, List.set_cons_succ]
          refine wpAny_take (oi := ⟨some 11, _, _, _, _, _⟩) (i := 1) (v := .int .i64 k) rfl (by kernel_rfl) (by kernel_rfl) (by kernel_rfl) (fun _ _ _ h => h) (Or.inl ⟨by kernel_rfl, fun w => by go_simp⟩) ?_
          simp only [Act.put, List.setIfInBounds_toArray, List.set_cons_zero, List.set_cons_succ]
          refine wpAny_take (oi := ⟨some 12, _, _, _, _, _⟩) (i := 2) (v := .pointer (some ⟨b, off + k, none⟩)) rfl (by kernel_rfl) (by kernel_rfl) (by kernel_rfl) (fun _ _ _ h => h) (Or.inl ⟨by kernel_rfl, fun w => by go_simp⟩) ?_
          simp only [Act.put, List.setIfInBounds_toArray, List.set_cons_zero, List.set_cons_succ]
          refine wpAny_take (oi := ⟨some 14, _, _, _, _, _⟩) (i := 4) (v := .slice (some ⟨b, off, none⟩) n c) rfl (by kernel_rfl) (by kernel_rfl) (by kernel_rfl) (fun _ _ _ h => h) (Or.inl ⟨by kernel_rfl, fun w => by go_simp⟩) ?_
          simp only [Act.put, List.setIfInBounds_toArray, List.set_cons_zero, List.set_cons_succ]
          refine wpAny_take (oi := ⟨some 15, _, _, _, _, _⟩) (i := 5) (v := .int .i64 n) rfl (by kernel_rfl) (by kernel_rfl) (by kernel_rfl) (fun _ _ _ h => h) (Or.inl ⟨by kernel_rfl, fun w => by go_simp⟩) ?_
          simp only [Act.put, List.setIfInBounds_toArray, List.set_cons_zero, List.set_cons_succ]
          refine wpAny_take (oi := ⟨some 16, _, _, _, _, _⟩) (i := 6) (v := .int .i64 12) rfl (by kernel_rfl) (by kernel_rfl) (by kernel_rfl) (fun _ _ _ h => h) (Or.inl ⟨by kernel_rfl, fun w => by go_simp⟩) ?_
          simp only [Act.put, List.setIfInBounds_toArray, List.set_cons_zero, List.set_cons_succ]
          refine wpAny_take (oi := ⟨some 17, _, _, _, _, _⟩) (i := 7) (v := .int .i64 q) rfl (by kernel_rfl) (by kernel_rfl) (by kernel_rfl) (fun _ _ _ h => h) (Or.inl ⟨by kernel_rfl, fun w => by go_simp⟩) ?_
          simp only [Act.put, List.setIfInBounds_toArray, List.set_cons_zero, List.set_cons_succ]
          refine wpAny_take (oi := ⟨some 18, _, _, _, _, _⟩) (i := 8) (v := .int .i64 ((q : Int) - 1)) rfl (by kernel_rfl) (by kernel_rfl) (by kernel_rfl) (fun _ _ _ h => h) (Or.inl ⟨by kernel_rfl, fun w => by go_simp⟩) ?_
          simp only [Act.put, List.setIfInBounds_toArray, List.set_cons_zero, List.set_cons_succ]
          refine wpAny_ready (rs := [3]) (by kernel_rfl) (by simp) (AllReady.cons rfl (fun K hK => ?_) AllReady.nil)
          go_simp
          refine hK _ _ ?_
          clear hK K
          refine wpAny_ready (rs := [9]) (by kernel_rfl) (by simp) (AllReady.cons rfl (fun K hK => ?_) AllReady.nil)
          go_simp
          go_wp2_with (first
            | (go_at_call 33; (refine (ci.out _).mono ?_); rintro ee w5 ⟨rfl, rfl⟩)
            | fail)
          refine wpAny_take (oi := ⟨some 20, _, _, _, _, _⟩) (i := 10) (v := .bool true) rfl (by kernel_rfl) (by kernel_rfl) (by kernel_rfl) (fun _ _ _ h => h) (Or.inl ⟨by kernel_rfl, fun w => by go_simp⟩) ?_
          simp only [Act.put, List.setIfInBounds_toArray, List.set_cons_zero, List.set_cons_succ]
          refine wpAny_done (by kernel_rfl) ?_ _
          go_wp2_with fail
          go_ret
          exact ⟨rfl, hbel.trans (Joins.below_draws _ _ _)⟩
        · have hw7 : IntKind.i64.wrap (2 ^ n) = (q : Int) := by rw [Nat.min_eq_left (by omega)] at hw; exact hw
          have hw8 : IntKind.i64.wrap ((q : Int) - 1) = (q : Int) - 1 := IntWalk.i64_in _ (by omega)
          clear hw
          refine wp_region_any (by kernel_rfl) ?_
          try (change wpAny _ _ _ _ _ _ _ (World.drew _))
          have y0d : wr.drew.cell? ⟨b, off + k, none⟩ = some (.int .i64 x) := y0
          refine wpAny_take (oi := ⟨some 10, _, _, _, _, _⟩) (i := 0) (v := .slice (some ⟨b, off, none⟩) n c) rfl (by kernel_rfl) (by kernel_rfl) (by kernel_rfl) (fun _ _ _ h => h) (Or.inl ⟨by kernel_rfl, fun w => by go_simp⟩) ?_
          simp only [Act.put, List.setIfInBounds_toArray, List.set_cons_zero, List.set_cons_succ]
          refine wpAny_take (oi := ⟨some 11, _, _, _, _, _⟩) (i := 1) (v := .int .i64 k) rfl (by kernel_rfl) (by kernel_rfl) (by kernel_rfl) (fun _ _ _ h => h) (Or.inl ⟨by kernel_rfl, fun w => by go_simp⟩) ?_
          simp only [Act.put, List.setIfInBounds_toArray, List.set_cons_zero, List.set_cons_succ]
          refine wpAny_take (oi := ⟨some 12, _, _, _, _, _⟩) (i := 2) (v := .pointer (some ⟨b, off + k, none⟩)) rfl (by kernel_rfl) (by kernel_rfl) (by kernel_rfl) (fun _ _ _ h => h) (Or.inl ⟨by kernel_rfl, fun w => by go_simp⟩) ?_
          simp only [Act.put, List.setIfInBounds_toArray, List.set_cons_zero, List.set_cons_succ]
          refine wpAny_take (oi := ⟨some 14, _, _, _, _, _⟩) (i := 4) (v := .slice (some ⟨b, off, none⟩) n c) rfl (by kernel_rfl) (by kernel_rfl) (by kernel_rfl) (fun _ _ _ h => h) (Or.inl ⟨by kernel_rfl, fun w => by go_simp⟩) ?_
          simp only [Act.put, List.setIfInBounds_toArray, List.set_cons_zero, List.set_cons_succ]
          refine wpAny_take (oi := ⟨some 15, _, _, _, _, _⟩) (i := 5) (v := .int .i64 n) rfl (by kernel_rfl) (by kernel_rfl) (by kernel_rfl) (fun _ _ _ h => h) (Or.inl ⟨by kernel_rfl, fun w => by go_simp⟩) ?_
          simp only [Act.put, List.setIfInBounds_toArray, List.set_cons_zero, List.set_cons_succ]
          refine wpAny_take (oi := ⟨some 16, _, _, _, _, _⟩) (i := 6) (v := .int .i64 n) rfl (by kernel_rfl) (by kernel_rfl) (by kernel_rfl) (fun _ _ _ h => h) (Or.inl ⟨by kernel_rfl, fun w => by go_simp⟩) ?_
          simp only [Act.put, List.setIfInBounds_toArray, List.set_cons_zero, List.set_cons_succ]
          refine wpAny_take (oi := ⟨some 17, _, _, _, _, _⟩) (i := 7) (v := .int .i64 q) rfl (by kernel_rfl) (by kernel_rfl) (by kernel_rfl) (fun _ _ _ h => h) (Or.inl ⟨by kernel_rfl, fun w => by go_simp⟩) ?_
          simp only [Act.put, List.setIfInBounds_toArray, List.set_cons_zero, List.set_cons_succ]
          refine wpAny_take (oi := ⟨some 18, _, _, _, _, _⟩) (i := 8) (v := .int .i64 ((q : Int) - 1)) rfl (by kernel_rfl) (by kernel_rfl) (by kernel_rfl) (fun _ _ _ h => h) (Or.inl ⟨by kernel_rfl, fun w => by go_simp⟩) ?_
          simp only [Act.put, List.setIfInBounds_toArray, List.set_cons_zero, List.set_cons_succ]
          refine wpAny_ready (rs := [3]) (by kernel_rfl) (by simp) (AllReady.cons rfl (fun K hK => ?_) AllReady.nil)
          go_simp
          refine hK _ _ ?_
          clear hK K
          refine wpAny_ready (rs := [9]) (by kernel_rfl) (by simp) (AllReady.cons rfl (fun K hK => ?_) AllReady.nil)
          go_simp
          go_wp2_with (first
            | (go_at_call 33; (refine (ci.out _).mono ?_); rintro ee w5 ⟨rfl, rfl⟩)
            | fail)
          refine wpAny_take (oi := ⟨some 20, _, _, _, _, _⟩) (i := 10) (v := .bool true) rfl (by kernel_rfl) (by kernel_rfl) (by kernel_rfl) (fun _ _ _ h => h) (Or.inl ⟨by kernel_rfl, fun w => by go_simp⟩) ?_
          simp only [Act.put, List.setIfInBounds_toArray, List.set_cons_zero, List.set_cons_succ]
          refine wpAny_done (by kernel_rfl) ?_ _
          go_wp2_with fail
          go_ret
          exact ⟨rfl, hbel.trans (Joins.below_draws _ _ _)⟩
      · have ci := Lib.hid (fun wx => l1In_yes x 0 ((q : Int) - 1) wx (by omega) (by omega))
        have HE2 := Lib.hid (show ∀ j, j < k + 1 → 0 ≤ xs.getD j 0 ∧ xs.getD j 0 ≤ (q : Int) - 1 from fun j hj => by
          by_cases hjk : j = k
          · subst hjk; rw [← Hx.out]; omega
          · exact HE.out j (by omega))
        clear hx0
        go_wp2_with fail
        by_cases hn12 : (12 : Int) < (n : Int)
        · have hw7 : IntKind.i64.wrap 4096 = (q : Int) := by rw [Nat.min_eq_right (by omega)] at hw; exact hw
          have hw8 : IntKind.i64.wrap ((q : Int) - 1) = (q : Int) - 1 := IntWalk.i64_in _ (by omega)
          clear hw
          refine wp_region_any (by kernel_rfl) ?_
          try (change wpAny _ _ _ _ _ _ _ (World.drew _))
          have y0d : wr.drew.cell? ⟨b, off + k, none⟩ = some (.int .i64 x) := y0
          refine wpAny_take (oi := ⟨some 10, _, _, _, _, _⟩) (i := 0) (v := .slice (some ⟨b, off, none⟩) n c) rfl (by kernel_rfl) (by kernel_rfl) (by kernel_rfl) (fun _ _ _ h => h) (Or.inl ⟨by kernel_rfl, fun w => by go_simp⟩) ?_
          simp only [Act.put, List.setIfInBounds_toArray, List.set_cons_zero, List.set_cons_succ]
          refine wpAny_take (oi := ⟨some 11, _, _, _, _, _⟩) (i := 1) (v := .int .i64 k) rfl (by kernel_rfl) (by kernel_rfl) (by kernel_rfl) (fun _ _ _ h => h) (Or.inl ⟨by kernel_rfl, fun w => by go_simp⟩) ?_
          simp only [Act.put, List.setIfInBounds_toArray, List.set_cons_zero, List.set_cons_succ]
          refine wpAny_take (oi := ⟨some 12, _, _, _, _, _⟩) (i := 2) (v := .pointer (some ⟨b, off + k, none⟩)) rfl (by kernel_rfl) (by kernel_rfl) (by kernel_rfl) (fun _ _ _ h => h) (Or.inl ⟨by kernel_rfl, fun w => by go_simp⟩) ?_
          simp only [Act.put, List.setIfInBounds_toArray, List.set_cons_zero, List.set_cons_succ]
          refine wpAny_take (oi := ⟨some 14, _, _, _, _, _⟩) (i := 4) (v := .slice (some ⟨b, off, none⟩) n c) rfl (by kernel_rfl) (by kernel_rfl) (by kernel_rfl) (fun _ _ _ h => h) (Or.inl ⟨by kernel_rfl, fun w => by go_simp⟩) ?_
          simp only [Act.put, List.setIfInBounds_toArray, List.set_cons_zero, List.set_cons_succ]
          refine wpAny_take (oi := ⟨some 15, _, _, _, _, _⟩) (i := 5) (v := .int .i64 n) rfl (by kernel_rfl) (by kernel_rfl) (by kernel_rfl) (fun _ _ _ h => h) (Or.inl ⟨by kernel_rfl, fun w => by go_simp⟩) ?_
          simp only [Act.put, List.setIfInBounds_toArray, List.set_cons_zero, List.set_cons_succ]
          refine wpAny_take (oi := ⟨some 16, _, _, _, _, _⟩) (i := 6) (v := .int .i64 12) rfl (by kernel_rfl) (by kernel_rfl) (by kernel_rfl) (fun _ _ _ h => h) (Or.inl ⟨by kernel_rfl, fun w => by go_simp⟩) ?_
          simp only [Act.put, List.setIfInBounds_toArray, List.set_cons_zero, List.set_cons_succ]
          refine wpAny_take (oi := ⟨some 17, _, _, _, _, _⟩) (i := 7) (v := .int .i64 q) rfl (by kernel_rfl) (by kernel_rfl) (by kernel_rfl) (fun _ _ _ h => h) (Or.inl ⟨by kernel_rfl, fun w => by go_simp⟩) ?_
          simp only [Act.put, List.setIfInBounds_toArray, List.set_cons_zero, List.set_cons_succ]
          refine wpAny_take (oi := ⟨some 18, _, _, _, _, _⟩) (i := 8) (v := .int .i64 ((q : Int) - 1)) rfl (by kernel_rfl) (by kernel_rfl) (by kernel_rfl) (fun _ _ _ h => h) (Or.inl ⟨by kernel_rfl, fun w => by go_simp⟩) ?_
          simp only [Act.put, List.setIfInBounds_toArray, List.set_cons_zero, List.set_cons_succ]
          refine wpAny_ready (rs := [3]) (by kernel_rfl) (by simp) (AllReady.cons rfl (fun K hK => ?_) AllReady.nil)
          go_simp
          refine hK _ _ ?_
          clear hK K
          refine wpAny_ready (rs := [9]) (by kernel_rfl) (by simp) (AllReady.cons rfl (fun K hK => ?_) AllReady.nil)
          go_simp
          go_wp2_with (first
            | (go_at_call 33; (refine (ci.out _).mono ?_); rintro ee w5 ⟨rfl, rfl⟩)
            | fail)
          refine wpAny_take (oi := ⟨some 20, _, _, _, _, _⟩) (i := 10) (v := .bool false) rfl (by kernel_rfl) (by kernel_rfl) (by kernel_rfl) (fun _ _ _ h => h) (Or.inl ⟨by kernel_rfl, fun w => by go_simp⟩) ?_
          simp only [Act.put, List.setIfInBounds_toArray, List.set_cons_zero, List.set_cons_succ]
          refine wpAny_done (by kernel_rfl) ?_ _
          go_wp2_with fail
          go_roundw
          case rel => exact ⟨k + 1, by omega, by go_num, HE2, hbel.trans (Joins.below_draws _ _ _)⟩
          case measure => simp [intOf]; omega
        · have hw7 : IntKind.i64.wrap (2 ^ n) = (q : Int) := by rw [Nat.min_eq_left (by omega)] at hw; exact hw
          have hw8 : IntKind.i64.wrap ((q : Int) - 1) = (q : Int) - 1 := IntWalk.i64_in _ (by omega)
          clear hw
          refine wp_region_any (by kernel_rfl) ?_
          try (change wpAny _ _ _ _ _ _ _ (World.drew _))
          have y0d : wr.drew.cell? ⟨b, off + k, none⟩ = some (.int .i64 x) := y0
          refine wpAny_take (oi := ⟨some 10, _, _, _, _, _⟩) (i := 0) (v := .slice (some ⟨b, off, none⟩) n c) rfl (by kernel_rfl) (by kernel_rfl) (by kernel_rfl) (fun _ _ _ h => h) (Or.inl ⟨by kernel_rfl, fun w => by go_simp⟩) ?_
          simp only [Act.put, List.setIfInBounds_toArray, List.set_cons_zero, List.set_cons_succ]
          refine wpAny_take (oi := ⟨some 11, _, _, _, _, _⟩) (i := 1) (v := .int .i64 k) rfl (by kernel_rfl) (by kernel_rfl) (by kernel_rfl) (fun _ _ _ h => h) (Or.inl ⟨by kernel_rfl, fun w => by go_simp⟩) ?_
          simp only [Act.put, List.setIfInBounds_toArray, List.set_cons_zero, List.set_cons_succ]
          refine wpAny_take (oi := ⟨some 12, _, _, _, _, _⟩) (i := 2) (v := .pointer (some ⟨b, off + k, none⟩)) rfl (by kernel_rfl) (by kernel_rfl) (by kernel_rfl) (fun _ _ _ h => h) (Or.inl ⟨by kernel_rfl, fun w => by go_simp⟩) ?_
          simp only [Act.put, List.setIfInBounds_toArray, List.set_cons_zero, List.set_cons_succ]
          refine wpAny_take (oi := ⟨some 14, _, _, _, _, _⟩) (i := 4) (v := .slice (some ⟨b, off, none⟩) n c) rfl (by kernel_rfl) (by kernel_rfl) (by kernel_rfl) (fun _ _ _ h => h) (Or.inl ⟨by kernel_rfl, fun w => by go_simp⟩) ?_
          simp only [Act.put, List.setIfInBounds_toArray, List.set_cons_zero, List.set_cons_succ]
          refine wpAny_take (oi := ⟨some 15, _, _, _, _, _⟩) (i := 5) (v := .int .i64 n) rfl (by kernel_rfl) (by kernel_rfl) (by kernel_rfl) (fun _ _ _ h => h) (Or.inl ⟨by kernel_rfl, fun w => by go_simp⟩) ?_
          simp only [Act.put, List.setIfInBounds_toArray, List.set_cons_zero, List.set_cons_succ]
          refine wpAny_take (oi := ⟨some 16, _, _, _, _, _⟩) (i := 6) (v := .int .i64 n) rfl (by kernel_rfl) (by kernel_rfl) (by kernel_rfl) (fun _ _ _ h => h) (Or.inl ⟨by kernel_rfl, fun w => by go_simp⟩) ?_
          simp only [Act.put, List.setIfInBounds_toArray, List.set_cons_zero, List.set_cons_succ]
          refine wpAny_take (oi := ⟨some 17, _, _, _, _, _⟩) (i := 7) (v := .int .i64 q) rfl (by kernel_rfl) (by kernel_rfl) (by kernel_rfl) (fun _ _ _ h => h) (Or.inl ⟨by kernel_rfl, fun w => by go_simp⟩) ?_
          simp only [Act.put, List.setIfInBounds_toArray, List.set_cons_zero, List.set_cons_succ]
          refine wpAny_take (oi := ⟨some 18, _, _, _, _, _⟩) (i := 8) (v := .int .i64 ((q : Int) - 1)) rfl (by kernel_rfl) (by kernel_rfl) (by kernel_rfl) (fun _ _ _ h => h) (Or.inl ⟨by kernel_rfl, fun w => by go_simp⟩) ?_
          simp only [Act.put, List.setIfInBounds_toArray, List.set_cons_zero, List.set_cons_succ]
          refine wpAny_ready (rs := [3]) (by kernel_rfl) (by simp) (AllReady.cons rfl (fun K hK => ?_) AllReady.nil)
          go_simp
          refine hK _ _ ?_
          clear hK K
          refine wpAny_ready (rs := [9]) (by kernel_rfl) (by simp) (AllReady.cons rfl (fun K hK => ?_) AllReady.nil)
          go_simp
          go_wp2_with (first
            | (go_at_call 33; (refine (ci.out _).mono ?_); rintro ee w5 ⟨rfl, rfl⟩)
            | fail)
          refine wpAny_take (oi := ⟨some 20, _, _, _, _, _⟩) (i := 10) (v := .bool false) rfl (by kernel_rfl) (by kernel_rfl) (by kernel_rfl) (fun _ _ _ h => h) (Or.inl ⟨by kernel_rfl, fun w => by go_simp⟩) ?_
          simp only [Act.put, List.setIfInBounds_toArray, List.set_cons_zero, List.set_cons_succ]
          refine wpAny_done (by kernel_rfl) ?_ _
          go_wp2_with fail
          go_roundw
          case rel => exact ⟨k + 1, by omega, by go_num, HE2, hbel.trans (Joins.below_draws _ _ _)⟩
          case measure => simp [intOf]; omega
    · obtain rfl : k = n := by omega
      by_cases h15 : 1 ≤ k ∧ k ≤ 12
      · have hoT : upTo (2 ^ k - 1) xs = true := upTo_all (fun j hj => by have := HE.out j (by rw [← X1.out]; exact hj); rw [← Hq.out h15.2]; exact this)
        have ci := Lib.hid (l1In_yes (k : Int) 1 12 wr (by omega) (by omega))
        have hoF : o = true := by rw [Ho.out, relB_in (by rw [X1.out]; exact h15), X1.out]; exact hoT
        subst hoF
        clear hoT
        go_wp2_with fail
        refine (ci.out).mono ?_
        rintro ee wx ⟨rfl, rfl⟩
        go_wp2_with fail
        go_ret
        exact ⟨rfl, hbel⟩
      · have ci := Lib.hid (l1In_no (k : Int) 1 12 wr (by omega))
        have hoF : o = false := by rw [Ho.out, relB_len (by rw [X1.out]; exact h15)]
        subst hoF
        go_wp2_with fail
        refine (ci.out).mono ?_
        rintro ee wx ⟨rfl, rfl⟩
        go_wp2_with fail
        go_ret
        exact ⟨rfl, hbel⟩

theorem impl_RelValid (ao : Option Addr) (n c : Nat) (xs : List Int) (w : World) (h : Sl w ao n c xs) :
    Calls Tryd.prog 29 #[.slice ao n c] w fun e w' => e = .returned (.bool (relB xs)) ∧ Below w.heap.size w w' :=
  (iRelValid_any ao n c xs w h).mono (fun _ _ h9 => by obtain ⟨h1, rfl⟩ := h9; exact ⟨h1, Below.refl _ _⟩)

theorem spec_RelValid (ao : Option Addr) (n c : Nat) (xs : List Int) (w : World) (h : Sl w ao n c xs) :
    Calls Tryd.prog 32 #[.slice ao n c] w fun e w' => e = .returned (.bool (relB xs)) ∧ Below w.heap.size w w' := sRelValid_any ao n c xs w h

end Go.Proofs.YtagdeifalkenhaaDoor

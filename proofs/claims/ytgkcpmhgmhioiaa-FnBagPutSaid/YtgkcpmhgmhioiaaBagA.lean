/- Multisets: which are valid, by the program and by the model. -/
import Derived.Test.YtgkcpmhgmhioiaaLawKit
import Derived.Test.YtgkcpmhgmhioiaaLeaf
import Derived.Deep.LoopGhost
import Derived.Deep.RegionHeld3
import Derived.Shelf.Abstract
namespace Go.Proofs.Ytgkcpmhgmhioiaa
set_option maxRecDepth 100000
open Go.RowKit

/-- All numbers of a list are in 0..m. -/
def upTo (m : Int) (xs : List Int) : Bool := decide (∀ x ∈ xs, 0 ≤ x ∧ x ≤ m)
theorem upTo_true {m : Int} {xs : List Int} : upTo m xs = true ↔ ∀ x ∈ xs, 0 ≤ x ∧ x ≤ m := by rw [upTo, decide_eq_true_eq]
theorem upTo_false {m : Int} {xs : List Int} : upTo m xs = false ↔ ¬ ∀ x ∈ xs, 0 ≤ x ∧ x ≤ m := by rw [upTo, decide_eq_false_iff_not]
theorem getD_at {xs : List Int} {k : Nat} (h : k < xs.length) : xs.getD k 0 = xs[k] := by simp [List.getD, h]
theorem getD_in {xs : List Int} {k : Nat} (h : k < xs.length) : xs.getD k 0 ∈ xs := by rw [getD_at h]; exact List.getElem_mem h
theorem upTo_all {m : Int} {xs : List Int} (h : ∀ j, j < xs.length → 0 ≤ xs.getD j 0 ∧ xs.getD j 0 ≤ m) : upTo m xs = true := by
  rw [upTo_true]
  intro x hx
  obtain ⟨j, hj, rfl⟩ := List.mem_iff_getElem.1 hx
  rw [← getD_at hj]
  exact h j hj
theorem upTo_at {m : Int} {xs : List Int} {k : Nat} (hk : k < xs.length) (h : xs.getD k 0 < 0 ∨ m < xs.getD k 0) : upTo m xs = false := by
  rw [upTo_false]
  intro h'
  have := h' _ (getD_in hk)
  omega
theorem upTo_get {m : Int} {xs : List Int} (h : upTo m xs = true) {k : Nat} (hk : k < xs.length) : 0 ≤ xs.getD k 0 ∧ xs.getD k 0 ≤ m := upTo_true.1 h _ (getD_in hk)

theorem up_tf (m : Int) (xs : List Int) : upTo m xs = true ∨ upTo m xs = false := by cases upTo m xs <;> simp

/-- At most sixteen numbers from 0 to 9. -/
def itemsB (xs : List Int) : Bool := decide (xs.length ≤ 16) && upTo 9 xs
/-- None is greater than the one before, among the first ones. -/
def DescTo (k : Nat) (xs : List Int) : Prop := ∀ j, j + 1 < k → xs.getD (j + 1) 0 ≤ xs.getD j 0
open Classical in
noncomputable def descB (xs : List Int) : Bool := decide (DescTo xs.length xs)
open Classical in
theorem descB_true {xs : List Int} : descB xs = true ↔ DescTo xs.length xs := by rw [descB, decide_eq_true_eq]
noncomputable def bagB (xs : List Int) : Bool := itemsB xs && descB xs
theorem itemsB_len {xs : List Int} (h : ¬ xs.length ≤ 16) : itemsB xs = false := by rw [itemsB, decide_eq_false h]; rfl
theorem itemsB_in {xs : List Int} (h : xs.length ≤ 16) : itemsB xs = upTo 9 xs := by rw [itemsB, decide_eq_true h]; rfl
theorem itemsB_true {xs : List Int} : itemsB xs = true ↔ xs.length ≤ 16 ∧ upTo 9 xs = true := by rw [itemsB, Bool.and_eq_true, decide_eq_true_eq]
theorem items_tf (xs : List Int) : itemsB xs = true ∨ itemsB xs = false := by cases itemsB xs <;> simp
theorem bag_tf (xs : List Int) : bagB xs = true ∨ bagB xs = false := by cases bagB xs <;> simp
theorem bagB_true {xs : List Int} : bagB xs = true ↔ itemsB xs = true ∧ DescTo xs.length xs := by rw [bagB, Bool.and_eq_true, descB_true]
theorem bagB_no {xs : List Int} (h : itemsB xs = false) : bagB xs = false := by rw [bagB, h]; rfl
theorem bagB_up {xs : List Int} (h : upTo 9 xs = false) : bagB xs = false := bagB_no (by rw [itemsB, h, Bool.and_false])
theorem bagB_desc {xs : List Int} (h : ¬ DescTo xs.length xs) : bagB xs = false := by
  rcases bag_tf xs with h1 | h1
  · exact absurd (bagB_true.1 h1).2 h
  · exact h1
theorem bag_measure {n i : Nat} (h : i < n) : n - (intOf (.int .i64 ((i : Int) + 1))).toNat < n - (intOf (.int .i64 (i : Int))).toNat := by
  show n - ((i : Int) + 1).toNat < n - (i : Int).toNat
  omega

set_option maxHeartbeats 1000000 in
theorem allUpTo_any (ao : Option Addr) (n c : Nat) (xs : List Int) (m : Int) (w : World) (hb : n ≤ 1000000000000) (h : Sl w ao n c xs) :
    Calls Try.prog 63 #[.slice ao n c, .int .i64 m] w fun e w' => e = .returned (.bool (upTo m xs)) ∧ w = w' := by
  obtain ⟨x1, x2, x3, x4⟩ := h
  have X1 := Lib.hid x1
  have X4 := Lib.hid x4
  obtain ⟨o, ho⟩ : ∃ o, o = upTo m xs := ⟨_, rfl⟩
  rw [← ho]
  have Ho := Lib.hid ho
  clear x1 x4 ho
  go_enter Try.func63, Try.ntmps63
  go_wp2_with fail
  go_loopg [9] n (fun gk i wr => ∃ (k : Nat), gk + k = n ∧ i = .int .i64 k ∧ Hid (∀ j, j < k → 0 ≤ xs.getD j 0 ∧ xs.getD j 0 ≤ m) ∧ w = wr)
  case atStart => exact ⟨0, rfl, rfl, fun j hj => by omega, rfl⟩
  case round =>
    obtain ⟨k, hgk, rfl, HE, rfl⟩ := hrel
    have Hgk := Lib.hid hgk
    have hk : k ≤ n := by omega
    clear hgk
    by_cases hlt : k < n
    · obtain ⟨b, off, rfl, hat⟩ := X4.out (by omega)
      have hkx : k < xs.length := by rw [X1.out]; exact hlt
      have hx : w.cell? ⟨b, off + k, none⟩ = some (.int .i64 (xs.getD k 0)) := hat k hkx
      obtain ⟨x, hxe⟩ : ∃ x, x = xs.getD k 0 := ⟨_, rfl⟩
      rw [← hxe] at hx
      have Hx := Lib.hid hxe
      have Hkx := Lib.hid hkx
      clear hkx hxe
      by_cases hx0 : x < 0
      · have hoF : o = false := by rw [Ho.out]; exact upTo_at Hkx.out (.inl (by rw [← Hx.out]; exact hx0))
        subst hoF
        go_wp2_with fail
        go_ret
        exact ⟨rfl, rfl⟩
      · have hx0' : decide (x < 0) = false := by simpa using hx0
        by_cases hxm : m < x
        · have hoF : o = false := by rw [Ho.out]; exact upTo_at Hkx.out (.inr (by rw [← Hx.out]; exact hxm))
          subst hoF
          go_wp2_with fail
          go_ret
          exact ⟨by simp, rfl⟩
        · have hxm' : decide (m < x) = false := by simpa using hxm
          go_wp2_with fail
          go_roundg (gk - 1)
          case measure => have := Hgk.out; omega
          case rel =>
            refine ⟨k + 1, by have := Hgk.out; omega, by go_num, fun j hj => ?_, rfl⟩
            by_cases hjk : j = k
            · subst hjk; rw [← Hx.out]; omega
            · exact HE.out j (by omega)
    · obtain rfl : k = n := by omega
      have hoT : o = true := by rw [Ho.out]; exact upTo_all (fun j hj => HE.out j (by rw [← X1.out]; exact hj))
      subst hoT
      go_wp2_with fail
      go_ret
      exact ⟨rfl, rfl⟩

theorem isItems_any (ao : Option Addr) (n c : Nat) (xs : List Int) (w : World) (h : Sl w ao n c xs) :
    Calls Try.prog 57 #[.slice ao n c] w fun e w' => e = .returned (.bool (itemsB xs)) ∧ w = w' := by
  have hn9 : n ≤ 9223372036854775807 := by have h2 := h.2.1; have h3 := h.2.2.1; unfold maxLen at h3; omega
  by_cases h5 : n ≤ 16
  · have k1 := Lib.hid (allUpTo_any ao n c xs 9 w (by omega) h)
    rw [itemsB_in (by rw [h.1]; exact h5)]
    clear h
    go_enter Try.func57, Try.ntmps57
    go_wp2_with fail
    refine (k1.out).mono ?_
    rintro ee wx ⟨rfl, rfl⟩
    go_wp2_with fail
    go_ret
    exact ⟨rfl, rfl⟩
  · have h5' : decide ((n : Int) ≤ 16) = false := by simp; omega
    rw [itemsB_len (by rw [h.1]; exact h5)]
    clear h
    go_enter Try.func57, Try.ntmps57
    go_wp2_with fail
    go_ret
    exact ⟨rfl, rfl⟩

theorem descending_any (x y : Int) (w : World) :
    Calls Try.prog 80 #[.int .i64 x, .int .i64 y] w fun e w' => e = .returned (.int .i64 (cmpI y x)) ∧ w = w' := by
  have k1 := Lib.hid (cmp_int y x w)
  go_enter Try.func80, Try.ntmps80
  go_wp2_with fail
  refine (k1.out).mono ?_
  rintro ee wx ⟨rfl, rfl⟩
  go_wp2_with fail
  go_ret
  exact ⟨rfl, rfl⟩

theorem cmpI_neg {x y : Int} : cmpI x y < 0 ↔ x < y := by
  unfold cmpI
  split
  · exact ⟨fun _ => by assumption, fun _ => by decide⟩
  · split
    · exact ⟨fun h => by omega, fun h => by omega⟩
    · exact ⟨fun h => by omega, fun h => by omega⟩

set_option maxHeartbeats 2000000 in
theorem isSorted_any (ao : Option Addr) (n c : Nat) (xs : List Int) (o : Bool) (w : World) (hn : n ≤ 1000) (ho : o = true ↔ DescTo n xs) (h : Sl w ao n c xs) :
    Calls Try.prog 81 #[.slice ao n c, .func (.func 80) #[] #[]] w fun e w' => e = .returned (.bool o) ∧ Below w.heap.size w w' := by
  obtain ⟨x1, x2, x3, x4⟩ := h
  have X1 := Lib.hid x1
  have X4 := Lib.hid x4
  have Ho := Lib.hid ho
  have kc := Lib.hid descending_any
  clear x1 x4 ho
  go_enter Try.func81, Try.ntmps81
  go_wp2_with fail
  go_loopw [5] (fun i wr => ∃ (k : Int), -1 ≤ k ∧ k < n ∧ i = .int .i64 k ∧ Hid (∀ j : Nat, k ≤ j → j + 1 < n → xs.getD (j + 1) 0 ≤ xs.getD j 0) ∧ Below w.heap.size w wr) (fun i _ => (intOf i).toNat)
  case atStart => exact ⟨(n : Int) - 1, by omega, by omega, by first | rfl | go_num, Lib.hid (fun j h1 h2 => by omega), Below.refl _ _⟩
  case round =>
    obtain ⟨k, hk0, hkn, rfl, HE, hbel⟩ := hrel
    by_cases hlt : 0 < k
    · obtain ⟨q, rfl⟩ := Int.eq_ofNat_of_zero_le (show 0 ≤ k by omega)
      obtain ⟨q1, hq1⟩ : ∃ q1, q = q1 + 1 := ⟨q - 1, by omega⟩
      obtain ⟨b, off, rfl, hat⟩ := X4.out (by omega)
      have hqx : q < xs.length := by rw [X1.out]; omega
      have hbl : b < w.heap.size := hat.lt (by intro h9; rw [h9] at hqx; simp at hqx)
      have y0 := (hat.below hbel hbl) q hqx
      have y1 := (hat.below hbel hbl) q1 (by omega)
      obtain ⟨x, hx⟩ : ∃ x, x = xs.getD q 0 := ⟨_, rfl⟩
      obtain ⟨y, hy⟩ : ∃ y, y = xs.getD q1 0 := ⟨_, rfl⟩
      rw [← hx] at y0
      rw [← hy] at y1
      have hj1 : IntKind.i64.wrap ((q : Int) - 1) = (q1 : Int) := by rw [IntWalk.i64_in _ (by omega)]; omega
      have hj2 : (q : Int) - 1 = (q1 : Int) := by omega
      have hj3 : IntKind.i64.wrap (q1 : Int) = (q1 : Int) := IntWalk.i64_in _ (by omega)
      have hqn : q < n := by omega
      have hq1n : q1 < n := by omega
      have Hx := Lib.hid hx
      have Hy := Lib.hid hy
      have Hq1 := Lib.hid hq1
      clear hat hqx hx hy hq1
      by_cases hxy : y < x
      · have hoF : o = false := by
          cases o with
          | false => rfl
          | true =>
            have h9 := Ho.out.1 rfl q1 (by have := Hq1.out; omega)
            rw [← Hq1.out, ← Hx.out, ← Hy.out] at h9
            omega
        subst hoF
        have hc : cmpI y x < 0 := cmpI_neg.2 hxy
        obtain ⟨z, hz⟩ : ∃ z, z = cmpI y x := ⟨_, rfl⟩
        have kd := Lib.hid (fun wx => descending_any x y wx)
        rw [← hz] at hc kd
        clear hz hxy
        go_wp2_with fail
        go_region_held3 (fun w' => w'.cell? ⟨b, off + q, none⟩ = some (.int .i64 x) ∧ w'.cell? ⟨b, off + q1, none⟩ = some (.int .i64 y)) (first | go_keep | exact ⟨y0, y1⟩)
          ((first
            | (go_at_call 80; (refine (kd.out _).mono ?_); rintro ee w5 ⟨rfl, rfl⟩)
            | fail))
        go_wp2_with fail
        go_ret
        exact ⟨rfl, hbel.trans (Joins.below_draws _ _ _)⟩
      · have hc : ¬ cmpI y x < 0 := fun h9 => hxy (cmpI_neg.1 h9)
        obtain ⟨z, hz⟩ : ∃ z, z = cmpI y x := ⟨_, rfl⟩
        have kd := Lib.hid (fun wx => descending_any x y wx)
        rw [← hz] at hc kd
        have hc' : decide (z < 0) = false := by simpa using hc
        have HE2 := Lib.hid (show ∀ j : Nat, (q1 : Int) ≤ j → j + 1 < n → xs.getD (j + 1) 0 ≤ xs.getD j 0 from fun j h1 h2 => by
          by_cases hj : j = q1
          · subst hj; rw [← Hq1.out, ← Hx.out, ← Hy.out]; omega
          · exact HE.out j (by have := Hq1.out; omega) h2)
        clear hz hxy
        go_wp2_with fail
        go_region_held3 (fun w' => w'.cell? ⟨b, off + q, none⟩ = some (.int .i64 x) ∧ w'.cell? ⟨b, off + q1, none⟩ = some (.int .i64 y)) (first | go_keep | exact ⟨y0, y1⟩)
          ((first
            | (go_at_call 80; (refine (kd.out _).mono ?_); rintro ee w5 ⟨rfl, rfl⟩)
            | fail))
        go_wp2_with fail
        go_roundw
        case rel => exact ⟨(q1 : Int), by omega, by omega, by first | rfl | go_num, HE2, hbel.trans (Joins.below_draws _ _ _)⟩
        case measure => simp [intOf]; omega
    · have hoT : o = true := Ho.out.2 (fun j hj => HE.out j (by omega) hj)
      subst hoT
      go_wp2_with fail
      go_ret
      exact ⟨rfl, hbel⟩

theorem inOrder_any (ao : Option Addr) (n c : Nat) (xs : List Int) (o : Bool) (w : World) (hn : n ≤ 1000) (ho : o = true ↔ DescTo n xs) (h : Sl w ao n c xs) :
    Calls Try.prog 60 #[.slice ao n c] w fun e w' => e = .returned (.bool o) ∧ Below w.heap.size w w' := by
  have k1 := Lib.hid (isSorted_any ao n c xs o w hn ho h)
  clear ho h
  go_enter Try.func60, Try.ntmps60
  go_wp2_with fail
  refine (k1.out).mono ?_
  rintro ee wx ⟨rfl, hb⟩
  have Hb := Lib.hid hb
  clear hb
  go_wp2_with fail
  go_ret
  exact ⟨rfl, Hb.out⟩

theorem impl_BagValid (ao : Option Addr) (n c : Nat) (xs : List Int) (w : World) (h : Sl w ao n c xs) :
    Calls Try.prog 26 #[.slice ao n c] w fun e w' => e = .returned (.bool (bagB xs)) ∧ Below w.heap.size w w' := by
  have k1 := Lib.hid (isItems_any ao n c xs w h)
  rcases items_tf xs with h1 | h1
  · have hl := (itemsB_true.1 h1).1
    rw [h.1] at hl
    have k2 := Lib.hid (inOrder_any ao n c xs (bagB xs) w (by omega) ⟨fun h9 => by have := (bagB_true.1 h9).2; rwa [h.1] at this, fun h9 => bagB_true.2 ⟨h1, by rw [h.1]; exact h9⟩⟩ h)
    rw [h1] at k1
    obtain ⟨o, ho⟩ : ∃ o, o = bagB xs := ⟨_, rfl⟩
    rw [← ho] at k2 ⊢
    clear h h1 ho
    go_enter Try.func26, Try.ntmps26
    go_wp2_with fail
    refine (k1.out).mono ?_
    rintro ee wx ⟨rfl, rfl⟩
    go_wp2_with fail
    refine (k2.out).mono ?_
    rintro ee wx ⟨rfl, hb⟩
    have Hb := Lib.hid hb
    clear hb
    go_wp2_with fail
    go_ret
    exact ⟨rfl, Hb.out⟩
  · rw [h1] at k1
    rw [bagB_no h1]
    clear h h1
    go_enter Try.func26, Try.ntmps26
    go_wp2_with fail
    refine (k1.out).mono ?_
    rintro ee wx ⟨rfl, rfl⟩
    go_wp2_with fail
    go_ret
    exact ⟨rfl, Below.refl _ _⟩

set_option maxHeartbeats 4000000 in
theorem spec_BagValid (ao : Option Addr) (n c : Nat) (xs : List Int) (w : World) (h : Sl w ao n c xs) :
    Calls Try.prog 66 #[.slice ao n c] w fun e w' => e = .returned (.bool (bagB xs)) ∧ Below w.heap.size w w' := by
  have hn9 : n ≤ 9223372036854775807 := by have h2 := h.2.1; have h3 := h.2.2.1; unfold maxLen at h3; omega
  obtain ⟨x1, x2, x3, x4⟩ := h
  have X1 := Lib.hid x1
  have X4 := Lib.hid x4
  obtain ⟨o, ho⟩ : ∃ o, o = bagB xs := ⟨_, rfl⟩
  rw [← ho]
  have Ho := Lib.hid ho
  clear x1 x2 x3 x4 ho
  go_enter Try.func66, Try.ntmps66
  go_wp2_with fail
  go_loopw [3] (fun i wr => ∃ (k : Nat), k ≤ n ∧ i = .int .i64 k ∧ Hid (∀ j, j < k → 0 ≤ xs.getD j 0 ∧ xs.getD j 0 ≤ 9) ∧ Hid (DescTo k xs) ∧ Below w.heap.size w wr) (fun i _ => n - (intOf i).toNat)
  case atStart => exact ⟨0, Nat.zero_le _, rfl, fun j hj => by omega, Lib.hid (fun j hj => by omega), Below.refl _ _⟩
  case round =>
    obtain ⟨k, hk, rfl, HE, HD, hbel⟩ := hrel
    by_cases hlt : k < n
    · obtain ⟨b, off, rfl, hat⟩ := X4.out (by omega)
      have hkx : k < xs.length := by rw [X1.out]; exact hlt
      have hbl : b < w.heap.size := hat.lt (by intro h9; rw [h9] at hkx; simp at hkx)
      have hx : wr.drew.cell? ⟨b, off + k, none⟩ = some (.int .i64 (xs.getD k 0)) := (hat.below hbel hbl) k hkx
      have Hat := Lib.hid (hat.below hbel hbl)
      obtain ⟨x, hxe⟩ : ∃ x, x = xs.getD k 0 := ⟨_, rfl⟩
      rw [← hxe] at hx
      have Hx := Lib.hid hxe
      have Hkx := Lib.hid hkx
      clear hat hkx hxe
      by_cases hx0 : x < 0 ∨ 9 < x
      · have hoF : o = false := by rw [Ho.out]; exact bagB_up (upTo_at Hkx.out (by rw [← Hx.out]; exact hx0))
        subst hoF
        have ci := Lib.hid (l1In_no x 0 9 wr.drew hx0)
        clear hx0
        go_wp2_with fail
        refine wp_region_any (by kernel_rfl) ?_
        try (change wpAny _ _ _ _ _ _ _ (World.drew _))
        refine wpAny_take (oi := ⟨some 10, _, _, _, _, _⟩) (i := 0) (v := .slice (some ⟨b, off, none⟩) n c) rfl (by kernel_rfl) (by kernel_rfl) (by kernel_rfl) (fun _ _ _ h => h) (Or.inl ⟨by kernel_rfl, fun w => by go_simp⟩) ?_
        simp only [Act.put, List.setIfInBounds_toArray, List.set_cons_zero, List.set_cons_succ]
        refine wpAny_take (oi := ⟨some 11, _, _, _, _, _⟩) (i := 1) (v := .int .i64 (k : Nat)) rfl (by kernel_rfl) (by kernel_rfl) (by kernel_rfl) (fun _ _ _ h => h) (Or.inl ⟨by kernel_rfl, fun w => by go_simp⟩) ?_
        simp only [Act.put, List.setIfInBounds_toArray, List.set_cons_zero, List.set_cons_succ]
        refine wpAny_take (oi := ⟨some 12, _, _, _, _, _⟩) (i := 2) (v := .pointer (some ⟨b, off + k, none⟩)) rfl (by kernel_rfl) (by kernel_rfl) (by kernel_rfl) (fun _ _ _ h => h) (Or.inl ⟨by kernel_rfl, fun w => by go_simp⟩) ?_
        simp only [Act.put, List.setIfInBounds_toArray, List.set_cons_zero, List.set_cons_succ]
        refine wpAny_ready (rs := [3]) (by kernel_rfl) (by simp) (AllReady.cons rfl (fun K hK => ?_) AllReady.nil)
        go_simp
        refine hK _ _ ?_
        clear hK K
        refine wpAny_ready (rs := [4]) (by kernel_rfl) (by simp) (AllReady.cons rfl (fun K hK => ?_) AllReady.nil)
        go_simp
        go_wp2_with (first
          | (go_at_call 44; (with_reducible refine (ci.out).mono ?_); rintro ee w6 ⟨rfl, rfl⟩)
          | fail)
        refine wpAny_take (oi := ⟨some 15, _, _, _, _, _⟩) (i := 5) (v := .bool true) rfl (by kernel_rfl) (by kernel_rfl) (by kernel_rfl) (fun _ _ _ h => h) (Or.inl ⟨by kernel_rfl, fun w => by go_simp⟩) ?_
        simp only [Act.put, List.setIfInBounds_toArray, List.set_cons_zero, List.set_cons_succ]
        refine wpAny_take (oi := ⟨some 16, _, _, _, _, _⟩) (i := 6) (v := .bool true) rfl (by kernel_rfl) (by kernel_rfl) (by kernel_rfl) (fun _ _ _ h => h) (Or.inl ⟨by kernel_rfl, fun w => by go_simp⟩) ?_
        simp only [Act.put, List.setIfInBounds_toArray, List.set_cons_zero, List.set_cons_succ]
        refine wpAny_take (oi := ⟨some 17, _, _, _, _, _⟩) (i := 7) (v := undef) rfl (by kernel_rfl) (by kernel_rfl) (by kernel_rfl) (fun _ _ _ h => h) (Or.inr ⟨by kernel_rfl, rfl⟩) ?_
        simp only [Act.put, List.setIfInBounds_toArray, List.set_cons_zero, List.set_cons_succ]
        refine wpAny_take (oi := ⟨some 18, _, _, _, _, _⟩) (i := 8) (v := undef) rfl (by kernel_rfl) (by kernel_rfl) (by kernel_rfl) (fun _ _ _ h => h) (Or.inr ⟨by kernel_rfl, rfl⟩) ?_
        simp only [Act.put, List.setIfInBounds_toArray, List.set_cons_zero, List.set_cons_succ]
        refine wpAny_take (oi := ⟨some 19, _, _, _, _, _⟩) (i := 9) (v := undef) rfl (by kernel_rfl) (by kernel_rfl) (by kernel_rfl) (fun _ _ _ h => h) (Or.inr ⟨by kernel_rfl, rfl⟩) ?_
        simp only [Act.put, List.setIfInBounds_toArray, List.set_cons_zero, List.set_cons_succ]
        refine wpAny_take (oi := ⟨some 20, _, _, _, _, _⟩) (i := 10) (v := undef) rfl (by kernel_rfl) (by kernel_rfl) (by kernel_rfl) (fun _ _ _ h => h) (Or.inr ⟨by kernel_rfl, rfl⟩) ?_
        simp only [Act.put, List.setIfInBounds_toArray, List.set_cons_zero, List.set_cons_succ]
        refine wpAny_take (oi := ⟨some 21, _, _, _, _, _⟩) (i := 11) (v := undef) rfl (by kernel_rfl) (by kernel_rfl) (by kernel_rfl) (fun _ _ _ h => h) (Or.inr ⟨by kernel_rfl, rfl⟩) ?_
        simp only [Act.put, List.setIfInBounds_toArray, List.set_cons_zero, List.set_cons_succ]
        refine wpAny_take (oi := ⟨some 22, _, _, _, _, _⟩) (i := 12) (v := undef) rfl (by kernel_rfl) (by kernel_rfl) (by kernel_rfl) (fun _ _ _ h => h) (Or.inr ⟨by kernel_rfl, rfl⟩) ?_
        simp only [Act.put, List.setIfInBounds_toArray, List.set_cons_zero, List.set_cons_succ]
        refine wpAny_take (oi := ⟨some 23, _, _, _, _, _⟩) (i := 13) (v := undef) rfl (by kernel_rfl) (by kernel_rfl) (by kernel_rfl) (fun _ _ _ h => h) (Or.inr ⟨by kernel_rfl, rfl⟩) ?_
        simp only [Act.put, List.setIfInBounds_toArray, List.set_cons_zero, List.set_cons_succ]
        refine wpAny_take (oi := ⟨some 24, _, _, _, _, _⟩) (i := 14) (v := undef) rfl (by kernel_rfl) (by kernel_rfl) (by kernel_rfl) (fun _ _ _ h => h) (Or.inr ⟨by kernel_rfl, rfl⟩) ?_
        simp only [Act.put, List.setIfInBounds_toArray, List.set_cons_zero, List.set_cons_succ]
        refine wpAny_take (oi := ⟨some 25, _, _, _, _, _⟩) (i := 15) (v := undef) rfl (by kernel_rfl) (by kernel_rfl) (by kernel_rfl) (fun _ _ _ h => h) (Or.inr ⟨by kernel_rfl, rfl⟩) ?_
        simp only [Act.put, List.setIfInBounds_toArray, List.set_cons_zero, List.set_cons_succ]
        refine wpAny_take (oi := ⟨some 26, _, _, _, _, _⟩) (i := 16) (v := undef) rfl (by kernel_rfl) (by kernel_rfl) (by kernel_rfl) (fun _ _ _ h => h) (Or.inr ⟨by kernel_rfl, rfl⟩) ?_
        simp only [Act.put, List.setIfInBounds_toArray, List.set_cons_zero, List.set_cons_succ]
        refine wpAny_take (oi := ⟨some 27, _, _, _, _, _⟩) (i := 17) (v := undef) rfl (by kernel_rfl) (by kernel_rfl) (by kernel_rfl) (fun _ _ _ h => h) (Or.inr ⟨by kernel_rfl, rfl⟩) ?_
        simp only [Act.put, List.setIfInBounds_toArray, List.set_cons_zero, List.set_cons_succ]
        refine wpAny_take (oi := ⟨some 28, _, _, _, _, _⟩) (i := 18) (v := undef) rfl (by kernel_rfl) (by kernel_rfl) (by kernel_rfl) (fun _ _ _ h => h) (Or.inr ⟨by kernel_rfl, rfl⟩) ?_
        simp only [Act.put, List.setIfInBounds_toArray, List.set_cons_zero, List.set_cons_succ]
        refine wpAny_take (oi := ⟨some 29, _, _, _, _, _⟩) (i := 19) (v := undef) rfl (by kernel_rfl) (by kernel_rfl) (by kernel_rfl) (fun _ _ _ h => h) (Or.inr ⟨by kernel_rfl, rfl⟩) ?_
        simp only [Act.put, List.setIfInBounds_toArray, List.set_cons_zero, List.set_cons_succ]
        refine wpAny_take (oi := ⟨some 30, _, _, _, _, _⟩) (i := 20) (v := undef) rfl (by kernel_rfl) (by kernel_rfl) (by kernel_rfl) (fun _ _ _ h => h) (Or.inr ⟨by kernel_rfl, rfl⟩) ?_
        simp only [Act.put, List.setIfInBounds_toArray, List.set_cons_zero, List.set_cons_succ]
        refine wpAny_take (oi := ⟨some 31, _, _, _, _, _⟩) (i := 21) (v := .bool true) rfl (by kernel_rfl) (by kernel_rfl) (by kernel_rfl) (fun _ _ _ h => h) (Or.inl ⟨by kernel_rfl, fun w => by go_simp⟩) ?_
        simp only [Act.put, List.setIfInBounds_toArray, List.set_cons_zero, List.set_cons_succ]
        refine wpAny_done (by kernel_rfl) ?_ _
        go_wp2_with fail
        go_ret
        exact ⟨rfl, hbel.trans (Joins.below_draws _ _ _)⟩
      · have ci := Lib.hid (l1In_yes x 0 9 wr.drew (by omega) (by omega))
        have HE2 := Lib.hid (show ∀ j, j < k + 1 → 0 ≤ xs.getD j 0 ∧ xs.getD j 0 ≤ 9 from fun j hj => by
          by_cases hjk : j = k
          · subst hjk; rw [← Hx.out]; omega
          · exact HE.out j (by omega))
        clear hx0
        by_cases hk0 : k = 0
        · subst hk0
          have hx : wr.drew.cell? ⟨b, off, none⟩ = some (.int .i64 x) := hx
          have HD2 := Lib.hid (show DescTo (0 + 1) xs from fun j hj => by omega)
          go_wp2_with fail
          refine wp_region_any (by kernel_rfl) ?_
          try (change wpAny _ _ _ _ _ _ _ (World.drew _))
          refine wpAny_take (oi := ⟨some 10, _, _, _, _, _⟩) (i := 0) (v := .slice (some ⟨b, off, none⟩) n c) rfl (by kernel_rfl) (by kernel_rfl) (by kernel_rfl) (fun _ _ _ h => h) (Or.inl ⟨by kernel_rfl, fun w => by go_simp⟩) ?_
          simp only [Act.put, List.setIfInBounds_toArray, List.set_cons_zero, List.set_cons_succ]
          refine wpAny_take (oi := ⟨some 11, _, _, _, _, _⟩) (i := 1) (v := .int .i64 (0 : Nat)) rfl (by kernel_rfl) (by kernel_rfl) (by kernel_rfl) (fun _ _ _ h => h) (Or.inl ⟨by kernel_rfl, fun w => by go_simp⟩) ?_
          simp only [Act.put, List.setIfInBounds_toArray, List.set_cons_zero, List.set_cons_succ]
          refine wpAny_take (oi := ⟨some 12, _, _, _, _, _⟩) (i := 2) (v := .pointer (some ⟨b, off, none⟩)) rfl (by kernel_rfl) (by kernel_rfl) (by kernel_rfl) (fun _ _ _ h => h) (Or.inl ⟨by kernel_rfl, fun w => by go_simp⟩) ?_
          simp only [Act.put, List.setIfInBounds_toArray, List.set_cons_zero, List.set_cons_succ]
          refine wpAny_ready (rs := [3]) (by kernel_rfl) (by simp) (AllReady.cons rfl (fun K hK => ?_) AllReady.nil)
          go_simp
          refine hK _ _ ?_
          clear hK K
          refine wpAny_ready (rs := [4]) (by kernel_rfl) (by simp) (AllReady.cons rfl (fun K hK => ?_) AllReady.nil)
          go_simp
          go_wp2_with (first
            | (go_at_call 44; (with_reducible refine (ci.out).mono ?_); rintro ee w6 ⟨rfl, rfl⟩)
            | fail)
          refine wpAny_take (oi := ⟨some 15, _, _, _, _, _⟩) (i := 5) (v := .bool false) rfl (by kernel_rfl) (by kernel_rfl) (by kernel_rfl) (fun _ _ _ h => h) (Or.inl ⟨by kernel_rfl, fun w => by go_simp⟩) ?_
          simp only [Act.put, List.setIfInBounds_toArray, List.set_cons_zero, List.set_cons_succ]
          refine wpAny_take (oi := ⟨some 16, _, _, _, _, _⟩) (i := 6) (v := .bool false) rfl (by kernel_rfl) (by kernel_rfl) (by kernel_rfl) (fun _ _ _ h => h) (Or.inl ⟨by kernel_rfl, fun w => by go_simp⟩) ?_
          simp only [Act.put, List.setIfInBounds_toArray, List.set_cons_zero, List.set_cons_succ]
          refine wpAny_take (oi := ⟨some 17, _, _, _, _, _⟩) (i := 7) (v := .int .i64 ((0 : Nat) : Int)) rfl (by kernel_rfl) (by kernel_rfl) (by kernel_rfl) (fun _ _ _ h => h) (Or.inl ⟨by kernel_rfl, fun w => by go_simp⟩) ?_
          simp only [Act.put, List.setIfInBounds_toArray, List.set_cons_zero, List.set_cons_succ]
          refine wpAny_take (oi := ⟨some 18, _, _, _, _, _⟩) (i := 8) (v := .bool false) rfl (by kernel_rfl) (by kernel_rfl) (by kernel_rfl) (fun _ _ _ h => h) (Or.inl ⟨by kernel_rfl, fun w => by go_simp⟩) ?_
          simp only [Act.put, List.setIfInBounds_toArray, List.set_cons_zero, List.set_cons_succ]
          refine wpAny_take (oi := ⟨some 19, _, _, _, _, _⟩) (i := 9) (v := .bool false) rfl (by kernel_rfl) (by kernel_rfl) (by kernel_rfl) (fun _ _ _ h => h) (Or.inl ⟨by kernel_rfl, fun w => by go_simp⟩) ?_
          simp only [Act.put, List.setIfInBounds_toArray, List.set_cons_zero, List.set_cons_succ]
          refine wpAny_take (oi := ⟨some 20, _, _, _, _, _⟩) (i := 10) (v := undef) rfl (by kernel_rfl) (by kernel_rfl) (by kernel_rfl) (fun _ _ _ h => h) (Or.inr ⟨by kernel_rfl, rfl⟩) ?_
          simp only [Act.put, List.setIfInBounds_toArray, List.set_cons_zero, List.set_cons_succ]
          refine wpAny_take (oi := ⟨some 21, _, _, _, _, _⟩) (i := 11) (v := undef) rfl (by kernel_rfl) (by kernel_rfl) (by kernel_rfl) (fun _ _ _ h => h) (Or.inr ⟨by kernel_rfl, rfl⟩) ?_
          simp only [Act.put, List.setIfInBounds_toArray, List.set_cons_zero, List.set_cons_succ]
          refine wpAny_take (oi := ⟨some 22, _, _, _, _, _⟩) (i := 12) (v := undef) rfl (by kernel_rfl) (by kernel_rfl) (by kernel_rfl) (fun _ _ _ h => h) (Or.inr ⟨by kernel_rfl, rfl⟩) ?_
          simp only [Act.put, List.setIfInBounds_toArray, List.set_cons_zero, List.set_cons_succ]
          refine wpAny_take (oi := ⟨some 23, _, _, _, _, _⟩) (i := 13) (v := undef) rfl (by kernel_rfl) (by kernel_rfl) (by kernel_rfl) (fun _ _ _ h => h) (Or.inr ⟨by kernel_rfl, rfl⟩) ?_
          simp only [Act.put, List.setIfInBounds_toArray, List.set_cons_zero, List.set_cons_succ]
          refine wpAny_take (oi := ⟨some 24, _, _, _, _, _⟩) (i := 14) (v := undef) rfl (by kernel_rfl) (by kernel_rfl) (by kernel_rfl) (fun _ _ _ h => h) (Or.inr ⟨by kernel_rfl, rfl⟩) ?_
          simp only [Act.put, List.setIfInBounds_toArray, List.set_cons_zero, List.set_cons_succ]
          refine wpAny_take (oi := ⟨some 25, _, _, _, _, _⟩) (i := 15) (v := undef) rfl (by kernel_rfl) (by kernel_rfl) (by kernel_rfl) (fun _ _ _ h => h) (Or.inr ⟨by kernel_rfl, rfl⟩) ?_
          simp only [Act.put, List.setIfInBounds_toArray, List.set_cons_zero, List.set_cons_succ]
          refine wpAny_take (oi := ⟨some 26, _, _, _, _, _⟩) (i := 16) (v := undef) rfl (by kernel_rfl) (by kernel_rfl) (by kernel_rfl) (fun _ _ _ h => h) (Or.inr ⟨by kernel_rfl, rfl⟩) ?_
          simp only [Act.put, List.setIfInBounds_toArray, List.set_cons_zero, List.set_cons_succ]
          refine wpAny_take (oi := ⟨some 27, _, _, _, _, _⟩) (i := 17) (v := undef) rfl (by kernel_rfl) (by kernel_rfl) (by kernel_rfl) (fun _ _ _ h => h) (Or.inr ⟨by kernel_rfl, rfl⟩) ?_
          simp only [Act.put, List.setIfInBounds_toArray, List.set_cons_zero, List.set_cons_succ]
          refine wpAny_take (oi := ⟨some 28, _, _, _, _, _⟩) (i := 18) (v := undef) rfl (by kernel_rfl) (by kernel_rfl) (by kernel_rfl) (fun _ _ _ h => h) (Or.inr ⟨by kernel_rfl, rfl⟩) ?_
          simp only [Act.put, List.setIfInBounds_toArray, List.set_cons_zero, List.set_cons_succ]
          refine wpAny_take (oi := ⟨some 29, _, _, _, _, _⟩) (i := 19) (v := undef) rfl (by kernel_rfl) (by kernel_rfl) (by kernel_rfl) (fun _ _ _ h => h) (Or.inr ⟨by kernel_rfl, rfl⟩) ?_
          simp only [Act.put, List.setIfInBounds_toArray, List.set_cons_zero, List.set_cons_succ]
          refine wpAny_take (oi := ⟨some 30, _, _, _, _, _⟩) (i := 20) (v := .bool false) rfl (by kernel_rfl) (by kernel_rfl) (by kernel_rfl) (fun _ _ _ h => h) (Or.inl ⟨by kernel_rfl, fun w => by go_simp⟩) ?_
          simp only [Act.put, List.setIfInBounds_toArray, List.set_cons_zero, List.set_cons_succ]
          refine wpAny_take (oi := ⟨some 31, _, _, _, _, _⟩) (i := 21) (v := .bool false) rfl (by kernel_rfl) (by kernel_rfl) (by kernel_rfl) (fun _ _ _ h => h) (Or.inl ⟨by kernel_rfl, fun w => by go_simp⟩) ?_
          simp only [Act.put, List.setIfInBounds_toArray, List.set_cons_zero, List.set_cons_succ]
          refine wpAny_done (by kernel_rfl) ?_ _
          go_wp2_with fail
          go_roundw
          case rel => exact ⟨0 + 1, by omega, by go_num, HE2, HD2, hbel.trans (Joins.below_draws _ _ _)⟩
          case measure => exact bag_measure hlt
        · obtain ⟨k1, hk1⟩ : ∃ k1, k = k1 + 1 := ⟨k - 1, by omega⟩
          have hy : wr.drew.cell? ⟨b, off + k1, none⟩ = some (.int .i64 (xs.getD k1 0)) := Hat.out k1 (by have := Hkx.out; omega)
          obtain ⟨y, hye⟩ : ∃ y, y = xs.getD k1 0 := ⟨_, rfl⟩
          rw [← hye] at hy
          have Hy := Lib.hid hye
          have hj1 : IntKind.i64.wrap ((k : Int) - 1) = (k1 : Int) := by rw [IntWalk.i64_in _ (by omega)]; omega
          have hj2 : (k : Int) - 1 = (k1 : Int) := by omega
          have hj3 : IntKind.i64.wrap (k1 : Int) = (k1 : Int) := IntWalk.i64_in _ (by omega)
          have hk1n : k1 < n := by omega
          have hkp : (0 : Int) < (k : Int) := by omega
          have hkp' : 0 < k := by omega
          have Hk1 := Lib.hid hk1
          clear hye hk1
          by_cases hxy : y < x
          · have hoF : o = false := by
              rw [Ho.out]
              refine bagB_desc (fun h9 => ?_)
              have h8 := h9 k1 (by rw [← Hk1.out]; exact Hkx.out)
              rw [← Hk1.out, ← Hx.out, ← Hy.out] at h8
              omega
            subst hoF
            go_wp2_with fail
            refine wp_region_any (by kernel_rfl) ?_
            try (change wpAny _ _ _ _ _ _ _ (World.drew _))
            refine wpAny_take (oi := ⟨some 10, _, _, _, _, _⟩) (i := 0) (v := .slice (some ⟨b, off, none⟩) n c) rfl (by kernel_rfl) (by kernel_rfl) (by kernel_rfl) (fun _ _ _ h => h) (Or.inl ⟨by kernel_rfl, fun w => by go_simp⟩) ?_
            simp only [Act.put, List.setIfInBounds_toArray, List.set_cons_zero, List.set_cons_succ]
            refine wpAny_take (oi := ⟨some 11, _, _, _, _, _⟩) (i := 1) (v := .int .i64 (k : Nat)) rfl (by kernel_rfl) (by kernel_rfl) (by kernel_rfl) (fun _ _ _ h => h) (Or.inl ⟨by kernel_rfl, fun w => by go_simp⟩) ?_
            simp only [Act.put, List.setIfInBounds_toArray, List.set_cons_zero, List.set_cons_succ]
            refine wpAny_take (oi := ⟨some 12, _, _, _, _, _⟩) (i := 2) (v := .pointer (some ⟨b, off + k, none⟩)) rfl (by kernel_rfl) (by kernel_rfl) (by kernel_rfl) (fun _ _ _ h => h) (Or.inl ⟨by kernel_rfl, fun w => by go_simp⟩) ?_
            simp only [Act.put, List.setIfInBounds_toArray, List.set_cons_zero, List.set_cons_succ]
            refine wpAny_ready (rs := [3]) (by kernel_rfl) (by simp) (AllReady.cons rfl (fun K hK => ?_) AllReady.nil)
            go_simp
            refine hK _ _ ?_
            clear hK K
            refine wpAny_ready (rs := [4]) (by kernel_rfl) (by simp) (AllReady.cons rfl (fun K hK => ?_) AllReady.nil)
            go_simp
            go_wp2_with (first
              | (go_at_call 44; (with_reducible refine (ci.out).mono ?_); rintro ee w6 ⟨rfl, rfl⟩)
              | fail)
            refine wpAny_take (oi := ⟨some 15, _, _, _, _, _⟩) (i := 5) (v := .bool false) rfl (by kernel_rfl) (by kernel_rfl) (by kernel_rfl) (fun _ _ _ h => h) (Or.inl ⟨by kernel_rfl, fun w => by go_simp⟩) ?_
            simp only [Act.put, List.setIfInBounds_toArray, List.set_cons_zero, List.set_cons_succ]
            refine wpAny_take (oi := ⟨some 16, _, _, _, _, _⟩) (i := 6) (v := .bool false) rfl (by kernel_rfl) (by kernel_rfl) (by kernel_rfl) (fun _ _ _ h => h) (Or.inl ⟨by kernel_rfl, fun w => by go_simp⟩) ?_
            simp only [Act.put, List.setIfInBounds_toArray, List.set_cons_zero, List.set_cons_succ]
            refine wpAny_take (oi := ⟨some 17, _, _, _, _, _⟩) (i := 7) (v := .int .i64 k) rfl (by kernel_rfl) (by kernel_rfl) (by kernel_rfl) (fun _ _ _ h => h) (Or.inl ⟨by kernel_rfl, fun w => by go_simp⟩) ?_
            simp only [Act.put, List.setIfInBounds_toArray, List.set_cons_zero, List.set_cons_succ]
            refine wpAny_take (oi := ⟨some 18, _, _, _, _, _⟩) (i := 8) (v := .bool true) rfl (by kernel_rfl) (by kernel_rfl) (by kernel_rfl) (fun _ _ _ h => h) (Or.inl ⟨by kernel_rfl, fun w => by go_simp⟩) ?_
            simp only [Act.put, List.setIfInBounds_toArray, List.set_cons_zero, List.set_cons_succ]
            refine wpAny_take (oi := ⟨some 19, _, _, _, _, _⟩) (i := 9) (v := .bool true) rfl (by kernel_rfl) (by kernel_rfl) (by kernel_rfl) (fun _ _ _ h => h) (Or.inl ⟨by kernel_rfl, fun w => by go_simp⟩) ?_
            simp only [Act.put, List.setIfInBounds_toArray, List.set_cons_zero, List.set_cons_succ]
            refine wpAny_take (oi := ⟨some 20, _, _, _, _, _⟩) (i := 10) (v := .slice (some ⟨b, off, none⟩) n c) rfl (by kernel_rfl) (by kernel_rfl) (by kernel_rfl) (fun _ _ _ h => h) (Or.inl ⟨by kernel_rfl, fun w => by go_simp⟩) ?_
            simp only [Act.put, List.setIfInBounds_toArray, List.set_cons_zero, List.set_cons_succ]
            refine wpAny_take (oi := ⟨some 21, _, _, _, _, _⟩) (i := 11) (v := .int .i64 k) rfl (by kernel_rfl) (by kernel_rfl) (by kernel_rfl) (fun _ _ _ h => h) (Or.inl ⟨by kernel_rfl, fun w => by go_simp⟩) ?_
            simp only [Act.put, List.setIfInBounds_toArray, List.set_cons_zero, List.set_cons_succ]
            refine wpAny_take (oi := ⟨some 22, _, _, _, _, _⟩) (i := 12) (v := .pointer (some ⟨b, off + k, none⟩)) rfl (by kernel_rfl) (by kernel_rfl) (by kernel_rfl) (fun _ _ _ h => h) (Or.inl ⟨by kernel_rfl, fun w => by go_simp⟩) ?_
            simp only [Act.put, List.setIfInBounds_toArray, List.set_cons_zero, List.set_cons_succ]
            refine wpAny_take (oi := ⟨some 24, _, _, _, _, _⟩) (i := 14) (v := .slice (some ⟨b, off, none⟩) n c) rfl (by kernel_rfl) (by kernel_rfl) (by kernel_rfl) (fun _ _ _ h => h) (Or.inl ⟨by kernel_rfl, fun w => by go_simp⟩) ?_
            simp only [Act.put, List.setIfInBounds_toArray, List.set_cons_zero, List.set_cons_succ]
            refine wpAny_take (oi := ⟨some 25, _, _, _, _, _⟩) (i := 15) (v := .int .i64 k) rfl (by kernel_rfl) (by kernel_rfl) (by kernel_rfl) (fun _ _ _ h => h) (Or.inl ⟨by kernel_rfl, fun w => by go_simp⟩) ?_
            simp only [Act.put, List.setIfInBounds_toArray, List.set_cons_zero, List.set_cons_succ]
            refine wpAny_take (oi := ⟨some 26, _, _, _, _, _⟩) (i := 16) (v := .int .i64 k1) rfl (by kernel_rfl) (by kernel_rfl) (by kernel_rfl) (fun _ _ _ h => h) (Or.inl ⟨by kernel_rfl, fun w => by go_simp⟩) ?_
            simp only [Act.put, List.setIfInBounds_toArray, List.set_cons_zero, List.set_cons_succ]
            refine wpAny_take (oi := ⟨some 27, _, _, _, _, _⟩) (i := 17) (v := .pointer (some ⟨b, off + k1, none⟩)) rfl (by kernel_rfl) (by kernel_rfl) (by kernel_rfl) (fun _ _ _ h => h) (Or.inl ⟨by kernel_rfl, fun w => by go_simp⟩) ?_
            simp only [Act.put, List.setIfInBounds_toArray, List.set_cons_zero, List.set_cons_succ]
            refine wpAny_ready (rs := [13, 18]) (by kernel_rfl) (by simp) (AllReady.cons rfl (fun K hK => ?_) (AllReady.cons rfl (fun K hK => ?_) AllReady.nil))
            · go_simp
              refine hK _ _ ?_
              clear hK K
              refine wpAny_ready (rs := [18]) (by kernel_rfl) (by simp) (AllReady.cons rfl (fun K hK => ?_) AllReady.nil)
              go_simp
              refine hK _ _ ?_
              clear hK K
              refine wpAny_take (oi := ⟨some 29, _, _, _, _, _⟩) (i := 19) (v := .bool true) rfl (by kernel_rfl) (by kernel_rfl) (by kernel_rfl) (fun _ _ _ h => h) (Or.inl ⟨by kernel_rfl, fun w => by go_simp⟩) ?_
              simp only [Act.put, List.setIfInBounds_toArray, List.set_cons_zero, List.set_cons_succ]
              refine wpAny_take (oi := ⟨some 30, _, _, _, _, _⟩) (i := 20) (v := .bool true) rfl (by kernel_rfl) (by kernel_rfl) (by kernel_rfl) (fun _ _ _ h => h) (Or.inl ⟨by kernel_rfl, fun w => by go_simp⟩) ?_
              simp only [Act.put, List.setIfInBounds_toArray, List.set_cons_zero, List.set_cons_succ]
              refine wpAny_take (oi := ⟨some 31, _, _, _, _, _⟩) (i := 21) (v := .bool true) rfl (by kernel_rfl) (by kernel_rfl) (by kernel_rfl) (fun _ _ _ h => h) (Or.inl ⟨by kernel_rfl, fun w => by go_simp⟩) ?_
              simp only [Act.put, List.setIfInBounds_toArray, List.set_cons_zero, List.set_cons_succ]
              refine wpAny_done (by kernel_rfl) ?_ _
              go_wp2_with fail
              go_ret
              exact ⟨rfl, hbel.trans (Joins.below_draws _ _ _)⟩
            · go_simp
              refine hK _ _ ?_
              clear hK K
              refine wpAny_ready (rs := [13]) (by kernel_rfl) (by simp) (AllReady.cons rfl (fun K hK => ?_) AllReady.nil)
              go_simp
              refine hK _ _ ?_
              clear hK K
              refine wpAny_take (oi := ⟨some 29, _, _, _, _, _⟩) (i := 19) (v := .bool true) rfl (by kernel_rfl) (by kernel_rfl) (by kernel_rfl) (fun _ _ _ h => h) (Or.inl ⟨by kernel_rfl, fun w => by go_simp⟩) ?_
              simp only [Act.put, List.setIfInBounds_toArray, List.set_cons_zero, List.set_cons_succ]
              refine wpAny_take (oi := ⟨some 30, _, _, _, _, _⟩) (i := 20) (v := .bool true) rfl (by kernel_rfl) (by kernel_rfl) (by kernel_rfl) (fun _ _ _ h => h) (Or.inl ⟨by kernel_rfl, fun w => by go_simp⟩) ?_
              simp only [Act.put, List.setIfInBounds_toArray, List.set_cons_zero, List.set_cons_succ]
              refine wpAny_take (oi := ⟨some 31, _, _, _, _, _⟩) (i := 21) (v := .bool true) rfl (by kernel_rfl) (by kernel_rfl) (by kernel_rfl) (fun _ _ _ h => h) (Or.inl ⟨by kernel_rfl, fun w => by go_simp⟩) ?_
              simp only [Act.put, List.setIfInBounds_toArray, List.set_cons_zero, List.set_cons_succ]
              refine wpAny_done (by kernel_rfl) ?_ _
              go_wp2_with fail
              go_ret
              exact ⟨rfl, hbel.trans (Joins.below_draws _ _ _)⟩
          · have HD2 := Lib.hid (show DescTo (k + 1) xs from fun j hj => by
              by_cases hjk : j = k1
              · subst hjk; rw [← Hk1.out, ← Hx.out, ← Hy.out]; omega
              · exact HD.out j (by have := Hk1.out; omega))
            go_wp2_with fail
            refine wp_region_any (by kernel_rfl) ?_
            try (change wpAny _ _ _ _ _ _ _ (World.drew _))
            refine wpAny_take (oi := ⟨some 10, _, _, _, _, _⟩) (i := 0) (v := .slice (some ⟨b, off, none⟩) n c) rfl (by kernel_rfl) (by kernel_rfl) (by kernel_rfl) (fun _ _ _ h => h) (Or.inl ⟨by kernel_rfl, fun w => by go_simp⟩) ?_
            simp only [Act.put, List.setIfInBounds_toArray, List.set_cons_zero, List.set_cons_succ]
            refine wpAny_take (oi := ⟨some 11, _, _, _, _, _⟩) (i := 1) (v := .int .i64 (k : Nat)) rfl (by kernel_rfl) (by kernel_rfl) (by kernel_rfl) (fun _ _ _ h => h) (Or.inl ⟨by kernel_rfl, fun w => by go_simp⟩) ?_
            simp only [Act.put, List.setIfInBounds_toArray, List.set_cons_zero, List.set_cons_succ]
            refine wpAny_take (oi := ⟨some 12, _, _, _, _, _⟩) (i := 2) (v := .pointer (some ⟨b, off + k, none⟩)) rfl (by kernel_rfl) (by kernel_rfl) (by kernel_rfl) (fun _ _ _ h => h) (Or.inl ⟨by kernel_rfl, fun w => by go_simp⟩) ?_
            simp only [Act.put, List.setIfInBounds_toArray, List.set_cons_zero, List.set_cons_succ]
            refine wpAny_ready (rs := [3]) (by kernel_rfl) (by simp) (AllReady.cons rfl (fun K hK => ?_) AllReady.nil)
            go_simp
            refine hK _ _ ?_
            clear hK K
            refine wpAny_ready (rs := [4]) (by kernel_rfl) (by simp) (AllReady.cons rfl (fun K hK => ?_) AllReady.nil)
            go_simp
            go_wp2_with (first
              | (go_at_call 44; (with_reducible refine (ci.out).mono ?_); rintro ee w6 ⟨rfl, rfl⟩)
              | fail)
            refine wpAny_take (oi := ⟨some 15, _, _, _, _, _⟩) (i := 5) (v := .bool false) rfl (by kernel_rfl) (by kernel_rfl) (by kernel_rfl) (fun _ _ _ h => h) (Or.inl ⟨by kernel_rfl, fun w => by go_simp⟩) ?_
            simp only [Act.put, List.setIfInBounds_toArray, List.set_cons_zero, List.set_cons_succ]
            refine wpAny_take (oi := ⟨some 16, _, _, _, _, _⟩) (i := 6) (v := .bool false) rfl (by kernel_rfl) (by kernel_rfl) (by kernel_rfl) (fun _ _ _ h => h) (Or.inl ⟨by kernel_rfl, fun w => by go_simp⟩) ?_
            simp only [Act.put, List.setIfInBounds_toArray, List.set_cons_zero, List.set_cons_succ]
            refine wpAny_take (oi := ⟨some 17, _, _, _, _, _⟩) (i := 7) (v := .int .i64 k) rfl (by kernel_rfl) (by kernel_rfl) (by kernel_rfl) (fun _ _ _ h => h) (Or.inl ⟨by kernel_rfl, fun w => by go_simp⟩) ?_
            simp only [Act.put, List.setIfInBounds_toArray, List.set_cons_zero, List.set_cons_succ]
            refine wpAny_take (oi := ⟨some 18, _, _, _, _, _⟩) (i := 8) (v := .bool true) rfl (by kernel_rfl) (by kernel_rfl) (by kernel_rfl) (fun _ _ _ h => h) (Or.inl ⟨by kernel_rfl, fun w => by go_simp⟩) ?_
            simp only [Act.put, List.setIfInBounds_toArray, List.set_cons_zero, List.set_cons_succ]
            refine wpAny_take (oi := ⟨some 19, _, _, _, _, _⟩) (i := 9) (v := .bool true) rfl (by kernel_rfl) (by kernel_rfl) (by kernel_rfl) (fun _ _ _ h => h) (Or.inl ⟨by kernel_rfl, fun w => by go_simp⟩) ?_
            simp only [Act.put, List.setIfInBounds_toArray, List.set_cons_zero, List.set_cons_succ]
            refine wpAny_take (oi := ⟨some 20, _, _, _, _, _⟩) (i := 10) (v := .slice (some ⟨b, off, none⟩) n c) rfl (by kernel_rfl) (by kernel_rfl) (by kernel_rfl) (fun _ _ _ h => h) (Or.inl ⟨by kernel_rfl, fun w => by go_simp⟩) ?_
            simp only [Act.put, List.setIfInBounds_toArray, List.set_cons_zero, List.set_cons_succ]
            refine wpAny_take (oi := ⟨some 21, _, _, _, _, _⟩) (i := 11) (v := .int .i64 k) rfl (by kernel_rfl) (by kernel_rfl) (by kernel_rfl) (fun _ _ _ h => h) (Or.inl ⟨by kernel_rfl, fun w => by go_simp⟩) ?_
            simp only [Act.put, List.setIfInBounds_toArray, List.set_cons_zero, List.set_cons_succ]
            refine wpAny_take (oi := ⟨some 22, _, _, _, _, _⟩) (i := 12) (v := .pointer (some ⟨b, off + k, none⟩)) rfl (by kernel_rfl) (by kernel_rfl) (by kernel_rfl) (fun _ _ _ h => h) (Or.inl ⟨by kernel_rfl, fun w => by go_simp⟩) ?_
            simp only [Act.put, List.setIfInBounds_toArray, List.set_cons_zero, List.set_cons_succ]
            refine wpAny_take (oi := ⟨some 24, _, _, _, _, _⟩) (i := 14) (v := .slice (some ⟨b, off, none⟩) n c) rfl (by kernel_rfl) (by kernel_rfl) (by kernel_rfl) (fun _ _ _ h => h) (Or.inl ⟨by kernel_rfl, fun w => by go_simp⟩) ?_
            simp only [Act.put, List.setIfInBounds_toArray, List.set_cons_zero, List.set_cons_succ]
            refine wpAny_take (oi := ⟨some 25, _, _, _, _, _⟩) (i := 15) (v := .int .i64 k) rfl (by kernel_rfl) (by kernel_rfl) (by kernel_rfl) (fun _ _ _ h => h) (Or.inl ⟨by kernel_rfl, fun w => by go_simp⟩) ?_
            simp only [Act.put, List.setIfInBounds_toArray, List.set_cons_zero, List.set_cons_succ]
            refine wpAny_take (oi := ⟨some 26, _, _, _, _, _⟩) (i := 16) (v := .int .i64 k1) rfl (by kernel_rfl) (by kernel_rfl) (by kernel_rfl) (fun _ _ _ h => h) (Or.inl ⟨by kernel_rfl, fun w => by go_simp⟩) ?_
            simp only [Act.put, List.setIfInBounds_toArray, List.set_cons_zero, List.set_cons_succ]
            refine wpAny_take (oi := ⟨some 27, _, _, _, _, _⟩) (i := 17) (v := .pointer (some ⟨b, off + k1, none⟩)) rfl (by kernel_rfl) (by kernel_rfl) (by kernel_rfl) (fun _ _ _ h => h) (Or.inl ⟨by kernel_rfl, fun w => by go_simp⟩) ?_
            simp only [Act.put, List.setIfInBounds_toArray, List.set_cons_zero, List.set_cons_succ]
            refine wpAny_ready (rs := [13, 18]) (by kernel_rfl) (by simp) (AllReady.cons rfl (fun K hK => ?_) (AllReady.cons rfl (fun K hK => ?_) AllReady.nil))
            · go_simp
              refine hK _ _ ?_
              clear hK K
              refine wpAny_ready (rs := [18]) (by kernel_rfl) (by simp) (AllReady.cons rfl (fun K hK => ?_) AllReady.nil)
              go_simp
              refine hK _ _ ?_
              clear hK K
              refine wpAny_take (oi := ⟨some 29, _, _, _, _, _⟩) (i := 19) (v := .bool false) rfl (by kernel_rfl) (by kernel_rfl) (by kernel_rfl) (fun _ _ _ h => h) (Or.inl ⟨by kernel_rfl, fun w => by go_simp⟩) ?_
              simp only [Act.put, List.setIfInBounds_toArray, List.set_cons_zero, List.set_cons_succ]
              refine wpAny_take (oi := ⟨some 30, _, _, _, _, _⟩) (i := 20) (v := .bool false) rfl (by kernel_rfl) (by kernel_rfl) (by kernel_rfl) (fun _ _ _ h => h) (Or.inl ⟨by kernel_rfl, fun w => by go_simp⟩) ?_
              simp only [Act.put, List.setIfInBounds_toArray, List.set_cons_zero, List.set_cons_succ]
              refine wpAny_take (oi := ⟨some 31, _, _, _, _, _⟩) (i := 21) (v := .bool false) rfl (by kernel_rfl) (by kernel_rfl) (by kernel_rfl) (fun _ _ _ h => h) (Or.inl ⟨by kernel_rfl, fun w => by go_simp⟩) ?_
              simp only [Act.put, List.setIfInBounds_toArray, List.set_cons_zero, List.set_cons_succ]
              refine wpAny_done (by kernel_rfl) ?_ _
              go_wp2_with fail
              go_roundw
              case rel => exact ⟨k + 1, by omega, by go_num, HE2, HD2, hbel.trans (Joins.below_draws _ _ _)⟩
              case measure => exact bag_measure hlt
            · go_simp
              refine hK _ _ ?_
              clear hK K
              refine wpAny_ready (rs := [13]) (by kernel_rfl) (by simp) (AllReady.cons rfl (fun K hK => ?_) AllReady.nil)
              go_simp
              refine hK _ _ ?_
              clear hK K
              refine wpAny_take (oi := ⟨some 29, _, _, _, _, _⟩) (i := 19) (v := .bool false) rfl (by kernel_rfl) (by kernel_rfl) (by kernel_rfl) (fun _ _ _ h => h) (Or.inl ⟨by kernel_rfl, fun w => by go_simp⟩) ?_
              simp only [Act.put, List.setIfInBounds_toArray, List.set_cons_zero, List.set_cons_succ]
              refine wpAny_take (oi := ⟨some 30, _, _, _, _, _⟩) (i := 20) (v := .bool false) rfl (by kernel_rfl) (by kernel_rfl) (by kernel_rfl) (fun _ _ _ h => h) (Or.inl ⟨by kernel_rfl, fun w => by go_simp⟩) ?_
              simp only [Act.put, List.setIfInBounds_toArray, List.set_cons_zero, List.set_cons_succ]
              refine wpAny_take (oi := ⟨some 31, _, _, _, _, _⟩) (i := 21) (v := .bool false) rfl (by kernel_rfl) (by kernel_rfl) (by kernel_rfl) (fun _ _ _ h => h) (Or.inl ⟨by kernel_rfl, fun w => by go_simp⟩) ?_
              simp only [Act.put, List.setIfInBounds_toArray, List.set_cons_zero, List.set_cons_succ]
              refine wpAny_done (by kernel_rfl) ?_ _
              go_wp2_with fail
              go_roundw
              case rel => exact ⟨k + 1, by omega, by go_num, HE2, HD2, hbel.trans (Joins.below_draws _ _ _)⟩
              case measure => exact bag_measure hlt
    · obtain rfl : k = n := by omega
      have hup : upTo 9 xs = true := upTo_all (fun j hj => HE.out j (by rw [← X1.out]; exact hj))
      by_cases h16 : k ≤ 16
      · have hoT : o = true := by rw [Ho.out]; exact bagB_true.2 ⟨itemsB_true.2 ⟨by rw [X1.out]; exact h16, hup⟩, by rw [X1.out]; exact HD.out⟩
        subst hoT
        clear hup
        go_wp2_with fail
        go_ret
        exact ⟨by first | rfl | (simp; omega), hbel⟩
      · have hoF : o = false := by rw [Ho.out]; exact bagB_no (itemsB_len (by rw [X1.out]; exact h16))
        have h16' : decide ((k : Int) ≤ 16) = false := by simp; omega
        subst hoF
        clear hup
        go_wp2_with fail
        go_ret
        exact ⟨by first | rfl | (simp; omega), hbel⟩

end Go.Proofs.Ytgkcpmhgmhioiaa
